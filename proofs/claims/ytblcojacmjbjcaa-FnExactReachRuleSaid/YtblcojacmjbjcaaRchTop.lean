/-
  The contract of the program's ReachRule, and what it makes of a list in order.
-/
import Derived.Test.YtblcojacmjbjcaaRchImpl
import Derived.Test.YtblcojacmjbjcaaRuleImpl
import Derived.Test.YtblcojacmjbjcaaLaysS
namespace Go.Proofs.Ytblcojacmjbjcaa.Plain
set_option linter.unusedVariables false
set_option linter.unusedSimpArgs false
theorem compactUpTo_facts (d : Array Int) (hS : ∀ i j, i ≤ j → j < d.size → d[i]! ≤ d[j]!) : ∀ m, m ≤ d.size → Asc (Lib.compactUpTo d m) ∧ ∀ x, x ∈ Lib.compactUpTo d m ↔ ∃ j, j < m ∧ d[j]! = x
  | 0, _ => ⟨by unfold Asc Lib.compactUpTo; simp, fun x => by unfold Lib.compactUpTo; simp⟩
  | m + 1, hm => by
    obtain ⟨h1, h2⟩ := compactUpTo_facts d hS m (by omega)
    rw [Lib.compactUpTo_succ]
    by_cases hk : Lib.keeps d m = true
    · rw [if_pos hk]
      have hk2 : m = 0 ∨ d[m]! ≠ d[m - 1]! := by simpa [Lib.keeps] using hk
      refine ⟨?_, fun x => ?_⟩
      · unfold Asc
        rw [List.pairwise_append]
        refine ⟨h1, by simp, fun a ha b hb => ?_⟩
        obtain ⟨j, hj, rfl⟩ := (h2 a).1 ha
        obtain rfl : b = d[m]! := by simpa using hb
        have q1 := hS j (m - 1) (by omega) (by omega)
        have q2 := hS (m - 1) m (by omega) (by omega)
        rcases hk2 with q | q
        · omega
        · omega
      · rw [List.mem_append, h2, List.mem_singleton]
        constructor
        · rintro (⟨j, hj, e⟩ | e)
          · exact ⟨j, by omega, e⟩
          · exact ⟨m, by omega, e.symm⟩
        · rintro ⟨j, hj, e⟩
          by_cases q : j = m
          · subst q; exact .inr e.symm
          · exact .inl ⟨j, by omega, e⟩
    · rw [if_neg hk, List.append_nil]
      refine ⟨h1, fun x => ?_⟩
      have hk2 : ¬ (m = 0 ∨ d[m]! ≠ d[m - 1]!) := by simpa [Lib.keeps] using hk
      have q0 : m ≠ 0 := fun q => hk2 (.inl q)
      have q1 : d[m]! = d[m - 1]! := Decidable.byContradiction fun q => hk2 (.inr q)
      rw [h2]
      constructor
      · rintro ⟨j, hj, e⟩
        exact ⟨j, by omega, e⟩
      · rintro ⟨j, hj, e⟩
        by_cases q : j = m
        · subst q; exact ⟨j - 1, by omega, by rw [← q1]; exact e⟩
        · exact ⟨j, by omega, e⟩
/-- What stands in order without repetition of a list. -/
def ordL (L : List Int) : List Int := Lib.compact (L.mergeSort fun x y => decide (x ≤ y))
theorem ordL_facts (L : List Int) : Asc (ordL L) ∧ ∀ x, x ∈ ordL L ↔ x ∈ L := by
  have hp := List.pairwise_mergeSort (le := fun x y : Int => decide (x ≤ y)) (fun a b c h1 h2 => by simp at h1 h2 ⊢; omega) (fun a b => by simp; omega) L
  have hm := List.mergeSort_perm L fun x y : Int => decide (x ≤ y)
  unfold ordL
  generalize (L.mergeSort fun x y => decide (x ≤ y)) = M at *
  have hS : ∀ i j, i ≤ j → j < M.toArray.size → M.toArray[i]! ≤ M.toArray[j]! := by
    intro i j hij hj
    have hj2 : j < M.length := by simpa using hj
    rw [getElem!_pos M.toArray i (by simp; omega), getElem!_pos M.toArray j hj]
    by_cases e : i = j
    · subst e; exact Int.le_refl _
    · have := List.pairwise_iff_getElem.1 hp i j (by omega) hj2 (by omega)
      simpa using this
  obtain ⟨h1, h2⟩ := compactUpTo_facts M.toArray hS M.length (by simp)
  refine ⟨h1, fun x => ?_⟩
  show x ∈ Lib.compactUpTo M.toArray M.length ↔ _
  rw [h2, ← hm.mem_iff]
  constructor
  · rintro ⟨j, hj, rfl⟩
    rw [getElem!_pos M.toArray j (by simpa using hj)]
    simp
  · intro hx
    obtain ⟨j, hj, e⟩ := List.getElem_of_mem hx
    exact ⟨j, hj, by rw [getElem!_pos M.toArray j (by simpa using hj)]; simpa using e⟩
theorem ordL_rs {m : Int → Int → Int} (hc : ∀ s t, m s t = m t s) (hm : MgFn m) (n : Nat) (L : List Int) (hl : L.length ≤ n) (hT : ∀ x ∈ L, TlOk x) : ordL (rfL m n L) = rsL m n L [] := by
  obtain ⟨a1, a2⟩ := ordL_facts (rfL m n L)
  obtain ⟨b1, b2⟩ := rsL_spec hc hm n L hl hT [] (by unfold Asc; simp)
  refine asc_eq _ _ a1 b1 fun x => ?_
  rw [a2, b2, mem_rfL hc]
  simp
theorem ordL_len (L : List Int) : (ordL L).length ≤ L.length := by
  unfold ordL Lib.compact Lib.compactUpTo
  rw [List.length_map]
  have := List.length_filter_le (Lib.keeps (L.mergeSort fun x y => decide (x ≤ y)).toArray) (List.range (L.mergeSort fun x y => decide (x ≤ y)).length)
  simpa [List.length_mergeSort] using this
/-- What ReachRule answers. -/
def rchOk (r : Int) (L : List Int) : Prop := RlOk r ∧ L.length ≤ 5 ∧ ∀ x ∈ L, TlOk x
instance (r : Int) (L : List Int) : Decidable (rchOk r L) := by unfold rchOk; infer_instance
def rchV (r : Int) (L : List Int) : List Int := if rchOk r L then rsL (mgF r) 5 L [] else []
end Go.Proofs.Ytblcojacmjbjcaa.Plain
namespace Go.Proofs.Ytblcojacmjbjcaa
open Go.RowKit Plain Go.Sort Go.Shelf
attribute [local go_sem] store_new
set_option linter.unusedVariables false
set_option linter.unusedSimpArgs false
set_option maxRecDepth 100000 in
theorem sort_any (L : List Int) (n : Nat) (hLn : L.length = n) (B g cap : Nat) (w : World) (hlL : L.length ≤ 1000000) (h : w.ownsRow B 3 1 (.slice (some ⟨g, 0, none⟩) n cap) n (L.map (Value.int .i64))) :
    Calls Try.prog 74 #[.slice (some ⟨g, 0, none⟩) n cap] w fun e w' => e = .returned (.tuple #[]) ∧
      w'.ownsRow B 3 1 (.slice (some ⟨g, 0, none⟩) n cap) n ((L.mergeSort fun x y => decide (x ≤ y)).map (Value.int .i64)) ∧ w.grownBy w' (some g) := by
  subst hLn
  rcases h.2 with ⟨h0, _⟩ | ⟨g', cap', cur, hv, hg, hb, hn, hcap, hcur, htk⟩
  · cases h0
  cases hv
  have hH : Holds (Value.int .i64) w g 0 L.toArray := holds_of_blockI hb (by rw [Nat.mul_one] at htk; exact htk)
  have hgl : g < w.heap.size := (Array.getElem?_eq_some_iff.1 hb).1
  have hcon := AnyG.slices_Sort_int Try.sortI g 0 cap L w hH hgl (by omega)
  change Calls Try.prog 74 _ _ _ at hcon
  refine hcon.mono ?_
  rintro e w' ⟨rfl, q, os, rfl⟩
  have hl2 : (L.mergeSort fun x y => decide (x ≤ y)).length = L.length := List.length_mergeSort _
  have ho := ownsRow_sortedI (base := B) (n := q) (os := os) (e := 3) (ss := L) (ts := L.mergeSort fun x y => decide (x ≤ y)) hl2 hg hb hn hcap (by rw [hcur])
  refine ⟨rfl, ?_, grownBy_sortedI (w := w) (g := g) (n := q) (os := os) _⟩
  exact ho
set_option maxRecDepth 100000 in
theorem compact_any (L : List Int) (n : Nat) (hLn : L.length = n) (B g cap : Nat) (w : World) (h : w.ownsRow B 3 1 (.slice (some ⟨g, 0, none⟩) n cap) n (L.map (Value.int .i64))) :
    Calls Try.prog 75 #[.slice (some ⟨g, 0, none⟩) n cap] w fun e w' => e = .returned (.slice (some ⟨g, 0, none⟩) (Lib.compact L).length cap) ∧
      w'.ownsRow B 3 1 (.slice (some ⟨g, 0, none⟩) (Lib.compact L).length cap) (Lib.compact L).length ((Lib.compact L).map (Value.int .i64)) ∧ w.grownBy w' (some g) := by
  subst hLn
  rcases h.2 with ⟨h0, _⟩ | ⟨g', cap', cur, hv, hg, hb, hn, hcap, hcur, htk⟩
  · cases h0
  cases hv
  have hH : Holds (Value.int .i64) w g 0 L.toArray := holds_of_blockI hb (by rw [Nat.mul_one] at htk; exact htk)
  have hcon := AnyG.slices_Compact_int Try.compI g 0 cap L w hH (by unfold maxLen at hcap; omega) hn
  change Calls Try.prog 75 _ _ _ at hcon
  refine hcon.mono ?_
  rintro e w' ⟨rfl, q, rfl⟩
  have hcl : (Lib.compact L).length ≤ L.length := by
    unfold Lib.compact Lib.compactUpTo
    rw [List.length_map]
    have := List.length_filter_le (Lib.keeps L.toArray) (List.range L.length)
    simpa using this
  have hl2 : (Lib.compact L ++ List.replicate (L.length - (Lib.compact L).length) (0 : Int)).length = L.length := by simp; omega
  have ho := ownsRow_sortedI (base := B) (n := q) (os := #[]) (e := 3) (ss := L) (ts := Lib.compact L ++ List.replicate (L.length - (Lib.compact L).length) (0 : Int)) hl2 hg hb hn hcap (by rw [hcur])
  have hgr := grownBy_sortedI (w := w) (g := g) (n := q) (os := #[]) (Lib.compact L ++ List.replicate (L.length - (Lib.compact L).length) (0 : Int)).toArray
  have eG : ∀ W : World, grow W #[] = W := fun W => by cases W; simp [grow]
  rw [eG] at ho hgr
  refine ⟨rfl, ?_, hgr⟩
  rcases ho.2 with ⟨h0, _⟩ | ⟨g', cap', cur', hv, hg', hb', hn', hcap', hcur', htk'⟩
  · cases h0
  cases hv
  refine ⟨by simp, .inr ⟨g, cap, cur', rfl, hg', hb', by omega, hcap', hcur', ?_⟩⟩
  have e2 := congrArg (List.take ((Lib.compact L).length * 1)) htk'
  rw [List.take_take, Nat.mul_one, Nat.mul_one, Nat.min_eq_left (by omega), List.map_append, List.take_append_of_le_length (by simp), show List.take (Lib.compact L).length (List.map (Value.int .i64) (Lib.compact L)) = List.map (Value.int .i64) (Lib.compact L) from List.take_of_length_le (by simp)] at e2
  rw [Nat.mul_one]
  exact e2
theorem own_formN {w : World} {base n : Nat} {v : Value} {L : List Int} (hn : L.length = n) (h : w.ownsRow base 3 1 v n (L.map (Value.int .i64))) (hv : v ≠ .slice none 0 0) : ∃ g cap, v = .slice (some ⟨g, 0, none⟩) n cap := by
  subst hn; exact own_form h hv
theorem rb_ok {r : Int} {L : List Int} (h : rchOk r L) : decide (rchOk r L) = true := by simpa using h
theorem ordL_eq {r : Int} {L : List Int} (h : rchOk r L) : ordL (rfL (mgF r) 5 L) = rchV r L := by
  unfold rchV
  rw [if_pos h]
  exact ordL_rs (mgF_comm r) (mgFn r) 5 L h.2.1 h.2.2
set_option maxRecDepth 20000 in
set_option maxHeartbeats 1000000 in
theorem implRch_yes (r : Int) (L : List Int) (g cap : Nat) (w : World) (h : IL w (.slice (some ⟨g, 0, none⟩) L.length cap) L) (hk : rchOk r L) :
    Calls Try.prog 47 #[.int .i64 r, .slice (some ⟨g, 0, none⟩) L.length cap] w fun e w' => ∃ g2 cap2, e = .returned (.tuple #[.slice (some ⟨g2, 0, none⟩) (rchV r L).length cap2, .bool true]) ∧ w'.ownsRow w.heap.size 3 1 (.slice (some ⟨g2, 0, none⟩) (rchV r L).length cap2) (rchV r L).length ((rchV r L).map (Value.int .i64)) ∧ Below w.heap.size w w' := by
  have HE := Lib.hid (ordL_eq hk)
  have HA := Lib.hid (areTiles_any L (.slice (some ⟨g, 0, none⟩) L.length cap))
  have hd : decide (∀ x ∈ L, TlOk x) = true := by simpa using hk.2.2
  have HR := Lib.hid (reached_any (inR r) (mgF r) (merges_any r hk.1) 5 (by omega) L g cap)
  have HI := Lib.hid h
  have HT := Lib.hid hk.2.2
  have hRl : (rfL (mgF r) 5 L).length ≤ 1000000 := Nat.le_trans (rfL_le (mgF r) 5 L hk.2.1) (by decide)
  have HO := Lib.hid hk.1
  have hgl := il_len h
  have hl5 := hk.2.1
  have hl6 : ¬ (5 < (L.length : Int)) := by omega
  have eI : lawOn (inR r) = .iface 112 (.agg #[inR r]) := rfl
  unfold ordL at HE
  clear h hk
  rw [hd] at HA
  generalize rfL (mgF r) 5 L = R at *
  have HMn : Hid ((R.mergeSort fun x y => decide (x ≤ y)).length = R.length) := Lib.hid (List.length_mergeSort _)
  have HRn : Hid (R.length = R.length) := Lib.hid rfl
  generalize rchV r L = V at *
  generalize hRn : R.length = n at *
  replace HRn := Lib.hid hRn
  clear hRn
  generalize hN : L.length = N at *
  have HN := Lib.hid hN
  clear hN
  go_enter Try.func47, Try.ntmps47
  go_wp2_with fail
  refine (lawOf_yes r _ HO.out).mono ?_
  rintro e w1 ⟨rfl, hb⟩
  replace HI := Lib.hid (HI.out.below hb)
  have HB := Lib.hid hb
  have hs0 := hb.size
  clear hb
  rw [eI]
  go_wp2_with fail
  refine (HA.out _ HI.out (by omega)).mono ?_
  rintro e w2 ⟨rfl, rfl⟩
  go_wp2_with fail
  refine (HR.out _ HI.out (by omega) HT.out).mono ?_
  rintro e w3 ⟨v3, rfl, ho, hv, hb⟩
  obtain ⟨g3, cap3, rfl⟩ := own_formN HRn.out ho hv
  have hg3 := (ho.lt g3 rfl).1
  have HO3 := Lib.hid ho
  replace HB := Lib.hid (HB.out.trans (hb.mono HB.out.size))
  have hs1 := HB.out.size
  clear ho hv hb
  go_wp2_with fail
  refine (sort_any R n HRn.out _ g3 cap3 _ (by have := HRn.out; omega) HO3.out).mono ?_
  rintro e w4 ⟨rfl, ho4, hgr⟩
  replace HB : Hid (Below w.heap.size w w4) := HB.out.grown hgr (by omega) (fun k hk => by cases hk; omega)
  have HO4 := Lib.hid ho4
  clear ho4 hgr HO3 HRn
  generalize (R.mergeSort fun x y => decide (x ≤ y)) = M at *
  go_wp2_with fail
  refine (compact_any M n HMn.out _ g3 cap3 _ HO4.out).mono ?_
  rintro e w5 ⟨rfl, ho5, hgr⟩
  replace HB : Hid (Below w.heap.size w w5) := HB.out.grown hgr (by have := HB.out.size; omega) (fun k hk => by cases hk; omega)
  rw [HE.out] at ho5 ⊢
  have HO5 := Lib.hid ho5
  clear ho5 hgr
  go_wp2_with fail
  go_ret2
  exact ⟨g3, cap3, rfl, ⟨HO5.out.1, HO5.out.2.imp (fun q => q) (fun ⟨g, cap, cur, e, q, z⟩ => ⟨g, cap, cur, e, by omega, z⟩)⟩, HB.out⟩
set_option maxRecDepth 20000 in
set_option maxHeartbeats 1000000 in
theorem implRch_no (r : Int) (L : List Int) (g cap : Nat) (w : World) (h : IL w (.slice (some ⟨g, 0, none⟩) L.length cap) L) (hl : L.length ≤ 1048576) (hk : ¬ rchOk r L) :
    Calls Try.prog 47 #[.int .i64 r, .slice (some ⟨g, 0, none⟩) L.length cap] w fun e w' => ∃ g2 cap2, e = .returned (.tuple #[.slice (some ⟨g2, 0, none⟩) 0 cap2, .bool false]) ∧ w'.ownsRow w.heap.size 3 1 (.slice (some ⟨g2, 0, none⟩) 0 cap2) 0 [] ∧ Below w.heap.size w w' := by
  by_cases hR : RlOk r
  · have HR := Lib.hid hR
    have eI : lawOn (inR r) = .iface 112 (.agg #[inR r]) := rfl
    have HI := Lib.hid h
    by_cases h5 : L.length ≤ 5
    · have hT : ¬ (∀ x ∈ L, TlOk x) := fun q => hk ⟨hR, h5, q⟩
      have hd : decide (∀ x ∈ L, TlOk x) = false := by simpa using hT
      have HA := Lib.hid (areTiles_any L (.slice (some ⟨g, 0, none⟩) L.length cap))
      rw [hd] at HA
      clear hd hT hk hR h
      generalize L.length = N at *
      have hl6 : ¬ (5 < (N : Int)) := by omega
      go_enter Try.func47, Try.ntmps47
      go_wp2_with fail
      refine (lawOf_yes r _ HR.out).mono ?_
      rintro e w1 ⟨rfl, hb⟩
      have HI := Lib.hid (HI.out.below hb)
      rw [eI]
      have HBb := Lib.hid hb
      clear hb
      go_wp2_with fail
      refine (HA.out _ HI.out (by omega)).mono ?_
      rintro e w2 ⟨rfl, rfl⟩
      have hb := HBb.out
      clear HBb
      have HO : Hid ((w1.alloc (.cells #[] 3)).ownsRow w.heap.size 3 1 (.slice (some ⟨w1.heap.size, 0, none⟩) 0 0) 0 []) := World.ownsRow_made (base := w.heap.size) (e := 3) (size := 1) w1 #[] 0 hb.size (by decide) rfl
      have HB : Hid (Below w.heap.size w (w1.alloc (.cells #[] 3))) := hb.alloc hb.size _
      clear hb
      go_wp2_with fail
      go_ret2
      exact ⟨_, _, rfl, HO.out, HB.out⟩
    · clear hk hR
      generalize L.length = N at *
      have hl6 : 5 < (N : Int) := by omega
      go_enter Try.func47, Try.ntmps47
      go_wp2_with fail
      refine (lawOf_yes r _ HR.out).mono ?_
      rintro e w1 ⟨rfl, hb⟩
      rw [eI]
      have HO : Hid ((w1.alloc (.cells #[] 3)).ownsRow w.heap.size 3 1 (.slice (some ⟨w1.heap.size, 0, none⟩) 0 0) 0 []) := World.ownsRow_made (base := w.heap.size) (e := 3) (size := 1) w1 #[] 0 hb.size (by decide) rfl
      have HB : Hid (Below w.heap.size w (w1.alloc (.cells #[] 3))) := hb.alloc hb.size _
      clear hb
      go_wp2_with fail
      go_ret2
      exact ⟨_, _, rfl, HO.out, HB.out⟩
  · have HR := Lib.hid hR
    clear hk hR
    go_enter Try.func47, Try.ntmps47
    go_wp2_with fail
    refine (lawOf_no r _ HR.out).mono ?_
    rintro e w1 ⟨rfl, hb⟩
    have HO : Hid ((w1.alloc (.cells #[] 3)).ownsRow w.heap.size 3 1 (.slice (some ⟨w1.heap.size, 0, none⟩) 0 0) 0 []) := World.ownsRow_made (base := w.heap.size) (e := 3) (size := 1) w1 #[] 0 hb.size (by decide) rfl
    have HB : Hid (Below w.heap.size w (w1.alloc (.cells #[] 3))) := hb.alloc hb.size _
    clear hb
    go_wp2_with fail
    go_ret2
    exact ⟨_, _, rfl, HO.out, HB.out⟩
theorem implRch_any (r : Int) (L : List Int) (g cap : Nat) (w : World) (h : IL w (.slice (some ⟨g, 0, none⟩) L.length cap) L) (hl : L.length ≤ 1048576) :
    Calls Try.prog 47 #[.int .i64 r, .slice (some ⟨g, 0, none⟩) L.length cap] w fun e w' => ∃ g2 cap2, e = .returned (.tuple #[.slice (some ⟨g2, 0, none⟩) (rchV r L).length cap2, .bool (decide (rchOk r L))]) ∧ w'.ownsRow w.heap.size 3 1 (.slice (some ⟨g2, 0, none⟩) (rchV r L).length cap2) (rchV r L).length ((rchV r L).map (Value.int .i64)) ∧ Below w.heap.size w w' := by
  by_cases hk : rchOk r L
  · rw [rb_ok hk]
    exact implRch_yes r L g cap w h hk
  · have hv : rchV r L = [] := by unfold rchV; rw [if_neg hk]
    rw [show decide (rchOk r L) = false by simpa using hk, hv]
    exact implRch_no r L g cap w h hl hk
end Go.Proofs.Ytblcojacmjbjcaa
