/-
  Several texts in one:
  The contracts of the list of moves, in the reference and in the program, for every board.
  Rows of integers that are read, and the contracts of the laws' helpers on them: eqIntS, markIntS, heldIntS.
  Rows of cells that are read, and the contracts of the laws' helpers on them: eqIntA2S, markIntA2S, heldIntA2S.
  Rows of boards, and of rows of four numbers, told by lists of lists of numbers; and the contracts of the laws' helpers on them. No condition.
  Laws for loads of some numbers out of a row that lies anywhere in a block, plain and in regions walked by hand. Nothing is proved here of the program's functions.
  An append to a row that the call owns, in a plain region; and what lies where behind it. Nothing is proved here of the program's functions.
-/
import Derived.Test.YtfjpdopljmilpaaMergers
import Derived.Test.YtfjpdopljmilpaaBaseA
import Derived.OwnWalk
import Derived.Deep.QuietTactic
import Derived.BigQuiet
import Derived.Deep.RegionHeld3
import Derived.Test.YtfjpdopljmilpaaPlainA
import Derived.Great.BuildSlice
namespace Go.Proofs.Ytfjpdopljmilpaa
open Go.RowKit Plain
attribute [local go_sem] store_new

/-- The slice value v owns a row of these integers, in blocks from base on. -/
def OwnsInts (w : World) (base : Nat) (v : Value) (xs : List Int) : Prop := w.ownsRow base 3 1 v xs.length (xs.map (Value.int .i64))
theorem infoInt : (Try.prog.info? 3).map (fun i => (i.zero, i.size, i.bytes)) = some (some (.int .i64 0), 1, 8) := by kernel_rfl
theorem below_grown {w w' : World} (h : Below w.heap.size w w') : w.grownBy w' none := ⟨h.os, h.tape, h.output, h.size, fun k hk _ => h.block k hk⟩
theorem owns_below {w w' : World} {base size n : Nat} {e : TypeId} {v : Value} {xs : List Value} (h : w.ownsRow base e size v n xs) (hb : Below w.heap.size w w') : w'.ownsRow base e size v n xs :=
  h.kept (below_grown hb) (by cases v.ownBlock <;> simp)

theorem l2Slide_nat (f : Nat → Int) (d : Nat) (w : World) (hf : Vd f) (h0 : (0 : Int) ≤ (d : Int)) (h1 : (d : Int) ≤ 3) :
    Calls Try.prog 142 #[.agg (mk 16 f), .int .i64 d] w fun e w' => e = .returned (.tuple #[.agg (mk 16 (slideB f d)), .int .i64 (slideS f d 4)]) ∧ Below w.heap.size w w' :=
  l2Slide_any f (d : Int) w hf h0 h1
theorem slideTo_nat (f : Nat → Int) (d : Nat) (w : World) (hf : Vd f) (h0 : (0 : Int) ≤ (d : Int)) (h1 : (d : Int) ≤ 3) :
    Calls Try.prog 222 #[.agg (mk 16 f), .int .i64 d] w fun e w' => e = .returned (.agg (mk 18 (slideV f d))) ∧ Below w.heap.size w w' :=
  slideTo_any f (d : Int) w hf h0 h1
set_option maxHeartbeats 1000000 in
set_option maxRecDepth 20000 in
theorem l2Moves_any (f : Nat → Int) (w : World) (hV : Vd f) :
    Calls Try.prog 140 #[.agg (mk 16 f)] w fun e w' => ∃ g cap, e = .returned (.slice (some ⟨g, 0, none⟩) (movL f 4).length cap) ∧
      OwnsInts w' w.heap.size (.slice (some ⟨g, 0, none⟩) (movL f 4).length cap) (movL f 4) ∧ Below w.heap.size w w' := by
  obtain ⟨i0, hi, hz0, hz1, hz2⟩ := info_parts infoInt
  have z16 := zero16
  have HV := Lib.hid hV
  clear hV
  have K1 := (Blk.new w 16 f 26).alloc (.cells #[] 3)
  have HB := Lib.hid (((Below.refl w.heap.size w).alloc (Nat.le_refl _) (.cells (mk 16 f) 26)).alloc (by simp) (.cells #[] 3))
  have HO : OwnsInts ((w.alloc (.cells (mk 16 f) 26)).alloc (.cells #[] 3)) (w.heap.size + 1) (.slice (some ⟨w.heap.size + 1, 0, none⟩) 0 0) [] := by
    have := World.ownsRow_made (base := w.heap.size + 1) (e := 3) (size := 1) (w.alloc (.cells (mk 16 f) 26)) #[] 0 (by simp) (by decide) rfl
    simp only [World.size_alloc] at this
    exact this
  go_enter Try.func140, Try.ntmps140
  go_wp2_with fail
  go_loopg [3, 4] 4 (fun g s3 s4 wr => ∃ (d : Nat) (v : Value), d + g = 4 ∧ s4 = .int .i64 d ∧ v = s3 ∧ (∃ gg cap, v = .slice (some ⟨gg, 0, none⟩) (movL f d).length cap) ∧ OwnsInts wr (w.heap.size + 1) v (movL f d) ∧ Blk wr w.heap.size 16 f 26 ∧ Hid (Below w.heap.size w wr))
  case atStart => exact ⟨0, _, by omega, rfl, rfl, ⟨_, _, rfl⟩, HO, K1, HB⟩
  case round =>
    obtain ⟨d, v, hdg, rfl, rfl, hv, ho, k1, hb⟩ := hrel
    cases gk with
    | zero =>
      have hd : ¬ ((d : Int) < 4) := by omega
      obtain rfl : d = 4 := by omega
      clear hdg hd
      obtain ⟨gg, cap, rfl⟩ := hv
      go_wp2_with fail
      go_ret
      exact ⟨gg, cap, rfl, ownsRow_wide ho (by omega), hb.out⟩
    | succ g =>
      have hd4 : (d : Int) < 4 := by omega
      have hd0 : (0 : Int) ≤ (d : Int) := by omega
      have hd3 : (d : Int) ≤ 3 := by omega
      go_wp2_with ((with_reducible show wpList _ _ _ (Oper.mk _ (Op.load 26 _) _ _ _ _ :: _) _ _); refine loadB (k1) rfl rfl rfl ?_)
      refine (l2Slide_nat f d _ HV.out hd0 hd3).mono ?_
      rintro e w3 ⟨rfl, hb3⟩
      have k1 := (k1.below hb3 k1.lt).alloc (.cells (mk 16 (slideB f d)) 26)
      have k3 := Blk.new w3 16 (slideB f d) 26
      have ho0 : (w3.alloc (.cells (mk 16 (slideB f d)) 26)).ownsRow (w.heap.size + 1) 3 1 v (movL f d).length ((movL f d).map (Value.int .i64)) := (owns_below ho hb3).alloc _
      have HB3 : Hid (Below w.heap.size w w3) := hb.out.trans (hb3.mono hb.out.size)
      have HB4 : Hid (Below w.heap.size w (w3.alloc (.cells (mk 16 (slideB f d)) 26))) := HB3.out.alloc HB3.out.size _
      have hn := movL_le f d
      have hsz := HB3.out.size
      clear ho hb3 hb HB3
      have iN := neqB
      have iE : ∀ (f g : Nat → Int) (w : World), (Op.equalIn 10000 26 (.agg (mk 16 f)) (.agg (mk 16 g))).run Try.prog w = .ok (sameB f g) w := eqB 9996
      by_cases hm : isMv f d = true
      · have Y := Lib.hid (mov_yes hm)
        have hq : sameB (slideB f d) f = false := by simpa [isMv] using hm
        clear hm
        have hn4 : (movL f d).length ≤ 4 := by omega
        go_wp2_with (first | ((with_reducible show wpList _ _ _ (Oper.mk _ (Op.load 26 _) _ _ _ _ :: _) _ _); refine loadB (k1) rfl rfl rfl ?_) | ((with_reducible show wpList _ _ _ (Oper.mk _ (Op.load 26 _) _ _ _ _ :: _) _ _); refine loadB (k3) rfl rfl rfl ?_) | (at_builtin; refine wpList_append_own _ rfl _ _ 76 rfl (w.heap.size + 1) 3 i0 (.int .i64 0) 1 8 Try.underlying76 hi hz0 hz1 hz2 rfl (by decide) _ _ _ rfl (ho0.alloc _) ⟨w3.heap.size + 1, 0, none⟩ 1 1 [.int .i64 d] rfl rfl ?c1 ?c2 ?c3 ?c4 ?c5 ?_))
        case c1 =>
          have := cell_one_new (w3.alloc (.cells (mk 16 (slideB f d)) 26)) (.int .i64 d) 3
          simpa only [World.size_alloc] using this
        case c2 => simp [Value.oneCell']
        case c3 => unfold maxLen; omega
        case c4 => omega
        case c5 => simp; omega
        intro v' w2 hown' hgrow' _
        obtain ⟨gg, cap, hv'⟩ := ownsRow_succ hown'
        have HV' : Hid (∃ gg cap, v' = .slice (some ⟨gg, 0, none⟩) ((movL f d).length + 1) cap) := ⟨gg, cap, hv'⟩
        have HB2 : Hid (Below w.heap.size w w2) := ((HB4.out).alloc HB4.out.size _).grown hgrow' (by simp; omega) (fun j hj => by have := (ho0.lt j hj).1; omega)
        have K2 := (k1.alloc (.cells #[.int .i64 d] 3)).grown hgrow' (fun e => by have := (ho0.lt _ e.symm).1; omega)
        have HO : Hid (OwnsInts w2 (w.heap.size + 1) v' (movL f d ++ [(d : Int)])) := by
          show OwnsInts _ _ _ _
          unfold OwnsInts
          rw [List.map_append, List.length_append]
          exact hown'
        clear hown' hgrow' ho0 hv' k1 k3
        go_wp2_with fail
        go_roundg g
        case rel => exact ⟨d + 1, _, by omega, by go_num, rfl, by rw [Y.out, List.length_append]; exact HV'.out, by rw [Y.out]; exact HO.out, K2, HB2⟩
        case measure => omega
      · have Y := Lib.hid (mov_no (by simpa using hm))
        have hq : sameB (slideB f d) f = true := by simpa [isMv] using hm
        clear hm
        go_wp2_with (first | ((with_reducible show wpList _ _ _ (Oper.mk _ (Op.load 26 _) _ _ _ _ :: _) _ _); refine loadB (k1) rfl rfl rfl ?_) | ((with_reducible show wpList _ _ _ (Oper.mk _ (Op.load 26 _) _ _ _ _ :: _) _ _); refine loadB (k3) rfl rfl rfl ?_))
        go_roundg g
        case rel => exact ⟨d + 1, _, by omega, by go_num, rfl, by rw [Y.out]; exact hv, by rw [Y.out]; exact ho0, k1, HB4⟩
        case measure => omega
end Go.Proofs.Ytfjpdopljmilpaa
namespace Go.Proofs.Ytfjpdopljmilpaa
open Go.RowKit Plain

attribute [local go_sem] Oper.semAt_some

/-- The value v is a slice of n integers, told by a function of their places. -/
def IRow (w : World) (v : Value) (n : Nat) (h : Nat → Int) : Prop :=
  ∃ g cap, v = .slice (some ⟨g, 0, none⟩) n cap ∧ n ≤ cap ∧ g < w.heap.size ∧ ∀ j, j < n → w.cell? ⟨g, j, none⟩ = some (.int .i64 (h j))
theorem IRow.below {w w' : World} {v : Value} {n : Nat} {h : Nat → Int} (r : IRow w v n h) (hb : Below w.heap.size w w') : IRow w' v n h := by
  obtain ⟨g, cap, rfl, h0, h1, h2⟩ := r
  exact ⟨g, cap, rfl, h0, Nat.lt_of_lt_of_le h1 hb.size, fun j hj => (hb.cell (p := ⟨g, j, none⟩) h1).trans (h2 j hj)⟩
theorem IRow.of_own {w : World} {base g cap n : Nat} {h : Nat → Int} {t : TypeId} (o : w.ownsRow base t 1 (.slice (some ⟨g, 0, none⟩) n cap) n (mk n h).toList) : IRow w (.slice (some ⟨g, 0, none⟩) n cap) n h := by
  have hlt := (o.lt g rfl).2
  have hcap : n ≤ cap := by
    rcases o.2 with ⟨h2, _⟩ | ⟨g', cap', cur, h2, _, _, h3, _⟩
    · cases h2
    · cases h2; exact h3
  refine ⟨g, cap, rfl, hcap, hlt, fun j hj => ?_⟩
  have := o.cellAt j (by omega)
  rw [this, Array.getElem?_toList]
  exact mk_get h hj
/-- A list of integers, told by a function of its places. -/
theorem ints_mk (xs : List Int) : xs.map (Value.int .i64) = (mk xs.length fun i => xs.getD i 0).toList := by
  apply List.ext_getElem?
  intro i
  have e : (mk xs.length fun i => xs.getD i 0).toList[i]? = (mk xs.length fun i => xs.getD i 0)[i]? := Array.getElem?_toList
  rw [e]
  by_cases hi : i < xs.length
  · rw [mk_get _ hi]; simp [hi]
  · rw [mk_out _ (by omega)]; simp; omega

set_option maxHeartbeats 400000 in
theorem eqI_yes (v u : Value) (n : Nat) (h : Nat → Int) (w : World) (hv : IRow w v n h) (hu : IRow w u n h) (hn : n ≤ 1048576) :
    Calls Try.prog 113 #[v, u] w fun e w' => e = .returned (.bool true) ∧ ∃ k, w' = w.drewN k := by
  obtain ⟨b1, c1, rfl, _, _, hc1⟩ := hv
  obtain ⟨b2, c2, rfl, _, _, hc2⟩ := hu
  have HC1 := Lib.hid hc1
  have HC2 := Lib.hid hc2
  clear hc1 hc2
  go_enter Try.func113, Try.ntmps113
  go_wp2
  go_loopw [5] (fun i wr => ∃ k m : Nat, k ≤ n ∧ i = .int .i64 k ∧ wr = w.drewN m) (fun i _ => n - (intOf i).toNat)
  case atStart => exact ⟨0, 0, Nat.zero_le _, rfl, rfl⟩
  case round =>
    obtain ⟨k, m, hk, rfl, rfl⟩ := hrel
    by_cases hlt : k < n
    · have e1 := HC1.out k hlt
      have e2 := HC2.out k hlt
      generalize h k = t at *
      have hb : (0 : Int) ≤ (k : Int) := by omega
      have hl : (k : Int) < (n : Int) := by omega
      go_wp2_with fail
      go_quiet (fail)
      go_wp2
      go_roundw
      case rel => exact ⟨k + 1, _, by omega, by go_num, rfl⟩
      case measure => simp [intOf]; omega
    · go_wp2
      go_ret
      exact ⟨rfl, _, rfl⟩

/-- The first k are the marks, the others as they were. -/
def mixI (h : Nat → Int) (k : Nat) : Nat → Int := fun j => if j < k then ((1 + j : Nat) : Int) else h j
theorem mixI_zero (h : Nat → Int) (n : Nat) : mk n (mixI h 0) = mk n h := mk_congr fun i _ => by simp [mixI]
theorem mixI_step (h : Nat → Int) (k n : Nat) : mk n (upd (mixI h k) k ((1 + k : Nat) : Int)) = mk n (mixI h (k + 1)) := mk_congr fun j _ => by
  unfold upd mixI
  by_cases e : j = k
  · subst e; simp
  · by_cases l : j < k
    · simp [e, l, show j < k + 1 by omega]
    · simp [e, l, show ¬ j < k + 1 by omega]
theorem mixI_end (h : Nat → Int) (n : Nat) : mk n (mixI h n) = mk n fun j => ((1 + j : Nat) : Int) := mk_congr fun j hj => by simp [mixI, hj]

set_option maxHeartbeats 400000 in
theorem markI_row (g cap n base : Nat) (h : Nat → Int) (w : World) (ho : w.ownsRow base 3 1 (.slice (some ⟨g, 0, none⟩) n cap) n (mk n h).toList) (hn : n ≤ 1048576) :
    Calls Try.prog 114 #[.slice (some ⟨g, 0, none⟩) n cap, .int .i64 1] w fun e w' => e = .returned (.int .i64 (1 + n : Nat)) ∧
      w'.ownsRow base 3 1 (.slice (some ⟨g, 0, none⟩) n cap) n (mk n fun j => ((1 + j : Nat) : Int)).toList ∧ Below base w w' := by
  have hgb : base ≤ g := (ho.lt g rfl).1
  have HO : Hid (w.ownsRow base 3 1 (.slice (some ⟨g, 0, none⟩) n cap) n (mk n (mixI h 0)).toList) := by
    show w.ownsRow _ _ _ _ _ _
    rw [mixI_zero]; exact ho
  clear ho
  go_enter Try.func114, Try.ntmps114
  go_wp2
  go_loopw [1, 5] (fun q i wr => ∃ k : Nat, k ≤ n ∧ i = .int .i64 k ∧ q = .int .i64 (1 + k : Nat) ∧ wr.ownsRow base 3 1 (.slice (some ⟨g, 0, none⟩) n cap) n (mk n (mixI h k)).toList ∧ Below base w wr) (fun _ i _ => n - (intOf i).toNat)
  case atStart => exact ⟨0, Nat.zero_le _, rfl, rfl, HO.out, Below.refl _ _⟩
  case round =>
    obtain ⟨k, hk, rfl, rfl, hown, hbel⟩ := hrel
    have HB := Lib.hid hbel
    clear hbel
    by_cases hlt : k < n
    · have hd : wr.cell? ⟨g, k, none⟩ = some (.int .i64 (mixI h k k)) := by
        rw [hown.cellAt k (by omega), Array.getElem?_toList]; exact mk_get _ hlt
      have hf := hown.frozenAt k
      have hst := hown.stored k (.int .i64 ((1 + k : Nat) : Int))
      rw [← Array.toList_setIfInBounds, mk_set _ _ hlt, mixI_step] at hst
      have HST := Lib.hid hst
      generalize mixI h k k = u0 at hd
      clear hst hown
      go_wp2
      go_roundw
      case rel => exact ⟨k + 1, by omega, by go_num, by go_num, HST.out.1, HB.out.setCell (p := ⟨g, k, none⟩) hgb _⟩
      case measure => simp [intOf]; omega
    · obtain rfl : k = n := by omega
      have HW := Lib.hid hown
      clear hown
      go_wp2
      go_ret
      refine ⟨rfl, ?_, HB.out⟩
      have := HW.out
      rw [mixI_end] at this
      exact this

set_option maxHeartbeats 400000 in
theorem heldI_row (v : Value) (n : Nat) (w : World) (hv : IRow w v n fun j => ((1 + j : Nat) : Int)) (hn : n ≤ 1048576) :
    Calls Try.prog 115 #[v, .int .i64 1] w fun e w' => e = .returned (.int .i64 (1 + n : Nat)) ∧ w = w' := by
  obtain ⟨b, c, rfl, _, _, hc⟩ := hv
  have HC := Lib.hid hc
  clear hc
  go_enter Try.func115, Try.ntmps115
  go_wp2
  go_loop [1, 5] (fun q i => ∃ k : Nat, k ≤ n ∧ i = .int .i64 k ∧ q = .int .i64 (1 + k : Nat)) (fun _ i => n - (intOf i).toNat)
  case atStart => exact ⟨0, Nat.zero_le _, rfl, rfl⟩
  case round =>
    obtain ⟨k, hk, rfl, rfl⟩ := hrel
    by_cases hlt : k < n
    · have e1 := HC.out k hlt
      go_wp2
      go_round
      case rel => exact ⟨k + 1, by omega, by go_num, by go_num⟩
      case measure => simp [intOf]; omega
    · obtain rfl : k = n := by omega
      go_wp2
      go_ret
      exact ⟨rfl, rfl⟩
end Go.Proofs.Ytfjpdopljmilpaa
namespace Go.Proofs.Ytfjpdopljmilpaa
open Go.RowKit Plain

attribute [local go_sem] Oper.semAt_some

/-- n integers lie in a block from its begin on. -/
def CAt (w : World) (g n : Nat) (h : Nat → Int) : Prop := g < w.heap.size ∧ ∀ j, j < n → w.cell? ⟨g, j, none⟩ = some (.int .i64 (h j))
theorem CAt.below {w w' : World} {g n : Nat} {h : Nat → Int} (r : CAt w g n h) (hb : Below w.heap.size w w') : CAt w' g n h :=
  ⟨Nat.lt_of_lt_of_le r.1 hb.size, fun j hj => (hb.cell (p := ⟨g, j, none⟩) r.1).trans (r.2 j hj)⟩
/-- The value v is a slice of n cells, told by a function of their numbers' places. -/
def CRow (w : World) (v : Value) (n : Nat) (h : Nat → Int) : Prop := ∃ g cap, v = .slice (some ⟨g, 0, none⟩) n cap ∧ n ≤ cap ∧ CAt w g (n * 2) h
theorem CRow.below {w w' : World} {v : Value} {n : Nat} {h : Nat → Int} (r : CRow w v n h) (hb : Below w.heap.size w w') : CRow w' v n h := by
  obtain ⟨g, cap, rfl, h0, h1⟩ := r
  exact ⟨g, cap, rfl, h0, h1.below hb⟩
theorem CRow.of_own {w : World} {base g cap n : Nat} {h : Nat → Int} {t : TypeId} (o : w.ownsRow base t 2 (.slice (some ⟨g, 0, none⟩) n cap) n (mk (n * 2) h).toList) : CRow w (.slice (some ⟨g, 0, none⟩) n cap) n h := by
  have hlt := (o.lt g rfl).2
  have hcap : n ≤ cap := by
    rcases o.2 with ⟨h2, _⟩ | ⟨g', cap', cur, h2, _, _, h3, _⟩
    · cases h2
    · cases h2; exact h3
  refine ⟨g, cap, rfl, hcap, hlt, fun j hj => ?_⟩
  rw [o.cellAt j hj, Array.getElem?_toList]
  exact mk_get h hj
theorem heldC_step {w W w6 : World} {b c n : Nat} {f : Nat → Int} (h : CAt W b n f ∧ CAt W c n f ∧ Below w.heap.size w W) (hb : Below W.heap.size W w6) : CAt w6 b n f ∧ CAt w6 c n f ∧ Below w.heap.size w w6 :=
  ⟨h.1.below hb, h.2.1.below hb, h.2.2.trans (hb.mono h.2.2.size)⟩

end Go.Proofs.Ytfjpdopljmilpaa
namespace Go.Proofs.Ytfjpdopljmilpaa
open Go.RowKit Plain
attribute [local go_sem] Oper.semAt_some
set_option linter.unusedVariables false
set_option linter.unusedSimpArgs false

/-- All lists are m numbers long. -/
def AllL (m : Nat) (L : List (List Int)) : Prop := ∀ l, l ∈ L → l.length = m
theorem AllL.nil (m : Nat) : AllL m [] := fun _ h => by cases h
theorem AllL.snoc {m : Nat} {L : List (List Int)} (h : AllL m L) {l : List Int} (hl : l.length = m) : AllL m (L ++ [l]) := fun x hx => by
  rcases List.mem_append.1 hx with h1 | h1
  · exact h x h1
  · obtain rfl : x = l := by simpa using h1
    exact hl
theorem AllL.ins {m : Nat} {L : List (List Int)} (h : AllL m L) {l : List Int} (hl : l.length = m) : AllL m (insL (lt m) L l) := fun x hx => by
  rcases (ins_mem _ L l x).1 hx with h1 | rfl
  · exact h x h1
  · exact hl
theorem flat_len {m : Nat} : ∀ {L : List (List Int)}, AllL m L → L.flatten.length = L.length * m
  | [], _ => by simp
  | l :: L, h => by
    rw [List.flatten_cons, List.length_append, h l (by simp), flat_len (L := L) (fun x hx => h x (by simp [hx])), List.length_cons, Nat.add_mul, Nat.one_mul, Nat.add_comm]
theorem flat_at {m : Nat} : ∀ {L : List (List Int)}, AllL m L → ∀ (i c : Nat) (l : List Int), L[i]? = some l → c < m → L.flatten[i * m + c]? = l[c]?
  | [], _, i, c, l, h, _ => by simp at h
  | x :: L, ha, 0, c, l, h, hc => by
    simp at h; subst h
    have := ha x (by simp)
    rw [List.flatten_cons, Nat.zero_mul, Nat.zero_add, List.getElem?_append_left (by omega)]
  | x :: L, ha, i + 1, c, l, h, hc => by
    have h1 := ha x (by simp)
    have h2 := flat_at (L := L) (fun y hy => ha y (by simp [hy])) i c l (by simpa using h) hc
    have e : (i + 1) * m + c = m + (i * m + c) := by rw [Nat.add_mul, Nat.one_mul]; omega
    rw [List.flatten_cons, e, List.getElem?_append_right (by omega), ← h2]
    congr 1; omega
/-- The numbers of a row of lists. -/
def flatF (L : List (List Int)) : Nat → Int := fun j => L.flatten.getD j 0
theorem flatF_at {m : Nat} {L : List (List Int)} (ha : AllL m L) {i : Nat} {l : List Int} (h : L[i]? = some l) {c : Nat} (hc : c < m) : flatF L (i * m + c) = fn l c := by
  unfold flatF fn
  rw [List.getD_eq_getElem?_getD, List.getD_eq_getElem?_getD, flat_at ha i c l h hc]
theorem flatF_mk {m : Nat} {L : List (List Int)} (ha : AllL m L) {i : Nat} {l : List Int} (h : L[i]? = some l) : mk m (fun c => flatF L (i * m + c)) = mk m (fn l) := mk_congr fun c hc => flatF_at ha h hc
theorem flat_mk {m : Nat} {L : List (List Int)} (ha : AllL m L) : L.flatten.map (Value.int .i64) = (mk (L.length * m) (flatF L)).toList := by
  rw [← flat_len ha]; exact ints_mk L.flatten
theorem mk_cl (m : Nat) (f : Nat → Int) : (cl m f).map (Value.int .i64) = (mk m f).toList := by simp [cl, mk]

/-- The slice value v owns a row of lists, in blocks from base on. -/
def OwnsL (t : TypeId) (m : Nat) (w : World) (base : Nat) (v : Value) (L : List (List Int)) : Prop := w.ownsRow base t m v L.length (L.flatten.map (Value.int .i64))
/-- The value v is a slice of n elements of m numbers each, told by a function of their places. -/
def KRow (m : Nat) (w : World) (v : Value) (n : Nat) (h : Nat → Int) : Prop := ∃ g cap, v = .slice (some ⟨g, 0, none⟩) n cap ∧ n ≤ cap ∧ CAt w g (n * m) h
theorem KRow.below {m : Nat} {w w' : World} {v : Value} {n : Nat} {h : Nat → Int} (r : KRow m w v n h) (hb : Below w.heap.size w w') : KRow m w' v n h := by
  obtain ⟨g, cap, rfl, h0, h1⟩ := r
  exact ⟨g, cap, rfl, h0, h1.below hb⟩
theorem KRow.of_own {m : Nat} {w : World} {base g cap n : Nat} {h : Nat → Int} {t : TypeId} (o : w.ownsRow base t m (.slice (some ⟨g, 0, none⟩) n cap) n (mk (n * m) h).toList) : KRow m w (.slice (some ⟨g, 0, none⟩) n cap) n h := by
  have hlt := (o.lt g rfl).2
  have hcap : n ≤ cap := by
    rcases o.2 with ⟨h2, _⟩ | ⟨g', cap', cur, h2, _, _, h3, _⟩
    · cases h2
    · cases h2; exact h3
  refine ⟨g, cap, rfl, hcap, hlt, fun j hj => ?_⟩
  rw [o.cellAt j hj, Array.getElem?_toList]
  exact mk_get h hj
theorem KRow.of_list {m : Nat} {w : World} {base g cap : Nat} {L : List (List Int)} {t : TypeId} (ha : AllL m L) (o : OwnsL t m w base (.slice (some ⟨g, 0, none⟩) L.length cap) L) : KRow m w (.slice (some ⟨g, 0, none⟩) L.length cap) L.length (flatF L) := by
  unfold OwnsL at o
  rw [flat_mk ha] at o
  exact KRow.of_own o

end Go.Proofs.Ytfjpdopljmilpaa
namespace Go.Proofs.Ytfjpdopljmilpaa
open Go.RowKit Plain
theorem CAt.range {w : World} {g n : Nat} {h : Nat → Int} (r : CAt w g n h) (o m : Nat) (hm : o + m ≤ n) : w.rangeAt g o (mk m (fun i => h (o + i))).toList := fun j v hj => by
  rw [Array.getElem?_toList] at hj
  by_cases hjm : j < m
  · rw [mk_get _ hjm] at hj; cases hj
    exact r.2 (o + j) (by omega)
  · rw [mk_out _ (by omega)] at hj; cases hj
theorem CAt.cell {w : World} {g n : Nat} {h : Nat → Int} (r : CAt w g n h) {j : Nat} (hj : j < n) : w.cell? ⟨g, j, none⟩ = some (.int .i64 (h j)) := r.2 j hj
theorem CAt.drew {w : World} {g n : Nat} {h : Nat → Int} (r : CAt w g n h) : CAt w.drew g n h := r
theorem CAt.alloc {w : World} {g n : Nat} {h : Nat → Int} (r : CAt w g n h) (o : Obj) : CAt (w.alloc o) g n h := r.below ((Below.refl _ w).alloc (Nat.le_refl _) o)
theorem Blk.at {w : World} {b n : Nat} {f : Nat → Int} {t : TypeId} (k : Blk w b n f t) : CAt w b n f := ⟨k.lt, fun _ hj => k.cell hj⟩
theorem CAt.low {B : Nat} {w w' : World} {g n : Nat} {h : Nat → Int} (r : CAt w g n h) (hb : Below B w w') (hB : g < B) : CAt w' g n h :=
  ⟨Nat.lt_of_lt_of_le r.1 hb.size, fun j hj => (hb.cell (p := ⟨g, j, none⟩) hB).trans (r.2 j hj)⟩
section
variable {P : Program}
theorem exec_load_at {o : Oper} {ev : Operand → Value} {w : World} {b n off m : Nat} {f : Nat → Int} {d : TypeDesc} (ty : TypeId) (x : Operand) (ho : o.op = .load ty x)
    (hx : ev x = .pointer (some ⟨b, off, none⟩)) (hg : CAt w b n f) (hm : off + m ≤ n) (hu : P.underlying ty = some d) (hd : d.isRow = true) (hi : (P.info? ty).map (·.size) = some m) :
    (execOp ev o).run P w = .ok (.value (.agg (mk m (fun i => f (off + i))))) w := by
  have h := run_loadVar_mid (P := P) w b off ty _ d (hg.range off m hm) hu hd (by rw [mk_len]; exact hi)
  rw [Array.toArray_toList] at h
  unfold execOp
  simp only [ho, hx, Instr.loadAt, Instr.sureAddr, Sem.run_bind, Sem.run_pure, Result.andThen_ok, h]
theorem wpList_load_at {ops : Array Oper} {rest : List Oper} {o : Oper} {a : Act} {w : World} {Q : Exit → Act → World → Prop} (hgd : o.guard = none) (ty : TypeId) (x : Operand) (ho : o.op = .load ty x) (b n off m : Nat) (f : Nat → Int) (d : TypeDesc)
    (hx : a.eval x = .pointer (some ⟨b, off, none⟩)) (hg : CAt w b n f) (hm : off + m ≤ n)
    (hu : P.underlying ty = some d) (hd : d.isRow = true) (hi : (P.info? ty).map (·.size) = some m)
    (h : wpList P ops Q rest (a.put o.dst (.agg (mk m (fun i => f (off + i))))) w) : wpList P ops Q (o :: rest) a w :=
  wpList_load_mid hgd ty x ho b off hx _ d (hg.range off m hm) hu hd (by rw [mk_len]; exact hi) (by rw [Array.toArray_toList]; exact h)
end
theorem execAB {o : Oper} {ev : Operand → Value} {w : World} {b n off : Nat} {f : Nat → Int} {x : Operand} (hg : CAt w b n f) (hm : off + 16 ≤ n) (ho : o.op = .load 26 x) (hx : ev x = .pointer (some ⟨b, off, none⟩)) :
    (execOp ev o).run Try.prog w = .ok (.value (.agg (mk 16 (fun i => f (off + i))))) w := exec_load_at _ x ho hx hg hm Try.underlying26 rfl sizeB
theorem loadAB {ops : Array Oper} {rest : List Oper} {o : Oper} {a : Act} {w : World} {Q : Exit → Act → World → Prop} {x : Operand} {b n off : Nat} {f : Nat → Int} (hg : CAt w b n f) (hm : off + 16 ≤ n)
    (hgd : o.guard = none) (ho : o.op = .load 26 x) (hx : a.eval x = .pointer (some ⟨b, off, none⟩))
    (h : wpList Try.prog ops Q rest (a.put o.dst (.agg (mk 16 (fun i => f (off + i))))) w) : wpList Try.prog ops Q (o :: rest) a w :=
  wpList_load_at hgd _ x ho b n off 16 f _ hx hg hm Try.underlying26 rfl sizeB h
theorem execAR {o : Oper} {ev : Operand → Value} {w : World} {b n off : Nat} {f : Nat → Int} {x : Operand} (hg : CAt w b n f) (hm : off + 4 ≤ n) (ho : o.op = .load 22 x) (hx : ev x = .pointer (some ⟨b, off, none⟩)) :
    (execOp ev o).run Try.prog w = .ok (.value (.agg (mk 4 (fun i => f (off + i))))) w := exec_load_at _ x ho hx hg hm Try.underlying22 rfl sizeR
theorem loadAR {ops : Array Oper} {rest : List Oper} {o : Oper} {a : Act} {w : World} {Q : Exit → Act → World → Prop} {x : Operand} {b n off : Nat} {f : Nat → Int} (hg : CAt w b n f) (hm : off + 4 ≤ n)
    (hgd : o.guard = none) (ho : o.op = .load 22 x) (hx : a.eval x = .pointer (some ⟨b, off, none⟩))
    (h : wpList Try.prog ops Q rest (a.put o.dst (.agg (mk 4 (fun i => f (off + i))))) w) : wpList Try.prog ops Q (o :: rest) a w :=
  wpList_load_at hgd _ x ho b n off 4 f _ hx hg hm Try.underlying22 rfl sizeR h
/-- An append to a row that the call owns: the run, and what it leaves. -/
theorem app_step {P : Program} {w : World} (base : Nat) (t ty e : TypeId) (i : TypeInfo) (z : Value) (size bytes : Nat) (ht : P.underlying t = some (.slice e)) (hi : P.info? e = some i) (hz : i.zero = some z)
    (hsize : i.size = size) (hby : i.bytes = bytes) (hzs : z.cells.size = size) (hsz : 0 < size)
    {v : Value} {n : Nat} {xs : List Value} (hown : w.ownsRow base e size v n xs)
    (b off m c : Nat) (f : Nat → Int) (N : Nat) (hc : CAt w b N f) (hm : off + m * size ≤ N)
    (h63 : n + m ≤ maxLen) (hbytes : (n + m) * bytes ≤ 140737488355328) (hbase : base ≤ w.heap.size) :
    ∃ v' w', (Builtin.append_ #[t, t] ty #[v, .slice (some ⟨b, off, none⟩) m c]).run P w = .ok v' w' ∧ w'.ownsRow base e size v' (n + m) (xs ++ (mk (m * size) fun j => f (off + j)).toList) ∧ Below base w w' ∧ w.grownBy w' v.ownBlock := by
  obtain ⟨v', w', h1, h2, h3, _, _⟩ := Go.run_append_own_at w base t ty e i z size bytes ht hi hz hsize hby hzs hsz v n xs hown ⟨b, off, none⟩ m c (mk (m * size) fun j => f (off + j)).toList
    (by rw [mk_len]) (fun j u hj => by
      have := hc.range off (m * size) hm j u hj
      unfold Addr.add
      by_cases h0 : j = 0
      · subst h0; simpa using this
      · simpa [h0] using this) (fun u hu => by
      obtain ⟨i, _, rfl⟩ := mk_mem (by simpa using hu); rfl) h63 hbytes hbase
  exact ⟨v', w', h1, h2, (Below.refl base w).grown h3 hbase fun k hk => (hown.lt k hk).1, h3⟩
/-- The same at the operation, for regions walked by hand. -/
theorem wp_app {P : Program} {w : World} {o : Oper} {a : Act} {K : Act → World → Prop} {Q : Exit → Act → World → Prop} (s x : Operand) (t : TypeId)
    (ho : o.op = .call { callee := .builtin .append, args := #[s, x], argTypes := #[t, t] })
    (base : Nat) (e : TypeId) (i : TypeInfo) (z : Value) (size bytes : Nat) (ht : P.underlying t = some (.slice e)) (hi : P.info? e = some i) (hz : i.zero = some z)
    (hsize : i.size = size) (hby : i.bytes = bytes) (hzs : z.cells.size = size) (hsz : 0 < size)
    {v : Value} {n : Nat} {xs : List Value} (hs : a.eval s = v) (hown : w.ownsRow base e size v n xs)
    (b off m c : Nat) (f : Nat → Int) (N : Nat) (hx : a.eval x = .slice (some ⟨b, off, none⟩) m c) (hc : CAt w b N f) (hm : off + m * size ≤ N)
    (h63 : n + m ≤ maxLen) (hbytes : (n + m) * bytes ≤ 140737488355328) (hbase : base ≤ w.heap.size)
    (h : ∀ v' w', w'.ownsRow base e size v' (n + m) (xs ++ (mk (m * size) fun j => f (off + j)).toList) → Below base w w' → w.grownBy w' v.ownBlock → K (a.put o.dst v') w') : o.wp P a w K Q :=
  Go.wp_append_own w s x t ho base e i z size bytes ht hi hz hsize hby hzs hsz v n xs hs hown ⟨b, off, none⟩ m c (mk (m * size) fun j => f (off + j)).toList hx (by rw [mk_len]) (fun j u hj => by
      have := hc.range off (m * size) hm j u hj
      unfold Addr.add
      by_cases h0 : j = 0
      · subst h0; simpa using this
      · simpa [h0] using this) (fun u hu => by
      obtain ⟨i, _, rfl⟩ := mk_mem (by simpa using hu); rfl) h63 hbytes hbase
    fun v' w' h2 h3 _ => h v' w' h2 ((Below.refl base w).grown h3 hbase fun k hk => (hown.lt k hk).1) h3
/-- '[]T{}' at the operation. -/
theorem wp_build0 {P : Program} {w : World} {o : Oper} {a : Act} {K : Act → World → Prop} {Q : Exit → Act → World → Prop} (t e : TypeId) (ho : o.op = .buildSlice t 0 #[]) {ie : TypeInfo} {z : Value}
    (hu : P.underlying t = some (.slice e)) (hie : P.info? e = some ie) (_ : ie.zero = some z)
    (h : K (a.put o.dst (.slice (some ⟨w.heap.size, 0, none⟩) 0 0)) (w.alloc (.cells #[] e))) : o.wp P a w K Q := by
  unfold Oper.wp execOp
  simp only [ho, Sem.run_bind]
  have hr : (Instr.buildSlice t 0 #[]).run P w = .ok (.slice (some ⟨w.heap.size, 0, none⟩) 0 0) (w.alloc (.cells #[] e)) := by
    simp [Instr.buildSlice, run_underlying hu, sizeOf, typeInfo, hie, Instr.fill, newRow]
    rw [show (Array.map (fun _ => (default : Value)) (Array.range 0)) = #[] from Array.eq_empty_of_size_eq_zero (by simp)]
  simp only [Array.map_empty, hr, Result.andThen_ok]
  exact h
theorem foldl_set : ∀ (l : List Value) (o : Nat) (cs : Array Value), o + l.length ≤ cs.size →
    ((l.zipIdx o).foldl (fun (cs : Array Value) (x : Value × Nat) => cs.setIfInBounds (0 + x.2) x.1) cs).size = cs.size ∧
    ∀ i, ((l.zipIdx o).foldl (fun (cs : Array Value) (x : Value × Nat) => cs.setIfInBounds (0 + x.2) x.1) cs)[i]? = if o ≤ i ∧ i < o + l.length then l[i - o]? else cs[i]?
  | [], o, cs, h => by simp; intro i h1 h2; omega
  | v :: l, o, cs, h => by
    simp only [List.length_cons] at h
    obtain ⟨h1, h2⟩ := foldl_set l (o + 1) (cs.setIfInBounds (0 + o) v) (by simp; omega)
    rw [List.zipIdx_cons, List.foldl_cons]
    refine ⟨by rw [h1]; simp, fun i => ?_⟩
    rw [h2 i, List.length_cons]
    by_cases hi : o + 1 ≤ i ∧ i < o + 1 + l.length
    · rw [if_pos hi, if_pos (by omega), show i - o = (i - (o + 1)) + 1 by omega, List.getElem?_cons_succ]
    · rw [if_neg hi]
      by_cases ho : i = o
      · subst ho
        rw [if_pos (by omega), Nat.sub_self, Nat.zero_add]
        rw [Array.getElem?_setIfInBounds, if_pos rfl, if_pos (by omega)]
        simp
      · rw [if_neg (by omega), Nat.zero_add, Array.getElem?_setIfInBounds, if_neg (fun e => ho e.symm)]
theorem fill_one {n : Nat} (f : Nat → Int) (cs : Array Value) (hc : cs.size = n) : Instr.fill (fun i => some (i * n, n)) cs [(0, .agg (mk n f))] = some (mk n f) := by
  have hm : (mk n f).size = n := mk_size _ _
  have hl : (mk n f).toList.length = n := mk_len _ _
  unfold Instr.fill
  simp only [Nat.zero_mul]
  have hv : (Value.agg (mk n f)).cells = mk n f := rfl
  rw [hv, if_neg (by simp [hm, hc])]
  unfold Instr.fill
  congr 1
  rw [← Array.foldl_toList, Array.toList_zipIdx]
  obtain ⟨h1, h2⟩ := foldl_set (mk n f).toList 0 cs (by omega)
  apply Array.ext_getElem?
  intro i
  rw [h2 i]
  by_cases hi : i < n
  · rw [if_pos (by omega)]; simp
  · rw [if_neg (by omega), mk_out f (by omega)]; simp; omega
theorem infoB : (Try.prog.info? 26).map (fun i => (i.zero, i.size, i.bytes)) = some (some (.agg (mk 16 fun _ => 0)), 16, 128) := by kernel_rfl
theorem infoR : (Try.prog.info? 22).map (fun i => (i.zero, i.size, i.bytes)) = some (some (.agg (mk 4 fun _ => 0)), 4, 32) := by kernel_rfl
theorem wp_buildB {w : World} {o : Oper} {a : Act} {K : Act → World → Prop} {Q : Exit → Act → World → Prop} (x : Operand) (ho : o.op = .buildSlice 119 1 #[(0, x)]) {f : Nat → Int} (hx : a.eval x = .agg (mk 16 f))
    (h : K (a.put o.dst (.slice (some ⟨w.heap.size, 0, none⟩) 1 1)) (w.alloc (.cells (mk 16 f) 26))) : o.wp Try.prog a w K Q := by
  obtain ⟨i0, hi, hz0, hz1, hz2⟩ := info_parts infoB
  refine Go.wp_buildSlice 119 26 1 #[(0, x)] ho (mk 16 f) i0 _ Try.underlying119 hi hz0 (by rw [hz1]; decide) (by rw [hz1]; decide) ?_ h
  rw [hz1]
  have e : (Array.map (fun (p : Nat × Operand) => (p.1, a.eval p.2)) #[(0, x)]).toList = [(0, .agg (mk 16 f))] := by simp [hx]
  show Instr.fill _ _ (Array.map (fun (p : Nat × Operand) => (p.1, a.eval p.2)) #[(0, x)]).toList = _
  rw [e]
  exact fill_one f _ (by simp)
theorem wpl_buildB {w : World} {ops : Array Oper} {rest : List Oper} {o : Oper} {a : Act} {Q : Exit → Act → World → Prop} (x : Operand) (hg : o.guard = none) (ho : o.op = .buildSlice 119 1 #[(0, x)]) {f : Nat → Int} (hx : a.eval x = .agg (mk 16 f))
    (h : wpList Try.prog ops Q rest (a.put o.dst (.slice (some ⟨w.heap.size, 0, none⟩) 1 1)) (w.alloc (.cells (mk 16 f) 26))) : wpList Try.prog ops Q (o :: rest) a w :=
  wpList_plain hg fun _ hK => wp_buildB x ho hx (hK _ _ h)
/-- What is written behind and ahead of a list that is put among others. -/
theorem add_flat {m : Nat} {L : List (List Int)} (ha : AllL m L) (f : Nat → Int) {k o : Nat} (hk : k ≤ L.length) (ho : k = L.length ∨ o = k * m) :
    (L.take k ++ cl m f :: L.drop k).flatten.map (Value.int .i64) = [] ++ (mk (k * m) fun j => flatF L (0 + j)).toList ++ (mk (1 * m) fun j => f (0 + j)).toList ++ (mk ((L.length - k) * m) fun j => flatF L (o + j)).toList := by
  have h1 : AllL m (L.take k) := fun x hx => ha x (List.mem_of_mem_take hx)
  have h2 : AllL m (L.drop k) := fun x hx => ha x (List.mem_of_mem_drop hx)
  have hl1 : (L.take k).length = k := by rw [List.length_take]; omega
  have hl2 : (L.drop k).length = L.length - k := by rw [List.length_drop]
  have hf1 := flat_len h1
  have hf2 := flat_len h2
  have hsplit : L.flatten = (L.take k).flatten ++ (L.drop k).flatten := by rw [← List.flatten_append, List.take_append_drop]
  rw [hl1] at hf1
  rw [hl2] at hf2
  have e1 : mk (k * m) (flatF (L.take k)) = mk (k * m) fun j => flatF L (0 + j) := mk_congr fun j hj => by
    unfold flatF
    rw [hsplit, Nat.zero_add, List.getD_eq_getElem?_getD, List.getD_eq_getElem?_getD, List.getElem?_append_left (by omega)]
  have e2 : mk ((L.length - k) * m) (flatF (L.drop k)) = mk ((L.length - k) * m) fun j => flatF L (o + j) := mk_congr fun j hj => by
    rcases ho with rfl | rfl
    · simp at hj
    · unfold flatF
      rw [hsplit, List.getD_eq_getElem?_getD, List.getD_eq_getElem?_getD, List.getElem?_append_right (by omega)]
      congr 2; omega
  have e3 : mk (1 * m) (fun j => f (0 + j)) = mk m f := by rw [Nat.one_mul]; exact mk_congr fun j _ => by rw [Nat.zero_add]
  rw [List.flatten_append, List.flatten_cons, List.map_append, List.map_append, flat_mk h1, flat_mk h2, mk_cl, hl1, hl2, e1, e2, e3]
  simp
end Go.Proofs.Ytfjpdopljmilpaa
namespace Go.Proofs.Ytfjpdopljmilpaa
open Go.RowKit Plain
theorem wpl_app {P : Program} {w : World} {ops : Array Oper} {rest : List Oper} {o : Oper} {a : Act} {Q : Exit → Act → World → Prop} (hgd : o.guard = none) (s x : Operand) (t : TypeId)
    (ho : o.op = .call { callee := .builtin .append, args := #[s, x], argTypes := #[t, t] })
    (base : Nat) (e : TypeId) (i : TypeInfo) (z : Value) (size bytes : Nat) (ht : P.underlying t = some (.slice e)) (hi : P.info? e = some i) (hz : i.zero = some z)
    (hsize : i.size = size) (hby : i.bytes = bytes) (hzs : z.cells.size = size) (hsz : 0 < size)
    {v : Value} {n : Nat} {xs : List Value} (hs : a.eval s = v) (hown : w.ownsRow base e size v n xs)
    (b off m c : Nat) (f : Nat → Int) (N : Nat) (hx : a.eval x = .slice (some ⟨b, off, none⟩) m c) (hc : CAt w b N f) (hm : off + m * size ≤ N)
    (h63 : n + m ≤ maxLen) (hbytes : (n + m) * bytes ≤ 140737488355328) (hbase : base ≤ w.heap.size)
    (h : ∀ v' w', w'.ownsRow base e size v' (n + m) (xs ++ (mk (m * size) fun j => f (off + j)).toList) → Below base w w' → w.grownBy w' v.ownBlock → (v'.ownBlock = v.ownBlock ∨ v'.ownBlock = some w.heap.size) → wpList P ops Q rest (a.put o.dst v') w') : wpList P ops Q (o :: rest) a w :=
  Go.wpList_append_own_at w hgd s x t ho base e i z size bytes ht hi hz hsize hby hzs hsz v n xs hs hown ⟨b, off, none⟩ m c (mk (m * size) fun j => f (off + j)).toList hx (by rw [mk_len]) (fun j u hj => by
      have := hc.range off (m * size) hm j u hj
      unfold Addr.add
      by_cases h0 : j = 0
      · subst h0; simpa using this
      · simpa [h0] using this) (fun u hu => by
      obtain ⟨i, _, rfl⟩ := mk_mem (by simpa using hu); rfl) h63 hbytes hbase
    fun v' w' h2 h3 _ h5 => h v' w' h2 ((Below.refl base w).grown h3 hbase fun k hk => (hown.lt k hk).1) h3 h5
/-- One list more, at the end. -/
theorem snoc_flat {m : Nat} (L : List (List Int)) (f : Nat → Int) : (L.flatten.map (Value.int .i64)) ++ (mk (1 * m) fun j => f (0 + j)).toList = (L ++ [cl m f]).flatten.map (Value.int .i64) := by
  have e3 : mk (1 * m) (fun j => f (0 + j)) = mk m f := by rw [Nat.one_mul]; exact mk_congr fun j _ => by rw [Nat.zero_add]
  rw [List.flatten_append, List.map_append, e3, ← mk_cl]
  simp
/-- The same, as a walk spells it. -/
theorem snoc_walk {m : Nat} (L : List (List Int)) (f : Nat → Int) : (List.map (List.map (Value.int .i64)) L).flatten ++ (mk m f).toList = (L ++ [cl m f]).flatten.map (Value.int .i64) := by
  rw [List.flatten_append, List.map_append, ← mk_cl, List.map_flatten]
  simp
theorem OwnsL.wide {t : TypeId} {m b b' : Nat} {w : World} {v : Value} {L : List (List Int)} (h : OwnsL t m w b v L) (hb : b' ≤ b) : OwnsL t m w b' v L := ownsRow_wide h hb
theorem OwnsL.below {t : TypeId} {m b : Nat} {w w' : World} {v : Value} {L : List (List Int)} (h : OwnsL t m w b v L) (hb : Below w.heap.size w w') : OwnsL t m w' b v L := owns_below h hb
theorem OwnsL.alloc {t : TypeId} {m b : Nat} {w : World} {v : Value} {L : List (List Int)} (h : OwnsL t m w b v L) (o : Obj) : OwnsL t m (w.alloc o) b v L := World.ownsRow.alloc h o
theorem OwnsL.made {t : TypeId} {m b : Nat} (w : World) (hb : b ≤ w.heap.size) : OwnsL t m (w.alloc (.cells #[] t)) b (.slice (some ⟨w.heap.size, 0, none⟩) 0 0) [] := World.ownsRow_made (base := b) (e := t) (size := m) w #[] 0 hb (by decide) (by simp)
end Go.Proofs.Ytfjpdopljmilpaa
