/-
  The contracts of the reference's l1Put, l1Own, l10Reach and ReachRule.
-/
import Derived.Test.YtblcojacmjbjcaaRchTop
import Derived.Test.YtblcojacmjbjcaaRuleSpec
namespace Go.Proofs.Ytblcojacmjbjcaa.Plain
theorem putA_at (n : Int) : ∀ (L : List Int) (k : Nat), k ≤ L.length → (∀ j, j < k → L.getD j 0 < n) → putA n L = L.take k ++ putA n (L.drop k)
  | L, 0, _, _ => by simp
  | [], k + 1, h, _ => absurd h (by simp)
  | x :: L, k + 1, h, hk => by
    have h0 : x < n := hk 0 (by omega)
    have ih := putA_at n L k (by simpa using h) (fun j hj => hk (j + 1) (by omega))
    show putA n (x :: L) = x :: (L.take k ++ putA n (L.drop k))
    rw [← ih]
    unfold putA
    rw [if_pos h0]
    cases L <;> rfl
theorem drop_at (L : List Int) {k : Nat} (h : k < L.length) : L.drop k = L.getD k 0 :: L.drop (k + 1) := by
  rw [List.drop_eq_getElem_cons h, List.getD_eq_getElem?_getD, List.getElem?_eq_getElem h]
  rfl
theorem putA_end (n : Int) (L : List Int) (h : ∀ j, j < L.length → L.getD j 0 < n) : putA n L = L ++ [n] := by
  rw [putA_at n L L.length (Nat.le_refl _) h, List.take_length, List.drop_length]; rfl
theorem putA_in (n : Int) (L : List Int) (k : Nat) (hk : k < L.length) (h : ∀ j, j < k → L.getD j 0 < n) (e : L.getD k 0 = n) : putA n L = L := by
  rw [putA_at n L k (by omega) h, drop_at L hk, e]
  unfold putA
  rw [if_neg (by omega), if_pos rfl, ← e, ← drop_at L hk, List.take_append_drop]
theorem putA_mid (n : Int) (L : List Int) (k : Nat) (hk : k < L.length) (h : ∀ j, j < k → L.getD j 0 < n) (e : n < L.getD k 0) : putA n L = L.take k ++ ([n] ++ L.drop k) := by
  rw [putA_at n L k (by omega) h, drop_at L hk]
  unfold putA
  rw [if_neg (by omega), if_neg (by omega)]
  rfl
/-- In all cases in which the number is not there. -/
theorem putA_new (n : Int) (L : List Int) (k : Nat) (hk : k ≤ L.length) (h : ∀ j, j < k → L.getD j 0 < n) (e : k < L.length → n < L.getD k 0) : putA n L = (L.take k ++ [n]) ++ L.drop k := by
  by_cases q : k < L.length
  · rw [putA_mid n L k q h (e q), List.append_assoc]
  · obtain rfl : k = L.length := by omega
    rw [putA_end n L h]; simp
end Go.Proofs.Ytblcojacmjbjcaa.Plain
namespace Go.Proofs.Ytblcojacmjbjcaa
open Go.RowKit Plain Go.Sort Go.Shelf
attribute [local go_sem] store_new
set_option linter.unnecessarySimpa false
set_option linter.unusedVariables false
set_option linter.unusedSimpArgs false
theorem il_news {w : World} {g cap N : Nat} {L : List Int} (h : IL w (.slice (some ⟨g, 0, none⟩) N cap) L) : ∀ j u, (L.map (Value.int .i64))[j]? = some u → w.cell? ((⟨g, 0, none⟩ : Addr).add j) = some u := by
  intro j u hj
  have hlt : j < L.length := by
    rcases Nat.lt_or_ge j L.length with q | q
    · exact q
    · rw [List.getElem?_eq_none (by simpa using q)] at hj; cases hj
  have := h.at hlt
  rw [List.getElem?_map, List.getElem?_eq_getElem hlt] at hj
  rw [List.getD_eq_getElem?_getD, List.getElem?_eq_getElem hlt] at this
  cases hj
  rw [show (⟨g, 0, none⟩ : Addr).add j = ⟨g, j, none⟩ by simp [Addr.add]; intro q; exact q.symm]; exact this
theorem ints_one (L : List Int) : ∀ u ∈ L.map (Value.int .i64), u.oneCell' = true := by
  intro u hu
  obtain ⟨x, _, rfl⟩ := List.mem_map.1 hu
  rfl
set_option maxRecDepth 20000 in
theorem l1Own_any (L : List Int) (g cap : Nat) (w : World) (h : IL w (.slice (some ⟨g, 0, none⟩) L.length cap) L) (hl : L.length ≤ 1000000) :
    Calls Try.prog 92 #[.slice (some ⟨g, 0, none⟩) L.length cap] w fun e w' => ∃ g2 cap2, e = .returned (.slice (some ⟨g2, 0, none⟩) L.length cap2) ∧ w'.ownsRow w.heap.size 3 1 (.slice (some ⟨g2, 0, none⟩) L.length cap2) L.length (L.map (Value.int .i64)) ∧ Below w.heap.size w w' := by
  obtain ⟨i0, hII, hz0, hz1, hz2⟩ := info_parts infoInt
  have ho0 : (w.alloc (.cells #[] 3)).ownsRow w.heap.size 3 1 (.slice (some ⟨w.heap.size, 0, none⟩) 0 0) 0 [] := World.ownsRow_made (base := w.heap.size) (e := 3) (size := 1) w #[] 0 (Nat.le_refl _) (by decide) rfl
  have hb0 : Below w.heap.size w (w.alloc (.cells #[] 3)) := (Below.refl w.heap.size w).alloc (Nat.le_refl _) _
  have HI := Lib.hid (h.below hb0)
  have HB := Lib.hid hb0
  clear h hb0
  go_enter Try.func92, Try.ntmps92
  go_wp2_with (at_builtin; go_loud (refine wpList_append_own _ rfl _ _ 43 rfl w.heap.size 3 i0 (.int .i64 0) 1 8 Try.underlying43 hII hz0 hz1 hz2 rfl (by decide) _ _ _ rfl ho0 ⟨g, 0, none⟩ L.length cap (L.map (Value.int .i64)) rfl (by simp) ?c1 ?c2 ?c3 ?c4 ?c5 ?_))
  case c1 => exact il_news HI.out
  case c2 => exact ints_one L
  case c3 => unfold maxLen; omega
  case c4 => omega
  case c5 => have := HB.out.size; omega
  intro v' w6 hown' hgrow' hnil
  obtain ⟨g2, cap2, rfl⟩ := own_form hown' (fun q => hnil q)
  have HB6 : Hid (Below w.heap.size w w6) := HB.out.grown hgrow' (by have := HB.out.size; omega) (fun k hk => by cases hk; exact Nat.le_refl _)
  have HO6 := Lib.hid hown'
  clear hown' hgrow' hnil ho0
  go_wp2_with fail
  go_ret
  exact ⟨g2, cap2, rfl, HO6.out, HB6.out⟩
theorem cell_new1 (w : World) (v : Value) (t : TypeId) : (w.alloc (.cells #[v] t)).cell? ⟨w.heap.size, 0, none⟩ = some v := by simpa [Addr.add] using cell_one_new w v t 0 v rfl
theorem op_appI {w : World} {o : Oper} {a : Act} {K : Act → World → Prop} {Q : Exit → Act → World → Prop} (s x : Operand)
    (ho : o.op = .call { callee := .builtin .append, args := #[s, x], argTypes := #[43, 43] })
    (base g n c : Nat) (xs : List Int) (hs : a.eval s = .slice (some ⟨g, 0, none⟩) n c) (hown : w.ownsRow base 3 1 (.slice (some ⟨g, 0, none⟩) n c) n (xs.map (Value.int .i64)))
    (ad : Addr) (m cx : Nat) (M : List Int) (hx : a.eval x = .slice (some ad) m cx) (hl : M.length = m) (hnews : ∀ j u, (M.map (Value.int .i64))[j]? = some u → w.cell? (ad.add j) = some u)
    (h63 : n + m ≤ 4000000) (hbase : base ≤ w.heap.size)
    (h : ∀ g' c' w', w'.ownsRow base 3 1 (.slice (some ⟨g', 0, none⟩) (n + m) c') (n + m) ((xs ++ M).map (Value.int .i64)) → Below base w w' → w.grownBy w' (some g) → K (a.put o.dst (.slice (some ⟨g', 0, none⟩) (n + m) c')) w') : o.wp Try.prog a w K Q := by
  obtain ⟨i0, hII, hz0, hz1, hz2⟩ := info_parts infoInt
  obtain ⟨v', w', hr, h2, h3, h4, h5⟩ := run_append_own_at (P := Try.prog) w base 43 o.type 3 i0 (.int .i64 0) 1 8 Try.underlying43 hII hz0 hz1 hz2 rfl (by decide) _ n _ hown ad m cx (M.map (Value.int .i64)) (by simp [hl]) hnews (ints_one M) (by unfold maxLen; omega) (by omega) hbase
  rw [← List.map_append] at h2
  have hlen : (xs ++ M).length = n + m := by
    have := hown.1
    rw [List.length_append, hl]
    simp at this
    omega
  obtain ⟨g', c', rfl⟩ := own_formN hlen h2 (fun q => by have := (h4.1 q).1; cases this)
  unfold Oper.wp execOp
  simp only [ho, resolve, invoke, builtin, Sem.run_bind, Sem.run_pure, Result.andThen_ok, List.map_toArray, List.map_cons, List.map_nil, hs, hx, hr]
  exact h g' c' w' h2 ((Below.refl base w).grown h3 hbase fun k hk => (hown.lt k hk).1) h3
theorem drop_news {w : World} {g cap N k ko : Nat} {L : List Int} (h : IL w (.slice (some ⟨g, 0, none⟩) N cap) L) (hN : L.length = N) (hk : k < N → ko = k) : ∀ j u, ((L.drop k).map (Value.int .i64))[j]? = some u → w.cell? ((⟨g, ko, none⟩ : Addr).add j) = some u := by
  intro j u hj
  rw [List.map_drop, List.getElem?_drop] at hj
  have hlt : k + j < N := by
    rcases Nat.lt_or_ge (k + j) N with q | q
    · exact q
    · rw [List.getElem?_eq_none (by simp; omega)] at hj; cases hj
  have := il_news h (k + j) u hj
  rw [hk (by omega)]
  rw [show (⟨g, 0, none⟩ : Addr).add (k + j) = (⟨g, k, none⟩ : Addr).add j by unfold Addr.add; by_cases q : j = 0 <;> by_cases r : k = 0 <;> simp [q, r]] at this
  exact this
theorem take_news {w : World} {g cap N : Nat} {L : List Int} (h : IL w (.slice (some ⟨g, 0, none⟩) N cap) L) (k : Nat) : ∀ j u, ((L.take k).map (Value.int .i64))[j]? = some u → w.cell? ((⟨g, 0, none⟩ : Addr).add j) = some u := by
  intro j u hj
  refine il_news h j u ?_
  rw [List.map_take] at hj
  rcases Nat.lt_or_ge j k with q | q
  · rw [List.getElem?_take_of_lt q] at hj; exact hj
  · rw [List.getElem?_take_eq_none q] at hj; cases hj
theorem one_news {w : World} {b : Nat} {n : Int} (h : w.cell? ⟨b, 0, none⟩ = some (.int .i64 n)) : ∀ j u, ([n].map (Value.int .i64))[j]? = some u → w.cell? ((⟨b, 0, none⟩ : Addr).add j) = some u := by
  intro j u hj
  cases j with
  | zero => cases hj; simpa [Addr.add] using h
  | succ j => cases hj
theorem grown_cell {w w' : World} {b g : Nat} {v : Value} (hg : w.grownBy w' (some g)) (hb : b < w.heap.size) (hne : b ≠ g) (h : w.cell? ⟨b, 0, none⟩ = some v) : w'.cell? ⟨b, 0, none⟩ = some v := by
  obtain ⟨_, _, _, _, hk⟩ := hg
  have := hk b hb (fun q => hne (by cases q; rfl))
  unfold World.cell? at h ⊢
  rw [this]; exact h
set_option maxRecDepth 20000 in
set_option maxHeartbeats 2000000 in
theorem l1Put_any (L : List Int) (n : Int) (g cap : Nat) (w : World) (h : IL w (.slice (some ⟨g, 0, none⟩) L.length cap) L) (hl : L.length ≤ 1000000) :
    Calls Try.prog 93 #[.slice (some ⟨g, 0, none⟩) L.length cap, .int .i64 n] w fun e w' => ∃ g2 cap2, e = .returned (.slice (some ⟨g2, 0, none⟩) (putA n L).length cap2) ∧ IL w' (.slice (some ⟨g2, 0, none⟩) (putA n L).length cap2) (putA n L) ∧ Below w.heap.size w w' := by
  obtain ⟨i0, hII, hz0, hz1, hz2⟩ := info_parts infoInt
  have hgl := il_len h
  have HI := Lib.hid h
  have HS := Lib.hid (putA_in n L)
  have HW := Lib.hid (putA_new n L)
  clear h
  generalize hN : L.length = N at *
  have HN := Lib.hid hN
  clear hN
  go_enter Try.func93, Try.ntmps93
  go_wp2_with fail
  go_loopg [5] N (fun q s5 wr => ∃ k : Nat, k + q = N ∧ s5 = .int .i64 (k : Int) ∧ Hid (∀ j, j < k → L.getD j 0 < n) ∧ wr = w)
  case atStart => exact ⟨0, by omega, rfl, Lib.hid (fun j hj => absurd hj (by omega)), rfl⟩
  case round =>
    obtain ⟨k, hkq, rfl, HT, rfl⟩ := hrel
    cases gk with
    | zero =>
      have hk : ¬ ((k : Int) < (N : Int)) := by omega
      have hkn : k ≤ N := by omega
      have V := Lib.hid (HW.out k hkn HT.out (fun q => absurd q (by omega)))
      have hk0 : (0 : Int) ≤ (k : Int) := by omega
      clear hkq HW HS
      have hkc : (k : Int) ≤ (cap : Int) := by omega
      have hknI : (k : Int) ≤ (N : Int) := by omega
      have hLN := HN.out
      have hko2 : k < N → (if cap = k then 0 else k) = k := fun q => by rw [if_neg (by omega)]
      go_wp2_with fail
      refine wp_region_held_drew (S := fun _ => True) (by kernel_rfl) trivial (fun hHeld => ?_)
      refine wpAnyH_take (i := 1) (oi := { dst := some 34, op := _, type := _, pos := _, after := _, guard := _ }) (v := .slice (some ⟨g, 0, none⟩) N cap) rfl (by kernel_rfl) (by kernel_rfl) (by kernel_rfl) (fun _ _ _ h => h) (Or.inl ⟨by rfl, by intro w hSw; clear hSw; go_simp; (try with_reducible rfl); (try (by_cases q10 : cap = k <;> simp [q10]))⟩) (by assumption) ?_
      try simp only [Act.put, List.setIfInBounds_toArray, List.set_cons_zero, List.set_cons_succ]
      refine wpAnyH_take (i := 2) (oi := { dst := some 35, op := _, type := _, pos := _, after := _, guard := _ }) (v := .int .i64 (k : Int)) rfl (by kernel_rfl) (by kernel_rfl) (by kernel_rfl) (fun _ _ _ h => h) (Or.inl ⟨by rfl, by intro w hSw; clear hSw; go_simp; (try with_reducible rfl); (try (by_cases q10 : cap = k <;> simp [q10]))⟩) (by assumption) ?_
      try simp only [Act.put, List.setIfInBounds_toArray, List.set_cons_zero, List.set_cons_succ]
      refine wpAnyH_take (i := 3) (oi := { dst := some 36, op := _, type := _, pos := _, after := _, guard := _ }) (v := .slice (some ⟨g, 0, none⟩) k cap) rfl (by kernel_rfl) (by kernel_rfl) (by kernel_rfl) (fun _ _ _ h => h) (Or.inl ⟨by rfl, by intro w hSw; clear hSw; go_simp; (try with_reducible rfl); (try (by_cases q10 : cap = k <;> simp [q10]))⟩) (by assumption) ?_
      try simp only [Act.put, List.setIfInBounds_toArray, List.set_cons_zero, List.set_cons_succ]
      refine wpAnyH_take (i := 5) (oi := { dst := some 38, op := _, type := _, pos := _, after := _, guard := _ }) (v := .int .i64 n) rfl (by kernel_rfl) (by kernel_rfl) (by kernel_rfl) (fun _ _ _ h => h) (Or.inl ⟨by rfl, by intro w hSw; clear hSw; go_simp; (try with_reducible rfl); (try (by_cases q10 : cap = k <;> simp [q10]))⟩) (by assumption) ?_
      try simp only [Act.put, List.setIfInBounds_toArray, List.set_cons_zero, List.set_cons_succ]
      refine wpAnyH_take (i := 8) (oi := { dst := some 41, op := _, type := _, pos := _, after := _, guard := _ }) (v := .slice (some ⟨g, 0, none⟩) N cap) rfl (by kernel_rfl) (by kernel_rfl) (by kernel_rfl) (fun _ _ _ h => h) (Or.inl ⟨by rfl, by intro w hSw; clear hSw; go_simp; (try with_reducible rfl); (try (by_cases q10 : cap = k <;> simp [q10]))⟩) (by assumption) ?_
      try simp only [Act.put, List.setIfInBounds_toArray, List.set_cons_zero, List.set_cons_succ]
      refine wpAnyH_take (i := 9) (oi := { dst := some 42, op := _, type := _, pos := _, after := _, guard := _ }) (v := .int .i64 (k : Int)) rfl (by kernel_rfl) (by kernel_rfl) (by kernel_rfl) (fun _ _ _ h => h) (Or.inl ⟨by rfl, by intro w hSw; clear hSw; go_simp; (try with_reducible rfl); (try (by_cases q10 : cap = k <;> simp [q10]))⟩) (by assumption) ?_
      try simp only [Act.put, List.setIfInBounds_toArray, List.set_cons_zero, List.set_cons_succ]
      refine wpAnyH_take (i := 10) (oi := { dst := some 43, op := _, type := _, pos := _, after := _, guard := _ }) (v := .slice (some ⟨g, (if cap = k then 0 else k), none⟩) (N - k) (cap - k)) rfl (by kernel_rfl) (by kernel_rfl) (by kernel_rfl) (fun _ _ _ h => h) (Or.inl ⟨by rfl, by intro w hSw; clear hSw; go_simp; (try with_reducible rfl); (try (by_cases q10 : cap = k <;> simp [q10]))⟩) (by assumption) ?_
      try simp only [Act.put, List.setIfInBounds_toArray, List.set_cons_zero, List.set_cons_succ]
      generalize (if cap = k then 0 else k) = ko at *
      refine wpAnyH_ready (rs := [0, 6]) (by kernel_rfl) (by simp) ?_
      refine AllReadyH.cons rfl (fun K hK => ?_) (AllReadyH.cons rfl (fun K hK => ?_) AllReadyH.nil)
      · go_simp
        have ho1 : (wr.alloc (.cells #[] 3)).drew.ownsRow wr.heap.size 3 1 (.slice (some ⟨wr.heap.size, 0, none⟩) 0 0) 0 (([] : List Int).map (Value.int .i64)) := World.ownsRow_made (base := wr.heap.size) (e := 3) (size := 1) wr.drew #[] 0 (Nat.le_refl _) (by decide) rfl
        have HB1 : Hid (Below wr.heap.size wr (wr.alloc (.cells #[] 3)).drew) := Lib.hid (((Below.refl wr.heap.size wr).alloc (Nat.le_refl _) _).drew)
        have hs1 : (wr.alloc (.cells #[] 3)).drew.heap.size = wr.heap.size + 1 := by simp
        refine hK.out _ _ trivial (fun hHeld => ?_)
        clear hK K
        generalize (wr.alloc (.cells #[] 3)).drew = w1 at *
        try simp only [Act.put, List.setIfInBounds_toArray, List.set_cons_zero, List.set_cons_succ]
        refine wpAnyH_ready (rs := [4, 6]) (by kernel_rfl) (by simp) ?_
        refine AllReadyH.cons rfl (fun K hK => ?_) (AllReadyH.cons rfl (fun K hK => ?_) AllReadyH.nil)
        · skip
          rw [if_pos (by rfl)]
          refine op_appI _ _ rfl wr.heap.size _ _ _ ([]) rfl ho1 ⟨g, 0, none⟩ _ _ (L.take k) rfl (by simp <;> omega) (take_news (HI.out.below HB1.out) k) (by omega) (by have := HB1.out.size; omega) (fun g5 c5 w5 ho5 hb hgr => ?_)
          have HB5 : Hid (Below wr.heap.size wr w5) := Lib.hid (HB1.out.trans hb)
          refine hK.out _ _ trivial (fun hHeld => ?_)
          clear hK K
          try simp only [Act.put, List.setIfInBounds_toArray, List.set_cons_zero, List.set_cons_succ]
          refine wpAnyH_ready (rs := [6]) (by kernel_rfl) (by simp) ?_
          refine AllReadyH.cons rfl (fun K hK => ?_) AllReadyH.nil
          go_simp
          have ho6 : (w5.alloc (.cells #[.int .i64 n] 3)).ownsRow wr.heap.size 3 1 (.slice (some ⟨g5, 0, none⟩) k c5) k ((L.take k).map (Value.int .i64)) := by
            rw [Nat.zero_add, List.nil_append] at ho5; exact World.ownsRow.alloc ho5 _
          have cb : (w5.alloc (.cells #[.int .i64 n] 3)).cell? ⟨w5.heap.size, 0, none⟩ = some (.int .i64 n) := cell_new1 _ _ _
          have HB6 : Hid (Below wr.heap.size wr (w5.alloc (.cells #[.int .i64 n] 3))) := HB5.out.alloc HB5.out.size _
          refine hK.out _ _ trivial (fun hHeld => ?_)
          clear hK K
          generalize (w5.alloc (.cells #[.int .i64 n] 3)) = w6 at *
          generalize w5.heap.size = b at *
          try simp only [Act.put, List.setIfInBounds_toArray, List.set_cons_zero, List.set_cons_succ]
          refine wpAnyH_ready (rs := [7]) (by kernel_rfl) (by simp) ?_
          refine AllReadyH.cons rfl (fun K hK => ?_) AllReadyH.nil
          rw [if_pos (by rfl)]
          refine op_appI _ _ rfl wr.heap.size _ _ _ (L.take k) rfl ho6 ⟨b, 0, none⟩ _ _ ([n]) rfl (by simp <;> omega) (one_news cb) (by omega) (by have := HB6.out.size; omega) (fun g8 c8 w8 ho8 hb hgr => ?_)
          have HB8 : Hid (Below wr.heap.size wr w8) := Lib.hid (HB6.out.trans hb)
          refine hK.out _ _ trivial (fun hHeld => ?_)
          clear hK K
          try simp only [Act.put, List.setIfInBounds_toArray, List.set_cons_zero, List.set_cons_succ]
          refine wpAnyH_ready (rs := [11]) (by kernel_rfl) (by simp) ?_
          refine AllReadyH.cons rfl (fun K hK => ?_) AllReadyH.nil
          rw [if_pos (by rfl)]
          refine op_appI _ _ rfl wr.heap.size _ _ _ (L.take k ++ [n]) rfl ho8 ⟨g, ko, none⟩ _ _ (L.drop k) rfl (by simp <;> omega) (drop_news (HI.out.below HB8.out) HN.out hko2) (by omega) (by have := HB8.out.size; omega) (fun g9 c9 w9 ho9 hb hgr => ?_)
          have HB9 : Hid (Below wr.heap.size wr w9) := Lib.hid (HB8.out.trans hb)
          refine hK.out _ _ trivial (fun hHeld => ?_)
          clear hK K
          try simp only [Act.put, List.setIfInBounds_toArray, List.set_cons_zero, List.set_cons_succ]
          refine wpAnyH_take (i := 12) (oi := { dst := some 4, op := _, type := _, pos := _, after := _, guard := _ }) (v := .slice (some ⟨g9, 0, none⟩) (k + 1 + (N - k)) c9) rfl (by kernel_rfl) (by kernel_rfl) (by kernel_rfl) (fun _ _ _ h => h) (Or.inl ⟨by rfl, by intro w hSw; clear hSw; go_simp; (try with_reducible rfl); (try (by_cases q10 : cap = k <;> simp [q10]))⟩) (by assumption) ?_
          try simp only [Act.put, List.setIfInBounds_toArray, List.set_cons_zero, List.set_cons_succ]
          refine wpAnyH_done (by kernel_rfl) ?_ _
          have hlen : k + 1 + (N - k) = (putA n L).length := by rw [V.out]; simp; omega
          rw [← V.out, hlen] at ho9
          go_wp2_with fail
          go_ret
          exact ⟨g9, c9, by rw [← hlen]; first | rfl | simp, IL.of_own ho9, HB9.out⟩
        · go_simp
          have ho2 : (w1.alloc (.cells #[.int .i64 n] 3)).ownsRow wr.heap.size 3 1 (.slice (some ⟨wr.heap.size, 0, none⟩) 0 0) 0 (([] : List Int).map (Value.int .i64)) := World.ownsRow.alloc ho1 _
          have cb0 : (w1.alloc (.cells #[.int .i64 n] 3)).cell? ⟨wr.heap.size + 1, 0, none⟩ = some (.int .i64 n) := by rw [← hs1]; exact cell_new1 _ _ _
          have HB2 : Hid (Below wr.heap.size wr (w1.alloc (.cells #[.int .i64 n] 3))) := HB1.out.alloc HB1.out.size _
          have hs2 : wr.heap.size + 1 < (w1.alloc (.cells #[.int .i64 n] 3)).heap.size := by simp; omega
          try rw [hs1]
          refine hK.out _ _ trivial (fun hHeld => ?_)
          clear hK K
          generalize (w1.alloc (.cells #[.int .i64 n] 3)) = w2 at *
          try simp only [Act.put, List.setIfInBounds_toArray, List.set_cons_zero, List.set_cons_succ]
          refine wpAnyH_ready (rs := [4]) (by kernel_rfl) (by simp) ?_
          refine AllReadyH.cons rfl (fun K hK => ?_) AllReadyH.nil
          rw [if_pos (by rfl)]
          refine op_appI _ _ rfl wr.heap.size _ _ _ ([]) rfl ho2 ⟨g, 0, none⟩ _ _ (L.take k) rfl (by simp <;> omega) (take_news (HI.out.below HB2.out) k) (by omega) (by have := HB2.out.size; omega) (fun g5 c5 w5 ho5 hb hgr => ?_)
          have HB5 : Hid (Below wr.heap.size wr w5) := Lib.hid (HB2.out.trans hb)
          refine hK.out _ _ trivial (fun hHeld => ?_)
          clear hK K
          try simp only [Act.put, List.setIfInBounds_toArray, List.set_cons_zero, List.set_cons_succ]
          rw [Nat.zero_add, List.nil_append] at ho5
          have cb := grown_cell hgr hs2 (by omega) cb0
          try rw [Nat.zero_add]
          refine wpAnyH_ready (rs := [7]) (by kernel_rfl) (by simp) ?_
          refine AllReadyH.cons rfl (fun K hK => ?_) AllReadyH.nil
          rw [if_pos (by rfl)]
          refine op_appI _ _ rfl wr.heap.size _ _ _ (L.take k) rfl ho5 ⟨wr.heap.size+1, 0, none⟩ _ _ ([n]) rfl (by simp <;> omega) (one_news cb) (by omega) (by have := HB5.out.size; omega) (fun g8 c8 w8 ho8 hb hgr => ?_)
          have HB8 : Hid (Below wr.heap.size wr w8) := Lib.hid (HB5.out.trans hb)
          refine hK.out _ _ trivial (fun hHeld => ?_)
          clear hK K
          try simp only [Act.put, List.setIfInBounds_toArray, List.set_cons_zero, List.set_cons_succ]
          refine wpAnyH_ready (rs := [11]) (by kernel_rfl) (by simp) ?_
          refine AllReadyH.cons rfl (fun K hK => ?_) AllReadyH.nil
          rw [if_pos (by rfl)]
          refine op_appI _ _ rfl wr.heap.size _ _ _ (L.take k ++ [n]) rfl ho8 ⟨g, ko, none⟩ _ _ (L.drop k) rfl (by simp <;> omega) (drop_news (HI.out.below HB8.out) HN.out hko2) (by omega) (by have := HB8.out.size; omega) (fun g9 c9 w9 ho9 hb hgr => ?_)
          have HB9 : Hid (Below wr.heap.size wr w9) := Lib.hid (HB8.out.trans hb)
          refine hK.out _ _ trivial (fun hHeld => ?_)
          clear hK K
          try simp only [Act.put, List.setIfInBounds_toArray, List.set_cons_zero, List.set_cons_succ]
          refine wpAnyH_take (i := 12) (oi := { dst := some 4, op := _, type := _, pos := _, after := _, guard := _ }) (v := .slice (some ⟨g9, 0, none⟩) (k + 1 + (N - k)) c9) rfl (by kernel_rfl) (by kernel_rfl) (by kernel_rfl) (fun _ _ _ h => h) (Or.inl ⟨by rfl, by intro w hSw; clear hSw; go_simp; (try with_reducible rfl); (try (by_cases q10 : cap = k <;> simp [q10]))⟩) (by assumption) ?_
          try simp only [Act.put, List.setIfInBounds_toArray, List.set_cons_zero, List.set_cons_succ]
          refine wpAnyH_done (by kernel_rfl) ?_ _
          have hlen : k + 1 + (N - k) = (putA n L).length := by rw [V.out]; simp; omega
          rw [← V.out, hlen] at ho9
          go_wp2_with fail
          go_ret
          exact ⟨g9, c9, by rw [← hlen]; first | rfl | simp, IL.of_own ho9, HB9.out⟩
      · go_simp
        have cb0 : (wr.alloc (.cells #[.int .i64 n] 3)).drew.cell? ⟨wr.heap.size, 0, none⟩ = some (.int .i64 n) := cell_new1 _ _ _
        have HB1 : Hid (Below wr.heap.size wr (wr.alloc (.cells #[.int .i64 n] 3)).drew) := Lib.hid (((Below.refl wr.heap.size wr).alloc (Nat.le_refl _) _).drew)
        have hs1 : (wr.alloc (.cells #[.int .i64 n] 3)).drew.heap.size = wr.heap.size + 1 := by simp
        refine hK.out _ _ trivial (fun hHeld => ?_)
        clear hK K
        generalize (wr.alloc (.cells #[.int .i64 n] 3)).drew = w1 at *
        try simp only [Act.put, List.setIfInBounds_toArray, List.set_cons_zero, List.set_cons_succ]
        refine wpAnyH_ready (rs := [0]) (by kernel_rfl) (by simp) ?_
        refine AllReadyH.cons rfl (fun K hK => ?_) AllReadyH.nil
        go_simp
        have ho2 : (w1.alloc (.cells #[] 3)).ownsRow wr.heap.size 3 1 (.slice (some ⟨wr.heap.size + 1, 0, none⟩) 0 0) 0 (([] : List Int).map (Value.int .i64)) := by
          rw [← hs1]; exact World.ownsRow_made (base := wr.heap.size) (e := 3) (size := 1) w1 #[] 0 (by omega) (by decide) rfl
        have cb2 : (w1.alloc (.cells #[] 3)).cell? ⟨wr.heap.size, 0, none⟩ = some (.int .i64 n) := by rw [World.cell?_alloc_some _ _ _ (by rw [cb0]; rfl)]; exact cb0
        have HB2 : Hid (Below wr.heap.size wr (w1.alloc (.cells #[] 3))) := HB1.out.alloc HB1.out.size _
        have hs2 : wr.heap.size < (w1.alloc (.cells #[] 3)).heap.size := by simp; omega
        try rw [hs1]
        refine hK.out _ _ trivial (fun hHeld => ?_)
        clear hK K
        generalize (w1.alloc (.cells #[] 3)) = w2 at *
        try simp only [Act.put, List.setIfInBounds_toArray, List.set_cons_zero, List.set_cons_succ]
        refine wpAnyH_ready (rs := [4]) (by kernel_rfl) (by simp) ?_
        refine AllReadyH.cons rfl (fun K hK => ?_) AllReadyH.nil
        rw [if_pos (by rfl)]
        refine op_appI _ _ rfl wr.heap.size _ _ _ ([]) rfl ho2 ⟨g, 0, none⟩ _ _ (L.take k) rfl (by simp <;> omega) (take_news (HI.out.below HB2.out) k) (by omega) (by have := HB2.out.size; omega) (fun g5 c5 w5 ho5 hb hgr => ?_)
        have HB5 : Hid (Below wr.heap.size wr w5) := Lib.hid (HB2.out.trans hb)
        refine hK.out _ _ trivial (fun hHeld => ?_)
        clear hK K
        try simp only [Act.put, List.setIfInBounds_toArray, List.set_cons_zero, List.set_cons_succ]
        rw [Nat.zero_add, List.nil_append] at ho5
        have cb := grown_cell hgr hs2 (by omega) cb2
        try rw [Nat.zero_add]
        refine wpAnyH_ready (rs := [7]) (by kernel_rfl) (by simp) ?_
        refine AllReadyH.cons rfl (fun K hK => ?_) AllReadyH.nil
        rw [if_pos (by rfl)]
        refine op_appI _ _ rfl wr.heap.size _ _ _ (L.take k) rfl ho5 ⟨wr.heap.size, 0, none⟩ _ _ ([n]) rfl (by simp <;> omega) (one_news cb) (by omega) (by have := HB5.out.size; omega) (fun g8 c8 w8 ho8 hb hgr => ?_)
        have HB8 : Hid (Below wr.heap.size wr w8) := Lib.hid (HB5.out.trans hb)
        refine hK.out _ _ trivial (fun hHeld => ?_)
        clear hK K
        try simp only [Act.put, List.setIfInBounds_toArray, List.set_cons_zero, List.set_cons_succ]
        refine wpAnyH_ready (rs := [11]) (by kernel_rfl) (by simp) ?_
        refine AllReadyH.cons rfl (fun K hK => ?_) AllReadyH.nil
        rw [if_pos (by rfl)]
        refine op_appI _ _ rfl wr.heap.size _ _ _ (L.take k ++ [n]) rfl ho8 ⟨g, ko, none⟩ _ _ (L.drop k) rfl (by simp <;> omega) (drop_news (HI.out.below HB8.out) HN.out hko2) (by omega) (by have := HB8.out.size; omega) (fun g9 c9 w9 ho9 hb hgr => ?_)
        have HB9 : Hid (Below wr.heap.size wr w9) := Lib.hid (HB8.out.trans hb)
        refine hK.out _ _ trivial (fun hHeld => ?_)
        clear hK K
        try simp only [Act.put, List.setIfInBounds_toArray, List.set_cons_zero, List.set_cons_succ]
        refine wpAnyH_take (i := 12) (oi := { dst := some 4, op := _, type := _, pos := _, after := _, guard := _ }) (v := .slice (some ⟨g9, 0, none⟩) (k + 1 + (N - k)) c9) rfl (by kernel_rfl) (by kernel_rfl) (by kernel_rfl) (fun _ _ _ h => h) (Or.inl ⟨by rfl, by intro w hSw; clear hSw; go_simp; (try with_reducible rfl); (try (by_cases q10 : cap = k <;> simp [q10]))⟩) (by assumption) ?_
        try simp only [Act.put, List.setIfInBounds_toArray, List.set_cons_zero, List.set_cons_succ]
        refine wpAnyH_done (by kernel_rfl) ?_ _
        have hlen : k + 1 + (N - k) = (putA n L).length := by rw [V.out]; simp; omega
        rw [← V.out, hlen] at ho9
        go_wp2_with fail
        go_ret
        exact ⟨g9, c9, by rw [← hlen]; first | rfl | simp, IL.of_own ho9, HB9.out⟩
    | succ q =>
      have hk : (k : Int) < (N : Int) := by omega
      have hk0 : (0 : Int) ≤ (k : Int) := by omega
      have c1 := HI.out.at (j := k) (by have := HN.out; omega)
      have HT2 : L.getD k 0 < n → Hid (∀ j, j < k + 1 → L.getD j 0 < n) := fun hx j hj => by
        by_cases e : j = k
        · subst e; exact hx
        · exact HT.out j (by omega)
      have H2 := Lib.hid (HS.out k (by omega) HT.out)
      have H3 := Lib.hid (HW.out k (by omega) HT.out)
      clear HW HS
      generalize L.getD k 0 = t at *
      by_cases ht : t < n
      · have HT3 := HT2 ht
        clear HT2 HT H2 H3
        go_wp2_with fail
        go_roundg q
        case rel => exact ⟨k + 1, by omega, by go_num, HT3, rfl⟩
        case measure => omega
      · clear HT2 HT
        by_cases he : t = n
        · have V := Lib.hid (H2.out he)
          have he2 : n = t := he.symm
          clear H2 H3 he
          subst he2
          go_wp2_with fail
          go_ret
          exact ⟨g, cap, by rw [V.out, HN.out]; rfl, by rw [V.out, HN.out]; exact HI.out, Below.refl _ _⟩
        · have V := Lib.hid (H3.out (fun _ => by omega))
          have hkn : k ≤ N := by omega
          have het : (t = n) = False := by simp [he]
          have hdt : decide (t = n) = false := by simpa using he
          clear H2 H3
          have hkc : (k : Int) ≤ (cap : Int) := by omega
          have hknI : (k : Int) ≤ (N : Int) := by omega
          have hLN := HN.out
          have hko2 : k < N → (if cap = k then 0 else k) = k := fun q => by rw [if_neg (by omega)]
          go_wp2_with fail
          refine wp_region_held_drew (S := fun _ => True) (by kernel_rfl) trivial (fun hHeld => ?_)
          refine wpAnyH_take (i := 1) (oi := { dst := some 34, op := _, type := _, pos := _, after := _, guard := _ }) (v := .slice (some ⟨g, 0, none⟩) N cap) rfl (by kernel_rfl) (by kernel_rfl) (by kernel_rfl) (fun _ _ _ h => h) (Or.inl ⟨by rfl, by intro w hSw; clear hSw; go_simp; (try with_reducible rfl); (try (by_cases q10 : cap = k <;> simp [q10]))⟩) (by assumption) ?_
          try simp only [Act.put, List.setIfInBounds_toArray, List.set_cons_zero, List.set_cons_succ]
          refine wpAnyH_take (i := 2) (oi := { dst := some 35, op := _, type := _, pos := _, after := _, guard := _ }) (v := .int .i64 (k : Int)) rfl (by kernel_rfl) (by kernel_rfl) (by kernel_rfl) (fun _ _ _ h => h) (Or.inl ⟨by rfl, by intro w hSw; clear hSw; go_simp; (try with_reducible rfl); (try (by_cases q10 : cap = k <;> simp [q10]))⟩) (by assumption) ?_
          try simp only [Act.put, List.setIfInBounds_toArray, List.set_cons_zero, List.set_cons_succ]
          refine wpAnyH_take (i := 3) (oi := { dst := some 36, op := _, type := _, pos := _, after := _, guard := _ }) (v := .slice (some ⟨g, 0, none⟩) k cap) rfl (by kernel_rfl) (by kernel_rfl) (by kernel_rfl) (fun _ _ _ h => h) (Or.inl ⟨by rfl, by intro w hSw; clear hSw; go_simp; (try with_reducible rfl); (try (by_cases q10 : cap = k <;> simp [q10]))⟩) (by assumption) ?_
          try simp only [Act.put, List.setIfInBounds_toArray, List.set_cons_zero, List.set_cons_succ]
          refine wpAnyH_take (i := 5) (oi := { dst := some 38, op := _, type := _, pos := _, after := _, guard := _ }) (v := .int .i64 n) rfl (by kernel_rfl) (by kernel_rfl) (by kernel_rfl) (fun _ _ _ h => h) (Or.inl ⟨by rfl, by intro w hSw; clear hSw; go_simp; (try with_reducible rfl); (try (by_cases q10 : cap = k <;> simp [q10]))⟩) (by assumption) ?_
          try simp only [Act.put, List.setIfInBounds_toArray, List.set_cons_zero, List.set_cons_succ]
          refine wpAnyH_take (i := 8) (oi := { dst := some 41, op := _, type := _, pos := _, after := _, guard := _ }) (v := .slice (some ⟨g, 0, none⟩) N cap) rfl (by kernel_rfl) (by kernel_rfl) (by kernel_rfl) (fun _ _ _ h => h) (Or.inl ⟨by rfl, by intro w hSw; clear hSw; go_simp; (try with_reducible rfl); (try (by_cases q10 : cap = k <;> simp [q10]))⟩) (by assumption) ?_
          try simp only [Act.put, List.setIfInBounds_toArray, List.set_cons_zero, List.set_cons_succ]
          refine wpAnyH_take (i := 9) (oi := { dst := some 42, op := _, type := _, pos := _, after := _, guard := _ }) (v := .int .i64 (k : Int)) rfl (by kernel_rfl) (by kernel_rfl) (by kernel_rfl) (fun _ _ _ h => h) (Or.inl ⟨by rfl, by intro w hSw; clear hSw; go_simp; (try with_reducible rfl); (try (by_cases q10 : cap = k <;> simp [q10]))⟩) (by assumption) ?_
          try simp only [Act.put, List.setIfInBounds_toArray, List.set_cons_zero, List.set_cons_succ]
          refine wpAnyH_take (i := 10) (oi := { dst := some 43, op := _, type := _, pos := _, after := _, guard := _ }) (v := .slice (some ⟨g, (if cap = k then 0 else k), none⟩) (N - k) (cap - k)) rfl (by kernel_rfl) (by kernel_rfl) (by kernel_rfl) (fun _ _ _ h => h) (Or.inl ⟨by rfl, by intro w hSw; clear hSw; go_simp; (try with_reducible rfl); (try (by_cases q10 : cap = k <;> simp [q10]))⟩) (by assumption) ?_
          try simp only [Act.put, List.setIfInBounds_toArray, List.set_cons_zero, List.set_cons_succ]
          generalize (if cap = k then 0 else k) = ko at *
          refine wpAnyH_ready (rs := [0, 6]) (by kernel_rfl) (by simp) ?_
          refine AllReadyH.cons rfl (fun K hK => ?_) (AllReadyH.cons rfl (fun K hK => ?_) AllReadyH.nil)
          · go_simp
            have ho1 : (wr.alloc (.cells #[] 3)).drew.ownsRow wr.heap.size 3 1 (.slice (some ⟨wr.heap.size, 0, none⟩) 0 0) 0 (([] : List Int).map (Value.int .i64)) := World.ownsRow_made (base := wr.heap.size) (e := 3) (size := 1) wr.drew #[] 0 (Nat.le_refl _) (by decide) rfl
            have HB1 : Hid (Below wr.heap.size wr (wr.alloc (.cells #[] 3)).drew) := Lib.hid (((Below.refl wr.heap.size wr).alloc (Nat.le_refl _) _).drew)
            have hs1 : (wr.alloc (.cells #[] 3)).drew.heap.size = wr.heap.size + 1 := by simp
            refine hK.out _ _ trivial (fun hHeld => ?_)
            clear hK K
            generalize (wr.alloc (.cells #[] 3)).drew = w1 at *
            try simp only [Act.put, List.setIfInBounds_toArray, List.set_cons_zero, List.set_cons_succ]
            refine wpAnyH_ready (rs := [4, 6]) (by kernel_rfl) (by simp) ?_
            refine AllReadyH.cons rfl (fun K hK => ?_) (AllReadyH.cons rfl (fun K hK => ?_) AllReadyH.nil)
            · skip
              rw [if_pos (by rfl)]
              refine op_appI _ _ rfl wr.heap.size _ _ _ ([]) rfl ho1 ⟨g, 0, none⟩ _ _ (L.take k) rfl (by simp <;> omega) (take_news (HI.out.below HB1.out) k) (by omega) (by have := HB1.out.size; omega) (fun g5 c5 w5 ho5 hb hgr => ?_)
              have HB5 : Hid (Below wr.heap.size wr w5) := Lib.hid (HB1.out.trans hb)
              refine hK.out _ _ trivial (fun hHeld => ?_)
              clear hK K
              try simp only [Act.put, List.setIfInBounds_toArray, List.set_cons_zero, List.set_cons_succ]
              refine wpAnyH_ready (rs := [6]) (by kernel_rfl) (by simp) ?_
              refine AllReadyH.cons rfl (fun K hK => ?_) AllReadyH.nil
              go_simp
              have ho6 : (w5.alloc (.cells #[.int .i64 n] 3)).ownsRow wr.heap.size 3 1 (.slice (some ⟨g5, 0, none⟩) k c5) k ((L.take k).map (Value.int .i64)) := by
                rw [Nat.zero_add, List.nil_append] at ho5; exact World.ownsRow.alloc ho5 _
              have cb : (w5.alloc (.cells #[.int .i64 n] 3)).cell? ⟨w5.heap.size, 0, none⟩ = some (.int .i64 n) := cell_new1 _ _ _
              have HB6 : Hid (Below wr.heap.size wr (w5.alloc (.cells #[.int .i64 n] 3))) := HB5.out.alloc HB5.out.size _
              refine hK.out _ _ trivial (fun hHeld => ?_)
              clear hK K
              generalize (w5.alloc (.cells #[.int .i64 n] 3)) = w6 at *
              generalize w5.heap.size = b at *
              try simp only [Act.put, List.setIfInBounds_toArray, List.set_cons_zero, List.set_cons_succ]
              refine wpAnyH_ready (rs := [7]) (by kernel_rfl) (by simp) ?_
              refine AllReadyH.cons rfl (fun K hK => ?_) AllReadyH.nil
              rw [if_pos (by rfl)]
              refine op_appI _ _ rfl wr.heap.size _ _ _ (L.take k) rfl ho6 ⟨b, 0, none⟩ _ _ ([n]) rfl (by simp <;> omega) (one_news cb) (by omega) (by have := HB6.out.size; omega) (fun g8 c8 w8 ho8 hb hgr => ?_)
              have HB8 : Hid (Below wr.heap.size wr w8) := Lib.hid (HB6.out.trans hb)
              refine hK.out _ _ trivial (fun hHeld => ?_)
              clear hK K
              try simp only [Act.put, List.setIfInBounds_toArray, List.set_cons_zero, List.set_cons_succ]
              refine wpAnyH_ready (rs := [11]) (by kernel_rfl) (by simp) ?_
              refine AllReadyH.cons rfl (fun K hK => ?_) AllReadyH.nil
              rw [if_pos (by rfl)]
              refine op_appI _ _ rfl wr.heap.size _ _ _ (L.take k ++ [n]) rfl ho8 ⟨g, ko, none⟩ _ _ (L.drop k) rfl (by simp <;> omega) (drop_news (HI.out.below HB8.out) HN.out hko2) (by omega) (by have := HB8.out.size; omega) (fun g9 c9 w9 ho9 hb hgr => ?_)
              have HB9 : Hid (Below wr.heap.size wr w9) := Lib.hid (HB8.out.trans hb)
              refine hK.out _ _ trivial (fun hHeld => ?_)
              clear hK K
              try simp only [Act.put, List.setIfInBounds_toArray, List.set_cons_zero, List.set_cons_succ]
              refine wpAnyH_take (i := 12) (oi := { dst := some 4, op := _, type := _, pos := _, after := _, guard := _ }) (v := .slice (some ⟨g9, 0, none⟩) (k + 1 + (N - k)) c9) rfl (by kernel_rfl) (by kernel_rfl) (by kernel_rfl) (fun _ _ _ h => h) (Or.inl ⟨by rfl, by intro w hSw; clear hSw; go_simp; (try with_reducible rfl); (try (by_cases q10 : cap = k <;> simp [q10]))⟩) (by assumption) ?_
              try simp only [Act.put, List.setIfInBounds_toArray, List.set_cons_zero, List.set_cons_succ]
              refine wpAnyH_done (by kernel_rfl) ?_ _
              have hlen : k + 1 + (N - k) = (putA n L).length := by rw [V.out]; simp; omega
              rw [← V.out, hlen] at ho9
              go_wp2_with fail
              go_ret
              exact ⟨g9, c9, by rw [← hlen]; first | rfl | simp, IL.of_own ho9, HB9.out⟩
            · go_simp
              have ho2 : (w1.alloc (.cells #[.int .i64 n] 3)).ownsRow wr.heap.size 3 1 (.slice (some ⟨wr.heap.size, 0, none⟩) 0 0) 0 (([] : List Int).map (Value.int .i64)) := World.ownsRow.alloc ho1 _
              have cb0 : (w1.alloc (.cells #[.int .i64 n] 3)).cell? ⟨wr.heap.size + 1, 0, none⟩ = some (.int .i64 n) := by rw [← hs1]; exact cell_new1 _ _ _
              have HB2 : Hid (Below wr.heap.size wr (w1.alloc (.cells #[.int .i64 n] 3))) := HB1.out.alloc HB1.out.size _
              have hs2 : wr.heap.size + 1 < (w1.alloc (.cells #[.int .i64 n] 3)).heap.size := by simp; omega
              try rw [hs1]
              refine hK.out _ _ trivial (fun hHeld => ?_)
              clear hK K
              generalize (w1.alloc (.cells #[.int .i64 n] 3)) = w2 at *
              try simp only [Act.put, List.setIfInBounds_toArray, List.set_cons_zero, List.set_cons_succ]
              refine wpAnyH_ready (rs := [4]) (by kernel_rfl) (by simp) ?_
              refine AllReadyH.cons rfl (fun K hK => ?_) AllReadyH.nil
              rw [if_pos (by rfl)]
              refine op_appI _ _ rfl wr.heap.size _ _ _ ([]) rfl ho2 ⟨g, 0, none⟩ _ _ (L.take k) rfl (by simp <;> omega) (take_news (HI.out.below HB2.out) k) (by omega) (by have := HB2.out.size; omega) (fun g5 c5 w5 ho5 hb hgr => ?_)
              have HB5 : Hid (Below wr.heap.size wr w5) := Lib.hid (HB2.out.trans hb)
              refine hK.out _ _ trivial (fun hHeld => ?_)
              clear hK K
              try simp only [Act.put, List.setIfInBounds_toArray, List.set_cons_zero, List.set_cons_succ]
              rw [Nat.zero_add, List.nil_append] at ho5
              have cb := grown_cell hgr hs2 (by omega) cb0
              try rw [Nat.zero_add]
              refine wpAnyH_ready (rs := [7]) (by kernel_rfl) (by simp) ?_
              refine AllReadyH.cons rfl (fun K hK => ?_) AllReadyH.nil
              rw [if_pos (by rfl)]
              refine op_appI _ _ rfl wr.heap.size _ _ _ (L.take k) rfl ho5 ⟨wr.heap.size+1, 0, none⟩ _ _ ([n]) rfl (by simp <;> omega) (one_news cb) (by omega) (by have := HB5.out.size; omega) (fun g8 c8 w8 ho8 hb hgr => ?_)
              have HB8 : Hid (Below wr.heap.size wr w8) := Lib.hid (HB5.out.trans hb)
              refine hK.out _ _ trivial (fun hHeld => ?_)
              clear hK K
              try simp only [Act.put, List.setIfInBounds_toArray, List.set_cons_zero, List.set_cons_succ]
              refine wpAnyH_ready (rs := [11]) (by kernel_rfl) (by simp) ?_
              refine AllReadyH.cons rfl (fun K hK => ?_) AllReadyH.nil
              rw [if_pos (by rfl)]
              refine op_appI _ _ rfl wr.heap.size _ _ _ (L.take k ++ [n]) rfl ho8 ⟨g, ko, none⟩ _ _ (L.drop k) rfl (by simp <;> omega) (drop_news (HI.out.below HB8.out) HN.out hko2) (by omega) (by have := HB8.out.size; omega) (fun g9 c9 w9 ho9 hb hgr => ?_)
              have HB9 : Hid (Below wr.heap.size wr w9) := Lib.hid (HB8.out.trans hb)
              refine hK.out _ _ trivial (fun hHeld => ?_)
              clear hK K
              try simp only [Act.put, List.setIfInBounds_toArray, List.set_cons_zero, List.set_cons_succ]
              refine wpAnyH_take (i := 12) (oi := { dst := some 4, op := _, type := _, pos := _, after := _, guard := _ }) (v := .slice (some ⟨g9, 0, none⟩) (k + 1 + (N - k)) c9) rfl (by kernel_rfl) (by kernel_rfl) (by kernel_rfl) (fun _ _ _ h => h) (Or.inl ⟨by rfl, by intro w hSw; clear hSw; go_simp; (try with_reducible rfl); (try (by_cases q10 : cap = k <;> simp [q10]))⟩) (by assumption) ?_
              try simp only [Act.put, List.setIfInBounds_toArray, List.set_cons_zero, List.set_cons_succ]
              refine wpAnyH_done (by kernel_rfl) ?_ _
              have hlen : k + 1 + (N - k) = (putA n L).length := by rw [V.out]; simp; omega
              rw [← V.out, hlen] at ho9
              go_wp2_with fail
              go_ret
              exact ⟨g9, c9, by rw [← hlen]; first | rfl | simp, IL.of_own ho9, HB9.out⟩
          · go_simp
            have cb0 : (wr.alloc (.cells #[.int .i64 n] 3)).drew.cell? ⟨wr.heap.size, 0, none⟩ = some (.int .i64 n) := cell_new1 _ _ _
            have HB1 : Hid (Below wr.heap.size wr (wr.alloc (.cells #[.int .i64 n] 3)).drew) := Lib.hid (((Below.refl wr.heap.size wr).alloc (Nat.le_refl _) _).drew)
            have hs1 : (wr.alloc (.cells #[.int .i64 n] 3)).drew.heap.size = wr.heap.size + 1 := by simp
            refine hK.out _ _ trivial (fun hHeld => ?_)
            clear hK K
            generalize (wr.alloc (.cells #[.int .i64 n] 3)).drew = w1 at *
            try simp only [Act.put, List.setIfInBounds_toArray, List.set_cons_zero, List.set_cons_succ]
            refine wpAnyH_ready (rs := [0]) (by kernel_rfl) (by simp) ?_
            refine AllReadyH.cons rfl (fun K hK => ?_) AllReadyH.nil
            go_simp
            have ho2 : (w1.alloc (.cells #[] 3)).ownsRow wr.heap.size 3 1 (.slice (some ⟨wr.heap.size + 1, 0, none⟩) 0 0) 0 (([] : List Int).map (Value.int .i64)) := by
              rw [← hs1]; exact World.ownsRow_made (base := wr.heap.size) (e := 3) (size := 1) w1 #[] 0 (by omega) (by decide) rfl
            have cb2 : (w1.alloc (.cells #[] 3)).cell? ⟨wr.heap.size, 0, none⟩ = some (.int .i64 n) := by rw [World.cell?_alloc_some _ _ _ (by rw [cb0]; rfl)]; exact cb0
            have HB2 : Hid (Below wr.heap.size wr (w1.alloc (.cells #[] 3))) := HB1.out.alloc HB1.out.size _
            have hs2 : wr.heap.size < (w1.alloc (.cells #[] 3)).heap.size := by simp; omega
            try rw [hs1]
            refine hK.out _ _ trivial (fun hHeld => ?_)
            clear hK K
            generalize (w1.alloc (.cells #[] 3)) = w2 at *
            try simp only [Act.put, List.setIfInBounds_toArray, List.set_cons_zero, List.set_cons_succ]
            refine wpAnyH_ready (rs := [4]) (by kernel_rfl) (by simp) ?_
            refine AllReadyH.cons rfl (fun K hK => ?_) AllReadyH.nil
            rw [if_pos (by rfl)]
            refine op_appI _ _ rfl wr.heap.size _ _ _ ([]) rfl ho2 ⟨g, 0, none⟩ _ _ (L.take k) rfl (by simp <;> omega) (take_news (HI.out.below HB2.out) k) (by omega) (by have := HB2.out.size; omega) (fun g5 c5 w5 ho5 hb hgr => ?_)
            have HB5 : Hid (Below wr.heap.size wr w5) := Lib.hid (HB2.out.trans hb)
            refine hK.out _ _ trivial (fun hHeld => ?_)
            clear hK K
            try simp only [Act.put, List.setIfInBounds_toArray, List.set_cons_zero, List.set_cons_succ]
            rw [Nat.zero_add, List.nil_append] at ho5
            have cb := grown_cell hgr hs2 (by omega) cb2
            try rw [Nat.zero_add]
            refine wpAnyH_ready (rs := [7]) (by kernel_rfl) (by simp) ?_
            refine AllReadyH.cons rfl (fun K hK => ?_) AllReadyH.nil
            rw [if_pos (by rfl)]
            refine op_appI _ _ rfl wr.heap.size _ _ _ (L.take k) rfl ho5 ⟨wr.heap.size, 0, none⟩ _ _ ([n]) rfl (by simp <;> omega) (one_news cb) (by omega) (by have := HB5.out.size; omega) (fun g8 c8 w8 ho8 hb hgr => ?_)
            have HB8 : Hid (Below wr.heap.size wr w8) := Lib.hid (HB5.out.trans hb)
            refine hK.out _ _ trivial (fun hHeld => ?_)
            clear hK K
            try simp only [Act.put, List.setIfInBounds_toArray, List.set_cons_zero, List.set_cons_succ]
            refine wpAnyH_ready (rs := [11]) (by kernel_rfl) (by simp) ?_
            refine AllReadyH.cons rfl (fun K hK => ?_) AllReadyH.nil
            rw [if_pos (by rfl)]
            refine op_appI _ _ rfl wr.heap.size _ _ _ (L.take k ++ [n]) rfl ho8 ⟨g, ko, none⟩ _ _ (L.drop k) rfl (by simp <;> omega) (drop_news (HI.out.below HB8.out) HN.out hko2) (by omega) (by have := HB8.out.size; omega) (fun g9 c9 w9 ho9 hb hgr => ?_)
            have HB9 : Hid (Below wr.heap.size wr w9) := Lib.hid (HB8.out.trans hb)
            refine hK.out _ _ trivial (fun hHeld => ?_)
            clear hK K
            try simp only [Act.put, List.setIfInBounds_toArray, List.set_cons_zero, List.set_cons_succ]
            refine wpAnyH_take (i := 12) (oi := { dst := some 4, op := _, type := _, pos := _, after := _, guard := _ }) (v := .slice (some ⟨g9, 0, none⟩) (k + 1 + (N - k)) c9) rfl (by kernel_rfl) (by kernel_rfl) (by kernel_rfl) (fun _ _ _ h => h) (Or.inl ⟨by rfl, by intro w hSw; clear hSw; go_simp; (try with_reducible rfl); (try (by_cases q10 : cap = k <;> simp [q10]))⟩) (by assumption) ?_
            try simp only [Act.put, List.setIfInBounds_toArray, List.set_cons_zero, List.set_cons_succ]
            refine wpAnyH_done (by kernel_rfl) ?_ _
            have hlen : k + 1 + (N - k) = (putA n L).length := by rw [V.out]; simp; omega
            rw [← V.out, hlen] at ho9
            go_wp2_with fail
            go_ret
            exact ⟨g9, c9, by rw [← hlen]; first | rfl | simp, IL.of_own ho9, HB9.out⟩
end Go.Proofs.Ytblcojacmjbjcaa
