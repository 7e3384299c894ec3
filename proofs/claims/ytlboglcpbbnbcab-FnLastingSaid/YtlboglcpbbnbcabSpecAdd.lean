/-
  The contract of the reference's l3Add: a board put to its place in a row of boards.
-/
import Derived.Test.YtlboglcpbbnbcabRowsKit
import Derived.Test.YtlboglcpbbnbcabBefore
namespace Go.Proofs.Ytlboglcpbbnbcab
open Go.RowKit Plain
attribute [local go_sem] Oper.semAt_some
set_option linter.unusedVariables false
set_option linter.unusedSimpArgs false

theorem heldA_step {w W w6 : World} {b c n m : Nat} {h f : Nat → Int} {t : TypeId} (q : CAt W b n h ∧ Blk W c m f t ∧ Below w.heap.size w W) (hb : Below W.heap.size W w6) : CAt w6 b n h ∧ Blk w6 c m f t ∧ Below w.heap.size w w6 :=
  ⟨q.1.below hb, q.2.1.below hb q.2.1.lt, q.2.2.trans (hb.mono q.2.2.size)⟩
theorem lt_less {L : List (List Int)} (ha : AllL 16 L) {k : Nat} {l : List Int} (h : L[k]? = some l) (f : Nat → Int) : lt 16 l (cl 16 f) = lessB (fun j => flatF L (k * 16 + j)) f := by
  unfold lt lessB
  rw [Bool.eq_iff_iff, decide_eq_true_iff, decide_eq_true_iff]
  exact lessN_congr (fun i hi => (flatF_at ha h hi).symm) (fn_cl f)
theorem eq_same {L : List (List Int)} (ha : AllL 16 L) {k : Nat} {l : List Int} (h : L[k]? = some l) (f : Nat → Int) : l = cl 16 f ↔ sameB (fun j => flatF L (k * 16 + j)) f = true := by
  rw [sameB_iff, ← cl_fn (ha l (List.mem_of_getElem? h)), cl_inj]
  constructor
  · intro e i hi; rw [flatF_at ha h hi]; exact e i hi
  · intro e i hi; rw [← flatF_at ha h hi]; exact e i hi
theorem infoBoard : (Try.prog.info? 29).map (fun i => (i.zero, i.size, i.bytes)) = some (some (.agg (mk 16 fun _ => 0)), 16, 128) := by kernel_rfl

set_option maxHeartbeats 4000000 in
set_option maxRecDepth 20000 in
theorem l3Add_any (g cap base : Nat) (L : List (List Int)) (f : Nat → Int) (w : World) (ha : AllL 16 L) (hn : L.length ≤ 65536) (ho : OwnsL 29 16 w base (.slice (some ⟨g, 0, none⟩) L.length cap) L) :
    Calls Try.prog 158 #[.slice (some ⟨g, 0, none⟩) L.length cap, .agg (mk 16 f)] w fun e w' => ∃ g' cap', e = .returned (.slice (some ⟨g', 0, none⟩) (insL (lt 16) L (cl 16 f)).length cap') ∧
      OwnsL 29 16 w' base (.slice (some ⟨g', 0, none⟩) (insL (lt 16) L (cl 16 f)).length cap') (insL (lt 16) L (cl 16 f)) ∧ Below w.heap.size w w' := by
  obtain ⟨i0, hi, hz0, hz1, hz2⟩ := info_parts infoBoard
  have HO := Lib.hid ho
  obtain ⟨_, _, e1, hcap, hc⟩ := KRow.of_list ha ho
  cases e1
  have K3 := Blk.new w 16 f 29
  have HB := Lib.hid ((Below.refl w.heap.size w).alloc (Nat.le_refl _) (.cells (mk 16 f) 29))
  have HC : CAt (w.alloc (.cells (mk 16 f) 29)) g (L.length * 16) (flatF L) := hc.below ((Below.refl _ w).alloc (Nat.le_refl _) _)
  have hgw : g < w.heap.size := hc.1
  have HLT := Lib.hid (fun k l (e : L[k]? = some l) => lt_less ha e f)
  have HEQ := Lib.hid (fun k l (e : L[k]? = some l) => eq_same ha e f)
  have HGE := Lib.hid (fun k (hk : k < L.length) => (show ∃ l, L[k]? = some l from ⟨L[k], List.getElem?_eq_getElem hk⟩))
  have HPL := Lib.hid (plc_eq (lt 16) (cl 16 f) L)
  generalize hN : L.length = n at *
  generalize hH : flatF L = h at *
  clear hc ho
  go_enter Try.func158, Try.ntmps158
  go_wp2_with fail
  generalize w.alloc (.cells (mk 16 f) 29) = w1 at *
  go_loopw [5] (fun i wr => ∃ k : Nat, k ≤ n ∧ i = .int .i64 k ∧ (∀ j x, j < k → L[j]? = some x → lt 16 x (cl 16 f) = true) ∧ CAt wr g (n * 16) h ∧ Blk wr w.heap.size 16 f 29 ∧ Hid (Below w.heap.size w wr)) (fun i _ => n - (intOf i).toNat)
  case atStart => exact ⟨0, Nat.zero_le _, rfl, fun j x hj => by omega, HC, K3, HB⟩
  case round =>
    obtain ⟨k, hk, rfl, hp, k1, k3, hb⟩ := hrel
    have HP := Lib.hid hp
    clear hp HC K3 HB
    by_cases hlt : k < n
    · have hk0 : (0 : Int) ≤ (k : Int) := by omega
      have hl : (k : Int) < (n : Int) := by omega
      obtain ⟨l, hkl⟩ := HGE.out k hlt
      have HKL := Lib.hid hkl
      have HL := Lib.hid (HLT.out k l hkl)
      have HE := Lib.hid (HEQ.out k l hkl)
      clear hkl
      have a0 := fun (W : World) (q : CAt W g (n * 16) h) => q.2 (k * 16) (by omega)
      have a1 := fun (W : World) (q : CAt W g (n * 16) h) => q.2 (k * 16 + 1) (by omega)
      have a2 := fun (W : World) (q : CAt W g (n * 16) h) => q.2 (k * 16 + 2) (by omega)
      have a3 := fun (W : World) (q : CAt W g (n * 16) h) => q.2 (k * 16 + 3) (by omega)
      have a4 := fun (W : World) (q : CAt W g (n * 16) h) => q.2 (k * 16 + 4) (by omega)
      have a5 := fun (W : World) (q : CAt W g (n * 16) h) => q.2 (k * 16 + 5) (by omega)
      have a6 := fun (W : World) (q : CAt W g (n * 16) h) => q.2 (k * 16 + 6) (by omega)
      have a7 := fun (W : World) (q : CAt W g (n * 16) h) => q.2 (k * 16 + 7) (by omega)
      have a8 := fun (W : World) (q : CAt W g (n * 16) h) => q.2 (k * 16 + 8) (by omega)
      have a9 := fun (W : World) (q : CAt W g (n * 16) h) => q.2 (k * 16 + 9) (by omega)
      have a10 := fun (W : World) (q : CAt W g (n * 16) h) => q.2 (k * 16 + 10) (by omega)
      have a11 := fun (W : World) (q : CAt W g (n * 16) h) => q.2 (k * 16 + 11) (by omega)
      have a12 := fun (W : World) (q : CAt W g (n * 16) h) => q.2 (k * 16 + 12) (by omega)
      have a13 := fun (W : World) (q : CAt W g (n * 16) h) => q.2 (k * 16 + 13) (by omega)
      have a14 := fun (W : World) (q : CAt W g (n * 16) h) => q.2 (k * 16 + 14) (by omega)
      have a15 := fun (W : World) (q : CAt W g (n * 16) h) => q.2 (k * 16 + 15) (by omega)
      have d0 := fun (W : World) (q : Blk W w.heap.size 16 f 29) => q.cell (i := 0) (by omega)
      have d1 := fun (W : World) (q : Blk W w.heap.size 16 f 29) => q.cell (i := 1) (by omega)
      have d2 := fun (W : World) (q : Blk W w.heap.size 16 f 29) => q.cell (i := 2) (by omega)
      have d3 := fun (W : World) (q : Blk W w.heap.size 16 f 29) => q.cell (i := 3) (by omega)
      have d4 := fun (W : World) (q : Blk W w.heap.size 16 f 29) => q.cell (i := 4) (by omega)
      have d5 := fun (W : World) (q : Blk W w.heap.size 16 f 29) => q.cell (i := 5) (by omega)
      have d6 := fun (W : World) (q : Blk W w.heap.size 16 f 29) => q.cell (i := 6) (by omega)
      have d7 := fun (W : World) (q : Blk W w.heap.size 16 f 29) => q.cell (i := 7) (by omega)
      have d8 := fun (W : World) (q : Blk W w.heap.size 16 f 29) => q.cell (i := 8) (by omega)
      have d9 := fun (W : World) (q : Blk W w.heap.size 16 f 29) => q.cell (i := 9) (by omega)
      have d10 := fun (W : World) (q : Blk W w.heap.size 16 f 29) => q.cell (i := 10) (by omega)
      have d11 := fun (W : World) (q : Blk W w.heap.size 16 f 29) => q.cell (i := 11) (by omega)
      have d12 := fun (W : World) (q : Blk W w.heap.size 16 f 29) => q.cell (i := 12) (by omega)
      have d13 := fun (W : World) (q : Blk W w.heap.size 16 f 29) => q.cell (i := 13) (by omega)
      have d14 := fun (W : World) (q : Blk W w.heap.size 16 f 29) => q.cell (i := 14) (by omega)
      have d15 := fun (W : World) (q : Blk W w.heap.size 16 f 29) => q.cell (i := 15) (by omega)
      have ae : (#[.int .i64 (h (k * 16)), .int .i64 (h (k * 16 + 1)), .int .i64 (h (k * 16 + 2)), .int .i64 (h (k * 16 + 3)), .int .i64 (h (k * 16 + 4)), .int .i64 (h (k * 16 + 5)), .int .i64 (h (k * 16 + 6)), .int .i64 (h (k * 16 + 7)), .int .i64 (h (k * 16 + 8)), .int .i64 (h (k * 16 + 9)), .int .i64 (h (k * 16 + 10)), .int .i64 (h (k * 16 + 11)), .int .i64 (h (k * 16 + 12)), .int .i64 (h (k * 16 + 13)), .int .i64 (h (k * 16 + 14)), .int .i64 (h (k * 16 + 15))] : Array Value) = mk 16 (fun j => h (k * 16 + j)) := rfl
      have de : (#[.int .i64 (f 0), .int .i64 (f 1), .int .i64 (f 2), .int .i64 (f 3), .int .i64 (f 4), .int .i64 (f 5), .int .i64 (f 6), .int .i64 (f 7), .int .i64 (f 8), .int .i64 (f 9), .int .i64 (f 10), .int .i64 (f 11), .int .i64 (f 12), .int .i64 (f 13), .int .i64 (f 14), .int .i64 (f 15)] : Array Value) = mk 16 (f) := rfl
      go_wp2_with fail
      go_region_held3 (fun w' => CAt w' g (n * 16) h ∧ Blk w' w.heap.size 16 f 29 ∧ Below w.heap.size w w') (first | exact ⟨k1, k3.drew, hb.out.drew⟩ | assumption) (first | (go_at_call 172; refine (l2Before_any _ _ _).mono ?_; rintro e w6 ⟨rfl, hb6⟩; have J := heldA_step (by assumption) hb6; clear hb6) | fail)
      all_goals
        clear a0 a1 a2 a3 a4 a5 a6 a7 a8 a9 a10 a11 a12 a13 a14 a15 d0 d1 d2 d3 d4 d5 d6 d7 d8 d9 d10 d11 d12 d13 d14 d15 ae de
        cases hq : lessB (fun j => h (k * 16 + j)) f with
        | true =>
          have HL2 : Hid (lt 16 l (cl 16 f) = true) := HL.out.trans hq
          clear hq
          go_wp2_with fail
          go_roundw
          case rel => exact ⟨k + 1, by omega, by go_num, fun j x hj hx => by
            rcases (by omega : j < k ∨ j = k) with r | rfl
            · exact HP.out j x r hx
            · rw [HKL.out] at hx; cases hx; exact HL2.out, And.left (by assumption), And.left (And.right (by assumption)), And.right (And.right (by assumption))⟩
          case measure => simp [intOf]; omega
        | false =>
          have HL2 : Hid (lt 16 l (cl 16 f) = false) := HL.out.trans hq
          have HK : Hid (plcL (lt 16) (cl 16 f) L = k) := HPL.out k (by omega) (fun j x hj hx => HP.out j x hj hx) (fun x hx => by rw [HKL.out] at hx; cases hx; exact HL2.out)
          clear hq
          have S1 : CAt w6 g (n * 16) h ∧ Blk w6 w.heap.size 16 f 29 ∧ Below w.heap.size w w6 := by assumption
          obtain ⟨k1, k3, hb⟩ := S1
          have HB := Lib.hid hb
          clear hb
          have iE : ∀ (w : World), (Op.equalIn 10000 29 (.agg (mk 16 fun j => h (k * 16 + j))) (.agg (mk 16 f))).run Try.prog w = .ok (sameB (fun j => h (k * 16 + j)) f) w := fun w => eqB 9996 _ _ w
          have HE2 := Lib.hid HE.out
          generalize hr : sameB (fun j => h (k * 16 + j)) f = r at *
          have HR := Lib.hid hr
          clear hr
          have hb := HB
          go_wp2_with fail
          refine wp_region_held_drew (S := fun W => CAt W g (n * 16) h ∧ Blk W w.heap.size 16 f 29 ∧ Below w.heap.size w W) (by kernel_rfl) (⟨k1.drew, k3.drew, hb.out.drew⟩) (fun hHeld => ?_)
          refine wpAnyH_take (i := 0) (oi := { dst := some 20, op := _, type := _, pos := _, after := _, guard := _ }) (v := .int .i64 (k : Int)) rfl (by kernel_rfl) (by kernel_rfl) (by kernel_rfl) (fun _ _ _ h => h) (Or.inl ⟨by rfl, by intro w hSw; clear hSw; go_simp; (try with_reducible rfl)⟩) (by assumption) ?_
          try simp only [Act.put, List.setIfInBounds_toArray, List.set_cons_zero, List.set_cons_succ]
          refine wpAnyH_take (i := 1) (oi := { dst := some 21, op := _, type := _, pos := _, after := _, guard := _ }) (v := .slice (some ⟨g, 0, none⟩) n cap) rfl (by kernel_rfl) (by kernel_rfl) (by kernel_rfl) (fun _ _ _ h => h) (Or.inl ⟨by rfl, by intro w hSw; clear hSw; go_simp; (try with_reducible rfl)⟩) (by assumption) ?_
          try simp only [Act.put, List.setIfInBounds_toArray, List.set_cons_zero, List.set_cons_succ]
          refine wpAnyH_take (i := 2) (oi := { dst := some 22, op := _, type := _, pos := _, after := _, guard := _ }) (v := .int .i64 (n : Int)) rfl (by kernel_rfl) (by kernel_rfl) (by kernel_rfl) (fun _ _ _ h => h) (Or.inl ⟨by rfl, by intro w hSw; clear hSw; go_simp; (try with_reducible rfl)⟩) (by assumption) ?_
          try simp only [Act.put, List.setIfInBounds_toArray, List.set_cons_zero, List.set_cons_succ]
          refine wpAnyH_take (i := 3) (oi := { dst := some 23, op := _, type := _, pos := _, after := _, guard := _ }) (v := .bool true) rfl (by kernel_rfl) (by kernel_rfl) (by kernel_rfl) (fun _ _ _ h => h) (Or.inl ⟨by rfl, by intro w hSw; clear hSw; go_simp; (try with_reducible rfl)⟩) (by assumption) ?_
          try simp only [Act.put, List.setIfInBounds_toArray, List.set_cons_zero, List.set_cons_succ]
          refine wpAnyH_take (i := 4) (oi := { dst := some 24, op := _, type := _, pos := _, after := _, guard := _ }) (v := .bool true) rfl (by kernel_rfl) (by kernel_rfl) (by kernel_rfl) (fun _ _ _ h => h) (Or.inl ⟨by rfl, by intro w hSw; clear hSw; go_simp; (try with_reducible rfl)⟩) (by assumption) ?_
          try simp only [Act.put, List.setIfInBounds_toArray, List.set_cons_zero, List.set_cons_succ]
          refine wpAnyH_take (i := 5) (oi := { dst := some 25, op := _, type := _, pos := _, after := _, guard := _ }) (v := .slice (some ⟨g, 0, none⟩) n cap) rfl (by kernel_rfl) (by kernel_rfl) (by kernel_rfl) (fun _ _ _ h => h) (Or.inl ⟨by rfl, by intro w hSw; clear hSw; go_simp; (try with_reducible rfl)⟩) (by assumption) ?_
          try simp only [Act.put, List.setIfInBounds_toArray, List.set_cons_zero, List.set_cons_succ]
          refine wpAnyH_take (i := 6) (oi := { dst := some 26, op := _, type := _, pos := _, after := _, guard := _ }) (v := .int .i64 (k : Int)) rfl (by kernel_rfl) (by kernel_rfl) (by kernel_rfl) (fun _ _ _ h => h) (Or.inl ⟨by rfl, by intro w hSw; clear hSw; go_simp; (try with_reducible rfl)⟩) (by assumption) ?_
          try simp only [Act.put, List.setIfInBounds_toArray, List.set_cons_zero, List.set_cons_succ]
          refine wpAnyH_take (i := 7) (oi := { dst := some 27, op := _, type := _, pos := _, after := _, guard := _ }) (v := .pointer (some ⟨g, k * 16, none⟩)) rfl (by kernel_rfl) (by kernel_rfl) (by kernel_rfl) (fun _ _ _ h => h) (Or.inl ⟨by rfl, by intro w hSw; clear hSw; go_simp; (try with_reducible rfl)⟩) (by assumption) ?_
          try simp only [Act.put, List.setIfInBounds_toArray, List.set_cons_zero, List.set_cons_succ]
          refine wpAnyH_take (i := 8) (oi := { dst := some 28, op := _, type := _, pos := _, after := _, guard := _ }) (v := .agg (mk 16 fun j => h (k * 16 + j))) rfl (by kernel_rfl) (by kernel_rfl) (by kernel_rfl) (fun _ _ _ h => h) (Or.inl ⟨by rfl, fun _ q => execAB q.1 (by omega) rfl rfl⟩) (by assumption) ?_
          try simp only [Act.put, List.setIfInBounds_toArray, List.set_cons_zero, List.set_cons_succ]
          refine wpAnyH_take (i := 9) (oi := { dst := some 29, op := _, type := _, pos := _, after := _, guard := _ }) (v := .agg (mk 16 f)) rfl (by kernel_rfl) (by kernel_rfl) (by kernel_rfl) (fun _ _ _ h => h) (Or.inl ⟨by rfl, fun _ q => execB q.2.1 rfl rfl⟩) (by assumption) ?_
          try simp only [Act.put, List.setIfInBounds_toArray, List.set_cons_zero, List.set_cons_succ]
          refine wpAnyH_take (i := 10) (oi := { dst := some 30, op := _, type := _, pos := _, after := _, guard := _ }) (v := .bool r) rfl (by kernel_rfl) (by kernel_rfl) (by kernel_rfl) (fun _ _ _ h => h) (Or.inl ⟨by rfl, by intro W hSw; clear hSw; have iE2 := iE W; go_simp⟩) (by assumption) ?_
          try simp only [Act.put, List.setIfInBounds_toArray, List.set_cons_zero, List.set_cons_succ]
          refine wpAnyH_take (i := 11) (oi := { dst := some 31, op := _, type := _, pos := _, after := _, guard := _ }) (v := .bool r) rfl (by kernel_rfl) (by kernel_rfl) (by kernel_rfl) (fun _ _ _ h => h) (Or.inl ⟨by rfl, by intro w hSw; clear hSw; go_simp; (try with_reducible rfl)⟩) (by assumption) ?_
          try simp only [Act.put, List.setIfInBounds_toArray, List.set_cons_zero, List.set_cons_succ]
          refine wpAnyH_done (by kernel_rfl) ?_ _
          clear iE
          cases r with
          | true =>
            have HI : Hid (insL (lt 16) L (cl 16 f) = L) := ins_same _ (by rw [HK.out, HKL.out, (HE.out).2 rfl])
            go_wp2_with fail
            go_ret
            rw [HI.out, hN]
            exact ⟨g, cap, rfl, owns_below HO.out hb.out.drew, hb.out.drew⟩
          | false =>
            have HI : Hid (insL (lt 16) L (cl 16 f) = L.take k ++ cl 16 f :: L.drop k) := by
              have := ins_new (lt 16) (L := L) (b := cl 16 f) (by rw [HK.out, HKL.out]; intro e; cases e; have := (HE.out).1 rfl; cases this)
              rw [HK.out] at this
              exact this
            have hkn : k ≤ n := hk
            have k1 := hHeld.1
            have k3 := hHeld.2.1
            have hb := Lib.hid hHeld.2.2
            clear hHeld
            go_wp2_with fail
            have hkc : ¬ (cap < k) := by omega
            have hnk : ¬ ((n : Int) < (k : Int)) := by omega
            obtain ⟨o, HO1, HO2⟩ : ∃ o, Hid (cap = k → o = 0) ∧ Hid (cap ≠ k → o = k * 16) := by
              by_cases hcc : cap = k
              · exact ⟨0, fun _ => rfl, fun q => absurd hcc q⟩
              · exact ⟨k * 16, fun q => absurd q hcc, fun _ => rfl⟩
            have HF : Hid ([] ++ (mk (k * 16) fun j => h (0 + j)).toList ++ (mk (1 * 16) fun j => f (0 + j)).toList ++ (mk ((n - k) * 16) fun j => h (o + j)).toList = (L.take k ++ cl 16 f :: L.drop k).flatten.map (Value.int .i64)) := by
              show _ = _
              have := add_flat ha f (k := k) (o := o) (by omega) (by
                by_cases hcc : cap = k
                · exact Or.inl (by omega)
                · exact Or.inr (HO2.out hcc))
              rw [hN, hH] at this
              exact this.symm
            have ho16 : o + (n - k) * 16 ≤ n * 16 := by
              by_cases hcc : cap = k
              · have := HO1.out hcc; omega
              · have := HO2.out hcc; omega
            generalize w6.drew = x0 at *
            have A1 := k1
            have A3 := k3
            have HW := hb
            clear k1 k3 hb
            have ghi : base ≤ w.heap.size := by have := (HO.out.lt g rfl).1; omega
            have A1 : CAt x0.drew g (n * 16) h := A1.drew
            have A3 : Blk x0.drew w.heap.size 16 f 29 := A3.drew
            have HW : Hid (Below w.heap.size w x0.drew) := HW.out.drew
            refine wp_region_held_drew (S := fun W => CAt W g (n * 16) h ∧ Blk W w.heap.size 16 f 29) (by kernel_rfl) (⟨A1, A3⟩) (fun hHeld => ?_)
            generalize x0.drew = x0 at *
            refine wpAnyH_take (i := 1) (oi := { dst := some 34, op := _, type := _, pos := _, after := _, guard := _ }) (v := .slice (some ⟨g, 0, none⟩) n cap) rfl (by kernel_rfl) (by kernel_rfl) (by kernel_rfl) (fun _ _ _ h => h) (Or.inl ⟨by rfl, by intro w hSw; clear hSw; go_simp; (try with_reducible rfl)⟩) (by assumption) ?_
            try simp only [Act.put, List.setIfInBounds_toArray, List.set_cons_zero, List.set_cons_succ]
            refine wpAnyH_take (i := 2) (oi := { dst := some 35, op := _, type := _, pos := _, after := _, guard := _ }) (v := .int .i64 (k : Int)) rfl (by kernel_rfl) (by kernel_rfl) (by kernel_rfl) (fun _ _ _ h => h) (Or.inl ⟨by rfl, by intro w hSw; clear hSw; go_simp; (try with_reducible rfl)⟩) (by assumption) ?_
            try simp only [Act.put, List.setIfInBounds_toArray, List.set_cons_zero, List.set_cons_succ]
            refine wpAnyH_take (i := 3) (oi := { dst := some 36, op := _, type := _, pos := _, after := _, guard := _ }) (v := .slice (some ⟨g, 0, none⟩) k cap) rfl (by kernel_rfl) (by kernel_rfl) (by kernel_rfl) (fun _ _ _ h => h) (Or.inl ⟨by rfl, by intro w hSw; clear hSw; go_simp; (try with_reducible rfl)⟩) (by assumption) ?_
            try simp only [Act.put, List.setIfInBounds_toArray, List.set_cons_zero, List.set_cons_succ]
            refine wpAnyH_take (i := 5) (oi := { dst := some 38, op := _, type := _, pos := _, after := _, guard := _ }) (v := .agg (mk 16 f)) rfl (by kernel_rfl) (by kernel_rfl) (by kernel_rfl) (fun _ _ _ h => h) (Or.inl ⟨by rfl, fun _ q => execB q.2 rfl rfl⟩) (by assumption) ?_
            try simp only [Act.put, List.setIfInBounds_toArray, List.set_cons_zero, List.set_cons_succ]
            refine wpAnyH_take (i := 8) (oi := { dst := some 41, op := _, type := _, pos := _, after := _, guard := _ }) (v := .slice (some ⟨g, 0, none⟩) n cap) rfl (by kernel_rfl) (by kernel_rfl) (by kernel_rfl) (fun _ _ _ h => h) (Or.inl ⟨by rfl, by intro w hSw; clear hSw; go_simp; (try with_reducible rfl)⟩) (by assumption) ?_
            try simp only [Act.put, List.setIfInBounds_toArray, List.set_cons_zero, List.set_cons_succ]
            refine wpAnyH_take (i := 9) (oi := { dst := some 42, op := _, type := _, pos := _, after := _, guard := _ }) (v := .int .i64 (k : Int)) rfl (by kernel_rfl) (by kernel_rfl) (by kernel_rfl) (fun _ _ _ h => h) (Or.inl ⟨by rfl, by intro w hSw; clear hSw; go_simp; (try with_reducible rfl)⟩) (by assumption) ?_
            try simp only [Act.put, List.setIfInBounds_toArray, List.set_cons_zero, List.set_cons_succ]
            refine wpAnyH_take (i := 10) (oi := { dst := some 43, op := _, type := _, pos := _, after := _, guard := _ }) (v := .slice (some ⟨g, o, none⟩) (n - k) (cap - k)) rfl (by kernel_rfl) (by kernel_rfl) (by kernel_rfl) (fun _ _ _ h => h) (Or.inl ⟨by rfl, by
                  intro W hSw
                  clear hSw
                  by_cases hcc : cap = k
                  · have hoo := HO1.out hcc
                    subst hoo
                    go_simp
                  · have hoo := HO2.out hcc
                    subst hoo
                    go_simp⟩) (by assumption) ?_
            try simp only [Act.put, List.setIfInBounds_toArray, List.set_cons_zero, List.set_cons_succ]
            clear HO1 HO2 hHeld
            refine wpAnyH_ready (rs := [0, 6]) (by kernel_rfl) (by simp) ?_
            refine AllReadyH.cons rfl (fun K hK => ?_) ?_
            · rw [if_pos (by rfl)]
              refine wp_build0 26 29 rfl Try.underlying26 hi hz0 ?_
              have R0 : (x0.alloc (.cells #[] 29)).ownsRow (w.heap.size + 1) 29 16 (.slice (some ⟨x0.heap.size, 0, none⟩) 0 0) 0 [] := World.ownsRow_made (base := w.heap.size + 1) (e := 29) (size := 16) x0 #[] 0 A3.lt (by decide) rfl
              have A1 : CAt (x0.alloc (.cells #[] 29)) g (n * 16) h := A1.alloc _
              have A3 : Blk (x0.alloc (.cells #[] 29)) w.heap.size 16 f 29 := A3.alloc _
              have HW : Hid (Below w.heap.size w (x0.alloc (.cells #[] 29))) := HW.out.alloc HW.out.size _
              have HSx1 : (x0.alloc (.cells #[] 29)).heap.size = x0.heap.size + 1 := by simp
              generalize (x0.alloc (.cells #[] 29)) = x1 at *
              refine hK.out _ _ ⟨A1, A3⟩ (fun hHeld => ?_)
              clear hK K hHeld
              try simp only [Act.put, List.setIfInBounds_toArray, List.set_cons_zero, List.set_cons_succ]
              refine wpAnyH_ready (rs := [4, 6]) (by kernel_rfl) (by simp) ?_
              refine AllReadyH.cons rfl (fun K hK => ?_) ?_
              · rw [if_pos (by rfl)]
                refine wp_app (v := .slice (some ⟨x0.heap.size, 0, none⟩) 0 0) _ _ 26 rfl (w.heap.size + 1) 29 i0 _ 16 128 Try.underlying26 hi hz0 hz1 hz2 rfl (by decide) rfl R0 g 0 k cap h (n * 16) rfl A1 (by omega) (by unfold maxLen; omega) (by omega) (by have := A3.lt; omega) ?_
                intro v1 y4 R1 hbl hgr
                have A1 := A1.low hbl (by omega)
                have A3 := A3.below hbl (by omega)
                have HW : Hid (Below w.heap.size w y4) := HW.out.trans (hbl.mono (by omega))
                clear hbl hgr R0
                refine hK.out _ _ ⟨A1, A3⟩ (fun hHeld => ?_)
                clear hK K hHeld
                try simp only [Act.put, List.setIfInBounds_toArray, List.set_cons_zero, List.set_cons_succ]
                refine wpAnyH_ready (rs := [6]) (by kernel_rfl) (by simp) ?_
                refine AllReadyH.cons rfl (fun K hK => ?_) AllReadyH.nil
                rw [if_pos (by rfl)]
                refine wp_buildB _ rfl (f := f) rfl ?_
                have B6 : Blk (y4.alloc (.cells (mk 16 f) 29)) y4.heap.size 16 f 29 := Blk.new _ _ _ _
                have A1 : CAt (y4.alloc (.cells (mk 16 f) 29)) g (n * 16) h := A1.alloc _
                have A3 : Blk (y4.alloc (.cells (mk 16 f) 29)) w.heap.size 16 f 29 := A3.alloc _
                have HW : Hid (Below w.heap.size w (y4.alloc (.cells (mk 16 f) 29))) := HW.out.alloc HW.out.size _
                have R1 : (y4.alloc (.cells (mk 16 f) 29)).ownsRow (w.heap.size + 1) 29 16 v1 (0 + k) ([] ++ (mk (k * 16) fun j => h (0 + j)).toList) := World.ownsRow.alloc R1 _
                have HSx2 : (y4.alloc (.cells (mk 16 f) 29)).heap.size = y4.heap.size + 1 := by simp
                generalize (y4.alloc (.cells (mk 16 f) 29)) = x2 at *
                refine hK.out _ _ ⟨A1, A3⟩ (fun hHeld => ?_)
                clear hK K hHeld
                try simp only [Act.put, List.setIfInBounds_toArray, List.set_cons_zero, List.set_cons_succ]
                refine wpAnyH_ready (rs := [7]) (by kernel_rfl) (by simp) ?_
                refine AllReadyH.cons rfl (fun K hK => ?_) AllReadyH.nil
                rw [if_pos (by rfl)]
                refine wp_app (v := v1) _ _ 26 rfl (w.heap.size + 1) 29 i0 _ 16 128 Try.underlying26 hi hz0 hz1 hz2 rfl (by decide) rfl R1 y4.heap.size 0 1 1 f 16 rfl B6.at (by omega) (by unfold maxLen; omega) (by omega) (by have := A3.lt; omega) ?_
                intro v2 y7 R2 hbl hgr
                have A1 := A1.low hbl (by omega)
                have A3 := A3.below hbl (by omega)
                have HW : Hid (Below w.heap.size w y7) := HW.out.trans (hbl.mono (by omega))
                clear hbl hgr R1
                refine hK.out _ _ ⟨A1, A3⟩ (fun hHeld => ?_)
                clear hK K hHeld
                try simp only [Act.put, List.setIfInBounds_toArray, List.set_cons_zero, List.set_cons_succ]
                clear B6
                refine wpAnyH_ready (rs := [11]) (by kernel_rfl) (by simp) ?_
                refine AllReadyH.cons rfl (fun K hK => ?_) AllReadyH.nil
                rw [if_pos (by rfl)]
                refine wp_app (v := v2) _ _ 26 rfl (w.heap.size + 1) 29 i0 _ 16 128 Try.underlying26 hi hz0 hz1 hz2 rfl (by decide) rfl R2 g o (n - k) (cap - k) h (n * 16) rfl A1 (by omega) (by unfold maxLen; omega) (by omega) (by have := A3.lt; omega) ?_
                intro v3 y8 R3 hbl hgr
                have A1 := A1.low hbl (by omega)
                have A3 := A3.below hbl (by omega)
                have HW : Hid (Below w.heap.size w y8) := HW.out.trans (hbl.mono (by omega))
                clear hbl hgr R2
                refine hK.out _ _ ⟨A1, A3⟩ (fun hHeld => ?_)
                clear hK K
                try simp only [Act.put, List.setIfInBounds_toArray, List.set_cons_zero, List.set_cons_succ]
                refine wpAnyH_take (i := 12) (oi := { dst := some 4, op := _, type := _, pos := _, after := _, guard := _ }) (v := v3) rfl (by kernel_rfl) (by kernel_rfl) (by kernel_rfl) (fun _ _ _ h => h) (Or.inl ⟨by rfl, by intro w hSw; clear hSw; go_simp; (try with_reducible rfl)⟩) (by assumption) ?_
                try simp only [Act.put, List.setIfInBounds_toArray, List.set_cons_zero, List.set_cons_succ]
                refine wpAnyH_done (by kernel_rfl) ?_ _
                have R3 := R3
                rw [show 0 + k + 1 + (n - k) = n + 1 by omega, HF.out] at R3
                obtain ⟨g', cap', hv'⟩ := ownsRow_succ R3
                have HV := Lib.hid hv'
                have HR3 := Lib.hid R3
                clear hv' R3
                go_wp2_with fail
                go_ret
                rw [HI.out]
                refine ⟨g', cap', ?_, ?_, HW.out⟩
                · rw [HV.out, List.length_append, List.length_cons, List.length_take, List.length_drop, hN, show min k n + (n - k + 1) = n + 1 by omega]; rfl
                · show OwnsL _ _ _ _ _ _
                  have e := HR3.out
                  rw [HV.out] at e
                  unfold OwnsL
                  rw [show (L.take k ++ cl 16 f :: L.drop k).length = n + 1 by rw [List.length_append, List.length_cons, List.length_take, List.length_drop, hN]; omega]
                  exact ownsRow_wide e (by omega)
              refine AllReadyH.cons rfl (fun K hK => ?_) AllReadyH.nil
              rw [if_pos (by rfl)]
              refine wp_buildB _ rfl (f := f) rfl ?_
              have B6 : Blk (x1.alloc (.cells (mk 16 f) 29)) x1.heap.size 16 f 29 := Blk.new _ _ _ _
              have A1 : CAt (x1.alloc (.cells (mk 16 f) 29)) g (n * 16) h := A1.alloc _
              have A3 : Blk (x1.alloc (.cells (mk 16 f) 29)) w.heap.size 16 f 29 := A3.alloc _
              have HW : Hid (Below w.heap.size w (x1.alloc (.cells (mk 16 f) 29))) := HW.out.alloc HW.out.size _
              have R0 : (x1.alloc (.cells (mk 16 f) 29)).ownsRow (w.heap.size + 1) 29 16 (.slice (some ⟨x0.heap.size, 0, none⟩) 0 0) 0 [] := World.ownsRow.alloc R0 _
              have HSx2 : (x1.alloc (.cells (mk 16 f) 29)).heap.size = x1.heap.size + 1 := by simp
              generalize (x1.alloc (.cells (mk 16 f) 29)) = x2 at *
              refine hK.out _ _ ⟨A1, A3⟩ (fun hHeld => ?_)
              clear hK K hHeld
              try simp only [Act.put, List.setIfInBounds_toArray, List.set_cons_zero, List.set_cons_succ]
              refine wpAnyH_ready (rs := [4]) (by kernel_rfl) (by simp) ?_
              refine AllReadyH.cons rfl (fun K hK => ?_) AllReadyH.nil
              rw [if_pos (by rfl)]
              refine wp_app (v := .slice (some ⟨x0.heap.size, 0, none⟩) 0 0) _ _ 26 rfl (w.heap.size + 1) 29 i0 _ 16 128 Try.underlying26 hi hz0 hz1 hz2 rfl (by decide) rfl R0 g 0 k cap h (n * 16) rfl A1 (by omega) (by unfold maxLen; omega) (by omega) (by have := A3.lt; omega) ?_
              intro v1 y4 R1 hbl hgr
              have A1 := A1.low hbl (by omega)
              have A3 := A3.below hbl (by omega)
              have HW : Hid (Below w.heap.size w y4) := HW.out.trans (hbl.mono (by omega))
              have B6 := B6.grown hgr (by intro e; simp only [Value.ownBlock, Option.some.injEq] at e; omega)
              clear hbl hgr R0
              refine hK.out _ _ ⟨A1, A3⟩ (fun hHeld => ?_)
              clear hK K hHeld
              try simp only [Act.put, List.setIfInBounds_toArray, List.set_cons_zero, List.set_cons_succ]
              refine wpAnyH_ready (rs := [7]) (by kernel_rfl) (by simp) ?_
              refine AllReadyH.cons rfl (fun K hK => ?_) AllReadyH.nil
              rw [if_pos (by rfl)]
              refine wp_app (v := v1) _ _ 26 rfl (w.heap.size + 1) 29 i0 _ 16 128 Try.underlying26 hi hz0 hz1 hz2 rfl (by decide) rfl R1 x1.heap.size 0 1 1 f 16 rfl B6.at (by omega) (by unfold maxLen; omega) (by omega) (by have := A3.lt; omega) ?_
              intro v2 y7 R2 hbl hgr
              have A1 := A1.low hbl (by omega)
              have A3 := A3.below hbl (by omega)
              have HW : Hid (Below w.heap.size w y7) := HW.out.trans (hbl.mono (by omega))
              clear hbl hgr R1
              refine hK.out _ _ ⟨A1, A3⟩ (fun hHeld => ?_)
              clear hK K hHeld
              try simp only [Act.put, List.setIfInBounds_toArray, List.set_cons_zero, List.set_cons_succ]
              clear B6
              refine wpAnyH_ready (rs := [11]) (by kernel_rfl) (by simp) ?_
              refine AllReadyH.cons rfl (fun K hK => ?_) AllReadyH.nil
              rw [if_pos (by rfl)]
              refine wp_app (v := v2) _ _ 26 rfl (w.heap.size + 1) 29 i0 _ 16 128 Try.underlying26 hi hz0 hz1 hz2 rfl (by decide) rfl R2 g o (n - k) (cap - k) h (n * 16) rfl A1 (by omega) (by unfold maxLen; omega) (by omega) (by have := A3.lt; omega) ?_
              intro v3 y8 R3 hbl hgr
              have A1 := A1.low hbl (by omega)
              have A3 := A3.below hbl (by omega)
              have HW : Hid (Below w.heap.size w y8) := HW.out.trans (hbl.mono (by omega))
              clear hbl hgr R2
              refine hK.out _ _ ⟨A1, A3⟩ (fun hHeld => ?_)
              clear hK K
              try simp only [Act.put, List.setIfInBounds_toArray, List.set_cons_zero, List.set_cons_succ]
              refine wpAnyH_take (i := 12) (oi := { dst := some 4, op := _, type := _, pos := _, after := _, guard := _ }) (v := v3) rfl (by kernel_rfl) (by kernel_rfl) (by kernel_rfl) (fun _ _ _ h => h) (Or.inl ⟨by rfl, by intro w hSw; clear hSw; go_simp; (try with_reducible rfl)⟩) (by assumption) ?_
              try simp only [Act.put, List.setIfInBounds_toArray, List.set_cons_zero, List.set_cons_succ]
              refine wpAnyH_done (by kernel_rfl) ?_ _
              have R3 := R3
              rw [show 0 + k + 1 + (n - k) = n + 1 by omega, HF.out] at R3
              obtain ⟨g', cap', hv'⟩ := ownsRow_succ R3
              have HV := Lib.hid hv'
              have HR3 := Lib.hid R3
              clear hv' R3
              go_wp2_with fail
              go_ret
              rw [HI.out]
              refine ⟨g', cap', ?_, ?_, HW.out⟩
              · rw [HV.out, List.length_append, List.length_cons, List.length_take, List.length_drop, hN, show min k n + (n - k + 1) = n + 1 by omega]; rfl
              · show OwnsL _ _ _ _ _ _
                have e := HR3.out
                rw [HV.out] at e
                unfold OwnsL
                rw [show (L.take k ++ cl 16 f :: L.drop k).length = n + 1 by rw [List.length_append, List.length_cons, List.length_take, List.length_drop, hN]; omega]
                exact ownsRow_wide e (by omega)
            refine AllReadyH.cons rfl (fun K hK => ?_) AllReadyH.nil
            rw [if_pos (by rfl)]
            refine wp_buildB _ rfl (f := f) rfl ?_
            have B6 : Blk (x0.alloc (.cells (mk 16 f) 29)) x0.heap.size 16 f 29 := Blk.new _ _ _ _
            have A1 : CAt (x0.alloc (.cells (mk 16 f) 29)) g (n * 16) h := A1.alloc _
            have A3 : Blk (x0.alloc (.cells (mk 16 f) 29)) w.heap.size 16 f 29 := A3.alloc _
            have HW : Hid (Below w.heap.size w (x0.alloc (.cells (mk 16 f) 29))) := HW.out.alloc HW.out.size _
            have HSx1 : (x0.alloc (.cells (mk 16 f) 29)).heap.size = x0.heap.size + 1 := by simp
            generalize (x0.alloc (.cells (mk 16 f) 29)) = x1 at *
            refine hK.out _ _ ⟨A1, A3⟩ (fun hHeld => ?_)
            clear hK K hHeld
            try simp only [Act.put, List.setIfInBounds_toArray, List.set_cons_zero, List.set_cons_succ]
            refine wpAnyH_ready (rs := [0]) (by kernel_rfl) (by simp) ?_
            refine AllReadyH.cons rfl (fun K hK => ?_) AllReadyH.nil
            rw [if_pos (by rfl)]
            refine wp_build0 26 29 rfl Try.underlying26 hi hz0 ?_
            have R0 : (x1.alloc (.cells #[] 29)).ownsRow (w.heap.size + 1) 29 16 (.slice (some ⟨x1.heap.size, 0, none⟩) 0 0) 0 [] := World.ownsRow_made (base := w.heap.size + 1) (e := 29) (size := 16) x1 #[] 0 A3.lt (by decide) rfl
            have A1 : CAt (x1.alloc (.cells #[] 29)) g (n * 16) h := A1.alloc _
            have A3 : Blk (x1.alloc (.cells #[] 29)) w.heap.size 16 f 29 := A3.alloc _
            have HW : Hid (Below w.heap.size w (x1.alloc (.cells #[] 29))) := HW.out.alloc HW.out.size _
            have B6 : Blk (x1.alloc (.cells #[] 29)) x0.heap.size 16 f 29 := B6.alloc _
            have HSx2 : (x1.alloc (.cells #[] 29)).heap.size = x1.heap.size + 1 := by simp
            generalize (x1.alloc (.cells #[] 29)) = x2 at *
            refine hK.out _ _ ⟨A1, A3⟩ (fun hHeld => ?_)
            clear hK K hHeld
            try simp only [Act.put, List.setIfInBounds_toArray, List.set_cons_zero, List.set_cons_succ]
            refine wpAnyH_ready (rs := [4]) (by kernel_rfl) (by simp) ?_
            refine AllReadyH.cons rfl (fun K hK => ?_) AllReadyH.nil
            rw [if_pos (by rfl)]
            refine wp_app (v := .slice (some ⟨x1.heap.size, 0, none⟩) 0 0) _ _ 26 rfl (w.heap.size + 1) 29 i0 _ 16 128 Try.underlying26 hi hz0 hz1 hz2 rfl (by decide) rfl R0 g 0 k cap h (n * 16) rfl A1 (by omega) (by unfold maxLen; omega) (by omega) (by have := A3.lt; omega) ?_
            intro v1 y4 R1 hbl hgr
            have A1 := A1.low hbl (by omega)
            have A3 := A3.below hbl (by omega)
            have HW : Hid (Below w.heap.size w y4) := HW.out.trans (hbl.mono (by omega))
            have B6 := B6.grown hgr (by intro e; simp only [Value.ownBlock, Option.some.injEq] at e; omega)
            clear hbl hgr R0
            refine hK.out _ _ ⟨A1, A3⟩ (fun hHeld => ?_)
            clear hK K hHeld
            try simp only [Act.put, List.setIfInBounds_toArray, List.set_cons_zero, List.set_cons_succ]
            refine wpAnyH_ready (rs := [7]) (by kernel_rfl) (by simp) ?_
            refine AllReadyH.cons rfl (fun K hK => ?_) AllReadyH.nil
            rw [if_pos (by rfl)]
            refine wp_app (v := v1) _ _ 26 rfl (w.heap.size + 1) 29 i0 _ 16 128 Try.underlying26 hi hz0 hz1 hz2 rfl (by decide) rfl R1 x0.heap.size 0 1 1 f 16 rfl B6.at (by omega) (by unfold maxLen; omega) (by omega) (by have := A3.lt; omega) ?_
            intro v2 y7 R2 hbl hgr
            have A1 := A1.low hbl (by omega)
            have A3 := A3.below hbl (by omega)
            have HW : Hid (Below w.heap.size w y7) := HW.out.trans (hbl.mono (by omega))
            clear hbl hgr R1
            refine hK.out _ _ ⟨A1, A3⟩ (fun hHeld => ?_)
            clear hK K hHeld
            try simp only [Act.put, List.setIfInBounds_toArray, List.set_cons_zero, List.set_cons_succ]
            clear B6
            refine wpAnyH_ready (rs := [11]) (by kernel_rfl) (by simp) ?_
            refine AllReadyH.cons rfl (fun K hK => ?_) AllReadyH.nil
            rw [if_pos (by rfl)]
            refine wp_app (v := v2) _ _ 26 rfl (w.heap.size + 1) 29 i0 _ 16 128 Try.underlying26 hi hz0 hz1 hz2 rfl (by decide) rfl R2 g o (n - k) (cap - k) h (n * 16) rfl A1 (by omega) (by unfold maxLen; omega) (by omega) (by have := A3.lt; omega) ?_
            intro v3 y8 R3 hbl hgr
            have A1 := A1.low hbl (by omega)
            have A3 := A3.below hbl (by omega)
            have HW : Hid (Below w.heap.size w y8) := HW.out.trans (hbl.mono (by omega))
            clear hbl hgr R2
            refine hK.out _ _ ⟨A1, A3⟩ (fun hHeld => ?_)
            clear hK K
            try simp only [Act.put, List.setIfInBounds_toArray, List.set_cons_zero, List.set_cons_succ]
            refine wpAnyH_take (i := 12) (oi := { dst := some 4, op := _, type := _, pos := _, after := _, guard := _ }) (v := v3) rfl (by kernel_rfl) (by kernel_rfl) (by kernel_rfl) (fun _ _ _ h => h) (Or.inl ⟨by rfl, by intro w hSw; clear hSw; go_simp; (try with_reducible rfl)⟩) (by assumption) ?_
            try simp only [Act.put, List.setIfInBounds_toArray, List.set_cons_zero, List.set_cons_succ]
            refine wpAnyH_done (by kernel_rfl) ?_ _
            have R3 := R3
            rw [show 0 + k + 1 + (n - k) = n + 1 by omega, HF.out] at R3
            obtain ⟨g', cap', hv'⟩ := ownsRow_succ R3
            have HV := Lib.hid hv'
            have HR3 := Lib.hid R3
            clear hv' R3
            go_wp2_with fail
            go_ret
            rw [HI.out]
            refine ⟨g', cap', ?_, ?_, HW.out⟩
            · rw [HV.out, List.length_append, List.length_cons, List.length_take, List.length_drop, hN, show min k n + (n - k + 1) = n + 1 by omega]; rfl
            · show OwnsL _ _ _ _ _ _
              have e := HR3.out
              rw [HV.out] at e
              unfold OwnsL
              rw [show (L.take k ++ cl 16 f :: L.drop k).length = n + 1 by rw [List.length_append, List.length_cons, List.length_take, List.length_drop, hN]; omega]
              exact ownsRow_wide e (by omega)
    · have hkn : k ≤ n := hk
      have hlt2 : ¬ ((k : Int) < (n : Int)) := by omega
      have HK : Hid (plcL (lt 16) (cl 16 f) L = k) := HPL.out k (by omega) (fun j x hj hx => HP.out j x hj hx) (fun x hx => by
        have := (List.getElem?_eq_some_iff.1 hx).1; omega)
      have HI : Hid (insL (lt 16) L (cl 16 f) = L.take k ++ cl 16 f :: L.drop k) := by
        have := ins_new (lt 16) (L := L) (b := cl 16 f) (by rw [HK.out, List.getElem?_eq_none (by omega)]; simp)
        rw [HK.out] at this
        exact this
      go_wp2_with fail
      refine wp_region_held_drew (S := fun W => CAt W g (n * 16) h ∧ Blk W w.heap.size 16 f 29 ∧ Below w.heap.size w W) (by kernel_rfl) (⟨k1.drew, k3.drew, hb.out.drew⟩) (fun hHeld => ?_)
      refine wpAnyH_take (i := 0) (oi := { dst := some 6, op := _, type := _, pos := _, after := _, guard := _ }) (v := .int .i64 (k : Int)) rfl (by kernel_rfl) (by kernel_rfl) (by kernel_rfl) (fun _ _ _ h => h) (Or.inl ⟨by rfl, by intro w hSw; clear hSw; go_simp; (try with_reducible rfl)⟩) (by assumption) ?_
      try simp only [Act.put, List.setIfInBounds_toArray, List.set_cons_zero, List.set_cons_succ]
      refine wpAnyH_take (i := 1) (oi := { dst := some 7, op := _, type := _, pos := _, after := _, guard := _ }) (v := .slice (some ⟨g, 0, none⟩) n cap) rfl (by kernel_rfl) (by kernel_rfl) (by kernel_rfl) (fun _ _ _ h => h) (Or.inl ⟨by rfl, by intro w hSw; clear hSw; go_simp; (try with_reducible rfl)⟩) (by assumption) ?_
      try simp only [Act.put, List.setIfInBounds_toArray, List.set_cons_zero, List.set_cons_succ]
      refine wpAnyH_take (i := 2) (oi := { dst := some 8, op := _, type := _, pos := _, after := _, guard := _ }) (v := .int .i64 (n : Int)) rfl (by kernel_rfl) (by kernel_rfl) (by kernel_rfl) (fun _ _ _ h => h) (Or.inl ⟨by rfl, by intro w hSw; clear hSw; go_simp; (try with_reducible rfl)⟩) (by assumption) ?_
      try simp only [Act.put, List.setIfInBounds_toArray, List.set_cons_zero, List.set_cons_succ]
      refine wpAnyH_take (i := 3) (oi := { dst := some 9, op := _, type := _, pos := _, after := _, guard := _ }) (v := .bool false) rfl (by kernel_rfl) (by kernel_rfl) (by kernel_rfl) (fun _ _ _ h => h) (Or.inl ⟨by rfl, by intro w hSw; clear hSw; go_simp; (try with_reducible rfl)⟩) (by assumption) ?_
      try simp only [Act.put, List.setIfInBounds_toArray, List.set_cons_zero, List.set_cons_succ]
      refine wpAnyH_take (i := 4) (oi := { dst := some 10, op := _, type := _, pos := _, after := _, guard := _ }) (v := .bool false) rfl (by kernel_rfl) (by kernel_rfl) (by kernel_rfl) (fun _ _ _ h => h) (Or.inl ⟨by rfl, by intro w hSw; clear hSw; go_simp; (try with_reducible rfl)⟩) (by assumption) ?_
      try simp only [Act.put, List.setIfInBounds_toArray, List.set_cons_zero, List.set_cons_succ]
      refine wpAnyH_take (i := 5) (oi := { dst := some 11, op := _, type := _, pos := _, after := _, guard := _ }) (v := undef) rfl (by kernel_rfl) (by kernel_rfl) (by kernel_rfl) (fun _ _ _ h => h) (Or.inr ⟨by rfl, rfl⟩) (by assumption) ?_
      try simp only [Act.put, List.setIfInBounds_toArray, List.set_cons_zero, List.set_cons_succ]
      refine wpAnyH_take (i := 6) (oi := { dst := some 12, op := _, type := _, pos := _, after := _, guard := _ }) (v := undef) rfl (by kernel_rfl) (by kernel_rfl) (by kernel_rfl) (fun _ _ _ h => h) (Or.inr ⟨by rfl, rfl⟩) (by assumption) ?_
      try simp only [Act.put, List.setIfInBounds_toArray, List.set_cons_zero, List.set_cons_succ]
      refine wpAnyH_take (i := 7) (oi := { dst := some 13, op := _, type := _, pos := _, after := _, guard := _ }) (v := undef) rfl (by kernel_rfl) (by kernel_rfl) (by kernel_rfl) (fun _ _ _ h => h) (Or.inr ⟨by rfl, rfl⟩) (by assumption) ?_
      try simp only [Act.put, List.setIfInBounds_toArray, List.set_cons_zero, List.set_cons_succ]
      refine wpAnyH_take (i := 8) (oi := { dst := some 14, op := _, type := _, pos := _, after := _, guard := _ }) (v := undef) rfl (by kernel_rfl) (by kernel_rfl) (by kernel_rfl) (fun _ _ _ h => h) (Or.inr ⟨by rfl, rfl⟩) (by assumption) ?_
      try simp only [Act.put, List.setIfInBounds_toArray, List.set_cons_zero, List.set_cons_succ]
      refine wpAnyH_take (i := 9) (oi := { dst := some 15, op := _, type := _, pos := _, after := _, guard := _ }) (v := undef) rfl (by kernel_rfl) (by kernel_rfl) (by kernel_rfl) (fun _ _ _ h => h) (Or.inr ⟨by rfl, rfl⟩) (by assumption) ?_
      try simp only [Act.put, List.setIfInBounds_toArray, List.set_cons_zero, List.set_cons_succ]
      refine wpAnyH_take (i := 10) (oi := { dst := some 16, op := _, type := _, pos := _, after := _, guard := _ }) (v := undef) rfl (by kernel_rfl) (by kernel_rfl) (by kernel_rfl) (fun _ _ _ h => h) (Or.inr ⟨by rfl, rfl⟩) (by assumption) ?_
      try simp only [Act.put, List.setIfInBounds_toArray, List.set_cons_zero, List.set_cons_succ]
      refine wpAnyH_take (i := 11) (oi := { dst := some 17, op := _, type := _, pos := _, after := _, guard := _ }) (v := .bool false) rfl (by kernel_rfl) (by kernel_rfl) (by kernel_rfl) (fun _ _ _ h => h) (Or.inl ⟨by rfl, by intro w hSw; clear hSw; go_simp; (try with_reducible rfl)⟩) (by assumption) ?_
      try simp only [Act.put, List.setIfInBounds_toArray, List.set_cons_zero, List.set_cons_succ]
      refine wpAnyH_done (by kernel_rfl) ?_ _
      have k1 := hHeld.1
      have k3 := hHeld.2.1
      have hb := Lib.hid hHeld.2.2
      clear hHeld
      go_wp2_with fail
      refine wp_region_held_drew (S := fun W => CAt W g (n * 16) h ∧ Blk W w.heap.size 16 f 29 ∧ Below w.heap.size w W) (by kernel_rfl) (⟨k1.drew, k3.drew, hb.out.drew⟩) (fun hHeld => ?_)
      refine wpAnyH_take (i := 0) (oi := { dst := some 20, op := _, type := _, pos := _, after := _, guard := _ }) (v := .int .i64 (k : Int)) rfl (by kernel_rfl) (by kernel_rfl) (by kernel_rfl) (fun _ _ _ h => h) (Or.inl ⟨by rfl, by intro w hSw; clear hSw; go_simp; (try with_reducible rfl)⟩) (by assumption) ?_
      try simp only [Act.put, List.setIfInBounds_toArray, List.set_cons_zero, List.set_cons_succ]
      refine wpAnyH_take (i := 1) (oi := { dst := some 21, op := _, type := _, pos := _, after := _, guard := _ }) (v := .slice (some ⟨g, 0, none⟩) n cap) rfl (by kernel_rfl) (by kernel_rfl) (by kernel_rfl) (fun _ _ _ h => h) (Or.inl ⟨by rfl, by intro w hSw; clear hSw; go_simp; (try with_reducible rfl)⟩) (by assumption) ?_
      try simp only [Act.put, List.setIfInBounds_toArray, List.set_cons_zero, List.set_cons_succ]
      refine wpAnyH_take (i := 2) (oi := { dst := some 22, op := _, type := _, pos := _, after := _, guard := _ }) (v := .int .i64 (n : Int)) rfl (by kernel_rfl) (by kernel_rfl) (by kernel_rfl) (fun _ _ _ h => h) (Or.inl ⟨by rfl, by intro w hSw; clear hSw; go_simp; (try with_reducible rfl)⟩) (by assumption) ?_
      try simp only [Act.put, List.setIfInBounds_toArray, List.set_cons_zero, List.set_cons_succ]
      refine wpAnyH_take (i := 3) (oi := { dst := some 23, op := _, type := _, pos := _, after := _, guard := _ }) (v := .bool false) rfl (by kernel_rfl) (by kernel_rfl) (by kernel_rfl) (fun _ _ _ h => h) (Or.inl ⟨by rfl, by intro w hSw; clear hSw; go_simp; (try with_reducible rfl)⟩) (by assumption) ?_
      try simp only [Act.put, List.setIfInBounds_toArray, List.set_cons_zero, List.set_cons_succ]
      refine wpAnyH_take (i := 4) (oi := { dst := some 24, op := _, type := _, pos := _, after := _, guard := _ }) (v := .bool false) rfl (by kernel_rfl) (by kernel_rfl) (by kernel_rfl) (fun _ _ _ h => h) (Or.inl ⟨by rfl, by intro w hSw; clear hSw; go_simp; (try with_reducible rfl)⟩) (by assumption) ?_
      try simp only [Act.put, List.setIfInBounds_toArray, List.set_cons_zero, List.set_cons_succ]
      refine wpAnyH_take (i := 5) (oi := { dst := some 25, op := _, type := _, pos := _, after := _, guard := _ }) (v := undef) rfl (by kernel_rfl) (by kernel_rfl) (by kernel_rfl) (fun _ _ _ h => h) (Or.inr ⟨by rfl, rfl⟩) (by assumption) ?_
      try simp only [Act.put, List.setIfInBounds_toArray, List.set_cons_zero, List.set_cons_succ]
      refine wpAnyH_take (i := 6) (oi := { dst := some 26, op := _, type := _, pos := _, after := _, guard := _ }) (v := undef) rfl (by kernel_rfl) (by kernel_rfl) (by kernel_rfl) (fun _ _ _ h => h) (Or.inr ⟨by rfl, rfl⟩) (by assumption) ?_
      try simp only [Act.put, List.setIfInBounds_toArray, List.set_cons_zero, List.set_cons_succ]
      refine wpAnyH_take (i := 7) (oi := { dst := some 27, op := _, type := _, pos := _, after := _, guard := _ }) (v := undef) rfl (by kernel_rfl) (by kernel_rfl) (by kernel_rfl) (fun _ _ _ h => h) (Or.inr ⟨by rfl, rfl⟩) (by assumption) ?_
      try simp only [Act.put, List.setIfInBounds_toArray, List.set_cons_zero, List.set_cons_succ]
      refine wpAnyH_take (i := 8) (oi := { dst := some 28, op := _, type := _, pos := _, after := _, guard := _ }) (v := undef) rfl (by kernel_rfl) (by kernel_rfl) (by kernel_rfl) (fun _ _ _ h => h) (Or.inr ⟨by rfl, rfl⟩) (by assumption) ?_
      try simp only [Act.put, List.setIfInBounds_toArray, List.set_cons_zero, List.set_cons_succ]
      refine wpAnyH_take (i := 9) (oi := { dst := some 29, op := _, type := _, pos := _, after := _, guard := _ }) (v := undef) rfl (by kernel_rfl) (by kernel_rfl) (by kernel_rfl) (fun _ _ _ h => h) (Or.inr ⟨by rfl, rfl⟩) (by assumption) ?_
      try simp only [Act.put, List.setIfInBounds_toArray, List.set_cons_zero, List.set_cons_succ]
      refine wpAnyH_take (i := 10) (oi := { dst := some 30, op := _, type := _, pos := _, after := _, guard := _ }) (v := undef) rfl (by kernel_rfl) (by kernel_rfl) (by kernel_rfl) (fun _ _ _ h => h) (Or.inr ⟨by rfl, rfl⟩) (by assumption) ?_
      try simp only [Act.put, List.setIfInBounds_toArray, List.set_cons_zero, List.set_cons_succ]
      refine wpAnyH_take (i := 11) (oi := { dst := some 31, op := _, type := _, pos := _, after := _, guard := _ }) (v := .bool false) rfl (by kernel_rfl) (by kernel_rfl) (by kernel_rfl) (fun _ _ _ h => h) (Or.inl ⟨by rfl, by intro w hSw; clear hSw; go_simp; (try with_reducible rfl)⟩) (by assumption) ?_
      try simp only [Act.put, List.setIfInBounds_toArray, List.set_cons_zero, List.set_cons_succ]
      refine wpAnyH_done (by kernel_rfl) ?_ _
      have k1 := hHeld.1
      have k3 := hHeld.2.1
      have hb := Lib.hid hHeld.2.2
      clear hHeld
      go_wp2_with fail
      have hkc : ¬ (cap < k) := by omega
      have hnk : ¬ ((n : Int) < (k : Int)) := by omega
      obtain ⟨o, HO1, HO2⟩ : ∃ o, Hid (cap = k → o = 0) ∧ Hid (cap ≠ k → o = k * 16) := by
        by_cases hcc : cap = k
        · exact ⟨0, fun _ => rfl, fun q => absurd hcc q⟩
        · exact ⟨k * 16, fun q => absurd q hcc, fun _ => rfl⟩
      have HF : Hid ([] ++ (mk (k * 16) fun j => h (0 + j)).toList ++ (mk (1 * 16) fun j => f (0 + j)).toList ++ (mk ((n - k) * 16) fun j => h (o + j)).toList = (L.take k ++ cl 16 f :: L.drop k).flatten.map (Value.int .i64)) := by
        show _ = _
        have := add_flat ha f (k := k) (o := o) (by omega) (by
          by_cases hcc : cap = k
          · exact Or.inl (by omega)
          · exact Or.inr (HO2.out hcc))
        rw [hN, hH] at this
        exact this.symm
      have ho16 : o + (n - k) * 16 ≤ n * 16 := by
        by_cases hcc : cap = k
        · have := HO1.out hcc; omega
        · have := HO2.out hcc; omega
      generalize wr.drew.drew = x0 at *
      have A1 := k1
      have A3 := k3
      have HW := hb
      clear k1 k3 hb
      have ghi : base ≤ w.heap.size := by have := (HO.out.lt g rfl).1; omega
      have A1 : CAt x0.drew g (n * 16) h := A1.drew
      have A3 : Blk x0.drew w.heap.size 16 f 29 := A3.drew
      have HW : Hid (Below w.heap.size w x0.drew) := HW.out.drew
      refine wp_region_held_drew (S := fun W => CAt W g (n * 16) h ∧ Blk W w.heap.size 16 f 29) (by kernel_rfl) (⟨A1, A3⟩) (fun hHeld => ?_)
      generalize x0.drew = x0 at *
      refine wpAnyH_take (i := 1) (oi := { dst := some 34, op := _, type := _, pos := _, after := _, guard := _ }) (v := .slice (some ⟨g, 0, none⟩) n cap) rfl (by kernel_rfl) (by kernel_rfl) (by kernel_rfl) (fun _ _ _ h => h) (Or.inl ⟨by rfl, by intro w hSw; clear hSw; go_simp; (try with_reducible rfl)⟩) (by assumption) ?_
      try simp only [Act.put, List.setIfInBounds_toArray, List.set_cons_zero, List.set_cons_succ]
      refine wpAnyH_take (i := 2) (oi := { dst := some 35, op := _, type := _, pos := _, after := _, guard := _ }) (v := .int .i64 (k : Int)) rfl (by kernel_rfl) (by kernel_rfl) (by kernel_rfl) (fun _ _ _ h => h) (Or.inl ⟨by rfl, by intro w hSw; clear hSw; go_simp; (try with_reducible rfl)⟩) (by assumption) ?_
      try simp only [Act.put, List.setIfInBounds_toArray, List.set_cons_zero, List.set_cons_succ]
      refine wpAnyH_take (i := 3) (oi := { dst := some 36, op := _, type := _, pos := _, after := _, guard := _ }) (v := .slice (some ⟨g, 0, none⟩) k cap) rfl (by kernel_rfl) (by kernel_rfl) (by kernel_rfl) (fun _ _ _ h => h) (Or.inl ⟨by rfl, by intro w hSw; clear hSw; go_simp; (try with_reducible rfl)⟩) (by assumption) ?_
      try simp only [Act.put, List.setIfInBounds_toArray, List.set_cons_zero, List.set_cons_succ]
      refine wpAnyH_take (i := 5) (oi := { dst := some 38, op := _, type := _, pos := _, after := _, guard := _ }) (v := .agg (mk 16 f)) rfl (by kernel_rfl) (by kernel_rfl) (by kernel_rfl) (fun _ _ _ h => h) (Or.inl ⟨by rfl, fun _ q => execB q.2 rfl rfl⟩) (by assumption) ?_
      try simp only [Act.put, List.setIfInBounds_toArray, List.set_cons_zero, List.set_cons_succ]
      refine wpAnyH_take (i := 8) (oi := { dst := some 41, op := _, type := _, pos := _, after := _, guard := _ }) (v := .slice (some ⟨g, 0, none⟩) n cap) rfl (by kernel_rfl) (by kernel_rfl) (by kernel_rfl) (fun _ _ _ h => h) (Or.inl ⟨by rfl, by intro w hSw; clear hSw; go_simp; (try with_reducible rfl)⟩) (by assumption) ?_
      try simp only [Act.put, List.setIfInBounds_toArray, List.set_cons_zero, List.set_cons_succ]
      refine wpAnyH_take (i := 9) (oi := { dst := some 42, op := _, type := _, pos := _, after := _, guard := _ }) (v := .int .i64 (k : Int)) rfl (by kernel_rfl) (by kernel_rfl) (by kernel_rfl) (fun _ _ _ h => h) (Or.inl ⟨by rfl, by intro w hSw; clear hSw; go_simp; (try with_reducible rfl)⟩) (by assumption) ?_
      try simp only [Act.put, List.setIfInBounds_toArray, List.set_cons_zero, List.set_cons_succ]
      refine wpAnyH_take (i := 10) (oi := { dst := some 43, op := _, type := _, pos := _, after := _, guard := _ }) (v := .slice (some ⟨g, o, none⟩) (n - k) (cap - k)) rfl (by kernel_rfl) (by kernel_rfl) (by kernel_rfl) (fun _ _ _ h => h) (Or.inl ⟨by rfl, by
            intro W hSw
            clear hSw
            by_cases hcc : cap = k
            · have hoo := HO1.out hcc
              subst hoo
              go_simp
            · have hoo := HO2.out hcc
              subst hoo
              go_simp⟩) (by assumption) ?_
      try simp only [Act.put, List.setIfInBounds_toArray, List.set_cons_zero, List.set_cons_succ]
      clear HO1 HO2 hHeld
      refine wpAnyH_ready (rs := [0, 6]) (by kernel_rfl) (by simp) ?_
      refine AllReadyH.cons rfl (fun K hK => ?_) ?_
      · rw [if_pos (by rfl)]
        refine wp_build0 26 29 rfl Try.underlying26 hi hz0 ?_
        have R0 : (x0.alloc (.cells #[] 29)).ownsRow (w.heap.size + 1) 29 16 (.slice (some ⟨x0.heap.size, 0, none⟩) 0 0) 0 [] := World.ownsRow_made (base := w.heap.size + 1) (e := 29) (size := 16) x0 #[] 0 A3.lt (by decide) rfl
        have A1 : CAt (x0.alloc (.cells #[] 29)) g (n * 16) h := A1.alloc _
        have A3 : Blk (x0.alloc (.cells #[] 29)) w.heap.size 16 f 29 := A3.alloc _
        have HW : Hid (Below w.heap.size w (x0.alloc (.cells #[] 29))) := HW.out.alloc HW.out.size _
        have HSx1 : (x0.alloc (.cells #[] 29)).heap.size = x0.heap.size + 1 := by simp
        generalize (x0.alloc (.cells #[] 29)) = x1 at *
        refine hK.out _ _ ⟨A1, A3⟩ (fun hHeld => ?_)
        clear hK K hHeld
        try simp only [Act.put, List.setIfInBounds_toArray, List.set_cons_zero, List.set_cons_succ]
        refine wpAnyH_ready (rs := [4, 6]) (by kernel_rfl) (by simp) ?_
        refine AllReadyH.cons rfl (fun K hK => ?_) ?_
        · rw [if_pos (by rfl)]
          refine wp_app (v := .slice (some ⟨x0.heap.size, 0, none⟩) 0 0) _ _ 26 rfl (w.heap.size + 1) 29 i0 _ 16 128 Try.underlying26 hi hz0 hz1 hz2 rfl (by decide) rfl R0 g 0 k cap h (n * 16) rfl A1 (by omega) (by unfold maxLen; omega) (by omega) (by have := A3.lt; omega) ?_
          intro v1 y4 R1 hbl hgr
          have A1 := A1.low hbl (by omega)
          have A3 := A3.below hbl (by omega)
          have HW : Hid (Below w.heap.size w y4) := HW.out.trans (hbl.mono (by omega))
          clear hbl hgr R0
          refine hK.out _ _ ⟨A1, A3⟩ (fun hHeld => ?_)
          clear hK K hHeld
          try simp only [Act.put, List.setIfInBounds_toArray, List.set_cons_zero, List.set_cons_succ]
          refine wpAnyH_ready (rs := [6]) (by kernel_rfl) (by simp) ?_
          refine AllReadyH.cons rfl (fun K hK => ?_) AllReadyH.nil
          rw [if_pos (by rfl)]
          refine wp_buildB _ rfl (f := f) rfl ?_
          have B6 : Blk (y4.alloc (.cells (mk 16 f) 29)) y4.heap.size 16 f 29 := Blk.new _ _ _ _
          have A1 : CAt (y4.alloc (.cells (mk 16 f) 29)) g (n * 16) h := A1.alloc _
          have A3 : Blk (y4.alloc (.cells (mk 16 f) 29)) w.heap.size 16 f 29 := A3.alloc _
          have HW : Hid (Below w.heap.size w (y4.alloc (.cells (mk 16 f) 29))) := HW.out.alloc HW.out.size _
          have R1 : (y4.alloc (.cells (mk 16 f) 29)).ownsRow (w.heap.size + 1) 29 16 v1 (0 + k) ([] ++ (mk (k * 16) fun j => h (0 + j)).toList) := World.ownsRow.alloc R1 _
          have HSx2 : (y4.alloc (.cells (mk 16 f) 29)).heap.size = y4.heap.size + 1 := by simp
          generalize (y4.alloc (.cells (mk 16 f) 29)) = x2 at *
          refine hK.out _ _ ⟨A1, A3⟩ (fun hHeld => ?_)
          clear hK K hHeld
          try simp only [Act.put, List.setIfInBounds_toArray, List.set_cons_zero, List.set_cons_succ]
          refine wpAnyH_ready (rs := [7]) (by kernel_rfl) (by simp) ?_
          refine AllReadyH.cons rfl (fun K hK => ?_) AllReadyH.nil
          rw [if_pos (by rfl)]
          refine wp_app (v := v1) _ _ 26 rfl (w.heap.size + 1) 29 i0 _ 16 128 Try.underlying26 hi hz0 hz1 hz2 rfl (by decide) rfl R1 y4.heap.size 0 1 1 f 16 rfl B6.at (by omega) (by unfold maxLen; omega) (by omega) (by have := A3.lt; omega) ?_
          intro v2 y7 R2 hbl hgr
          have A1 := A1.low hbl (by omega)
          have A3 := A3.below hbl (by omega)
          have HW : Hid (Below w.heap.size w y7) := HW.out.trans (hbl.mono (by omega))
          clear hbl hgr R1
          refine hK.out _ _ ⟨A1, A3⟩ (fun hHeld => ?_)
          clear hK K hHeld
          try simp only [Act.put, List.setIfInBounds_toArray, List.set_cons_zero, List.set_cons_succ]
          clear B6
          refine wpAnyH_ready (rs := [11]) (by kernel_rfl) (by simp) ?_
          refine AllReadyH.cons rfl (fun K hK => ?_) AllReadyH.nil
          rw [if_pos (by rfl)]
          refine wp_app (v := v2) _ _ 26 rfl (w.heap.size + 1) 29 i0 _ 16 128 Try.underlying26 hi hz0 hz1 hz2 rfl (by decide) rfl R2 g o (n - k) (cap - k) h (n * 16) rfl A1 (by omega) (by unfold maxLen; omega) (by omega) (by have := A3.lt; omega) ?_
          intro v3 y8 R3 hbl hgr
          have A1 := A1.low hbl (by omega)
          have A3 := A3.below hbl (by omega)
          have HW : Hid (Below w.heap.size w y8) := HW.out.trans (hbl.mono (by omega))
          clear hbl hgr R2
          refine hK.out _ _ ⟨A1, A3⟩ (fun hHeld => ?_)
          clear hK K
          try simp only [Act.put, List.setIfInBounds_toArray, List.set_cons_zero, List.set_cons_succ]
          refine wpAnyH_take (i := 12) (oi := { dst := some 4, op := _, type := _, pos := _, after := _, guard := _ }) (v := v3) rfl (by kernel_rfl) (by kernel_rfl) (by kernel_rfl) (fun _ _ _ h => h) (Or.inl ⟨by rfl, by intro w hSw; clear hSw; go_simp; (try with_reducible rfl)⟩) (by assumption) ?_
          try simp only [Act.put, List.setIfInBounds_toArray, List.set_cons_zero, List.set_cons_succ]
          refine wpAnyH_done (by kernel_rfl) ?_ _
          have R3 := R3
          rw [show 0 + k + 1 + (n - k) = n + 1 by omega, HF.out] at R3
          obtain ⟨g', cap', hv'⟩ := ownsRow_succ R3
          have HV := Lib.hid hv'
          have HR3 := Lib.hid R3
          clear hv' R3
          go_wp2_with fail
          go_ret
          rw [HI.out]
          refine ⟨g', cap', ?_, ?_, HW.out⟩
          · rw [HV.out, List.length_append, List.length_cons, List.length_take, List.length_drop, hN, show min k n + (n - k + 1) = n + 1 by omega]; rfl
          · show OwnsL _ _ _ _ _ _
            have e := HR3.out
            rw [HV.out] at e
            unfold OwnsL
            rw [show (L.take k ++ cl 16 f :: L.drop k).length = n + 1 by rw [List.length_append, List.length_cons, List.length_take, List.length_drop, hN]; omega]
            exact ownsRow_wide e (by omega)
        refine AllReadyH.cons rfl (fun K hK => ?_) AllReadyH.nil
        rw [if_pos (by rfl)]
        refine wp_buildB _ rfl (f := f) rfl ?_
        have B6 : Blk (x1.alloc (.cells (mk 16 f) 29)) x1.heap.size 16 f 29 := Blk.new _ _ _ _
        have A1 : CAt (x1.alloc (.cells (mk 16 f) 29)) g (n * 16) h := A1.alloc _
        have A3 : Blk (x1.alloc (.cells (mk 16 f) 29)) w.heap.size 16 f 29 := A3.alloc _
        have HW : Hid (Below w.heap.size w (x1.alloc (.cells (mk 16 f) 29))) := HW.out.alloc HW.out.size _
        have R0 : (x1.alloc (.cells (mk 16 f) 29)).ownsRow (w.heap.size + 1) 29 16 (.slice (some ⟨x0.heap.size, 0, none⟩) 0 0) 0 [] := World.ownsRow.alloc R0 _
        have HSx2 : (x1.alloc (.cells (mk 16 f) 29)).heap.size = x1.heap.size + 1 := by simp
        generalize (x1.alloc (.cells (mk 16 f) 29)) = x2 at *
        refine hK.out _ _ ⟨A1, A3⟩ (fun hHeld => ?_)
        clear hK K hHeld
        try simp only [Act.put, List.setIfInBounds_toArray, List.set_cons_zero, List.set_cons_succ]
        refine wpAnyH_ready (rs := [4]) (by kernel_rfl) (by simp) ?_
        refine AllReadyH.cons rfl (fun K hK => ?_) AllReadyH.nil
        rw [if_pos (by rfl)]
        refine wp_app (v := .slice (some ⟨x0.heap.size, 0, none⟩) 0 0) _ _ 26 rfl (w.heap.size + 1) 29 i0 _ 16 128 Try.underlying26 hi hz0 hz1 hz2 rfl (by decide) rfl R0 g 0 k cap h (n * 16) rfl A1 (by omega) (by unfold maxLen; omega) (by omega) (by have := A3.lt; omega) ?_
        intro v1 y4 R1 hbl hgr
        have A1 := A1.low hbl (by omega)
        have A3 := A3.below hbl (by omega)
        have HW : Hid (Below w.heap.size w y4) := HW.out.trans (hbl.mono (by omega))
        have B6 := B6.grown hgr (by intro e; simp only [Value.ownBlock, Option.some.injEq] at e; omega)
        clear hbl hgr R0
        refine hK.out _ _ ⟨A1, A3⟩ (fun hHeld => ?_)
        clear hK K hHeld
        try simp only [Act.put, List.setIfInBounds_toArray, List.set_cons_zero, List.set_cons_succ]
        refine wpAnyH_ready (rs := [7]) (by kernel_rfl) (by simp) ?_
        refine AllReadyH.cons rfl (fun K hK => ?_) AllReadyH.nil
        rw [if_pos (by rfl)]
        refine wp_app (v := v1) _ _ 26 rfl (w.heap.size + 1) 29 i0 _ 16 128 Try.underlying26 hi hz0 hz1 hz2 rfl (by decide) rfl R1 x1.heap.size 0 1 1 f 16 rfl B6.at (by omega) (by unfold maxLen; omega) (by omega) (by have := A3.lt; omega) ?_
        intro v2 y7 R2 hbl hgr
        have A1 := A1.low hbl (by omega)
        have A3 := A3.below hbl (by omega)
        have HW : Hid (Below w.heap.size w y7) := HW.out.trans (hbl.mono (by omega))
        clear hbl hgr R1
        refine hK.out _ _ ⟨A1, A3⟩ (fun hHeld => ?_)
        clear hK K hHeld
        try simp only [Act.put, List.setIfInBounds_toArray, List.set_cons_zero, List.set_cons_succ]
        clear B6
        refine wpAnyH_ready (rs := [11]) (by kernel_rfl) (by simp) ?_
        refine AllReadyH.cons rfl (fun K hK => ?_) AllReadyH.nil
        rw [if_pos (by rfl)]
        refine wp_app (v := v2) _ _ 26 rfl (w.heap.size + 1) 29 i0 _ 16 128 Try.underlying26 hi hz0 hz1 hz2 rfl (by decide) rfl R2 g o (n - k) (cap - k) h (n * 16) rfl A1 (by omega) (by unfold maxLen; omega) (by omega) (by have := A3.lt; omega) ?_
        intro v3 y8 R3 hbl hgr
        have A1 := A1.low hbl (by omega)
        have A3 := A3.below hbl (by omega)
        have HW : Hid (Below w.heap.size w y8) := HW.out.trans (hbl.mono (by omega))
        clear hbl hgr R2
        refine hK.out _ _ ⟨A1, A3⟩ (fun hHeld => ?_)
        clear hK K
        try simp only [Act.put, List.setIfInBounds_toArray, List.set_cons_zero, List.set_cons_succ]
        refine wpAnyH_take (i := 12) (oi := { dst := some 4, op := _, type := _, pos := _, after := _, guard := _ }) (v := v3) rfl (by kernel_rfl) (by kernel_rfl) (by kernel_rfl) (fun _ _ _ h => h) (Or.inl ⟨by rfl, by intro w hSw; clear hSw; go_simp; (try with_reducible rfl)⟩) (by assumption) ?_
        try simp only [Act.put, List.setIfInBounds_toArray, List.set_cons_zero, List.set_cons_succ]
        refine wpAnyH_done (by kernel_rfl) ?_ _
        have R3 := R3
        rw [show 0 + k + 1 + (n - k) = n + 1 by omega, HF.out] at R3
        obtain ⟨g', cap', hv'⟩ := ownsRow_succ R3
        have HV := Lib.hid hv'
        have HR3 := Lib.hid R3
        clear hv' R3
        go_wp2_with fail
        go_ret
        rw [HI.out]
        refine ⟨g', cap', ?_, ?_, HW.out⟩
        · rw [HV.out, List.length_append, List.length_cons, List.length_take, List.length_drop, hN, show min k n + (n - k + 1) = n + 1 by omega]; rfl
        · show OwnsL _ _ _ _ _ _
          have e := HR3.out
          rw [HV.out] at e
          unfold OwnsL
          rw [show (L.take k ++ cl 16 f :: L.drop k).length = n + 1 by rw [List.length_append, List.length_cons, List.length_take, List.length_drop, hN]; omega]
          exact ownsRow_wide e (by omega)
      refine AllReadyH.cons rfl (fun K hK => ?_) AllReadyH.nil
      rw [if_pos (by rfl)]
      refine wp_buildB _ rfl (f := f) rfl ?_
      have B6 : Blk (x0.alloc (.cells (mk 16 f) 29)) x0.heap.size 16 f 29 := Blk.new _ _ _ _
      have A1 : CAt (x0.alloc (.cells (mk 16 f) 29)) g (n * 16) h := A1.alloc _
      have A3 : Blk (x0.alloc (.cells (mk 16 f) 29)) w.heap.size 16 f 29 := A3.alloc _
      have HW : Hid (Below w.heap.size w (x0.alloc (.cells (mk 16 f) 29))) := HW.out.alloc HW.out.size _
      have HSx1 : (x0.alloc (.cells (mk 16 f) 29)).heap.size = x0.heap.size + 1 := by simp
      generalize (x0.alloc (.cells (mk 16 f) 29)) = x1 at *
      refine hK.out _ _ ⟨A1, A3⟩ (fun hHeld => ?_)
      clear hK K hHeld
      try simp only [Act.put, List.setIfInBounds_toArray, List.set_cons_zero, List.set_cons_succ]
      refine wpAnyH_ready (rs := [0]) (by kernel_rfl) (by simp) ?_
      refine AllReadyH.cons rfl (fun K hK => ?_) AllReadyH.nil
      rw [if_pos (by rfl)]
      refine wp_build0 26 29 rfl Try.underlying26 hi hz0 ?_
      have R0 : (x1.alloc (.cells #[] 29)).ownsRow (w.heap.size + 1) 29 16 (.slice (some ⟨x1.heap.size, 0, none⟩) 0 0) 0 [] := World.ownsRow_made (base := w.heap.size + 1) (e := 29) (size := 16) x1 #[] 0 A3.lt (by decide) rfl
      have A1 : CAt (x1.alloc (.cells #[] 29)) g (n * 16) h := A1.alloc _
      have A3 : Blk (x1.alloc (.cells #[] 29)) w.heap.size 16 f 29 := A3.alloc _
      have HW : Hid (Below w.heap.size w (x1.alloc (.cells #[] 29))) := HW.out.alloc HW.out.size _
      have B6 : Blk (x1.alloc (.cells #[] 29)) x0.heap.size 16 f 29 := B6.alloc _
      have HSx2 : (x1.alloc (.cells #[] 29)).heap.size = x1.heap.size + 1 := by simp
      generalize (x1.alloc (.cells #[] 29)) = x2 at *
      refine hK.out _ _ ⟨A1, A3⟩ (fun hHeld => ?_)
      clear hK K hHeld
      try simp only [Act.put, List.setIfInBounds_toArray, List.set_cons_zero, List.set_cons_succ]
      refine wpAnyH_ready (rs := [4]) (by kernel_rfl) (by simp) ?_
      refine AllReadyH.cons rfl (fun K hK => ?_) AllReadyH.nil
      rw [if_pos (by rfl)]
      refine wp_app (v := .slice (some ⟨x1.heap.size, 0, none⟩) 0 0) _ _ 26 rfl (w.heap.size + 1) 29 i0 _ 16 128 Try.underlying26 hi hz0 hz1 hz2 rfl (by decide) rfl R0 g 0 k cap h (n * 16) rfl A1 (by omega) (by unfold maxLen; omega) (by omega) (by have := A3.lt; omega) ?_
      intro v1 y4 R1 hbl hgr
      have A1 := A1.low hbl (by omega)
      have A3 := A3.below hbl (by omega)
      have HW : Hid (Below w.heap.size w y4) := HW.out.trans (hbl.mono (by omega))
      have B6 := B6.grown hgr (by intro e; simp only [Value.ownBlock, Option.some.injEq] at e; omega)
      clear hbl hgr R0
      refine hK.out _ _ ⟨A1, A3⟩ (fun hHeld => ?_)
      clear hK K hHeld
      try simp only [Act.put, List.setIfInBounds_toArray, List.set_cons_zero, List.set_cons_succ]
      refine wpAnyH_ready (rs := [7]) (by kernel_rfl) (by simp) ?_
      refine AllReadyH.cons rfl (fun K hK => ?_) AllReadyH.nil
      rw [if_pos (by rfl)]
      refine wp_app (v := v1) _ _ 26 rfl (w.heap.size + 1) 29 i0 _ 16 128 Try.underlying26 hi hz0 hz1 hz2 rfl (by decide) rfl R1 x0.heap.size 0 1 1 f 16 rfl B6.at (by omega) (by unfold maxLen; omega) (by omega) (by have := A3.lt; omega) ?_
      intro v2 y7 R2 hbl hgr
      have A1 := A1.low hbl (by omega)
      have A3 := A3.below hbl (by omega)
      have HW : Hid (Below w.heap.size w y7) := HW.out.trans (hbl.mono (by omega))
      clear hbl hgr R1
      refine hK.out _ _ ⟨A1, A3⟩ (fun hHeld => ?_)
      clear hK K hHeld
      try simp only [Act.put, List.setIfInBounds_toArray, List.set_cons_zero, List.set_cons_succ]
      clear B6
      refine wpAnyH_ready (rs := [11]) (by kernel_rfl) (by simp) ?_
      refine AllReadyH.cons rfl (fun K hK => ?_) AllReadyH.nil
      rw [if_pos (by rfl)]
      refine wp_app (v := v2) _ _ 26 rfl (w.heap.size + 1) 29 i0 _ 16 128 Try.underlying26 hi hz0 hz1 hz2 rfl (by decide) rfl R2 g o (n - k) (cap - k) h (n * 16) rfl A1 (by omega) (by unfold maxLen; omega) (by omega) (by have := A3.lt; omega) ?_
      intro v3 y8 R3 hbl hgr
      have A1 := A1.low hbl (by omega)
      have A3 := A3.below hbl (by omega)
      have HW : Hid (Below w.heap.size w y8) := HW.out.trans (hbl.mono (by omega))
      clear hbl hgr R2
      refine hK.out _ _ ⟨A1, A3⟩ (fun hHeld => ?_)
      clear hK K
      try simp only [Act.put, List.setIfInBounds_toArray, List.set_cons_zero, List.set_cons_succ]
      refine wpAnyH_take (i := 12) (oi := { dst := some 4, op := _, type := _, pos := _, after := _, guard := _ }) (v := v3) rfl (by kernel_rfl) (by kernel_rfl) (by kernel_rfl) (fun _ _ _ h => h) (Or.inl ⟨by rfl, by intro w hSw; clear hSw; go_simp; (try with_reducible rfl)⟩) (by assumption) ?_
      try simp only [Act.put, List.setIfInBounds_toArray, List.set_cons_zero, List.set_cons_succ]
      refine wpAnyH_done (by kernel_rfl) ?_ _
      have R3 := R3
      rw [show 0 + k + 1 + (n - k) = n + 1 by omega, HF.out] at R3
      obtain ⟨g', cap', hv'⟩ := ownsRow_succ R3
      have HV := Lib.hid hv'
      have HR3 := Lib.hid R3
      clear hv' R3
      go_wp2_with fail
      go_ret
      rw [HI.out]
      refine ⟨g', cap', ?_, ?_, HW.out⟩
      · rw [HV.out, List.length_append, List.length_cons, List.length_take, List.length_drop, hN, show min k n + (n - k + 1) = n + 1 by omega]; rfl
      · show OwnsL _ _ _ _ _ _
        have e := HR3.out
        rw [HV.out] at e
        unfold OwnsL
        rw [show (L.take k ++ cl 16 f :: L.drop k).length = n + 1 by rw [List.length_append, List.length_cons, List.length_take, List.length_drop, hN]; omega]
        exact ownsRow_wide e (by omega)
end Go.Proofs.Ytlboglcpbbnbcab
