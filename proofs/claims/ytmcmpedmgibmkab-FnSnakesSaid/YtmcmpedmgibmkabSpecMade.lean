/-
  The contracts of l3Made and FormBoard of the reference: the form k of a board.
-/
import Derived.Test.YtmcmpedmgibmkabSpecForms
namespace Go.Proofs.Ytmcmpedmgibmkab
open Go.RowKit Plain
attribute [local go_sem] store_new

theorem isForm_nat {k : Int} (h0 : 0 ≤ k) (h1 : k ≤ 7) : ∃ n : Nat, k = n ∧ n < 8 := ⟨k.toNat, by omega, by omega⟩
theorem l3Form_yes (x : Int) (w : World) (h0 : 0 ≤ x) (h1 : x ≤ 7) :
    Calls Try.prog 27 #[.int .i64 x] w fun e w' => e = .returned (.bool true) ∧ w = w' := by
  go_enter Try.func27, Try.ntmps27
  go_wp2_with fail
  refine (l1In_yes x 0 7 _ h0 h1).mono ?_
  rintro e w' ⟨rfl, rfl⟩
  go_wp2
  go_ret
  exact ⟨rfl, rfl⟩
theorem l3Form_no (x : Int) (w : World) (h : x < 0 ∨ 7 < x) :
    Calls Try.prog 27 #[.int .i64 x] w fun e w' => e = .returned (.bool false) ∧ w = w' := by
  have H := Lib.hid h
  clear h
  go_enter Try.func27, Try.ntmps27
  go_wp2_with fail
  refine (l1In_no x 0 7 _ H.out).mono ?_
  rintro e w' ⟨rfl, rfl⟩
  go_wp2
  go_ret
  exact ⟨rfl, rfl⟩
theorem mod4 (k : Nat) : ((k : Int)).tmod 4 = ((k % 4 : Nat) : Int) := by rw [Int.tmod_eq_emod_of_nonneg (by omega)]; omega

set_option maxHeartbeats 1000000 in
theorem l3Made_any (f : Nat → Int) (k : Nat) (w : World) (hk : k < 8) :
    Calls Try.prog 45 #[.agg (mk 16 f), .int .i64 k] w fun e w' => e = .returned (.agg (mk 16 (formF f k))) ∧ Below w.heap.size w w' := by
  have z16 := zero16
  have K1 := (Blk.new w 16 f 35).alloc (.cells (mk 16 fun _ => 0) 35)
  have K2 := Blk.new (w.alloc (.cells (mk 16 f) 35)) 16 (fun _ => 0) 35
  have HB := Lib.hid (((Below.refl w.heap.size w).alloc (Nat.le_refl _) (.cells (mk 16 f) 35)).alloc (by simp) (.cells (mk 16 fun _ => 0) 35))
  simp only [World.size_alloc] at K2
  have hm := mod4 k
  have hk0 : (0 : Int) ≤ (k : Int) := by omega
  have hk8 : (k : Int) < 8 := by omega
  obtain ⟨m, HM⟩ : ∃ m, Hid (m = k % 4) := ⟨_, rfl⟩
  rw [← HM.out] at hm
  have hm4 : m < 4 := by have := HM.out; omega
  go_enter Try.func45, Try.ntmps45
  go_wp2_with fail
  go_loopg [5] 4 (fun g s5 wr => ∃ i : Nat, i + g = 4 ∧ i ≤ m ∧ s5 = .int .i64 i ∧ Blk wr w.heap.size 16 (qrt f i) 35 ∧ Blk wr (w.heap.size + 1) 16 (fun _ => 0) 35 ∧ Hid (Below w.heap.size w wr))
  case atStart => exact ⟨0, by omega, by omega, rfl, K1, K2, HB⟩
  case round =>
    obtain ⟨i, hig, him, rfl, k1, k2, hb⟩ := hrel
    by_cases hi : i < m
    · cases gk with
      | zero => omega
      | succ g =>
        have hlt : (i : Int) < (m : Int) := by omega
        clear him
        go_wp2_with ((with_reducible show wpList _ _ _ (Oper.mk _ (Op.load 35 _) _ _ _ _ :: _) _ _); refine loadB (k1) rfl rfl rfl ?_)
        refine (l3Quarter_any _ _).mono ?_
        rintro e w2 ⟨rfl, hb2⟩
        have k1 := k1.below hb2 k1.lt
        have k2 := k2.below hb2 k2.lt
        have HB2 : Hid (Below w.heap.size w w2) := hb.out.trans (hb2.mono hb.out.size)
        have hs : w.heap.size < w2.heap.size := by have := k2.lt; omega
        clear hb2 hb
        go_wp2_with ((with_reducible show wpList _ _ _ (Oper.mk _ (Op.store 35 _ _) _ _ _ _ :: _) _ _); refine storeB (k1) rfl rfl rfl rfl ?_)
        go_roundg g
        case rel => exact ⟨i + 1, by omega, by omega, by go_num, (k1.row 16 _).congr (qrt_step f i (by omega)), k2.rowOther _ _ (by omega), below_setRow HB2.out (Nat.le_refl _) _⟩
        case measure => omega
    · obtain rfl : i = m := by omega
      have hlt : ¬ ((i : Int) < (i : Int)) := by omega
      have HQ : Hid (qrt f i = formF f (k % 4)) := by
        show _ = _
        unfold qrt; rw [HM.out]; congr 1; omega
      clear him hi
      by_cases h4 : 4 ≤ k
      · have d4 : decide ((4 : Int) ≤ (k : Int)) = true := by simp; omega
        have H4 := Lib.hid h4
        have HK := Lib.hid hk
        clear h4 hk hm4 hig
        go_wp2_with ((with_reducible show wpList _ _ _ (Oper.mk _ (Op.load 35 _) _ _ _ _ :: _) _ _); refine loadB (k1) rfl rfl rfl ?_)
        refine (l3Mirror_any _ _).mono ?_
        rintro e w2 ⟨rfl, hb2⟩
        have k2 := k2.below hb2 k2.lt
        have HB2 : Hid (Below w.heap.size w w2) := hb.out.trans (hb2.mono hb.out.size)
        clear hb2 hb k1
        go_wp2_with ((with_reducible show wpList _ _ _ (Oper.mk _ (Op.store 35 _ _) _ _ _ _ :: _) _ _); refine storeB (k2) rfl rfl rfl rfl ?_)
        try simp only [Exit.inBlock, Exit.then]
        refine retcB (k2.row 16 _) rfl rfl rfl ⟨?_, below_setRow HB2.out (by omega) _⟩
        rw [HQ.out, mk_congr (qrt_mirror f H4.out HK.out)]
      · have d4 : decide ((4 : Int) ≤ (k : Int)) = false := by simp; omega
        have HK : Hid (k % 4 = k) := by show _ = _; omega
        clear h4 hk hm4 hig
        go_wp2_with (first | ((with_reducible show wpList _ _ _ (Oper.mk _ (Op.load 35 _) _ _ _ _ :: _) _ _); refine loadB (k1) rfl rfl rfl ?_) | ((with_reducible show wpList _ _ _ (Oper.mk _ (Op.store 35 _ _) _ _ _ _ :: _) _ _); refine storeB (k2) rfl rfl rfl rfl ?_))
        try simp only [Exit.inBlock, Exit.then]
        refine retcB (k2.row 16 _) rfl rfl rfl ⟨?_, below_setRow hb.out (by omega) _⟩
        rw [HQ.out, HK.out]
end Go.Proofs.Ytmcmpedmgibmkab
