/-
  The contracts of FormBoard and of all eight forms at once, in the program.
-/
import Derived.Test.YtpiegllffkjneaaImplForms
namespace Go.Proofs.Ytpiegllffkjneaa
open Go.RowKit Plain
attribute [local go_sem] store_new

theorem zero128 : Try.zeroCells102 = mk 128 (fun _ => 0) := by kernel_rfl
set_option maxHeartbeats 4000000 in
set_option maxRecDepth 100000 in
theorem eightForms_any (f : Nat → Int) (w : World) :
    Calls Try.prog 92 #[.agg (mk 16 f)] w fun e w' => e = .returned (.agg (mk 128 (eightF f))) ∧ Below w.heap.size w w' := by
  have z128 := zero128
  have K1 := ((Blk.new w 16 f 27).alloc (.cells (mk 128 fun _ => 0) 102)).alloc (.cells (mk 128 fun _ => 0) 102)
  have K2 := (Blk.new (w.alloc (.cells (mk 16 f) 27)) 128 (fun _ => 0) 102).alloc (.cells (mk 128 fun _ => 0) 102)
  have K3 := Blk.new ((w.alloc (.cells (mk 16 f) 27)).alloc (.cells (mk 128 fun _ => 0) 102)) 128 (fun _ => 0) 102
  have HB := Lib.hid ((((Below.refl w.heap.size w).alloc (Nat.le_refl _) (.cells (mk 16 f) 27)).alloc (by simp) (.cells (mk 128 fun _ => 0) 102)).alloc (by simp; omega) (.cells (mk 128 fun _ => 0) 102))
  simp only [World.size_alloc] at K2 K3
  have sr := World.setRow_alloc_new
  go_enter Try.func92, Try.ntmps92
  go_wp2_with ((with_reducible show wpList _ _ _ (Oper.mk _ (Op.store 102 _ _) _ _ _ _ :: _) _ _); refine storeE (K3) rfl rfl rfl rfl ?_)
  rw [setRow_same K3]
  clear z128 sr
  generalize ((w.alloc (.cells (mk 16 f) 27)).alloc (.cells (mk 128 fun _ => 0) 102)).alloc (.cells (mk 128 fun _ => 0) 102) = w1 at *
  refine (forms_any _).mono ?_
  rintro e w2 ⟨rfl, hb2⟩
  have K1 := K1.below hb2 K1.lt
  have K2 := K2.below hb2 K2.lt
  have K3 := K3.below hb2 K3.lt
  have HB : Hid (Below w.heap.size w w2) := HB.out.trans (hb2.mono HB.out.size)
  clear hb2
  go_wp2_with fail
  go_loopg [8] 8 (fun g s8 wr => ∃ k : Nat, k + g = 8 ∧ s8 = .int .i64 k ∧ Blk wr w.heap.size 16 f 27 ∧ Blk wr (w.heap.size + 1) 128 (fun _ => 0) 102 ∧ Blk wr (w.heap.size + 1 + 1) 128 (upto (eightF f) (k * 16)) 102 ∧ Hid (Below w.heap.size w wr))
  case atStart => exact ⟨0, by omega, rfl, K1, K2, K3.congr fun j _ => (by simp [upto]), HB⟩
  case round =>
    obtain ⟨k, hkg, rfl, k1, k2, k3, hb⟩ := hrel
    clear K1 K2 K3 HB
    cases gk with
    | zero =>
      have hk : ¬ ((k : Int) < 8) := by omega
      obtain rfl : k = 8 := by omega
      clear hkg hk
      go_wp2_with (first | ((with_reducible show wpList _ _ _ (Oper.mk _ (Op.load 102 _) _ _ _ _ :: _) _ _); refine loadE (k3) rfl rfl rfl ?_) | ((with_reducible show wpList _ _ _ (Oper.mk _ (Op.store 102 _ _) _ _ _ _ :: _) _ _); refine storeE (k2) rfl rfl rfl rfl ?_))
      try simp only [Exit.inBlock, Exit.then]
      refine retcE (k2.row 128 _) rfl rfl rfl ⟨?_, below_setRow hb.out (by omega) _⟩
      rw [mk_congr fun j hj => upto_all (show j < 8 * 16 from hj)]
    | succ g =>
      by_cases h0 : k = 0
      · subst h0
        have hkk : ((0 : Nat) : Int) = 0 := rfl
        simp only [hkk]
        have hg : g = 7 - 0 := by omega
        subst hg
        have iF := idxF0
        go_wp2_with ((with_reducible show wpList _ _ _ (Oper.mk _ (Op.load 27 _) _ _ _ _ :: _) _ _); refine loadB (k1) rfl rfl rfl ?_)
        refine (form0_any _ _).mono ?_
        rintro e w3 ⟨rfl, hb2⟩
        have k1 := k1.below hb2 k1.lt
        have k2 := k2.below hb2 k2.lt
        have k3 := k3.below hb2 k3.lt
        have HB3 : Hid (Below w.heap.size w w3) := hb.out.trans (hb2.mono hb.out.size)
        clear hb2 hb iF
        go_wp2_with ((with_reducible show wpList _ _ _ (Oper.mk _ (Op.store 27 _ _) _ _ _ _ :: _) _ _); refine storePB (k3) (by omega) rfl rfl rfl rfl ?_)
        go_roundg (7 - 0)
        case rel => exact ⟨0 + 1, by omega, by go_num, k1.rowOther _ _ (by omega), k2.rowOther _ _ (by omega), (k3.row 128 _).congr fun j _ => eight_patch f 0 j, below_setRow HB3.out (by omega) _⟩
        case measure => omega
      by_cases h1 : k = 1
      · subst h1
        have hkk : ((1 : Nat) : Int) = 1 := rfl
        simp only [hkk]
        have hg : g = 7 - 1 := by omega
        subst hg
        have iF := idxF1
        go_wp2_with ((with_reducible show wpList _ _ _ (Oper.mk _ (Op.load 27 _) _ _ _ _ :: _) _ _); refine loadB (k1) rfl rfl rfl ?_)
        refine (form1_any _ _).mono ?_
        rintro e w3 ⟨rfl, hb2⟩
        have k1 := k1.below hb2 k1.lt
        have k2 := k2.below hb2 k2.lt
        have k3 := k3.below hb2 k3.lt
        have HB3 : Hid (Below w.heap.size w w3) := hb.out.trans (hb2.mono hb.out.size)
        clear hb2 hb iF
        go_wp2_with ((with_reducible show wpList _ _ _ (Oper.mk _ (Op.store 27 _ _) _ _ _ _ :: _) _ _); refine storePB (k3) (by omega) rfl rfl rfl rfl ?_)
        go_roundg (7 - 1)
        case rel => exact ⟨1 + 1, by omega, by go_num, k1.rowOther _ _ (by omega), k2.rowOther _ _ (by omega), (k3.row 128 _).congr fun j _ => eight_patch f 1 j, below_setRow HB3.out (by omega) _⟩
        case measure => omega
      by_cases h2 : k = 2
      · subst h2
        have hkk : ((2 : Nat) : Int) = 2 := rfl
        simp only [hkk]
        have hg : g = 7 - 2 := by omega
        subst hg
        have iF := idxF2
        go_wp2_with ((with_reducible show wpList _ _ _ (Oper.mk _ (Op.load 27 _) _ _ _ _ :: _) _ _); refine loadB (k1) rfl rfl rfl ?_)
        refine (form2_any _ _).mono ?_
        rintro e w3 ⟨rfl, hb2⟩
        have k1 := k1.below hb2 k1.lt
        have k2 := k2.below hb2 k2.lt
        have k3 := k3.below hb2 k3.lt
        have HB3 : Hid (Below w.heap.size w w3) := hb.out.trans (hb2.mono hb.out.size)
        clear hb2 hb iF
        go_wp2_with ((with_reducible show wpList _ _ _ (Oper.mk _ (Op.store 27 _ _) _ _ _ _ :: _) _ _); refine storePB (k3) (by omega) rfl rfl rfl rfl ?_)
        go_roundg (7 - 2)
        case rel => exact ⟨2 + 1, by omega, by go_num, k1.rowOther _ _ (by omega), k2.rowOther _ _ (by omega), (k3.row 128 _).congr fun j _ => eight_patch f 2 j, below_setRow HB3.out (by omega) _⟩
        case measure => omega
      by_cases h3 : k = 3
      · subst h3
        have hkk : ((3 : Nat) : Int) = 3 := rfl
        simp only [hkk]
        have hg : g = 7 - 3 := by omega
        subst hg
        have iF := idxF3
        go_wp2_with ((with_reducible show wpList _ _ _ (Oper.mk _ (Op.load 27 _) _ _ _ _ :: _) _ _); refine loadB (k1) rfl rfl rfl ?_)
        refine (form3_any _ _).mono ?_
        rintro e w3 ⟨rfl, hb2⟩
        have k1 := k1.below hb2 k1.lt
        have k2 := k2.below hb2 k2.lt
        have k3 := k3.below hb2 k3.lt
        have HB3 : Hid (Below w.heap.size w w3) := hb.out.trans (hb2.mono hb.out.size)
        clear hb2 hb iF
        go_wp2_with ((with_reducible show wpList _ _ _ (Oper.mk _ (Op.store 27 _ _) _ _ _ _ :: _) _ _); refine storePB (k3) (by omega) rfl rfl rfl rfl ?_)
        go_roundg (7 - 3)
        case rel => exact ⟨3 + 1, by omega, by go_num, k1.rowOther _ _ (by omega), k2.rowOther _ _ (by omega), (k3.row 128 _).congr fun j _ => eight_patch f 3 j, below_setRow HB3.out (by omega) _⟩
        case measure => omega
      by_cases h4 : k = 4
      · subst h4
        have hkk : ((4 : Nat) : Int) = 4 := rfl
        simp only [hkk]
        have hg : g = 7 - 4 := by omega
        subst hg
        have iF := idxF4
        go_wp2_with ((with_reducible show wpList _ _ _ (Oper.mk _ (Op.load 27 _) _ _ _ _ :: _) _ _); refine loadB (k1) rfl rfl rfl ?_)
        refine (form4_any _ _).mono ?_
        rintro e w3 ⟨rfl, hb2⟩
        have k1 := k1.below hb2 k1.lt
        have k2 := k2.below hb2 k2.lt
        have k3 := k3.below hb2 k3.lt
        have HB3 : Hid (Below w.heap.size w w3) := hb.out.trans (hb2.mono hb.out.size)
        clear hb2 hb iF
        go_wp2_with ((with_reducible show wpList _ _ _ (Oper.mk _ (Op.store 27 _ _) _ _ _ _ :: _) _ _); refine storePB (k3) (by omega) rfl rfl rfl rfl ?_)
        go_roundg (7 - 4)
        case rel => exact ⟨4 + 1, by omega, by go_num, k1.rowOther _ _ (by omega), k2.rowOther _ _ (by omega), (k3.row 128 _).congr fun j _ => eight_patch f 4 j, below_setRow HB3.out (by omega) _⟩
        case measure => omega
      by_cases h5 : k = 5
      · subst h5
        have hkk : ((5 : Nat) : Int) = 5 := rfl
        simp only [hkk]
        have hg : g = 7 - 5 := by omega
        subst hg
        have iF := idxF5
        go_wp2_with ((with_reducible show wpList _ _ _ (Oper.mk _ (Op.load 27 _) _ _ _ _ :: _) _ _); refine loadB (k1) rfl rfl rfl ?_)
        refine (form5_any _ _).mono ?_
        rintro e w3 ⟨rfl, hb2⟩
        have k1 := k1.below hb2 k1.lt
        have k2 := k2.below hb2 k2.lt
        have k3 := k3.below hb2 k3.lt
        have HB3 : Hid (Below w.heap.size w w3) := hb.out.trans (hb2.mono hb.out.size)
        clear hb2 hb iF
        go_wp2_with ((with_reducible show wpList _ _ _ (Oper.mk _ (Op.store 27 _ _) _ _ _ _ :: _) _ _); refine storePB (k3) (by omega) rfl rfl rfl rfl ?_)
        go_roundg (7 - 5)
        case rel => exact ⟨5 + 1, by omega, by go_num, k1.rowOther _ _ (by omega), k2.rowOther _ _ (by omega), (k3.row 128 _).congr fun j _ => eight_patch f 5 j, below_setRow HB3.out (by omega) _⟩
        case measure => omega
      by_cases h6 : k = 6
      · subst h6
        have hkk : ((6 : Nat) : Int) = 6 := rfl
        simp only [hkk]
        have hg : g = 7 - 6 := by omega
        subst hg
        have iF := idxF6
        go_wp2_with ((with_reducible show wpList _ _ _ (Oper.mk _ (Op.load 27 _) _ _ _ _ :: _) _ _); refine loadB (k1) rfl rfl rfl ?_)
        refine (form6_any _ _).mono ?_
        rintro e w3 ⟨rfl, hb2⟩
        have k1 := k1.below hb2 k1.lt
        have k2 := k2.below hb2 k2.lt
        have k3 := k3.below hb2 k3.lt
        have HB3 : Hid (Below w.heap.size w w3) := hb.out.trans (hb2.mono hb.out.size)
        clear hb2 hb iF
        go_wp2_with ((with_reducible show wpList _ _ _ (Oper.mk _ (Op.store 27 _ _) _ _ _ _ :: _) _ _); refine storePB (k3) (by omega) rfl rfl rfl rfl ?_)
        go_roundg (7 - 6)
        case rel => exact ⟨6 + 1, by omega, by go_num, k1.rowOther _ _ (by omega), k2.rowOther _ _ (by omega), (k3.row 128 _).congr fun j _ => eight_patch f 6 j, below_setRow HB3.out (by omega) _⟩
        case measure => omega
      by_cases h7 : k = 7
      · subst h7
        have hkk : ((7 : Nat) : Int) = 7 := rfl
        simp only [hkk]
        have hg : g = 7 - 7 := by omega
        subst hg
        have iF := idxF7
        go_wp2_with ((with_reducible show wpList _ _ _ (Oper.mk _ (Op.load 27 _) _ _ _ _ :: _) _ _); refine loadB (k1) rfl rfl rfl ?_)
        refine (form7_any _ _).mono ?_
        rintro e w3 ⟨rfl, hb2⟩
        have k1 := k1.below hb2 k1.lt
        have k2 := k2.below hb2 k2.lt
        have k3 := k3.below hb2 k3.lt
        have HB3 : Hid (Below w.heap.size w w3) := hb.out.trans (hb2.mono hb.out.size)
        clear hb2 hb iF
        go_wp2_with ((with_reducible show wpList _ _ _ (Oper.mk _ (Op.store 27 _ _) _ _ _ _ :: _) _ _); refine storePB (k3) (by omega) rfl rfl rfl rfl ?_)
        go_roundg (7 - 7)
        case rel => exact ⟨7 + 1, by omega, by go_num, k1.rowOther _ _ (by omega), k2.rowOther _ _ (by omega), (k3.row 128 _).congr fun j _ => eight_patch f 7 j, below_setRow HB3.out (by omega) _⟩
        case measure => omega
      omega
end Go.Proofs.Ytpiegllffkjneaa
