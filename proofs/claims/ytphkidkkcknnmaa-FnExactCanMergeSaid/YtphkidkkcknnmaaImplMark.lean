/-
  The contracts of the program's markMust and markCan: the marks of the places of a row, by the rows before it.
-/
import Derived.Test.YtphkidkkcknnmaaMergeB
namespace Go.Proofs.Ytphkidkkcknnmaa.Plain
def mI (b : Bool) : Int := if b then 1 else 0
set_option linter.unusedVariables false
theorem mgB_flat {R : List (List Int)} (ha : ∀ x, x ∈ R → x.length = 4) {j : Nat} {x : List Int} (hx : R[j]? = some x) : mgB (fun c => flatF R (j * 4 + c)) = mgB (fn x) := mgB_congr fun c hc => flatF_at ha hx hc
theorem al_yes {R : List (List Int)} {p : Nat} (h : ∀ (j : Nat) (x : List Int), R[j]? = some x → mgB (fn x) p = true) : alM R p = true := List.all_eq_true.2 fun x hx => by
  obtain ⟨j, hj⟩ := List.getElem?_of_mem hx; exact h j x hj
theorem al_no {R : List (List Int)} {p j : Nat} {x : List Int} (hx : R[j]? = some x) (h : mgB (fn x) p = false) : alM R p = false := by
  unfold alM; rw [List.all_eq_false]; exact ⟨x, List.mem_of_getElem? hx, by rw [h]; simp⟩
/-- The marks so far: some of the first j rows, or, at the places below p, the next one. -/
def caB (R : List (List Int)) (j p : Nat) (b : Nat → Bool) : Nat → Int := fun k => mI (anM (R.take j) k || (decide (k < p) && b k))
theorem caB_zero (R : List (List Int)) (b : Nat → Bool) (k : Nat) : caB R 0 0 b k = 0 := by simp [caB, anM, mI]
theorem caB_start (R : List (List Int)) (j : Nat) (b c : Nat → Bool) (k : Nat) : caB R j 0 b k = caB R j 0 c k := by simp [caB]
theorem caB_no {R : List (List Int)} {j p : Nat} {b : Nat → Bool} (h : b p = false) (k : Nat) : caB R j p b k = caB R j (p + 1) b k := by
  unfold caB
  by_cases e : k = p
  · subst e; simp [h]
  · congr 2; congr 1; rw [Bool.eq_iff_iff, decide_eq_true_iff, decide_eq_true_iff]; omega
theorem caB_yes {R : List (List Int)} {j p : Nat} {b : Nat → Bool} (h : b p = true) (k : Nat) : upd (caB R j p b) p 1 k = caB R j (p + 1) b k := by
  by_cases e : k = p
  · subst e; rw [upd_same]; simp [caB, h, mI]
  · rw [upd_other _ _ e]; unfold caB
    congr 2; congr 1; rw [Bool.eq_iff_iff, decide_eq_true_iff, decide_eq_true_iff]; omega
theorem caB_row {R : List (List Int)} {j : Nat} {x : List Int} (hx : R[j]? = some x) (c : Nat → Bool) {k : Nat} (hk : k < 4) : caB R j 4 (mgB (fn x)) k = caB R (j + 1) 0 c k := by
  unfold caB anM
  rw [List.take_add_one, hx, List.any_append]
  simp [hk]
theorem caB_all (R : List (List Int)) (c : Nat → Bool) (k : Nat) : caB R R.length 0 c k = mI (anM R k) := by simp [caB]
end Go.Proofs.Ytphkidkkcknnmaa.Plain
namespace Go.Proofs.Ytphkidkkcknnmaa
open Go.RowKit Plain
attribute [local go_sem] store_new
set_option linter.unusedVariables false
set_option linter.unusedSimpArgs false

set_option maxHeartbeats 2000000 in
set_option maxRecDepth 20000 in
theorem markMust_any (f : Nat → Int) (d i g0 c0 : Nat) (w : World) (hV : Vd f) (hi : i < 4) (hc : CAt w g0 ((lnR f d i).length * 4) (flatF (lnR f d i))) :
    Calls Try.prog 73 #[.agg (mk 4 (lineF f d i)), .slice (some ⟨g0, 0, none⟩) (lnR f d i).length c0] w fun e w' => e = .returned (.agg (mk 4 fun p => mI (alM (lnR f d i) p))) ∧ Below w.heap.size w w' := by
  have z4 := zero4
  have hn15 := lnR_15 f d i
  have HMP : Hid (∀ j, j < (lnR f d i).length → ∀ W, Calls Try.prog 95 #[.agg (mk 4 fun c => flatF (lnR f d i) (j * 4 + c)), .agg (mk 4 (lineF f d i))] W fun e w' => e = .returned (.agg (vk 4 (vb (mgB fun c => flatF (lnR f d i) (j * 4 + c))))) ∧ Below W.heap.size W w') := fun j hj W => by
    have hx : (lnR f d i)[j]? = some (lnR f d i)[j] := List.getElem?_eq_getElem hj
    have e : ∀ c, c < 4 → flatF (lnR f d i) (j * 4 + c) = fn (lnR f d i)[j] c := fun c hc => flatF_at (lnR_all f d i) hx hc
    obtain ⟨_, h2, h3⟩ := (rbR_bef (lineF_vd hV d hi) _).1 (List.mem_of_getElem? hx)
    refine mergedPlaces_any _ _ W (fun c hc => by show 0 ≤ flatF (lnR f d i) (j * 4 + c) ∧ flatF (lnR f d i) (j * 4 + c) ≤ 17; rw [e c hc]; exact h2 c hc) fun c hc => ?_
    rw [slid_congr (g := fn (lnR f d i)[j]) 4 e]; exact h3 c hc
  have K1 := (Blk.new w 4 (lineF f d i) 22).alloc (.cells (mk 4 fun _ => 0) 22)
  have K2 := Blk.new (w.alloc (.cells (mk 4 (lineF f d i)) 22)) 4 (fun _ => 0) 22
  have HB := Lib.hid (((Below.refl w.heap.size w).alloc (Nat.le_refl _) (.cells (mk 4 (lineF f d i)) 22)).alloc (by simp) (.cells (mk 4 fun _ => 0) 22))
  simp only [World.size_alloc] at K2
  have hg0 := hc.1
  have hc := (hc.alloc (.cells (mk 4 (lineF f d i)) 22)).alloc (.cells (mk 4 fun _ => 0) 22)
  generalize hL : lineF f d i = L at *
  clear hL
  have HAL : Hid (∀ p, (∀ j, j < (lnR f d i).length → mgB (fun c => flatF (lnR f d i) (j * 4 + c)) p = true) → alM (lnR f d i) p = true) := fun p h => al_yes fun j x hx => by
    rw [← mgB_flat (lnR_all f d i) hx]; exact h j (List.getElem?_eq_some_iff.1 hx).1
  have HAN : Hid (∀ p j, j < (lnR f d i).length → mgB (fun c => flatF (lnR f d i) (j * 4 + c)) p = false → alM (lnR f d i) p = false) := fun p j hj h => by
    have hx : (lnR f d i)[j]? = some (lnR f d i)[j] := List.getElem?_eq_getElem hj
    exact al_no hx (by rw [← mgB_flat (lnR_all f d i) hx]; exact h)
  generalize lnR f d i = R at *
  generalize hN : R.length = n at *
  generalize hH : flatF R = h at *
  go_enter Try.func73, Try.ntmps73
  have K1 := K1.alloc (.cells (mk 4 fun _ => 0) 22)
  have K2 := K2.alloc (.cells (mk 4 fun _ => 0) 22)
  have K3 := Blk.new ((w.alloc (.cells (mk 4 L) 22)).alloc (.cells (mk 4 fun _ => 0) 22)) 4 (fun _ => 0) 22
  have hc := hc.alloc (.cells (mk 4 fun _ => 0) 22)
  have HB := Lib.hid (HB.out.alloc (by simp; omega) (.cells (mk 4 fun _ => 0) 22))
  simp only [World.size_alloc] at K3
  go_wp2_with fail
  go_step3
  go_wp2_with fail
  go_step3
  go_wp2_with fail
  generalize ((w.alloc (.cells (mk 4 L) 22)).alloc (.cells (mk 4 fun _ => 0) 22)).alloc (.cells (mk 4 fun _ => 0) 22) = w3 at *
  go_loopg [10] 4 (fun gp s10 wr => ∃ p : Nat, p + gp = 4 ∧ s10 = .int .i64 p ∧ CAt wr g0 (n * 4) h ∧ Blk wr w.heap.size 4 L 22 ∧ Blk wr (w.heap.size + 1) 4 (fun _ => 0) 22 ∧ Blk wr (w.heap.size + 1 + 1) 4 (upto (fun p => mI (alM R p)) p) 22 ∧ Hid (Below w.heap.size w wr))
  case atStart => exact ⟨0, by omega, rfl, hc, K1, K2, K3.congr fun j _ => (upto_zero _ j).symm, HB⟩
  case round =>
    clear hc K1 K2 K3 HB
    obtain ⟨p, hpg, rfl, hCX, K1, K2, K3, HB⟩ := hrel
    cases gk with
    | zero =>
      have hp : ¬ ((p : Int) < 4) := by omega
      obtain rfl : p = 4 := by omega
      have K3 := K3.congr (g := fun p => mI (alM R p)) fun j hj => upto_all hj
      go_wp2_with (first | ((with_reducible show wpList _ _ _ (Oper.mk _ (Op.load 22 _) _ _ _ _ :: _) _ _); refine loadR (K3) rfl rfl rfl ?_) | ((with_reducible show wpList _ _ _ (Oper.mk _ (Op.store 22 _ _) _ _ _ _ :: _) _ _); refine storeR (K2) rfl rfl rfl rfl ?_))
      try simp only [Exit.inBlock, Exit.then]
      exact retcR (K2.row 4 _) rfl rfl rfl ⟨rfl, below_setRow HB.out (by omega) _⟩
    | succ q9 =>
      have hp4 : (p : Int) < 4 := by omega
      have hp0 : (0 : Int) ≤ (p : Int) := by omega
      have hp9 : p < 4 := by omega
      go_wp2_with fail
      go_loopg [15] n (fun gj s15 wx => ∃ j : Nat, j + gj = n ∧ s15 = .int .i64 j ∧ Hid (∀ m, m < j → mgB (fun c => h (m * 4 + c)) p = true) ∧ CAt wx g0 (n * 4) h ∧ Blk wx w.heap.size 4 L 22 ∧ Blk wx (w.heap.size + 1) 4 (fun _ => 0) 22 ∧ Blk wx (w.heap.size + 1 + 1) 4 (upto (fun p => mI (alM R p)) p) 22 ∧ Hid (Below w.heap.size w wx))
      case atStart => exact ⟨0, by omega, rfl, fun m hm => by omega, hCX, K1, K2, K3, HB⟩
      case round =>
        clear hCX K1 K2 K3 HB
        obtain ⟨j, hjg, rfl, HM, hCX, K1, K2, K3, HB⟩ := hrel
        cases gk with
        | zero =>
          have hj : ¬ ((j : Int) < (n : Int)) := by omega
          obtain rfl : j = n := by omega
          have HA : Hid (mI (alM R p) = 1) := by show _ = _; rw [HAL.out p HM.out]; rfl
          have c3 := K3.cell (i := p) hp9
          have f3 := K3.free p
          go_wp2_with fail
          go_roundg q9
          case rel => exact ⟨p + 1, by omega, by go_num, hCX.setOther _ _ (by dsimp only; omega), K1.setOther _ _ (by dsimp only; omega), K2.setOther _ _ (by dsimp only; omega), (K3.set hp9 1).congr fun k _ => by have := upto_step (fun p => mI (alM R p)) p k; rw [HA.out] at this; exact this, HB.out.setCell (by dsimp only; omega) _⟩
          case measure => omega
        | succ gj =>
          have hj : (j : Int) < (n : Int) := by omega
          have hj0 : (0 : Int) ≤ (j : Int) := by omega
          have hj9 : j < n := by omega
          have K8 := Blk.new wr 4 (fun c => h (j * 4 + c)) 22
          have K1s := K1.alloc (.cells (mk 4 fun c => h (j * 4 + c)) 22)
          have hs := HB.out.size
          go_wp2_with (first | ((with_reducible show wpList _ _ _ (Oper.mk _ (Op.load 22 _) _ _ _ _ :: _) _ _); refine loadAR (hCX) (by omega) rfl rfl rfl ?_) | ((with_reducible show wpList _ _ _ (Oper.mk _ (Op.load 22 _) _ _ _ _ :: _) _ _); refine loadR (K8) rfl rfl rfl ?_) | ((with_reducible show wpList _ _ _ (Oper.mk _ (Op.load 22 _) _ _ _ _ :: _) _ _); refine loadR (K1s) rfl rfl rfl ?_))
          refine (HMP.out j hj9 _).mono ?_
          rintro e w6 ⟨rfl, hb⟩
          have K1 := K1s.below hb K1s.lt
          have hCX := (hCX.alloc (.cells (mk 4 fun c => h (j * 4 + c)) 22)).below hb
          have K2 := (K2.alloc (.cells (mk 4 fun c => h (j * 4 + c)) 22)).below hb (by have := K2.lt; simp; omega)
          have K3 := (K3.alloc (.cells (mk 4 fun c => h (j * 4 + c)) 22)).below hb (by have := K3.lt; simp; omega)
          have HB : Hid (Below w.heap.size w w6) := (HB.out.alloc HB.out.size _).trans (hb.mono (by simp; omega))
          clear hb K8 K1s
          have iT := fun W => idxT (mgB fun c => h (j * 4 + c)) p hp9 W
          cases hbb : mgB (fun c => h (j * 4 + c)) p with
          | true =>
            have HM : Hid (∀ m, m < j + 1 → mgB (fun c => h (m * 4 + c)) p = true) := fun m hm => by
              rcases (by omega : m < j ∨ m = j) with q | rfl
              · exact HM.out m q
              · exact hbb
            rw [hbb] at iT
            clear hbb
            generalize mgB (fun c => h (j * 4 + c)) = bb at iT ⊢
            go_wp2_with fail
            go_roundg gj
            case rel => exact ⟨j + 1, by omega, by go_num, HM, hCX, K1, K2, K3, HB⟩
            case measure => omega
          | false =>
            have HA : Hid (mI (alM R p) = 0) := by show _ = _; rw [HAN.out p j hj9 hbb]; rfl
            rw [hbb] at iT
            clear hbb
            generalize mgB (fun c => h (j * 4 + c)) = bb at iT ⊢
            go_wp2_with fail
            go_roundg q9
            case rel => exact ⟨p + 1, by omega, by go_num, hCX, K1, K2, K3.congr fun k _ => by
              unfold upto
              by_cases e : k = p
              · subst e; rw [if_neg (by omega), if_pos (by omega)]; exact HA.out.symm
              · by_cases l : k < p
                · rw [if_pos l, if_pos (by omega)]
                · rw [if_neg l, if_neg (by omega)], HB⟩
            case measure => omega

set_option maxHeartbeats 2000000 in
set_option maxRecDepth 20000 in
theorem markCan_any (f : Nat → Int) (d i g0 c0 : Nat) (w : World) (hV : Vd f) (hi : i < 4) (hc : CAt w g0 ((lnR f d i).length * 4) (flatF (lnR f d i))) :
    Calls Try.prog 74 #[.agg (mk 4 (lineF f d i)), .slice (some ⟨g0, 0, none⟩) (lnR f d i).length c0] w fun e w' => e = .returned (.agg (mk 4 fun p => mI (anM (lnR f d i) p))) ∧ Below w.heap.size w w' := by
  have z4 := zero4
  have hn15 := lnR_15 f d i
  have HMP : Hid (∀ j, j < (lnR f d i).length → ∀ W, Calls Try.prog 95 #[.agg (mk 4 fun c => flatF (lnR f d i) (j * 4 + c)), .agg (mk 4 (lineF f d i))] W fun e w' => e = .returned (.agg (vk 4 (vb (mgB fun c => flatF (lnR f d i) (j * 4 + c))))) ∧ Below W.heap.size W w') := fun j hj W => by
    have hx : (lnR f d i)[j]? = some (lnR f d i)[j] := List.getElem?_eq_getElem hj
    have e : ∀ c, c < 4 → flatF (lnR f d i) (j * 4 + c) = fn (lnR f d i)[j] c := fun c hc => flatF_at (lnR_all f d i) hx hc
    obtain ⟨_, h2, h3⟩ := (rbR_bef (lineF_vd hV d hi) _).1 (List.mem_of_getElem? hx)
    refine mergedPlaces_any _ _ W (fun c hc => by show 0 ≤ flatF (lnR f d i) (j * 4 + c) ∧ flatF (lnR f d i) (j * 4 + c) ≤ 17; rw [e c hc]; exact h2 c hc) fun c hc => ?_
    rw [slid_congr (g := fn (lnR f d i)[j]) 4 e]; exact h3 c hc
  have K1 := (Blk.new w 4 (lineF f d i) 22).alloc (.cells (mk 4 fun _ => 0) 22)
  have K2 := Blk.new (w.alloc (.cells (mk 4 (lineF f d i)) 22)) 4 (fun _ => 0) 22
  have HB := Lib.hid (((Below.refl w.heap.size w).alloc (Nat.le_refl _) (.cells (mk 4 (lineF f d i)) 22)).alloc (by simp) (.cells (mk 4 fun _ => 0) 22))
  simp only [World.size_alloc] at K2
  have hg0 := hc.1
  have hc := (hc.alloc (.cells (mk 4 (lineF f d i)) 22)).alloc (.cells (mk 4 fun _ => 0) 22)
  generalize hL : lineF f d i = L at *
  clear hL
  have HRW : Hid (∀ j (c : Nat → Bool) k, j < (lnR f d i).length → k < 4 → caB (lnR f d i) j 4 (mgB fun c => flatF (lnR f d i) (j * 4 + c)) k = caB (lnR f d i) (j + 1) 0 c k) := fun j c k hj hk => by
    have hx : (lnR f d i)[j]? = some (lnR f d i)[j] := List.getElem?_eq_getElem hj
    rw [mgB_flat (lnR_all f d i) hx]; exact caB_row hx c hk
  have HALL : Hid (∀ (c : Nat → Bool) k, caB (lnR f d i) (lnR f d i).length 0 c k = mI (anM (lnR f d i) k)) := caB_all _
  generalize lnR f d i = R at *
  generalize hN : R.length = n at *
  generalize hH : flatF R = h at *
  go_enter Try.func74, Try.ntmps74
  have K1 := K1.alloc (.cells (mk 4 fun _ => 0) 22)
  have K2 := K2.alloc (.cells (mk 4 fun _ => 0) 22)
  have K3 := Blk.new ((w.alloc (.cells (mk 4 L) 22)).alloc (.cells (mk 4 fun _ => 0) 22)) 4 (fun _ => 0) 22
  have hc := hc.alloc (.cells (mk 4 fun _ => 0) 22)
  have HB := Lib.hid (HB.out.alloc (by simp; omega) (.cells (mk 4 fun _ => 0) 22))
  simp only [World.size_alloc] at K3
  go_wp2_with fail
  generalize ((w.alloc (.cells (mk 4 L) 22)).alloc (.cells (mk 4 fun _ => 0) 22)).alloc (.cells (mk 4 fun _ => 0) 22) = w3 at *
  go_loopg [13] n (fun gj s13 wr => ∃ j : Nat, j + gj = n ∧ s13 = .int .i64 j ∧ CAt wr g0 (n * 4) h ∧ Blk wr w.heap.size 4 L 22 ∧ Blk wr (w.heap.size + 1) 4 (fun _ => 0) 22 ∧ Blk wr (w.heap.size + 1 + 1) 4 (caB R j 0 fun _ => false) 22 ∧ Hid (Below w.heap.size w wr))
  case atStart => exact ⟨0, by omega, rfl, hc, K1, K2, K3.congr fun j _ => (caB_zero R _ j).symm, HB⟩
  case round =>
    clear hc K1 K2 K3 HB
    obtain ⟨j, hjg, rfl, hCX, K1, K2, K3, HB⟩ := hrel
    cases gk with
    | zero =>
      have hj : ¬ ((j : Int) < (n : Int)) := by omega
      obtain rfl : j = n := by omega
      have K3 := K3.congr (g := fun p => mI (anM R p)) fun k hk => HALL.out _ k
      go_wp2_with (first | ((with_reducible show wpList _ _ _ (Oper.mk _ (Op.load 22 _) _ _ _ _ :: _) _ _); refine loadR (K3) rfl rfl rfl ?_) | ((with_reducible show wpList _ _ _ (Oper.mk _ (Op.store 22 _ _) _ _ _ _ :: _) _ _); refine storeR (K2) rfl rfl rfl rfl ?_))
      try simp only [Exit.inBlock, Exit.then]
      exact retcR (K2.row 4 _) rfl rfl rfl ⟨rfl, below_setRow HB.out (by omega) _⟩
    | succ q9 =>
      have hj : (j : Int) < (n : Int) := by omega
      have hj0 : (0 : Int) ≤ (j : Int) := by omega
      have hj9 : j < n := by omega
      have K8 := Blk.new wr 4 (fun c => h (j * 4 + c)) 22
      have K1s := K1.alloc (.cells (mk 4 fun c => h (j * 4 + c)) 22)
      have hs := HB.out.size
      go_wp2_with (first | ((with_reducible show wpList _ _ _ (Oper.mk _ (Op.load 22 _) _ _ _ _ :: _) _ _); refine loadAR (hCX) (by omega) rfl rfl rfl ?_) | ((with_reducible show wpList _ _ _ (Oper.mk _ (Op.load 22 _) _ _ _ _ :: _) _ _); refine loadR (K8) rfl rfl rfl ?_) | ((with_reducible show wpList _ _ _ (Oper.mk _ (Op.load 22 _) _ _ _ _ :: _) _ _); refine loadR (K1s) rfl rfl rfl ?_))
      refine (HMP.out j hj9 _).mono ?_
      rintro e w6 ⟨rfl, hb⟩
      have K1 := K1s.below hb K1s.lt
      have hCX := (hCX.alloc (.cells (mk 4 fun c => h (j * 4 + c)) 22)).below hb
      have K2 := (K2.alloc (.cells (mk 4 fun c => h (j * 4 + c)) 22)).below hb (by have := K2.lt; simp; omega)
      have K3 := (K3.alloc (.cells (mk 4 fun c => h (j * 4 + c)) 22)).below hb (by have := K3.lt; simp; omega)
      have HB : Hid (Below w.heap.size w w6) := (HB.out.alloc HB.out.size _).trans (hb.mono (by simp; omega))
      clear hb K8 K1s
      have HRJ : Hid (∀ k, k < 4 → caB R j 4 (mgB fun c => h (j * 4 + c)) k = caB R (j + 1) 0 (fun _ => false) k) := fun k hk => HRW.out j _ k hj9 hk
      generalize mgB (fun c => h (j * 4 + c)) = bb at *
      have K3 := K3.congr fun k _ => caB_start R j (fun _ => false) bb k
      go_wp2_with fail
      go_loopg [20] 4 (fun gp s20 wx => ∃ p : Nat, p + gp = 4 ∧ s20 = .int .i64 p ∧ CAt wx g0 (n * 4) h ∧ Blk wx w.heap.size 4 L 22 ∧ Blk wx (w.heap.size + 1) 4 (fun _ => 0) 22 ∧ Blk wx (w.heap.size + 1 + 1) 4 (caB R j p bb) 22 ∧ Hid (Below w.heap.size w wx))
      case atStart => exact ⟨0, by omega, rfl, hCX, K1, K2, K3, HB⟩
      case round =>
        clear hCX K1 K2 K3 HB
        obtain ⟨p, hpg, rfl, hCX, K1, K2, K3, HB⟩ := hrel
        cases gk with
        | zero =>
          have hp : ¬ ((p : Int) < 4) := by omega
          obtain rfl : p = 4 := by omega
          have K3 := K3.congr HRJ.out
          go_wp2_with fail
          go_roundg q9
          case rel => exact ⟨j + 1, by omega, by go_num, hCX, K1, K2, K3, HB⟩
          case measure => omega
        | succ gp =>
          have hp4 : (p : Int) < 4 := by omega
          have hp0 : (0 : Int) ≤ (p : Int) := by omega
          have hp9 : p < 4 := by omega
          have iT := fun W => idxT bb p hp9 W
          cases hbb : bb p with
          | true =>
            have HU := Lib.hid (fun k => caB_yes (R := R) (j := j) hbb k)
            have c3 := K3.cell (i := p) hp9
            have f3 := K3.free p
            rw [hbb] at iT
            clear hbb
            go_wp2_with fail
            go_roundg gp
            case rel => exact ⟨p + 1, by omega, by go_num, hCX.setOther _ _ (by dsimp only; omega), K1.setOther _ _ (by dsimp only; omega), K2.setOther _ _ (by dsimp only; omega), (K3.set hp9 1).congr fun k _ => HU.out k, HB.out.setCell (by dsimp only; omega) _⟩
            case measure => omega
          | false =>
            have HU := Lib.hid (fun k => caB_no (R := R) (j := j) hbb k)
            rw [hbb] at iT
            clear hbb
            go_wp2_with fail
            go_roundg gp
            case rel => exact ⟨p + 1, by omega, by go_num, hCX, K1, K2, K3.congr fun k _ => HU.out k, HB⟩
            case measure => omega
end Go.Proofs.Ytphkidkkcknnmaa
