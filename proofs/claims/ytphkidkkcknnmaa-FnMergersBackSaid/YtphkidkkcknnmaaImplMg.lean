/-
  Several texts in one:
  The program's table of views, at a direction that is told by a number: which functions it holds there, and what they return.
  The contracts of the program's markMust and markCan: the marks of the places of a row, by the rows before it.
  The contracts of MustMerge and CanMerge in the program, for every board and every direction.
-/
import Derived.Test.YtphkidkkcknnmaaSpecLists
import Derived.Test.YtphkidkkcknnmaaOver
import Derived.Shelf.Abstract
import Derived.Test.YtphkidkkcknnmaaMergeB
import Derived.Test.YtphkidkkcknnmaaImplWays
namespace Go.Proofs.Ytphkidkkcknnmaa
set_option linter.unusedVariables false
open Go.RowKit Plain
/-- The functions of a direction's view. -/
def vwF (d : Nat) : Nat := if d = 0 then 98 else if d = 1 then 99 else if d = 2 then 100 else 101
def vwB (d : Nat) : Nat := if d = 0 then 98 else if d = 1 then 99 else if d = 2 then 100 else 102
theorem idxV_nat (d : Nat) (hd : d < 4) (w : World) : (Instr.index 89 (.agg viewCells) (.int .i64 (d : Int))).run Try.prog w = .ok (.agg #[.func (.func (vwF d)) #[] #[], .func (.func (vwB d)) #[] #[]]) w := by
  rcases side4 hd with rfl | rfl | rfl | rfl
  · exact idxV0 w
  · exact idxV1 w
  · exact idxV2 w
  · exact idxV3 w
theorem there_nat (f : Nat → Int) (d : Nat) (w : World) (hd : d < 4) :
    Calls Try.prog (vwF d) #[.agg (mk 16 f)] w fun e w' => e = .returned (.agg (mk 16 (viewF f d))) ∧ Below w.heap.size w w' := by
  rcases side4 hd with rfl | rfl | rfl | rfl
  · exact there_0 f w
  · exact there_1 f w
  · exact there_2 f w
  · exact there_3 f w
theorem back_nat (f : Nat → Int) (d : Nat) (w : World) (hd : d < 4) :
    Calls Try.prog (vwB d) #[.agg (mk 16 f)] w fun e w' => e = .returned (.agg (mk 16 (backF f d))) ∧ Below w.heap.size w w' := by
  rcases side4 hd with rfl | rfl | rfl | rfl
  · exact back_0 f w
  · exact back_1 f w
  · exact back_2 f w
  · exact back_3 f w
theorem vwF_enters (d : Nat) (hd : d < 4) : ∀ args w, (callFunc (vwF d) args).run Try.prog w = .ok (.enter (vwF d) args) w := by
  rcases side4 hd with rfl | rfl | rfl | rfl
  · exact Go.Proofs.enters_of Try.func98 (by kernel_rfl) rfl
  · exact Go.Proofs.enters_of Try.func99 (by kernel_rfl) rfl
  · exact Go.Proofs.enters_of Try.func100 (by kernel_rfl) rfl
  · exact Go.Proofs.enters_of Try.func101 (by kernel_rfl) rfl
theorem vwB_enters (d : Nat) (hd : d < 4) : ∀ args w, (callFunc (vwB d) args).run Try.prog w = .ok (.enter (vwB d) args) w := by
  rcases side4 hd with rfl | rfl | rfl | rfl
  · exact Go.Proofs.enters_of Try.func98 (by kernel_rfl) rfl
  · exact Go.Proofs.enters_of Try.func99 (by kernel_rfl) rfl
  · exact Go.Proofs.enters_of Try.func100 (by kernel_rfl) rfl
  · exact Go.Proofs.enters_of Try.func102 (by kernel_rfl) rfl
theorem viewTwo (a b : Nat) : (#[.func (.func a) #[] #[], .func (.func b) #[] #[]] : Array Value).all (·.oneCell') = true := by simp [Value.oneCell']
theorem view_mk (f : Nat → Int) (d : Nat) {i : Nat} (hi : i < 4) : mk 4 (fun c => viewF f d (i * 4 + c)) = mk 4 (lineF f d i) :=
  mk_congr fun c hc => by unfold viewF lineF; rw [show (i * 4 + c) / 4 = i by omega, show (i * 4 + c) % 4 = c by omega]
end Go.Proofs.Ytphkidkkcknnmaa
namespace Go.Proofs.Ytphkidkkcknnmaa.Plain
def mI (b : Bool) : Int := if b then 1 else 0
set_option linter.unusedVariables false
theorem mgB_flat {R : List (List Int)} (ha : ∀ x, x ∈ R → x.length = 4) {j : Nat} {x : List Int} (hx : R[j]? = some x) : mgB (fun c => flatF R (j * 4 + c)) = mgB (fn x) := mgB_congr fun c hc => flatF_at ha hx hc
theorem al_yes {R : List (List Int)} {p : Nat} (h : ∀ (j : Nat) (x : List Int), R[j]? = some x → mgB (fn x) p = true) : alM R p = true := List.all_eq_true.2 fun x hx => by
  obtain ⟨j, hj⟩ := List.getElem?_of_mem hx; exact h j x hj
theorem al_no {R : List (List Int)} {p j : Nat} {x : List Int} (hx : R[j]? = some x) (h : mgB (fn x) p = false) : alM R p = false := by
  unfold alM; rw [List.all_eq_false]; exact ⟨x, List.mem_of_getElem? hx, by rw [h]; simp⟩
/-- The marks so far: some of the first j rows, or, at the places below p, the next one. -/
def caB (R : List (List Int)) (j p : Nat) (b : Nat → Bool) : Nat → Int := fun k => mI (anM (R.take j) k || (decide (k < p) && b k))
theorem caB_zero (R : List (List Int)) (b : Nat → Bool) (k : Nat) : caB R 0 0 b k = 0 := by simp [caB, anM, mI]
theorem caB_start (R : List (List Int)) (j : Nat) (b c : Nat → Bool) (k : Nat) : caB R j 0 b k = caB R j 0 c k := by simp [caB]
theorem caB_no {R : List (List Int)} {j p : Nat} {b : Nat → Bool} (h : b p = false) (k : Nat) : caB R j p b k = caB R j (p + 1) b k := by
  unfold caB
  by_cases e : k = p
  · subst e; simp [h]
  · congr 2; congr 1; rw [Bool.eq_iff_iff, decide_eq_true_iff, decide_eq_true_iff]; omega
theorem caB_yes {R : List (List Int)} {j p : Nat} {b : Nat → Bool} (h : b p = true) (k : Nat) : upd (caB R j p b) p 1 k = caB R j (p + 1) b k := by
  by_cases e : k = p
  · subst e; rw [upd_same]; simp [caB, h, mI]
  · rw [upd_other _ _ e]; unfold caB
    congr 2; congr 1; rw [Bool.eq_iff_iff, decide_eq_true_iff, decide_eq_true_iff]; omega
theorem caB_row {R : List (List Int)} {j : Nat} {x : List Int} (hx : R[j]? = some x) (c : Nat → Bool) {k : Nat} (hk : k < 4) : caB R j 4 (mgB (fn x)) k = caB R (j + 1) 0 c k := by
  unfold caB anM
  rw [List.take_add_one, hx, List.any_append]
  simp [hk]
theorem caB_all (R : List (List Int)) (c : Nat → Bool) (k : Nat) : caB R R.length 0 c k = mI (anM R k) := by simp [caB]
end Go.Proofs.Ytphkidkkcknnmaa.Plain
namespace Go.Proofs.Ytphkidkkcknnmaa
open Go.RowKit Plain
attribute [local go_sem] store_new
set_option linter.unusedVariables false
set_option linter.unusedSimpArgs false

set_option maxHeartbeats 2000000 in
set_option maxRecDepth 20000 in
theorem markMust_any (f : Nat → Int) (d i g0 c0 : Nat) (w : World) (hV : Vd f) (hi : i < 4) (hc : CAt w g0 ((lnR f d i).length * 4) (flatF (lnR f d i))) :
    Calls Try.prog 73 #[.agg (mk 4 (lineF f d i)), .slice (some ⟨g0, 0, none⟩) (lnR f d i).length c0] w fun e w' => e = .returned (.agg (mk 4 fun p => mI (alM (lnR f d i) p))) ∧ Below w.heap.size w w' := by
  have z4 := zero4
  have hn15 := lnR_15 f d i
  have HMP : Hid (∀ j, j < (lnR f d i).length → ∀ W, Calls Try.prog 95 #[.agg (mk 4 fun c => flatF (lnR f d i) (j * 4 + c)), .agg (mk 4 (lineF f d i))] W fun e w' => e = .returned (.agg (vk 4 (vb (mgB fun c => flatF (lnR f d i) (j * 4 + c))))) ∧ Below W.heap.size W w') := fun j hj W => by
    have hx : (lnR f d i)[j]? = some (lnR f d i)[j] := List.getElem?_eq_getElem hj
    have e : ∀ c, c < 4 → flatF (lnR f d i) (j * 4 + c) = fn (lnR f d i)[j] c := fun c hc => flatF_at (lnR_all f d i) hx hc
    obtain ⟨_, h2, h3⟩ := (rbR_bef (lineF_vd hV d hi) _).1 (List.mem_of_getElem? hx)
    refine mergedPlaces_any _ _ W (fun c hc => by show 0 ≤ flatF (lnR f d i) (j * 4 + c) ∧ flatF (lnR f d i) (j * 4 + c) ≤ 17; rw [e c hc]; exact h2 c hc) fun c hc => ?_
    rw [slid_congr (g := fn (lnR f d i)[j]) 4 e]; exact h3 c hc
  have K1 := (Blk.new w 4 (lineF f d i) 22).alloc (.cells (mk 4 fun _ => 0) 22)
  have K2 := Blk.new (w.alloc (.cells (mk 4 (lineF f d i)) 22)) 4 (fun _ => 0) 22
  have HB := Lib.hid (((Below.refl w.heap.size w).alloc (Nat.le_refl _) (.cells (mk 4 (lineF f d i)) 22)).alloc (by simp) (.cells (mk 4 fun _ => 0) 22))
  simp only [World.size_alloc] at K2
  have hg0 := hc.1
  have hc := (hc.alloc (.cells (mk 4 (lineF f d i)) 22)).alloc (.cells (mk 4 fun _ => 0) 22)
  generalize hL : lineF f d i = L at *
  clear hL
  have HAL : Hid (∀ p, (∀ j, j < (lnR f d i).length → mgB (fun c => flatF (lnR f d i) (j * 4 + c)) p = true) → alM (lnR f d i) p = true) := fun p h => al_yes fun j x hx => by
    rw [← mgB_flat (lnR_all f d i) hx]; exact h j (List.getElem?_eq_some_iff.1 hx).1
  have HAN : Hid (∀ p j, j < (lnR f d i).length → mgB (fun c => flatF (lnR f d i) (j * 4 + c)) p = false → alM (lnR f d i) p = false) := fun p j hj h => by
    have hx : (lnR f d i)[j]? = some (lnR f d i)[j] := List.getElem?_eq_getElem hj
    exact al_no hx (by rw [← mgB_flat (lnR_all f d i) hx]; exact h)
  generalize lnR f d i = R at *
  generalize hN : R.length = n at *
  generalize hH : flatF R = h at *
  go_enter Try.func73, Try.ntmps73
  have K1 := K1.alloc (.cells (mk 4 fun _ => 0) 22)
  have K2 := K2.alloc (.cells (mk 4 fun _ => 0) 22)
  have K3 := Blk.new ((w.alloc (.cells (mk 4 L) 22)).alloc (.cells (mk 4 fun _ => 0) 22)) 4 (fun _ => 0) 22
  have hc := hc.alloc (.cells (mk 4 fun _ => 0) 22)
  have HB := Lib.hid (HB.out.alloc (by simp; omega) (.cells (mk 4 fun _ => 0) 22))
  simp only [World.size_alloc] at K3
  go_wp2_with fail
  go_step3
  go_wp2_with fail
  go_step3
  go_wp2_with fail
  generalize ((w.alloc (.cells (mk 4 L) 22)).alloc (.cells (mk 4 fun _ => 0) 22)).alloc (.cells (mk 4 fun _ => 0) 22) = w3 at *
  go_loopg [10] 4 (fun gp s10 wr => ∃ p : Nat, p + gp = 4 ∧ s10 = .int .i64 p ∧ CAt wr g0 (n * 4) h ∧ Blk wr w.heap.size 4 L 22 ∧ Blk wr (w.heap.size + 1) 4 (fun _ => 0) 22 ∧ Blk wr (w.heap.size + 1 + 1) 4 (upto (fun p => mI (alM R p)) p) 22 ∧ Hid (Below w.heap.size w wr))
  case atStart => exact ⟨0, by omega, rfl, hc, K1, K2, K3.congr fun j _ => (upto_zero _ j).symm, HB⟩
  case round =>
    clear hc K1 K2 K3 HB
    obtain ⟨p, hpg, rfl, hCX, K1, K2, K3, HB⟩ := hrel
    cases gk with
    | zero =>
      have hp : ¬ ((p : Int) < 4) := by omega
      obtain rfl : p = 4 := by omega
      have K3 := K3.congr (g := fun p => mI (alM R p)) fun j hj => upto_all hj
      go_wp2_with (first | ((with_reducible show wpList _ _ _ (Oper.mk _ (Op.load 22 _) _ _ _ _ :: _) _ _); refine loadR (K3) rfl rfl rfl ?_) | ((with_reducible show wpList _ _ _ (Oper.mk _ (Op.store 22 _ _) _ _ _ _ :: _) _ _); refine storeR (K2) rfl rfl rfl rfl ?_))
      try simp only [Exit.inBlock, Exit.then]
      exact retcR (K2.row 4 _) rfl rfl rfl ⟨rfl, below_setRow HB.out (by omega) _⟩
    | succ q9 =>
      have hp4 : (p : Int) < 4 := by omega
      have hp0 : (0 : Int) ≤ (p : Int) := by omega
      have hp9 : p < 4 := by omega
      go_wp2_with fail
      go_loopg [15] n (fun gj s15 wx => ∃ j : Nat, j + gj = n ∧ s15 = .int .i64 j ∧ Hid (∀ m, m < j → mgB (fun c => h (m * 4 + c)) p = true) ∧ CAt wx g0 (n * 4) h ∧ Blk wx w.heap.size 4 L 22 ∧ Blk wx (w.heap.size + 1) 4 (fun _ => 0) 22 ∧ Blk wx (w.heap.size + 1 + 1) 4 (upto (fun p => mI (alM R p)) p) 22 ∧ Hid (Below w.heap.size w wx))
      case atStart => exact ⟨0, by omega, rfl, fun m hm => by omega, hCX, K1, K2, K3, HB⟩
      case round =>
        clear hCX K1 K2 K3 HB
        obtain ⟨j, hjg, rfl, HM, hCX, K1, K2, K3, HB⟩ := hrel
        cases gk with
        | zero =>
          have hj : ¬ ((j : Int) < (n : Int)) := by omega
          obtain rfl : j = n := by omega
          have HA : Hid (mI (alM R p) = 1) := by show _ = _; rw [HAL.out p HM.out]; rfl
          have c3 := K3.cell (i := p) hp9
          have f3 := K3.free p
          go_wp2_with fail
          go_roundg q9
          case rel => exact ⟨p + 1, by omega, by go_num, hCX.setOther _ _ (by dsimp only; omega), K1.setOther _ _ (by dsimp only; omega), K2.setOther _ _ (by dsimp only; omega), (K3.set hp9 1).congr fun k _ => by have := upto_step (fun p => mI (alM R p)) p k; rw [HA.out] at this; exact this, HB.out.setCell (by dsimp only; omega) _⟩
          case measure => omega
        | succ gj =>
          have hj : (j : Int) < (n : Int) := by omega
          have hj0 : (0 : Int) ≤ (j : Int) := by omega
          have hj9 : j < n := by omega
          have K8 := Blk.new wr 4 (fun c => h (j * 4 + c)) 22
          have K1s := K1.alloc (.cells (mk 4 fun c => h (j * 4 + c)) 22)
          have hs := HB.out.size
          go_wp2_with (first | ((with_reducible show wpList _ _ _ (Oper.mk _ (Op.load 22 _) _ _ _ _ :: _) _ _); refine loadAR (hCX) (by omega) rfl rfl rfl ?_) | ((with_reducible show wpList _ _ _ (Oper.mk _ (Op.load 22 _) _ _ _ _ :: _) _ _); refine loadR (K8) rfl rfl rfl ?_) | ((with_reducible show wpList _ _ _ (Oper.mk _ (Op.load 22 _) _ _ _ _ :: _) _ _); refine loadR (K1s) rfl rfl rfl ?_))
          refine (HMP.out j hj9 _).mono ?_
          rintro e w6 ⟨rfl, hb⟩
          have K1 := K1s.below hb K1s.lt
          have hCX := (hCX.alloc (.cells (mk 4 fun c => h (j * 4 + c)) 22)).below hb
          have K2 := (K2.alloc (.cells (mk 4 fun c => h (j * 4 + c)) 22)).below hb (by have := K2.lt; simp; omega)
          have K3 := (K3.alloc (.cells (mk 4 fun c => h (j * 4 + c)) 22)).below hb (by have := K3.lt; simp; omega)
          have HB : Hid (Below w.heap.size w w6) := (HB.out.alloc HB.out.size _).trans (hb.mono (by simp; omega))
          clear hb K8 K1s
          have iT := fun W => idxT (mgB fun c => h (j * 4 + c)) p hp9 W
          cases hbb : mgB (fun c => h (j * 4 + c)) p with
          | true =>
            have HM : Hid (∀ m, m < j + 1 → mgB (fun c => h (m * 4 + c)) p = true) := fun m hm => by
              rcases (by omega : m < j ∨ m = j) with q | rfl
              · exact HM.out m q
              · exact hbb
            rw [hbb] at iT
            clear hbb
            generalize mgB (fun c => h (j * 4 + c)) = bb at iT ⊢
            go_wp2_with fail
            go_roundg gj
            case rel => exact ⟨j + 1, by omega, by go_num, HM, hCX, K1, K2, K3, HB⟩
            case measure => omega
          | false =>
            have HA : Hid (mI (alM R p) = 0) := by show _ = _; rw [HAN.out p j hj9 hbb]; rfl
            rw [hbb] at iT
            clear hbb
            generalize mgB (fun c => h (j * 4 + c)) = bb at iT ⊢
            go_wp2_with fail
            go_roundg q9
            case rel => exact ⟨p + 1, by omega, by go_num, hCX, K1, K2, K3.congr fun k _ => by
              unfold upto
              by_cases e : k = p
              · subst e; rw [if_neg (by omega), if_pos (by omega)]; exact HA.out.symm
              · by_cases l : k < p
                · rw [if_pos l, if_pos (by omega)]
                · rw [if_neg l, if_neg (by omega)], HB⟩
            case measure => omega

set_option maxHeartbeats 2000000 in
set_option maxRecDepth 20000 in
theorem markCan_any (f : Nat → Int) (d i g0 c0 : Nat) (w : World) (hV : Vd f) (hi : i < 4) (hc : CAt w g0 ((lnR f d i).length * 4) (flatF (lnR f d i))) :
    Calls Try.prog 74 #[.agg (mk 4 (lineF f d i)), .slice (some ⟨g0, 0, none⟩) (lnR f d i).length c0] w fun e w' => e = .returned (.agg (mk 4 fun p => mI (anM (lnR f d i) p))) ∧ Below w.heap.size w w' := by
  have z4 := zero4
  have hn15 := lnR_15 f d i
  have HMP : Hid (∀ j, j < (lnR f d i).length → ∀ W, Calls Try.prog 95 #[.agg (mk 4 fun c => flatF (lnR f d i) (j * 4 + c)), .agg (mk 4 (lineF f d i))] W fun e w' => e = .returned (.agg (vk 4 (vb (mgB fun c => flatF (lnR f d i) (j * 4 + c))))) ∧ Below W.heap.size W w') := fun j hj W => by
    have hx : (lnR f d i)[j]? = some (lnR f d i)[j] := List.getElem?_eq_getElem hj
    have e : ∀ c, c < 4 → flatF (lnR f d i) (j * 4 + c) = fn (lnR f d i)[j] c := fun c hc => flatF_at (lnR_all f d i) hx hc
    obtain ⟨_, h2, h3⟩ := (rbR_bef (lineF_vd hV d hi) _).1 (List.mem_of_getElem? hx)
    refine mergedPlaces_any _ _ W (fun c hc => by show 0 ≤ flatF (lnR f d i) (j * 4 + c) ∧ flatF (lnR f d i) (j * 4 + c) ≤ 17; rw [e c hc]; exact h2 c hc) fun c hc => ?_
    rw [slid_congr (g := fn (lnR f d i)[j]) 4 e]; exact h3 c hc
  have K1 := (Blk.new w 4 (lineF f d i) 22).alloc (.cells (mk 4 fun _ => 0) 22)
  have K2 := Blk.new (w.alloc (.cells (mk 4 (lineF f d i)) 22)) 4 (fun _ => 0) 22
  have HB := Lib.hid (((Below.refl w.heap.size w).alloc (Nat.le_refl _) (.cells (mk 4 (lineF f d i)) 22)).alloc (by simp) (.cells (mk 4 fun _ => 0) 22))
  simp only [World.size_alloc] at K2
  have hg0 := hc.1
  have hc := (hc.alloc (.cells (mk 4 (lineF f d i)) 22)).alloc (.cells (mk 4 fun _ => 0) 22)
  generalize hL : lineF f d i = L at *
  clear hL
  have HRW : Hid (∀ j (c : Nat → Bool) k, j < (lnR f d i).length → k < 4 → caB (lnR f d i) j 4 (mgB fun c => flatF (lnR f d i) (j * 4 + c)) k = caB (lnR f d i) (j + 1) 0 c k) := fun j c k hj hk => by
    have hx : (lnR f d i)[j]? = some (lnR f d i)[j] := List.getElem?_eq_getElem hj
    rw [mgB_flat (lnR_all f d i) hx]; exact caB_row hx c hk
  have HALL : Hid (∀ (c : Nat → Bool) k, caB (lnR f d i) (lnR f d i).length 0 c k = mI (anM (lnR f d i) k)) := caB_all _
  generalize lnR f d i = R at *
  generalize hN : R.length = n at *
  generalize hH : flatF R = h at *
  go_enter Try.func74, Try.ntmps74
  have K1 := K1.alloc (.cells (mk 4 fun _ => 0) 22)
  have K2 := K2.alloc (.cells (mk 4 fun _ => 0) 22)
  have K3 := Blk.new ((w.alloc (.cells (mk 4 L) 22)).alloc (.cells (mk 4 fun _ => 0) 22)) 4 (fun _ => 0) 22
  have hc := hc.alloc (.cells (mk 4 fun _ => 0) 22)
  have HB := Lib.hid (HB.out.alloc (by simp; omega) (.cells (mk 4 fun _ => 0) 22))
  simp only [World.size_alloc] at K3
  go_wp2_with fail
  generalize ((w.alloc (.cells (mk 4 L) 22)).alloc (.cells (mk 4 fun _ => 0) 22)).alloc (.cells (mk 4 fun _ => 0) 22) = w3 at *
  go_loopg [13] n (fun gj s13 wr => ∃ j : Nat, j + gj = n ∧ s13 = .int .i64 j ∧ CAt wr g0 (n * 4) h ∧ Blk wr w.heap.size 4 L 22 ∧ Blk wr (w.heap.size + 1) 4 (fun _ => 0) 22 ∧ Blk wr (w.heap.size + 1 + 1) 4 (caB R j 0 fun _ => false) 22 ∧ Hid (Below w.heap.size w wr))
  case atStart => exact ⟨0, by omega, rfl, hc, K1, K2, K3.congr fun j _ => (caB_zero R _ j).symm, HB⟩
  case round =>
    clear hc K1 K2 K3 HB
    obtain ⟨j, hjg, rfl, hCX, K1, K2, K3, HB⟩ := hrel
    cases gk with
    | zero =>
      have hj : ¬ ((j : Int) < (n : Int)) := by omega
      obtain rfl : j = n := by omega
      have K3 := K3.congr (g := fun p => mI (anM R p)) fun k hk => HALL.out _ k
      go_wp2_with (first | ((with_reducible show wpList _ _ _ (Oper.mk _ (Op.load 22 _) _ _ _ _ :: _) _ _); refine loadR (K3) rfl rfl rfl ?_) | ((with_reducible show wpList _ _ _ (Oper.mk _ (Op.store 22 _ _) _ _ _ _ :: _) _ _); refine storeR (K2) rfl rfl rfl rfl ?_))
      try simp only [Exit.inBlock, Exit.then]
      exact retcR (K2.row 4 _) rfl rfl rfl ⟨rfl, below_setRow HB.out (by omega) _⟩
    | succ q9 =>
      have hj : (j : Int) < (n : Int) := by omega
      have hj0 : (0 : Int) ≤ (j : Int) := by omega
      have hj9 : j < n := by omega
      have K8 := Blk.new wr 4 (fun c => h (j * 4 + c)) 22
      have K1s := K1.alloc (.cells (mk 4 fun c => h (j * 4 + c)) 22)
      have hs := HB.out.size
      go_wp2_with (first | ((with_reducible show wpList _ _ _ (Oper.mk _ (Op.load 22 _) _ _ _ _ :: _) _ _); refine loadAR (hCX) (by omega) rfl rfl rfl ?_) | ((with_reducible show wpList _ _ _ (Oper.mk _ (Op.load 22 _) _ _ _ _ :: _) _ _); refine loadR (K8) rfl rfl rfl ?_) | ((with_reducible show wpList _ _ _ (Oper.mk _ (Op.load 22 _) _ _ _ _ :: _) _ _); refine loadR (K1s) rfl rfl rfl ?_))
      refine (HMP.out j hj9 _).mono ?_
      rintro e w6 ⟨rfl, hb⟩
      have K1 := K1s.below hb K1s.lt
      have hCX := (hCX.alloc (.cells (mk 4 fun c => h (j * 4 + c)) 22)).below hb
      have K2 := (K2.alloc (.cells (mk 4 fun c => h (j * 4 + c)) 22)).below hb (by have := K2.lt; simp; omega)
      have K3 := (K3.alloc (.cells (mk 4 fun c => h (j * 4 + c)) 22)).below hb (by have := K3.lt; simp; omega)
      have HB : Hid (Below w.heap.size w w6) := (HB.out.alloc HB.out.size _).trans (hb.mono (by simp; omega))
      clear hb K8 K1s
      have HRJ : Hid (∀ k, k < 4 → caB R j 4 (mgB fun c => h (j * 4 + c)) k = caB R (j + 1) 0 (fun _ => false) k) := fun k hk => HRW.out j _ k hj9 hk
      generalize mgB (fun c => h (j * 4 + c)) = bb at *
      have K3 := K3.congr fun k _ => caB_start R j (fun _ => false) bb k
      go_wp2_with fail
      go_loopg [20] 4 (fun gp s20 wx => ∃ p : Nat, p + gp = 4 ∧ s20 = .int .i64 p ∧ CAt wx g0 (n * 4) h ∧ Blk wx w.heap.size 4 L 22 ∧ Blk wx (w.heap.size + 1) 4 (fun _ => 0) 22 ∧ Blk wx (w.heap.size + 1 + 1) 4 (caB R j p bb) 22 ∧ Hid (Below w.heap.size w wx))
      case atStart => exact ⟨0, by omega, rfl, hCX, K1, K2, K3, HB⟩
      case round =>
        clear hCX K1 K2 K3 HB
        obtain ⟨p, hpg, rfl, hCX, K1, K2, K3, HB⟩ := hrel
        cases gk with
        | zero =>
          have hp : ¬ ((p : Int) < 4) := by omega
          obtain rfl : p = 4 := by omega
          have K3 := K3.congr HRJ.out
          go_wp2_with fail
          go_roundg q9
          case rel => exact ⟨j + 1, by omega, by go_num, hCX, K1, K2, K3, HB⟩
          case measure => omega
        | succ gp =>
          have hp4 : (p : Int) < 4 := by omega
          have hp0 : (0 : Int) ≤ (p : Int) := by omega
          have hp9 : p < 4 := by omega
          have iT := fun W => idxT bb p hp9 W
          cases hbb : bb p with
          | true =>
            have HU := Lib.hid (fun k => caB_yes (R := R) (j := j) hbb k)
            have c3 := K3.cell (i := p) hp9
            have f3 := K3.free p
            rw [hbb] at iT
            clear hbb
            go_wp2_with fail
            go_roundg gp
            case rel => exact ⟨p + 1, by omega, by go_num, hCX.setOther _ _ (by dsimp only; omega), K1.setOther _ _ (by dsimp only; omega), K2.setOther _ _ (by dsimp only; omega), (K3.set hp9 1).congr fun k _ => HU.out k, HB.out.setCell (by dsimp only; omega) _⟩
            case measure => omega
          | false =>
            have HU := Lib.hid (fun k => caB_no (R := R) (j := j) hbb k)
            rw [hbb] at iT
            clear hbb
            go_wp2_with fail
            go_roundg gp
            case rel => exact ⟨p + 1, by omega, by go_num, hCX, K1, K2, K3.congr fun k _ => HU.out k, HB⟩
            case measure => omega
end Go.Proofs.Ytphkidkkcknnmaa
namespace Go.Proofs.Ytphkidkkcknnmaa.Plain
/-- The marks of the first i lines, as the view has them. -/
def mkV (mf : List (List Int) → Nat → Bool) (R : Nat → List (List Int)) (i : Nat) : Nat → Int := fun j => if j / 4 < i then mI (mf (R (j / 4)) (j % 4)) else 0
theorem mkV_zero (mf : List (List Int) → Nat → Bool) (R : Nat → List (List Int)) (j : Nat) : mkV mf R 0 j = 0 := by unfold mkV; rw [if_neg (by omega)]
theorem mkV_step (mf : List (List Int) → Nat → Bool) (R : Nat → List (List Int)) (i : Nat) (j : Nat) : patch (mkV mf R i) (i * 4) 4 (fun p => mI (mf (R i) p)) j = mkV mf R (i + 1) j := by
  unfold patch mkV
  by_cases h : i * 4 ≤ j ∧ j < i * 4 + 4
  · rw [if_pos h, if_pos (by omega), show j / 4 = i by omega, show j % 4 = j - i * 4 by omega]
  · rw [if_neg h]
    by_cases q : j / 4 < i
    · rw [if_pos q, if_pos (by omega)]
    · rw [if_neg q, if_neg (by omega)]
theorem mkV_back (mf : List (List Int) → Nat → Bool) (f : Nat → Int) (k : Nat) {j : Nat} (hj : j < 16) : backF (mkV mf (lnR f k) 4) k j = mI (mf (lnR f k (lineOf k j)) (placeOf k j)) := by
  have h1 := lineOf_lt (d := k) hj
  have h2 := placeOf_lt (d := k) hj
  unfold backF mkV
  rw [if_pos (by omega), show (lineOf k j * 4 + placeOf k j) / 4 = lineOf k j by omega, show (lineOf k j * 4 + placeOf k j) % 4 = placeOf k j by omega]
end Go.Proofs.Ytphkidkkcknnmaa.Plain
namespace Go.Proofs.Ytphkidkkcknnmaa
open Go.RowKit Plain
attribute [local go_sem] store_new
set_option linter.unusedVariables false
set_option linter.unusedSimpArgs false

set_option maxHeartbeats 4000000 in
set_option maxRecDepth 20000 in
theorem markedCells_ok (m : Nat) (mf : List (List Int) → Nat → Bool) (f : Nat → Int) (k : Nat) (w : World) (hV : Vd f) (hk : k < 4) (h0 : cbR f (k : Int) ≠ 0)
    (hen : ∀ args W, (callFunc m args).run Try.prog W = .ok (.enter m args) W)
    (hm : ∀ i g0 c0 W, i < 4 → CAt W g0 ((lnR f k i).length * 4) (flatF (lnR f k i)) → Calls Try.prog m #[.agg (mk 4 (lineF f k i)), .slice (some ⟨g0, 0, none⟩) (lnR f k i).length c0] W fun e w' => e = .returned (.agg (mk 4 fun p => mI (mf (lnR f k i) p))) ∧ Below W.heap.size W w') :
    Calls Try.prog 72 #[.agg (mk 16 f), .int .i64 (k : Int), .func (.func m) #[] #[]] w fun e w' => ∃ g cap, e = .returned (.tuple #[.slice (some ⟨g, 0, none⟩) (ceN (fun j => mf (lnR f k (lineOf k j)) (placeOf k j)) 16) cap, .bool true]) ∧
      OwnsCells w' w.heap.size (.slice (some ⟨g, 0, none⟩) (ceN (fun j => mf (lnR f k (lineOf k j)) (placeOf k j)) 16) cap) (ceN (fun j => mf (lnR f k (lineOf k j)) (placeOf k j)) 16) (ceL (fun j => mf (lnR f k (lineOf k j)) (placeOf k j)) 16) ∧ Below w.heap.size w w' := by
  obtain ⟨i0, hi, hz0, hz1, hz2⟩ := info_parts infoCell
  have z16 := zero16
  have z4 := zero4
  have HC := Lib.hid (fun W => implCountB_any f (k : Int) W)
  rw [(slide_yes ⟨hV, by omega, by omega⟩ : slideRO f (k : Int) = true ∧ _).1] at HC
  have q0 : (cbR f (k : Int) == 0) = false := by simpa using h0
  have HBK : Hid (∀ j, j < 16 → backF (mkV mf (lnR f k) 4) k j = mI (mf (lnR f k (lineOf k j)) (placeOf k j))) := fun j hj => mkV_back mf f k hj
  have HST := Lib.hid (mkV_step mf (lnR f k))
  have HM := Lib.hid hm
  have HV := Lib.hid hV
  have HK := Lib.hid hk
  generalize hO : (fun j => mf (lnR f k (lineOf k j)) (placeOf k j)) = O at *
  have HBK : Hid (∀ j, j < 16 → backF (mkV mf (lnR f k) 4) k j = mI (O j)) := fun j hj => by rw [← hO]; exact HBK.out j hj
  clear hO hm hV hk h0
  generalize cbR f (k : Int) = cc at *
  have K1 := Blk.new w 16 f 28
  have HB := Lib.hid ((Below.refl w.heap.size w).alloc (Nat.le_refl _) (.cells (mk 16 f) 28))
  go_enter Try.func72, Try.ntmps72
  go_wp2_with ((with_reducible show wpList _ _ _ (Oper.mk _ (Op.load 28 _) _ _ _ _ :: _) _ _); refine loadB (K1) rfl rfl rfl ?_)
  refine (HC.out _).mono ?_
  rintro e w1 ⟨rfl, hb⟩
  have K1 := K1.below hb K1.lt
  have HB : Hid (Below w.heap.size w w1) := HB.out.trans (hb.mono HB.out.size)
  clear hb
  go_wp2_with fail
  refine (views_any _).mono ?_
  rintro e w2 ⟨rfl, hb⟩
  have K1 := K1.below hb K1.lt
  have HB : Hid (Below w.heap.size w w2) := HB.out.trans (hb.mono HB.out.size)
  clear hb
  have iV := fun W => idxV_nat k HK.out W
  have iB := fieldB0
  have sr := World.setRow_alloc_new
  have V2 := viewTwo (vwF k) (vwB k)
  have eF := vwF_enters k HK.out
  go_wp2_with (first | ((with_reducible show wpList _ _ _ (Oper.mk _ (Op.store 88 _ _) _ _ _ _ :: _) _ _); refine wpList_store_row rfl 88 _ _ rfl _ _ rfl rfl _ _ (heap_alloc_new _ _) sizeVw rfl V2 ?_) | ((with_reducible show wpList _ _ _ (Oper.mk _ (Op.load 28 _) _ _ _ _ :: _) _ _); refine loadB (K1.alloc _) rfl rfl rfl ?_))
  refine (there_nat f k _ HK.out).mono ?_
  rintro e w3 ⟨rfl, hb⟩
  have hz : w.heap.size < w2.heap.size := K1.lt
  have hz3 : w2.heap.size < w3.heap.size := by have := hb.size; simp at this; omega
  have K1 := (K1.alloc (.cells #[.func (.func (vwF k)) #[] #[], .func (.func (vwB k)) #[] #[]] 88)).below hb (by simp; omega)
  have K10 : Oth w3 w2.heap.size #[.func (.func (vwF k)) #[] #[], .func (.func (vwB k)) #[] #[]] 88 := Oth.below (heap_alloc_new w2 _) hb (by simp)
  have HB : Hid (Below w.heap.size w w3) := (HB.out.alloc HB.out.size _).trans (hb.mono (by simp; omega))
  clear hb iV sr V2 eF
  have K1 := (K1.alloc (.cells (mk 16 (viewF f k)) 23)).alloc (.cells (mk 16 fun _ => 0) 28)
  have K10 := (K10.alloc (.cells (mk 16 (viewF f k)) 23)).alloc (.cells (mk 16 fun _ => 0) 28)
  have K11 := (Blk.new w3 16 (viewF f k) 23).alloc (.cells (mk 16 fun _ => 0) 28)
  have K12 := Blk.new (w3.alloc (.cells (mk 16 (viewF f k)) 23)) 16 (fun _ => 0) 28
  have HB : Hid (Below w.heap.size w ((w3.alloc (.cells (mk 16 (viewF f k)) 23)).alloc (.cells (mk 16 fun _ => 0) 28))) := (HB.out.alloc HB.out.size _).alloc (by have := HB.out.size; simp; omega) _
  simp only [World.size_alloc] at K12
  go_wp2_with ((with_reducible show wpList _ _ _ (Oper.mk _ (Op.load 28 _) _ _ _ _ :: _) _ _); refine loadB (K1) rfl rfl rfl ?_)
  clear iB
  generalize (w3.alloc (.cells (mk 16 (viewF f k)) 23)).alloc (.cells (mk 16 fun _ => 0) 28) = w4 at *
  refine (linesBefore_any f k _ HV.out HK.out).mono ?_
  rintro e w5 ⟨v, rfl, hl, hb⟩
  have h45 := hb.size
  have hl4 := K12.lt
  have K10 := K10.below hb K10.lt
  have K11 := K11.below hb K11.lt
  have K12 := K12.below hb K12.lt
  have HL := Lib.hid hl
  have HB : Hid (Below w.heap.size w w5) := HB.out.trans (hb.mono HB.out.size)
  clear hb hl K1
  generalize w2.heap.size = b10 at *
  generalize w3.heap.size = b11 at *
  go_wp2_with fail
  go_loopg [45] 4 (fun gk s45 wr => ∃ i : Nat, i + gk = 4 ∧ s45 = .int .i64 i ∧ Oth wr b10 #[.func (.func (vwF k)) #[] #[], .func (.func (vwB k)) #[] #[]] 88 ∧ Blk wr b11 16 (viewF f k) 23 ∧ Blk wr (b11 + 1) 16 (mkV mf (lnR f k) i) 28 ∧ Hid (LinesB wr w4.heap.size f k 4 v) ∧ Hid (Below w.heap.size w wr))
  case atStart => exact ⟨0, by omega, rfl, K10, K11, K12.congr fun j _ => (mkV_zero mf _ j).symm, HL, HB⟩
  case round =>
    clear K10 K11 K12 HL HB
    obtain ⟨i, hig, rfl, K10, K11, K12, HL, HB⟩ := hrel
    cases gk with
    | zero =>
      have hi4 : ¬ ((i : Int) < 4) := by omega
      obtain rfl : i = 4 := by omega
      have c10 : wr.cell? ⟨b10, 1, none⟩ = some (.func (.func (vwB k)) #[] #[]) := K10.cell 1
      have hsz := HB.out.size
      have K12s := K12.alloc (.cells #[] 63)
      have c10s : (wr.alloc (.cells #[] 63)).cell? ⟨b10, 1, none⟩ = some (.func (.func (vwB k)) #[] #[]) := (K10.alloc (.cells #[] 63)).cell 1
      have hwb : w.heap.size < wr.heap.size := by have := K12.lt; omega
      have HO : OwnsCells (wr.alloc (.cells #[] 63)) (w.heap.size + 1) (.slice (some ⟨wr.heap.size, 0, none⟩) 0 0) 0 [] :=
        World.ownsRow_made (base := w.heap.size + 1) (e := 63) (size := 2) wr #[] 0 (by omega) (by decide) rfl
      have HB : Hid (Below w.heap.size w (wr.alloc (.cells #[] 63))) := HB.out.alloc HB.out.size _
      have iB := fieldB0
      have eB := vwB_enters k HK.out
      clear hen
      go_wp2_with ((with_reducible show wpList _ _ _ (Oper.mk _ (Op.load 28 _) _ _ _ _ :: _) _ _); refine loadB (K12s) rfl rfl rfl ?_)
      refine (back_nat _ k _ HK.out).mono ?_
      rintro e w6 ⟨rfl, hb⟩
      have HO : OwnsCells w6 (w.heap.size + 1) (.slice (some ⟨wr.heap.size, 0, none⟩) 0 0) 0 [] := owns_below HO hb
      have HB : Hid (Below w.heap.size w w6) := HB.out.trans (hb.mono HB.out.size)
      have h6 : wr.heap.size < w6.heap.size := by have := hb.size; simp at this; omega
      rw [mk_congr HBK.out]
      clear hb eB K10 K11 K12 K12s c10 c10s HL HBK HST HM HC
      have iG : ∀ (r : Nat) W, r < 4 → (Instr.index 23 (.agg (mk 16 fun j => mI (O j))) (.int .i64 (r : Int))).run Try.prog W = .ok (.agg (mk 4 fun c => mI (O (r * 4 + c)))) W := fun r W hr => idxG (fun j => mI (O j)) r hr W
      have IG := Lib.hid iG
      clear iG
      go_wp2_with fail
      clear iB
      go_loopg [15, 65] 4 (fun g s15 s65 wr => ∃ (r : Nat) (u : Value), r + g = 4 ∧ s65 = .int .i64 r ∧ u = s15 ∧ (∃ gg cap, u = .slice (some ⟨gg, 0, none⟩) (ceN O (r * 4)) cap) ∧ OwnsCells wr (w.heap.size + 1) u (ceN O (r * 4)) (ceL O (r * 4)) ∧ w.heap.size < wr.heap.size ∧ Hid (Below w.heap.size w wr))
      case atStart => exact ⟨0, _, by omega, rfl, rfl, ⟨_, _, rfl⟩, HO, by omega, HB⟩
      case round =>
        clear HB HO
        obtain ⟨r, u, hrg, rfl, rfl, hv, ho, hlt, hb⟩ := hrel
        cases gk with
        | zero =>
          have hr : ¬ ((r : Int) < 4) := by omega
          obtain rfl : r = 4 := by omega
          obtain ⟨gg, cap, rfl⟩ := hv
          go_wp2_with fail
          go_ret2
          exact ⟨gg, cap, rfl, ownsRow_wide ho (by omega), hb.out⟩
        | succ g =>
          have hr4 : (r : Int) < 4 := by omega
          have hr0 : (0 : Int) ≤ (r : Int) := by omega
          have hr5 : r < 4 := by omega
          have iG := fun W => IG.out r W hr5
          have hsz := hb.out.size
          go_wp2_with ((with_reducible show wpList _ _ _ (Oper.mk _ (Op.load 22 _) _ _ _ _ :: _) _ _); refine loadR (Blk.new _ _ _ _) rfl rfl rfl ?_)
          clear iG
          go_loopg [15, 70] 4 (fun h s15 s70 wx => ∃ (c : Nat) (u : Value), c + h = 4 ∧ s70 = .int .i64 c ∧ u = s15 ∧ (∃ gg cap, u = .slice (some ⟨gg, 0, none⟩) (ceN O (r * 4 + c)) cap) ∧ OwnsCells wx (w.heap.size + 1) u (ceN O (r * 4 + c)) (ceL O (r * 4 + c)) ∧ w.heap.size < wx.heap.size ∧ Hid (Below w.heap.size w wx))
          case atStart => exact ⟨0, _, by omega, rfl, rfl, hv, World.ownsRow.alloc ho _, by simp; omega, hb.out.alloc hb.out.size _⟩
          case round =>
            clear hv ho hb hsz hlt
            obtain ⟨c, u, hch, rfl, rfl, hv, ho, hlt, hb⟩ := hrel
            cases gk with
            | zero =>
              have hc : ¬ ((c : Int) < 4) := by omega
              have HC : Hid (r * 4 + c = (r + 1) * 4) := by show _ = _; omega
              go_wp2_with fail
              go_roundg g
              case rel => exact ⟨r + 1, _, by omega, by go_num, rfl, by rw [HC.out] at hv; exact hv, by rw [HC.out] at ho; exact ho, hlt, hb⟩
              case measure => omega
            | succ q9 =>
              have hc : (c : Int) < 4 := by omega
              have hc0 : (0 : Int) ≤ (c : Int) := by omega
              have hc5 : c < 4 := by omega
              have hn := ceN_le O (r * 4 + c)
              have hn16 : ceN O (r * 4 + c) ≤ 16 := by omega
              have HQ : Hid ((r * 4 + c) / 4 = r ∧ (r * 4 + c) % 4 = c) := by show _ ∧ _; omega
              have iR : ∀ W, (Instr.index 22 (.agg (mk 4 fun c => mI (O (r * 4 + c)))) (.int .i64 (c : Int))).run Try.prog W = .ok (.int .i64 (mI (O (r * 4 + c)))) W := fun W => idxR (fun c => mI (O (r * 4 + c))) c hc5 W
              have ho0 : wr.ownsRow (w.heap.size + 1) 63 2 u (ceN O (r * 4 + c)) ((ceL O (r * 4 + c)).map (Value.int .i64)) := ho
              have hsz := hb.out.size
              clear ho
              cases ha : O (r * 4 + c) with
              | true =>
                obtain ⟨y1, y2⟩ := ce_yes ha
                have Y1 := Lib.hid y1
                have Y2 := Lib.hid y2
                rw [show mI (O (r * 4 + c)) = 1 by rw [ha]; rfl] at iR
                clear y1 y2 ha
                go_wp2_with (at_builtin; refine wpList_append_own _ rfl _ _ 42 rfl (w.heap.size + 1) 63 i0 (.agg #[.int .i64 0, .int .i64 0]) 2 16 Try.underlying42 hi hz0 hz1 hz2 rfl (by decide) _ _ _ rfl (ho0.alloc _) ⟨wr.heap.size, 0, none⟩ 1 1 [.int .i64 r, .int .i64 c] rfl rfl ?c1 ?c2 ?c3 ?c4 ?c5 ?_)
                case c1 => exact cell_two_new _ _ _ _
                case c2 => simp [Value.oneCell']
                case c3 => unfold maxLen; omega
                case c4 => omega
                case c5 => simp; omega
                intro v' w9 hown' hgrow' _
                obtain ⟨gg, cap, hv'⟩ := ownsRow_succ hown'
                have HV' : Hid (∃ gg cap, v' = .slice (some ⟨gg, 0, none⟩) (ceN O (r * 4 + c) + 1) cap) := ⟨gg, cap, hv'⟩
                have HB2 : Hid (Below w.heap.size w w9) := ((hb.out).alloc hsz _).grown hgrow' (by simp; omega) (fun j hj => by have := (ho0.lt j hj).1; omega)
                have hlt9 : w.heap.size < w9.heap.size := by have := hgrow'.size; simp at this; omega
                have HO : Hid (OwnsCells w9 (w.heap.size + 1) v' (ceN O (r * 4 + c) + 1) (ceL O (r * 4 + c) ++ [(r : Int), (c : Int)])) := by
                  show OwnsCells _ _ _ _ _
                  unfold OwnsCells
                  rw [List.map_append]
                  exact hown'
                clear hown' hgrow' ho0 hv'
                go_wp2_with fail
                go_roundg q9
                case rel => exact ⟨c + 1, _, by omega, by go_num, rfl, by rw [show r * 4 + (c + 1) = r * 4 + c + 1 by omega, Y2.out]; exact HV'.out, by rw [show r * 4 + (c + 1) = r * 4 + c + 1 by omega, Y1.out, Y2.out, HQ.out.1, HQ.out.2]; exact HO.out, hlt9, HB2⟩
                case measure => omega
              | false =>
                obtain ⟨y1, y2⟩ := ce_no ha
                have Y1 := Lib.hid y1
                have Y2 := Lib.hid y2
                rw [show mI (O (r * 4 + c)) = 0 by rw [ha]; rfl] at iR
                clear y1 y2 ha
                go_wp2_with fail
                go_roundg q9
                case rel => exact ⟨c + 1, _, by omega, by go_num, rfl, by rw [show r * 4 + (c + 1) = r * 4 + c + 1 by omega, Y2.out]; exact hv, by rw [show r * 4 + (c + 1) = r * 4 + c + 1 by omega, Y1.out, Y2.out]; exact ho0, hlt, hb⟩
                case measure => omega
    | succ q9 =>
      have hi4 : (i : Int) < 4 := by omega
      have hi0 : (0 : Int) ≤ (i : Int) := by omega
      have hi9 : i < 4 := by omega
      obtain ⟨gl, cl0, hv, hgl, hcx⟩ := HL.out i hi9
      have iL := fun W => idxLists v i hi9 W
      rw [hv] at iL
      have HCX := Lib.hid hcx
      have hsz := HB.out.size
      clear hv hcx
      have hlp : ∀ {ops : Array Oper} {rest : List Oper} {o : Oper} {a : Act} {W : World} {Q : Exit → Act → World → Prop} {x : Operand}, Blk W b11 16 (viewF f k) 23 → o.guard = none → o.op = .load 22 x → a.eval x = .pointer (some ⟨b11, i * 4, none⟩) →
          wpList Try.prog ops Q rest (a.put o.dst (.agg (mk 4 (lineF f k i)))) W → wpList Try.prog ops Q (o :: rest) a W := fun hg hgd ho hx hh => loadPR hg (by omega) hgd ho hx (by rw [view_mk f k hi9]; exact hh)
      go_wp2_with ((with_reducible show wpList _ _ _ (Oper.mk _ (Op.load 22 _) _ _ _ _ :: _) _ _); refine hlp K11 rfl rfl rfl ?_)
      refine (HM.out i gl cl0 _ hi9 HCX.out).mono ?_
      rintro e w6 ⟨rfl, hb⟩
      have h12 := K12.lt
      have K10 := K10.below hb K10.lt
      have K11 := K11.below hb K11.lt
      have K12 := K12.below hb K12.lt
      have HL : Hid (LinesB w6 w4.heap.size f k 4 v) := HL.out.below hb
      have HB : Hid (Below w.heap.size w w6) := HB.out.trans (hb.mono HB.out.size)
      have HS := Lib.hid (HST.out i)
      clear hb iL hlp HCX
      go_wp2_with ((with_reducible show wpList _ _ _ (Oper.mk _ (Op.store 22 _ _) _ _ _ _ :: _) _ _); refine storePR (K12) (by omega) rfl rfl rfl rfl ?_)
      go_roundg q9
      case rel => exact ⟨i + 1, by omega, by go_num, K10.rowOther _ _ (by omega), K11.rowOther _ _ (by omega), (K12.row 16 _).congr fun j _ => HS.out j, HL.out.rowOther _ _ (by omega), below_setRow HB.out (by omega) _⟩
      case measure => omega

set_option maxHeartbeats 1000000 in
theorem markedCells_no (m : Nat) (f : Nat → Int) (d : Int) (w : World) (h : ¬ MbOk f d) :
    Calls Try.prog 72 #[.agg (mk 16 f), .int .i64 d, .func (.func m) #[] #[]] w fun e w' => ∃ g cap, e = .returned (.tuple #[.slice (some ⟨g, 0, none⟩) 0 cap, .bool false]) ∧
      OwnsCells w' w.heap.size (.slice (some ⟨g, 0, none⟩) 0 cap) 0 [] ∧ Below w.heap.size w w' := by
  have K1 := Blk.new w 16 f 28
  have HB := Lib.hid ((Below.refl w.heap.size w).alloc (Nat.le_refl _) (.cells (mk 16 f) 28))
  have HC := Lib.hid (fun W => implCountB_any f d W)
  by_cases hS : SlideOk f d
  · have h0 : cbR f d = 0 := by
      by_cases h0 : cbR f d = 0
      · exact h0
      · exact absurd ⟨hS, h0⟩ h
    rw [h0, (slide_yes hS).1] at HC
    clear h0 hS h
    go_enter Try.func72, Try.ntmps72
    go_wp2_with ((with_reducible show wpList _ _ _ (Oper.mk _ (Op.load 28 _) _ _ _ _ :: _) _ _); refine loadB (K1) rfl rfl rfl ?_)
    refine (HC.out _).mono ?_
    rintro e w1 ⟨rfl, hb⟩
    have HB : Hid (Below w.heap.size w w1) := HB.out.trans (hb.mono HB.out.size)
    clear hb
    have HO := Lib.hid (World.ownsRow_made (base := w.heap.size) (e := 63) (size := 2) w1 #[] 0 HB.out.size (by decide) rfl)
    have HB2 : Hid (Below w.heap.size w (w1.alloc (.cells #[] 63))) := HB.out.alloc HB.out.size _
    go_wp2_with fail
    go_ret2
    exact ⟨_, _, rfl, HO.out, HB2.out⟩
  · rw [cbR_no hS, (slide_no hS).1] at HC
    clear hS h
    go_enter Try.func72, Try.ntmps72
    go_wp2_with ((with_reducible show wpList _ _ _ (Oper.mk _ (Op.load 28 _) _ _ _ _ :: _) _ _); refine loadB (K1) rfl rfl rfl ?_)
    refine (HC.out _).mono ?_
    rintro e w1 ⟨rfl, hb⟩
    have HB : Hid (Below w.heap.size w w1) := HB.out.trans (hb.mono HB.out.size)
    clear hb
    have HO := Lib.hid (World.ownsRow_made (base := w.heap.size) (e := 63) (size := 2) w1 #[] 0 HB.out.size (by decide) rfl)
    have HB2 : Hid (Below w.heap.size w (w1.alloc (.cells #[] 63))) := HB.out.alloc HB.out.size _
    go_wp2_with fail
    go_ret2
    exact ⟨_, _, rfl, HO.out, HB2.out⟩
theorem mkMustMerge_eq (f : Nat → Int) (k : Nat) : (fun j => alM (lnR f k (lineOf k j)) (placeOf k j)) = mkC false f k := by funext j; simp [mkC]
set_option maxHeartbeats 400000 in
theorem implMustMerge_any (f : Nat → Int) (d : Int) (w : World) :
    Calls Try.prog 35 #[.agg (mk 16 f), .int .i64 d] w fun e w' => ∃ g cap, e = .returned (.tuple #[.slice (some ⟨g, 0, none⟩) (mmN false f d) cap, .bool (mbO f d)]) ∧
      OwnsCells w' w.heap.size (.slice (some ⟨g, 0, none⟩) (mmN false f d) cap) (mmN false f d) (mmL false f d) ∧ Below w.heap.size w w' := by
  have HMC : Hid (∀ W, Calls Try.prog 72 #[.agg (mk 16 f), .int .i64 d, .func (.func 73) #[] #[]] W fun e w' => ∃ g cap, e = .returned (.tuple #[.slice (some ⟨g, 0, none⟩) (mmN false f d) cap, .bool (mbO f d)]) ∧
      OwnsCells w' W.heap.size (.slice (some ⟨g, 0, none⟩) (mmN false f d) cap) (mmN false f d) (mmL false f d) ∧ Below W.heap.size W w') := by
    intro W
    by_cases h : MbOk f d
    · obtain ⟨⟨hV, hd⟩, h0⟩ := id h
      obtain ⟨k, rfl⟩ := Int.eq_ofNat_of_zero_le hd.1
      obtain ⟨y1, y2⟩ := mm_yes false h
      rw [(mb_yes h).1, y1, y2, Int.toNat_natCast, ← mkMustMerge_eq]
      exact markedCells_ok 73 alM f k W hV (by omega) h0 (Go.Proofs.enters_of Try.func73 (by kernel_rfl) rfl) fun i g0 c0 W hi hc => markMust_any f k i g0 c0 W hV hi hc
    · obtain ⟨y1, y2⟩ := mm_no false h
      rw [(mb_no h).1, y1, y2]
      exact markedCells_no _ f d W h
  have K1 := Blk.new w 16 f 28
  have HB := Lib.hid ((Below.refl w.heap.size w).alloc (Nat.le_refl _) (.cells (mk 16 f) 28))
  generalize mmN false f d = N at *
  generalize mmL false f d = L at *
  generalize mbO f d = O at *
  go_enter Try.func35, Try.ntmps35
  go_wp2_with ((with_reducible show wpList _ _ _ (Oper.mk _ (Op.load 28 _) _ _ _ _ :: _) _ _); refine loadB (K1) rfl rfl rfl ?_)
  refine (HMC.out _).mono ?_
  rintro e w3 ⟨g, cap, rfl, ho, hb⟩
  have HO := Lib.hid (ownsRow_wide ho HB.out.size)
  have HB : Hid (Below w.heap.size w w3) := HB.out.trans (hb.mono HB.out.size)
  clear ho hb
  go_wp2_with fail
  go_ret2
  exact ⟨g, cap, rfl, HO.out, HB.out⟩
theorem mkCanMerge_eq (f : Nat → Int) (k : Nat) : (fun j => anM (lnR f k (lineOf k j)) (placeOf k j)) = mkC true f k := by funext j; simp [mkC]
set_option maxHeartbeats 400000 in
theorem implCanMerge_any (f : Nat → Int) (d : Int) (w : World) :
    Calls Try.prog 37 #[.agg (mk 16 f), .int .i64 d] w fun e w' => ∃ g cap, e = .returned (.tuple #[.slice (some ⟨g, 0, none⟩) (mmN true f d) cap, .bool (mbO f d)]) ∧
      OwnsCells w' w.heap.size (.slice (some ⟨g, 0, none⟩) (mmN true f d) cap) (mmN true f d) (mmL true f d) ∧ Below w.heap.size w w' := by
  have HMC : Hid (∀ W, Calls Try.prog 72 #[.agg (mk 16 f), .int .i64 d, .func (.func 74) #[] #[]] W fun e w' => ∃ g cap, e = .returned (.tuple #[.slice (some ⟨g, 0, none⟩) (mmN true f d) cap, .bool (mbO f d)]) ∧
      OwnsCells w' W.heap.size (.slice (some ⟨g, 0, none⟩) (mmN true f d) cap) (mmN true f d) (mmL true f d) ∧ Below W.heap.size W w') := by
    intro W
    by_cases h : MbOk f d
    · obtain ⟨⟨hV, hd⟩, h0⟩ := id h
      obtain ⟨k, rfl⟩ := Int.eq_ofNat_of_zero_le hd.1
      obtain ⟨y1, y2⟩ := mm_yes true h
      rw [(mb_yes h).1, y1, y2, Int.toNat_natCast, ← mkCanMerge_eq]
      exact markedCells_ok 74 anM f k W hV (by omega) h0 (Go.Proofs.enters_of Try.func74 (by kernel_rfl) rfl) fun i g0 c0 W hi hc => markCan_any f k i g0 c0 W hV hi hc
    · obtain ⟨y1, y2⟩ := mm_no true h
      rw [(mb_no h).1, y1, y2]
      exact markedCells_no _ f d W h
  have K1 := Blk.new w 16 f 28
  have HB := Lib.hid ((Below.refl w.heap.size w).alloc (Nat.le_refl _) (.cells (mk 16 f) 28))
  generalize mmN true f d = N at *
  generalize mmL true f d = L at *
  generalize mbO f d = O at *
  go_enter Try.func37, Try.ntmps37
  go_wp2_with ((with_reducible show wpList _ _ _ (Oper.mk _ (Op.load 28 _) _ _ _ _ :: _) _ _); refine loadB (K1) rfl rfl rfl ?_)
  refine (HMC.out _).mono ?_
  rintro e w3 ⟨g, cap, rfl, ho, hb⟩
  have HO := Lib.hid (ownsRow_wide ho HB.out.size)
  have HB : Hid (Below w.heap.size w w3) := HB.out.trans (hb.mono HB.out.size)
  clear ho hb
  go_wp2_with fail
  go_ret2
  exact ⟨g, cap, rfl, HO.out, HB.out⟩
end Go.Proofs.Ytphkidkkcknnmaa
