/-
  A stable sort of the sixteen cells of a path by the falling numbers of a board: fallingCells in the program.
-/
import Derived.Test.YtmcmpedmgibmkabLaysI
import Derived.Test.YtmcmpedmgibmkabSpecOrd
import Derived.Test.YtmcmpedmgibmkabSnakeImpl
import Derived.Shelf.SlSortCmp.NoneTotal
import Derived.Sort.LotA
import Derived.Laws.CopyRow
namespace Go.Proofs.Ytmcmpedmgibmkab
open Go.RowKit Plain
open Go.Sort hiding Below
attribute [local go_sem] store_new
set_option linter.unusedVariables false
set_option linter.unusedSimpArgs false
/-- A place, as two numbers. -/
def encP (p : Fin 16) : List Value := [.int .i64 ((p.1 / 4 : Nat) : Int), .int .i64 ((p.1 % 4 : Nat) : Int)]
theorem encP_len (p : Fin 16) : (encP p).length = 2 := rfl
theorem encP_one (p : Fin 16) : ∀ v ∈ encP p, v.oneCell' = true := fun v hv => by
  simp only [encP, List.mem_cons, List.not_mem_nil, or_false] at hv
  rcases hv with rfl | rfl <;> rfl
theorem encP_mk (p : Fin 16) : (encP p).toArray = mk 2 (two ((p.1 / 4 : Nat) : Int) ((p.1 % 4 : Nat) : Int)) := mk_two _ _
/-- The numbers of a row of places. -/
def flP (d : Array (Fin 16)) : Nat → Int := fun j => if j % 2 = 0 then ((d[j / 2]!.1 / 4 : Nat) : Int) else ((d[j / 2]!.1 % 4 : Nat) : Int)
theorem flatP (d : Array (Fin 16)) (hd : d.size = 16) : flatK encP 2 d = mk 32 (flP d) := by
  refine mk_ext (by rw [size_flatK, hd]) fun i hi => ?_
  have hs : i < (flatK encP 2 d).size := by rw [size_flatK, hd]; exact hi
  rw [Array.getElem?_eq_getElem hs, ← getElem!_pos _ i hs, get_flatK _ _ _ _ (by rw [hd]; exact hi)]
  unfold flP
  rcases (by omega : i % 2 = 0 ∨ i % 2 = 1) with e | e
  · rw [if_pos e, e]; rfl
  · rw [if_neg (by omega), e]; rfl
theorem holds_path {w : World} {b : Nat} {t : TypeId} {d : Array (Fin 16)} (K : Blk w b 32 (flP d) t) (hd : d.size = 16) : HoldsK encP 2 w b 0 d := fun j hj => by
  rw [flatP d hd] at hj ⊢
  rw [mk_size] at hj
  rw [Nat.zero_add, getElem!_pos _ j (by rw [mk_size]; exact hj)]
  have h := mk_get (flP d) hj
  rw [Array.getElem?_eq_getElem (by rw [mk_size]; exact hj)] at h
  refine ⟨?_, K.free j⟩
  rw [K.cell hj]
  simpa using h.symm
theorem sorted_blk {w : World} {b q : Nat} {F : Nat → Int} {t : TypeId} {d : Array (Fin 16)} (os : Array Obj) (K : Blk w b 32 F t) (hd : d.size = 16) :
    Blk (sortWorldK encP 2 w b 0 q d os) b 32 (flP d) t ∧ w.grownBy (sortWorldK encP 2 w b 0 q d os) (some b) := by
  have hw : sortWorldK encP 2 w b 0 q d os = Sort.grow (Sort.mapBlock (Sort.ahead w q) b (Sort.putCells id 0 (mk 32 (flP d)))) os := by
    unfold sortWorldK putRowK Sort.putRow; rw [flatP d hd]
  have hbl := K.lt
  have hcur : Sort.putCells id 0 (mk 32 (flP d)) (mk 32 F) = mk 32 (flP d) := by
    refine mk_ext (by simp [Sort.putCells, mk_size]) fun i hi => ?_
    unfold Sort.putCells
    rw [Array.getElem?_mapIdx, mk_get F hi]
    simp only [Option.map_some, Nat.zero_le, Nat.zero_add, mk_size, hi, true_and, if_true, Nat.sub_zero, id]
    rw [getElem!_pos _ i (by rw [mk_size]; exact hi)]
    have h := mk_get (flP d) hi
    rw [Array.getElem?_eq_getElem (by rw [mk_size]; exact hi)] at h
    exact h
  have hheap : ∀ j, j < w.heap.size → (sortWorldK encP 2 w b 0 q d os).heap[j]? = if b = j then some (.cells (mk 32 (flP d)) t (0, 0)) else w.heap[j]? := fun j hj => by
    rw [hw]
    have hs : (Sort.mapBlock (Sort.ahead w q) b (Sort.putCells id 0 (mk 32 (flP d)))).heap.size = w.heap.size := by simp [Sort.mapBlock, Sort.ahead]
    unfold Sort.grow
    simp only
    rw [Array.getElem?_append_left (by rw [hs]; exact hj)]
    simp only [Sort.mapBlock, Sort.ahead, Array.getElem?_modify]
    by_cases hbj : b = j
    · subst hbj
      rw [if_pos rfl, if_pos rfl, show w.heap[b]? = some (.cells (mk 32 F) t (0, 0)) from K]
      show some (Sort.onCells _ _) = _
      unfold Sort.onCells
      simp only [hcur]
    · rw [if_neg hbj, if_neg hbj]
  have hsz : w.heap.size ≤ (sortWorldK encP 2 w b 0 q d os).heap.size := by
    rw [hw]; simp [Sort.grow, Sort.mapBlock, Sort.ahead]
  refine ⟨?_, ⟨by rw [hw]; rfl, by rw [hw]; rfl, by rw [hw]; rfl, hsz, fun j hj hne => ?_⟩⟩
  · show (sortWorldK encP 2 w b 0 q d os).heap[b]? = _
    rw [hheap b hbl, if_pos rfl]
  · rw [hheap j hj, if_neg (fun e => hne (by rw [e]))]
/-- What cmp.Compare returns. -/
def cmpI (a b : Int) : Int := if a < b then -1 else if b < a then 1 else 0
theorem isNaN_any (x : Int) (w : World) : Calls Try.prog 65 #[.int .i64 x] w fun e w' => e = .returned (.bool false) ∧ w = w' := by
  have hx : decide (x ≠ x) = false := by simp
  go_enter Try.func65, Try.ntmps65
  go_wp2
  go_ret
  exact ⟨by simp, rfl⟩
theorem compare_any (a b : Int) (w : World) : Calls Try.prog 54 #[.int .i64 a, .int .i64 b] w fun e w' => e = .returned (.int .i64 (cmpI a b)) ∧ w = w' := by
  by_cases h1 : a < b
  · have HE : Hid (cmpI a b = -1) := if_pos h1
    go_enter Try.func54, Try.ntmps54
    go_wp2_with fail
    refine (isNaN_any _ _).mono ?_
    rintro e w' ⟨rfl, rfl⟩
    go_wp2_with fail
    refine (isNaN_any _ _).mono ?_
    rintro e w' ⟨rfl, rfl⟩
    go_wp2_with fail
    go_ret
    exact ⟨by rw [HE.out]; rfl, rfl⟩
  · by_cases h2 : b < a
    · have HE : Hid (cmpI a b = 1) := by show cmpI a b = 1; unfold cmpI; rw [if_neg h1, if_pos h2]
      go_enter Try.func54, Try.ntmps54
      go_wp2_with fail
      refine (isNaN_any _ _).mono ?_
      rintro e w' ⟨rfl, rfl⟩
      go_wp2_with fail
      refine (isNaN_any _ _).mono ?_
      rintro e w' ⟨rfl, rfl⟩
      go_wp2_with fail
      go_ret
      exact ⟨by rw [HE.out]; rfl, rfl⟩
    · have HE : Hid (cmpI a b = 0) := by show cmpI a b = 0; unfold cmpI; rw [if_neg h1, if_neg h2]
      go_enter Try.func54, Try.ntmps54
      go_wp2_with fail
      refine (isNaN_any _ _).mono ?_
      rintro e w' ⟨rfl, rfl⟩
      go_wp2_with fail
      refine (isNaN_any _ _).mono ?_
      rintro e w' ⟨rfl, rfl⟩
      go_wp2_with fail
      go_ret
      exact ⟨by rw [HE.out]; rfl, rfl⟩
/-- How two places compare: those with greater numbers first. -/
def cfP (f : Nat → Int) (x y : Fin 16) : Int := cmpI (f y.1) (f x.1)
set_option maxHeartbeats 4000000 in
set_option maxRecDepth 20000 in
theorem fallCmp_any (f : Nat → Int) (x y : Fin 16) (bb : Nat) (tb : TypeId) (w : World) (K : Blk w bb 16 f tb) :
    Calls Try.prog 53 #[.agg (encP x).toArray, .agg (encP y).toArray, .pointer (some ⟨bb, 0, none⟩)] w fun e w' => e = .returned (.int .i64 (cfP f x y)) ∧ Dr.Below w.heap.size w w' := by
  rw [encP_mk, encP_mk]
  obtain ⟨X, hX⟩ := x
  obtain ⟨Y, hY⟩ := y
  obtain ⟨XR, hXR⟩ : ∃ R, R = X / 4 := ⟨_, rfl⟩
  obtain ⟨XC, hXC⟩ : ∃ R, R = X % 4 := ⟨_, rfl⟩
  obtain ⟨YR, hYR⟩ : ∃ R, R = Y / 4 := ⟨_, rfl⟩
  obtain ⟨YC, hYC⟩ : ∃ R, R = Y % 4 := ⟨_, rfl⟩
  have HV : Hid (cmpI (f (YR * 4 + YC)) (f (XR * 4 + XC)) = cfP f ⟨X, hX⟩ ⟨Y, hY⟩) := by
    show _ = cmpI (f Y) (f X)
    rw [show YR * 4 + YC = Y by omega, show XR * 4 + XC = X by omega]
  show Calls _ _ #[.agg (mk 2 (two ((X / 4 : Nat) : Int) ((X % 4 : Nat) : Int))), .agg (mk 2 (two ((Y / 4 : Nat) : Int) ((Y % 4 : Nat) : Int))), _] _ _
  rw [← HV.out, ← hXR, ← hXC, ← hYR, ← hYC]
  have x1 : (XR : Int) < 4 := by omega
  have x2 : (XC : Int) < 4 := by omega
  have y1 : (YR : Int) < 4 := by omega
  have y2 : (YC : Int) < 4 := by omega
  have x3 : (0 : Int) ≤ (XR : Int) := by omega
  have x4 : (0 : Int) ≤ (XC : Int) := by omega
  have y3 : (0 : Int) ≤ (YR : Int) := by omega
  have y4 : (0 : Int) ≤ (YC : Int) := by omega
  have kx := K.cell (i := XR * 4 + XC) (by omega)
  have ky := K.cell (i := YR * 4 + YC) (by omega)
  clear hXR hXC hYR hYC HV hX hY
  have HCC := Lib.hid (fun w => compare_any (f (YR * 4 + YC)) (f (XR * 4 + XC)) w)
  generalize cmpI (f (YR * 4 + YC)) (f (XR * 4 + XC)) = CV at *
  have hbb := K.lt
  have K3 := (Blk.new w 2 (two (XR : Int) (XC : Int)) 22).alloc (.cells (mk 2 (two (YR : Int) (YC : Int))) 22)
  have K4 := Blk.new (w.alloc (.cells (mk 2 (two (XR : Int) (XC : Int))) 22)) 2 (two (YR : Int) (YC : Int)) 22
  simp only [World.size_alloc] at K4
  have KB := (K.alloc (.cells (mk 2 (two (XR : Int) (XC : Int))) 22)).alloc (.cells (mk 2 (two (YR : Int) (YC : Int))) 22)
  have HB := Lib.hid (((Below.refl w.heap.size w).alloc (Nat.le_refl _) (.cells (mk 2 (two (XR : Int) (XC : Int))) 22)).alloc (by simp) (.cells (mk 2 (two (YR : Int) (YC : Int))) 22))
  go_enter Try.func53, Try.ntmps53
  go_wp2_with fail
  have HD : Hid (w.drawn ≤ ((w.alloc (.cells (mk 2 (two (XR : Int) (XC : Int))) 22)).alloc (.cells (mk 2 (two (YR : Int) (YC : Int))) 22)).drawn) := Nat.le_refl _
  generalize (w.alloc (.cells (mk 2 (two (XR : Int) (XC : Int))) 22)).alloc (.cells (mk 2 (two (YR : Int) (YC : Int))) 22) = w1 at *
  have c30 : w1.cell? ⟨w.heap.size, 0, none⟩ = some (.int .i64 (XR : Int)) := K3.cell (i := 0) (by omega)
  have c31 : w1.cell? ⟨w.heap.size, 1, none⟩ = some (.int .i64 (XC : Int)) := K3.cell (i := 1) (by omega)
  have c40 : w1.cell? ⟨w.heap.size + 1, 0, none⟩ = some (.int .i64 (YR : Int)) := K4.cell (i := 0) (by omega)
  have c41 : w1.cell? ⟨w.heap.size + 1, 1, none⟩ = some (.int .i64 (YC : Int)) := K4.cell (i := 1) (by omega)
  have cbx := KB.cell (i := XR * 4 + XC) (by omega)
  have cby := KB.cell (i := YR * 4 + YC) (by omega)
  clear kx ky K3 K4 KB hbb
  go_quiet ((go_at_call 54; exact Calls.quiet_of_same ((HCC.out _).mono fun e w2 h => ⟨h.1, h.2.symm⟩)))
  go_wp2_with fail
  go_ret
  exact ⟨rfl, ⟨below_drewN HB.out _, Nat.le_trans HD.out (Nat.le_add_right _ _)⟩⟩
end Go.Proofs.Ytmcmpedmgibmkab
