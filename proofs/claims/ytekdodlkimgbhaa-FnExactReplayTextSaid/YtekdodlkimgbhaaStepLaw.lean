/-
  A step that comes in by value, and the laws' conversion of it. No condition.
-/
import Derived.Test.YtekdodlkimgbhaaStepMem
import Derived.Test.YtekdodlkimgbhaaBaseA
import Derived.Deep.CutRange
namespace Go.Proofs.Ytekdodlkimgbhaa
open Go.ChangeShapes Go.WideShapes Go.ChangeAt Go.RowKit Plain
attribute [local go_sem] store_new
set_option linter.unusedVariables false
set_option linter.unusedSimpArgs false

theorem cellsU : Try.prog.cellsOf 46 = 4 := by kernel_rfl
section
variable {H : Type} {enc : TypeId × Value → H} {P : Program} {w : World} {base : Nat} {spare : Nat → Bool} {held : Bool}
/-- The four numbers of a step that reads. -/
theorem trod_step {fuel : Nat} {t c i : TypeId} {f0 f1 f2 : Field} {cs : List Value} {x : DataW H × List MemPlace} (ht : P.underlying t = some (.struct #[f0, f1, f2])) (o0 : f0.offset = 0) (o1 : f1.offset = 1) (o2 : f2.offset = 3)
    (t0 : f0.type = i) (t1 : f1.type = c) (t2 : f2.type = i) (hc : P.underlying c = some (.array 2 i)) (hi : P.underlying i = some (.int .i64)) (cc : P.cellsOf c = 2) (ci : P.cellsOf i = 1)
    (h : DataW.trod enc P w base spare held fuel t cs = some x) : ∀ j, j < 4 → ∃ z : Int, cs[j]? = some (.int .i64 z) ∧ (Lit.int .i64 z).wf = true := by
  obtain ⟨xs, n, _, _, _, hl, hq⟩ := DataW.trod_struct ht h
  have hl2 : xs.length = 3 := hl
  have h0 := hq 0 f0 rfl
  have h1 := hq 1 f1 rfl
  have h2 := hq 2 f2 rfl
  rw [List.getElem?_eq_getElem (by omega), o0, t0, ci] at h0
  rw [List.getElem?_eq_getElem (by omega), o1, t1, cc] at h1
  rw [List.getElem?_eq_getElem (by omega), o2, t2, ci] at h2
  have one : ∀ (o : Nat) {y : DataW H × List MemPlace}, DataW.trod enc P w base spare held n i (List.take 1 (List.drop o cs)) = some y → ∃ z : Int, cs[o]? = some (.int .i64 z) ∧ (Lit.int .i64 z).wf = true := by
    intro o y hy
    obtain ⟨z, hz, hw⟩ := trod_int_at hi hy
    refine ⟨z, ?_, hw⟩
    have h3 : ((cs.drop o).take 1)[0]? = some (.int .i64 z) := by rw [hz]; rfl
    simpa using h3
  have two := trod_ints hc hi ci h1
  intro j hj
  rcases (by omega : j = 0 ∨ j = 1 ∨ j = 2 ∨ j = 3) with rfl | rfl | rfl | rfl
  · exact one 0 h0
  · obtain ⟨z, hz, hw⟩ := two 0 (by omega)
    rw [List.getElem?_take, if_pos (by omega), List.getElem?_drop] at hz
    exact ⟨z, hz, hw⟩
  · obtain ⟨z, hz, hw⟩ := two 1 (by omega)
    rw [List.getElem?_take, if_pos (by omega), List.getElem?_drop] at hz
    exact ⟨z, hz, hw⟩
  · exact one 3 h2
theorem open_step_at {t c i : TypeId} {f0 f1 f2 : Field} (ht : P.underlying t = some (.struct #[f0, f1, f2])) (o0 : f0.offset = 0) (o1 : f1.offset = 1) (o2 : f2.offset = 3)
    (t0 : f0.type = i) (t1 : f1.type = c) (t2 : f2.type = i) (hc : P.underlying c = some (.array 2 i)) (hi : P.underlying i = some (.int .i64)) (ct : P.cellsOf t = 4) (cc : P.cellsOf c = 2) (ci : P.cellsOf i = 1)
    {r : Reach} {b0 : Nat} {v : Value} {d : DataW H} {p : List MemPlace} (hv : Value.okWide P w r b0 t v) (h : DataW.Trod enc P w base spare held t v d p) :
    ∃ f : Nat → Int, v = .agg (mk 4 f) ∧ ∀ i, i < 4 → (Lit.int .i64 (f i)).wf = true := by
  obtain ⟨cs, rfl, hsz⟩ := okWide_struct ht hv
  rw [ct] at hsz
  obtain ⟨fuel, hf⟩ := h
  have hall := trod_step ht o0 o1 o2 t0 t1 t2 hc hi cc ci hf
  obtain ⟨h1, h2⟩ := nums_mk hsz (fun i hi => by simpa [Value.cells] using hall i hi)
  exact ⟨nums cs, congrArg Value.agg h1, h2⟩
end
set_option maxHeartbeats 1000000 in
theorem toStep_any (s : Nat → Int) (w : World) :
    Calls Try.prog 26 #[.agg (mk 4 s)] w fun e w' => e = .returned (.agg (mk 4 s)) ∧ Below w.heap.size w w' := by
  have z4 := zero4
  have K1 := ((Blk.new w 4 s 46).alloc (.cells (mk 4 fun _ => 0) 49)).alloc (.cells (mk 4 fun _ => 0) 49)
  have K2 := (Blk.new (w.alloc (.cells (mk 4 s) 46)) 4 (fun _ => 0) 49).alloc (.cells (mk 4 fun _ => 0) 49)
  have K3 := Blk.new ((w.alloc (.cells (mk 4 s) 46)).alloc (.cells (mk 4 fun _ => 0) 49)) 4 (fun _ => 0) 49
  have HB := Lib.hid ((((Below.refl w.heap.size w).alloc (Nat.le_refl _) (.cells (mk 4 s) 46)).alloc (by simp) (.cells (mk 4 fun _ => 0) 49)).alloc (by simp; omega) (.cells (mk 4 fun _ => 0) 49))
  simp only [World.size_alloc] at K2 K3
  go_enter Try.func26, Try.ntmps26
  go_upto_region 2 with (fail)
  generalize ((w.alloc (.cells (mk 4 s) 46)).alloc (.cells (mk 4 fun _ => 0) 49)).alloc (.cells (mk 4 fun _ => 0) 49) = w1 at *
  have c0 := K1.cell (i := 0) (by omega)
  have d0 := K3.cell (i := 0) (by omega)
  have f0 := K3.free 0
  have K1 := K1.setOther ⟨w.heap.size + 1 + 1, 0, none⟩ (.int .i64 (s 0)) (by dsimp only; omega)
  have K2 := K2.setOther ⟨w.heap.size + 1 + 1, 0, none⟩ (.int .i64 (s 0)) (by dsimp only; omega)
  have K3 := K3.set (i := 0) (by omega) (s 0)
  have HB : Hid (Below w.heap.size w (w1.setCell ⟨w.heap.size + 1 + 1, 0, none⟩ (.int .i64 (s 0)))) := HB.out.setCell (by dsimp only; omega) _
  go_wp2_with ((with_reducible show wpList _ _ _ (Oper.mk _ (Op.load 44 _) _ _ _ _ :: _) _ _); refine loadPC (K1) (by omega) rfl rfl rfl ?_)
  refine (toIntA2_any _ _).mono ?_
  rintro e w2 ⟨rfl, hb⟩
  have K1 := K1.below hb K1.lt
  have K2 := K2.below hb K2.lt
  have K3 := K3.below hb K3.lt
  have HB : Hid (Below w.heap.size w w2) := HB.out.trans (hb.mono HB.out.size)
  clear hb c0 d0 f0
  generalize hu : upd (fun _ => 0) 0 (s 0) = u at *
  have K1r := K1.rowOther (w.heap.size + 1 + 1) (mk 4 (patch u 1 2 fun i => s (1 + i))) (by omega)
  have K2r := K2.rowOther (w.heap.size + 1 + 1) (mk 4 (patch u 1 2 fun i => s (1 + i))) (by omega)
  have K3r := K3.row 4 (patch u 1 2 fun i => s (1 + i))
  have HB : Hid (Below w.heap.size w (w2.setRow (w.heap.size + 1 + 1) (mk 4 (patch u 1 2 fun i => s (1 + i))))) := below_setRow HB.out (by omega) _
  have c3 := K1r.cell (i := 3) (by omega)
  have d3 := K3r.cell (i := 3) (by omega)
  have f3 := K3r.free 3
  have K2s := K2r.setOther ⟨w.heap.size + 1 + 1, 3, none⟩ (.int .i64 (s 3)) (by dsimp only; omega)
  have K3s := K3r.set (i := 3) (by omega) (s 3)
  have HB : Hid (Below w.heap.size w ((w2.setRow (w.heap.size + 1 + 1) (mk 4 (patch u 1 2 fun i => s (1 + i)))).setCell ⟨w.heap.size + 1 + 1, 3, none⟩ (.int .i64 (s 3)))) := HB.out.setCell (by dsimp only; omega) _
  have K3t := K3s.congr (g := s) (fun i hi => by
    subst hu
    rcases (by omega : i = 0 ∨ i = 1 ∨ i = 2 ∨ i = 3) with rfl | rfl | rfl | rfl <;> rfl)
  go_wp2_with (first | ((with_reducible show wpList _ _ _ (Oper.mk _ (Op.store 44 _ _) _ _ _ _ :: _) _ _); refine storePC (K3) (by omega) rfl rfl rfl rfl ?_) | ((with_reducible show wpList _ _ _ (Oper.mk _ (Op.load 49 _) _ _ _ _ :: _) _ _); refine loadT (K3t) rfl rfl rfl ?_) | ((with_reducible show wpList _ _ _ (Oper.mk _ (Op.store 49 _ _) _ _ _ _ :: _) _ _); refine storeT (K2s) rfl rfl rfl rfl ?_))
  try simp only [Exit.inBlock, Exit.then]
  exact retcT (K2s.row 4 _) rfl rfl rfl ⟨rfl, below_setRow HB.out (by omega) _⟩
end Go.Proofs.Ytekdodlkimgbhaa
