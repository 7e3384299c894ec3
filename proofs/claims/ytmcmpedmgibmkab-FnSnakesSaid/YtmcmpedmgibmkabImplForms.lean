/-
  The contracts of the forms of a board in the program: each of the eight, their table, FormBoard, and all eight at once. No condition but that the board is valid where it is said.
-/
import Derived.Test.YtmcmpedmgibmkabFormImplNums
import Derived.Test.YtmcmpedmgibmkabSlideTo
import Derived.Test.YtmcmpedmgibmkabBaseA
import Derived.Deep.RegionWith
namespace Go.Proofs.Ytmcmpedmgibmkab
open Go.RowKit Plain
attribute [local go_sem] store_new

/-- All eight forms, one behind the other. -/
def eightF (f : Nat → Int) : Nat → Int := fun j => formF f (j / 16) (j % 16)
theorem eightF_at (f : Nat → Int) (k : Nat) {i : Nat} (hi : i < 16) : eightF f (k * 16 + i) = formF f k i := by
  unfold eightF
  rw [show (k * 16 + i) / 16 = k by omega, show (k * 16 + i) % 16 = i by omega]
theorem eight_mk (f : Nat → Int) (k : Nat) : mk 16 (fun c => eightF f (k * 16 + c)) = mk 16 (formF f k) := mk_congr fun _ hi => eightF_at f k hi
theorem eight_patch (f : Nat → Int) (k j : Nat) : patch (upto (eightF f) (k * 16)) (k * 16) 16 (formF f k) j = upto (eightF f) ((k + 1) * 16) j := by
  rw [← upto_row]
  exact patch_congr _ _ _ (fun i hi => (eightF_at f k hi).symm) j


theorem turnedTwice_any (f : Nat → Int) (w : World) :
    Calls Try.prog 69 #[.agg (mk 16 f)] w fun e w' => e = .returned (.agg (mk 16 (fun j => f ((3 - j / 4) * 4 + (3 - j % 4))))) ∧ Below w.heap.size w w' := by
  have z16 := zero16
  have K1 := (Blk.new w 16 f 35).alloc (.cells (mk 16 fun _ => 0) 35)
  have K2 := Blk.new (w.alloc (.cells (mk 16 f) 35)) 16 (fun _ => 0) 35
  have HB := Lib.hid (((Below.refl w.heap.size w).alloc (Nat.le_refl _) (.cells (mk 16 f) 35)).alloc (by simp) (.cells (mk 16 fun _ => 0) 35))
  simp only [World.size_alloc] at K2
  go_enter Try.func69, Try.ntmps69
  go_wp2_with ((with_reducible show wpList _ _ _ (Oper.mk _ (Op.load 35 _) _ _ _ _ :: _) _ _); refine loadB (K1) rfl rfl rfl ?_)
  refine (turned_any _ _).mono ?_
  rintro e w2 ⟨rfl, hb2⟩
  have k2 := K2.below hb2 (by simp)
  have HB2 : Hid (Below w.heap.size w w2) := HB.out.trans (hb2.mono HB.out.size)
  clear hb2 HB K1 K2
  go_wp2_with fail
  refine (turned_any _ _).mono ?_
  rintro e w3 ⟨rfl, hb3⟩
  have k3 := k2.below hb3 k2.lt
  have HB3 : Hid (Below w.heap.size w w3) := HB2.out.trans (hb3.mono HB2.out.size)
  clear hb3 HB2 k2
  go_wp2_with ((with_reducible show wpList _ _ _ (Oper.mk _ (Op.store 35 _ _) _ _ _ _ :: _) _ _); refine storeB (k3) rfl rfl rfl rfl ?_)
  try simp only [Exit.inBlock, Exit.then]
  refine retcB (k3.row 16 _) rfl rfl rfl ⟨?_, below_setRow HB3.out (by omega) _⟩
  rw [mk_congr]
  intro j hj
  show f _ = f _
  congr 1
  omega
theorem upsideDown_any (f : Nat → Int) (w : World) :
    Calls Try.prog 73 #[.agg (mk 16 f)] w fun e w' => e = .returned (.agg (mk 16 (fun j => f ((3 - j / 4) * 4 + j % 4)))) ∧ Below w.heap.size w w' := by
  have z16 := zero16
  have K1 := (Blk.new w 16 f 35).alloc (.cells (mk 16 fun _ => 0) 35)
  have K2 := Blk.new (w.alloc (.cells (mk 16 f) 35)) 16 (fun _ => 0) 35
  have HB := Lib.hid (((Below.refl w.heap.size w).alloc (Nat.le_refl _) (.cells (mk 16 f) 35)).alloc (by simp) (.cells (mk 16 fun _ => 0) 35))
  simp only [World.size_alloc] at K2
  go_enter Try.func73, Try.ntmps73
  go_wp2_with ((with_reducible show wpList _ _ _ (Oper.mk _ (Op.load 35 _) _ _ _ _ :: _) _ _); refine loadB (K1) rfl rfl rfl ?_)
  refine (turnedTwice_any _ _).mono ?_
  rintro e w2 ⟨rfl, hb2⟩
  have k2 := K2.below hb2 (by simp)
  have HB2 : Hid (Below w.heap.size w w2) := HB.out.trans (hb2.mono HB.out.size)
  clear hb2 HB K1 K2
  go_wp2_with fail
  refine (mirrored_any _ _).mono ?_
  rintro e w3 ⟨rfl, hb3⟩
  have k3 := k2.below hb3 k2.lt
  have HB3 : Hid (Below w.heap.size w w3) := HB2.out.trans (hb3.mono HB2.out.size)
  clear hb3 HB2 k2
  go_wp2_with ((with_reducible show wpList _ _ _ (Oper.mk _ (Op.store 35 _ _) _ _ _ _ :: _) _ _); refine storeB (k3) rfl rfl rfl rfl ?_)
  try simp only [Exit.inBlock, Exit.then]
  refine retcB (k3.row 16 _) rfl rfl rfl ⟨?_, below_setRow HB3.out (by omega) _⟩
  rw [mk_congr]
  intro j hj
  show f _ = f _
  congr 1
  omega
theorem transposedFromEnd_any (f : Nat → Int) (w : World) :
    Calls Try.prog 74 #[.agg (mk 16 f)] w fun e w' => e = .returned (.agg (mk 16 (fun j => f ((3 - j % 4) * 4 + (3 - j / 4))))) ∧ Below w.heap.size w w' := by
  have z16 := zero16
  have K1 := (Blk.new w 16 f 35).alloc (.cells (mk 16 fun _ => 0) 35)
  have K2 := Blk.new (w.alloc (.cells (mk 16 f) 35)) 16 (fun _ => 0) 35
  have HB := Lib.hid (((Below.refl w.heap.size w).alloc (Nat.le_refl _) (.cells (mk 16 f) 35)).alloc (by simp) (.cells (mk 16 fun _ => 0) 35))
  simp only [World.size_alloc] at K2
  go_enter Try.func74, Try.ntmps74
  go_wp2_with ((with_reducible show wpList _ _ _ (Oper.mk _ (Op.load 35 _) _ _ _ _ :: _) _ _); refine loadB (K1) rfl rfl rfl ?_)
  refine (turnedBack_any _ _).mono ?_
  rintro e w2 ⟨rfl, hb2⟩
  have k2 := K2.below hb2 (by simp)
  have HB2 : Hid (Below w.heap.size w w2) := HB.out.trans (hb2.mono HB.out.size)
  clear hb2 HB K1 K2
  go_wp2_with fail
  refine (mirrored_any _ _).mono ?_
  rintro e w3 ⟨rfl, hb3⟩
  have k3 := k2.below hb3 k2.lt
  have HB3 : Hid (Below w.heap.size w w3) := HB2.out.trans (hb3.mono HB2.out.size)
  clear hb3 HB2 k2
  go_wp2_with ((with_reducible show wpList _ _ _ (Oper.mk _ (Op.store 35 _ _) _ _ _ _ :: _) _ _); refine storeB (k3) rfl rfl rfl rfl ?_)
  try simp only [Exit.inBlock, Exit.then]
  refine retcB (k3.row 16 _) rfl rfl rfl ⟨?_, below_setRow HB3.out (by omega) _⟩
  rw [mk_congr]
  intro j hj
  show f _ = f _
  congr 1
  omega

/-- What the table of forms holds. -/
def formCells : Array Value := #[.func (.func 67) #[] #[], .func (.func 68) #[] #[], .func (.func 69) #[] #[], .func (.func 70) #[] #[], .func (.func 71) #[] #[], .func (.func 72) #[] #[], .func (.func 73) #[] #[], .func (.func 74) #[] #[]]
theorem formOne : formCells.all (·.oneCell') = true := by simp [formCells, Value.oneCell']
theorem sizeFT : (Try.prog.info? 89).map (·.size) = some 8 := by kernel_rfl
theorem forms_any (w : World) :
    Calls Try.prog 63 #[] w fun e w' => e = .returned (.agg formCells) ∧ Below w.heap.size w w' := by
  go_enter Try.func63, Try.ntmps63
  go_wp2_with ((with_reducible show wpList _ _ _ (Oper.mk _ (Op.store 89 _ _) _ _ _ _ :: _) _ _); refine wpList_store_row rfl 89 _ _ rfl _ formCells rfl rfl _ _ (heap_alloc_new _ _) sizeFT rfl formOne ?_)
  try simp only [Exit.inBlock, Exit.then]
  exact bodyPost_ret (v := .agg formCells) (results_cell_row rfl _ _ _ 89 formCells (0, 0) _ rfl (setRow_heap _ _ _ _ _ _ (heap_alloc_new _ _)) Try.underlying89 rfl sizeFT) rfl ⟨rfl, below_setRow ((Below.refl _ _).alloc (Nat.le_refl _) _) (Nat.le_refl _) _⟩
theorem idxF0 (w : World) : (Instr.index 89 (.agg formCells) (.int .i64 0)).run Try.prog w = .ok (.func (.func 67) #[] #[]) w := by kernel_rfl
theorem form0_any (f : Nat → Int) (w : World) :
    Calls Try.prog 67 #[.agg (mk 16 f)] w fun e w' => e = .returned (.agg (mk 16 (formF f 0))) ∧ Below w.heap.size w w' := unturned_any f w
theorem idxF1 (w : World) : (Instr.index 89 (.agg formCells) (.int .i64 1)).run Try.prog w = .ok (.func (.func 68) #[] #[]) w := by kernel_rfl
theorem form1_any (f : Nat → Int) (w : World) :
    Calls Try.prog 68 #[.agg (mk 16 f)] w fun e w' => e = .returned (.agg (mk 16 (formF f 1))) ∧ Below w.heap.size w w' := turned_any f w
theorem idxF2 (w : World) : (Instr.index 89 (.agg formCells) (.int .i64 2)).run Try.prog w = .ok (.func (.func 69) #[] #[]) w := by kernel_rfl
theorem form2_any (f : Nat → Int) (w : World) :
    Calls Try.prog 69 #[.agg (mk 16 f)] w fun e w' => e = .returned (.agg (mk 16 (formF f 2))) ∧ Below w.heap.size w w' := turnedTwice_any f w
theorem idxF3 (w : World) : (Instr.index 89 (.agg formCells) (.int .i64 3)).run Try.prog w = .ok (.func (.func 70) #[] #[]) w := by kernel_rfl
theorem form3_any (f : Nat → Int) (w : World) :
    Calls Try.prog 70 #[.agg (mk 16 f)] w fun e w' => e = .returned (.agg (mk 16 (formF f 3))) ∧ Below w.heap.size w w' := turnedBack_any f w
theorem idxF4 (w : World) : (Instr.index 89 (.agg formCells) (.int .i64 4)).run Try.prog w = .ok (.func (.func 71) #[] #[]) w := by kernel_rfl
theorem form4_any (f : Nat → Int) (w : World) :
    Calls Try.prog 71 #[.agg (mk 16 f)] w fun e w' => e = .returned (.agg (mk 16 (formF f 4))) ∧ Below w.heap.size w w' := mirrored_any f w
theorem idxF5 (w : World) : (Instr.index 89 (.agg formCells) (.int .i64 5)).run Try.prog w = .ok (.func (.func 72) #[] #[]) w := by kernel_rfl
theorem form5_any (f : Nat → Int) (w : World) :
    Calls Try.prog 72 #[.agg (mk 16 f)] w fun e w' => e = .returned (.agg (mk 16 (formF f 5))) ∧ Below w.heap.size w w' := transposed_any f w
theorem idxF6 (w : World) : (Instr.index 89 (.agg formCells) (.int .i64 6)).run Try.prog w = .ok (.func (.func 73) #[] #[]) w := by kernel_rfl
theorem form6_any (f : Nat → Int) (w : World) :
    Calls Try.prog 73 #[.agg (mk 16 f)] w fun e w' => e = .returned (.agg (mk 16 (formF f 6))) ∧ Below w.heap.size w w' := upsideDown_any f w
theorem idxF7 (w : World) : (Instr.index 89 (.agg formCells) (.int .i64 7)).run Try.prog w = .ok (.func (.func 74) #[] #[]) w := by kernel_rfl
theorem form7_any (f : Nat → Int) (w : World) :
    Calls Try.prog 74 #[.agg (mk 16 f)] w fun e w' => e = .returned (.agg (mk 16 (formF f 7))) ∧ Below w.heap.size w w' := transposedFromEnd_any f w
end Go.Proofs.Ytmcmpedmgibmkab
