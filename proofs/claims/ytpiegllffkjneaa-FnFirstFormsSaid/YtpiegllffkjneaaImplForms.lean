/-
  The contracts of the forms of a board in the program: each of the eight, their table, FormBoard, and all eight at once. No condition but that the board is valid where it is said.
-/
import Derived.Test.YtpiegllffkjneaaFormImplNums
import Derived.Test.YtpiegllffkjneaaSlideTo
import Derived.Test.YtpiegllffkjneaaBaseA
import Derived.Deep.RegionWith
namespace Go.Proofs.Ytpiegllffkjneaa
open Go.RowKit Plain
attribute [local go_sem] store_new

theorem sizeE : (Try.prog.info? 102).map (·.size) = some 128 := by kernel_rfl
theorem loadE {ops : Array Oper} {rest : List Oper} {o : Oper} {a : Act} {w : World} {Q : Exit → Act → World → Prop} {x : Operand} {b : Nat} {f : Nat → Int} {t : TypeId}
    (hg : Blk w b 128 f t) (hgd : o.guard = none) (ho : o.op = .load 102 x) (hx : a.eval x = .pointer (some ⟨b, 0, none⟩))
    (h : wpList Try.prog ops Q rest (a.put o.dst (.agg (mk 128 f))) w) : wpList Try.prog ops Q (o :: rest) a w :=
  wpList_load_blk hgd _ x ho b 128 f t _ hx hg Try.underlying102 rfl sizeE h
theorem storeE {ops : Array Oper} {rest : List Oper} {o : Oper} {a : Act} {w : World} {Q : Exit → Act → World → Prop} {x y : Operand} {b : Nat} {f g : Nat → Int} {t : TypeId}
    (hg : Blk w b 128 f t) (hgd : o.guard = none) (ho : o.op = .store 102 x y) (hx : a.eval x = .pointer (some ⟨b, 0, none⟩)) (hy : a.eval y = .agg (mk 128 g))
    (h : wpList Try.prog ops Q rest (a.put o.dst undef) (w.setRow b (mk 128 g))) : wpList Try.prog ops Q (o :: rest) a w :=
  wpList_store_blk hgd _ x y ho b 128 f g t hx hy hg sizeE h
theorem loadPE {ops : Array Oper} {rest : List Oper} {o : Oper} {a : Act} {w : World} {Q : Exit → Act → World → Prop} {x : Operand} {b n off : Nat} {f : Nat → Int} {t : TypeId}
    (hg : Blk w b n f t) (hm : off + 128 ≤ n) (hgd : o.guard = none) (ho : o.op = .load 102 x) (hx : a.eval x = .pointer (some ⟨b, off, none⟩))
    (h : wpList Try.prog ops Q rest (a.put o.dst (.agg (mk 128 (fun i => f (off + i))))) w) : wpList Try.prog ops Q (o :: rest) a w :=
  wpList_load_part hgd _ x ho b n off 128 f t _ hx hg hm Try.underlying102 rfl sizeE h
theorem storePE {ops : Array Oper} {rest : List Oper} {o : Oper} {a : Act} {w : World} {Q : Exit → Act → World → Prop} {x y : Operand} {b n off : Nat} {f g : Nat → Int} {t : TypeId}
    (hg : Blk w b n f t) (hm : off + 128 ≤ n) (hgd : o.guard = none) (ho : o.op = .store 102 x y) (hx : a.eval x = .pointer (some ⟨b, off, none⟩)) (hy : a.eval y = .agg (mk 128 g))
    (h : wpList Try.prog ops Q rest (a.put o.dst undef) (w.setRow b (mk n (patch f off 128 g)))) : wpList Try.prog ops Q (o :: rest) a w :=
  wpList_store_part hgd _ x y ho b n off 128 f g t hx hy hg hm sizeE h
theorem retcE {fn : Func} {R : Ending → World → Prop} {a : Act} {w : World} {p : Tmp} {t : TypeId} {b : Nat} {f : Nat → Int}
    (hg : Blk w b 128 f t) (h : fn.results = #[.cell p 102]) (hp : a.tmps.getD p undef = .pointer (some ⟨b, 0, none⟩)) (hdf : a.defers = [])
    (hR : R (.returned (.agg (mk 128 f))) w) : bodyPost Try.prog fn R .ret a w := ret_c Try.underlying102 rfl sizeE h hp hdf hg hR
theorem retctE {fn : Func} {R : Ending → World → Prop} {a : Act} {w : World} {p q : Tmp} {t : TypeId} {b : Nat} {f : Nat → Int}
    (hg : Blk w b 128 f t) (h : fn.results = #[.cell p 102, .tmp q]) (hp : a.tmps.getD p undef = .pointer (some ⟨b, 0, none⟩)) (hdf : a.defers = [])
    (hR : R (.returned (.tuple #[.agg (mk 128 f), a.tmps.getD q undef])) w) : bodyPost Try.prog fn R .ret a w := ret_ct Try.underlying102 rfl sizeE h hp hdf hg hR
theorem retcttE {fn : Func} {R : Ending → World → Prop} {a : Act} {w : World} {p q r : Tmp} {t : TypeId} {b : Nat} {f : Nat → Int}
    (hg : Blk w b 128 f t) (h : fn.results = #[.cell p 102, .tmp q, .tmp r]) (hp : a.tmps.getD p undef = .pointer (some ⟨b, 0, none⟩)) (hdf : a.defers = [])
    (hR : R (.returned (.tuple #[.agg (mk 128 f), a.tmps.getD q undef, a.tmps.getD r undef])) w) : bodyPost Try.prog fn R .ret a w := ret_ctt Try.underlying102 rfl sizeE h hp hdf hg hR
theorem idxE (f : Nat → Int) (k : Nat) (hk : k < 8) (w : World) : (Instr.index 102 (.agg (mk 128 f)) (.int .i64 (k : Int))).run Try.prog w = .ok (.agg (mk 16 (fun c => f (k * 16 + c)))) w :=
  run_index_row Try.underlying102 Try.underlying27 rfl sizeB f hk (by omega) w
/-- All eight forms, one behind the other. -/
def eightF (f : Nat → Int) : Nat → Int := fun j => formF f (j / 16) (j % 16)
theorem eightF_at (f : Nat → Int) (k : Nat) {i : Nat} (hi : i < 16) : eightF f (k * 16 + i) = formF f k i := by
  unfold eightF
  rw [show (k * 16 + i) / 16 = k by omega, show (k * 16 + i) % 16 = i by omega]
theorem eight_mk (f : Nat → Int) (k : Nat) : mk 16 (fun c => eightF f (k * 16 + c)) = mk 16 (formF f k) := mk_congr fun _ hi => eightF_at f k hi
theorem eight_patch (f : Nat → Int) (k j : Nat) : patch (upto (eightF f) (k * 16)) (k * 16) 16 (formF f k) j = upto (eightF f) ((k + 1) * 16) j := by
  rw [← upto_row]
  exact patch_congr _ _ _ (fun i hi => (eightF_at f k hi).symm) j


theorem turnedTwice_any (f : Nat → Int) (w : World) :
    Calls Try.prog 156 #[.agg (mk 16 f)] w fun e w' => e = .returned (.agg (mk 16 (fun j => f ((3 - j / 4) * 4 + (3 - j % 4))))) ∧ Below w.heap.size w w' := by
  have z16 := zero16
  have K1 := (Blk.new w 16 f 27).alloc (.cells (mk 16 fun _ => 0) 27)
  have K2 := Blk.new (w.alloc (.cells (mk 16 f) 27)) 16 (fun _ => 0) 27
  have HB := Lib.hid (((Below.refl w.heap.size w).alloc (Nat.le_refl _) (.cells (mk 16 f) 27)).alloc (by simp) (.cells (mk 16 fun _ => 0) 27))
  simp only [World.size_alloc] at K2
  go_enter Try.func156, Try.ntmps156
  go_wp2_with ((with_reducible show wpList _ _ _ (Oper.mk _ (Op.load 27 _) _ _ _ _ :: _) _ _); refine loadB (K1) rfl rfl rfl ?_)
  refine (turned_any _ _).mono ?_
  rintro e w2 ⟨rfl, hb2⟩
  have k2 := K2.below hb2 (by simp)
  have HB2 : Hid (Below w.heap.size w w2) := HB.out.trans (hb2.mono HB.out.size)
  clear hb2 HB K1 K2
  go_wp2_with fail
  refine (turned_any _ _).mono ?_
  rintro e w3 ⟨rfl, hb3⟩
  have k3 := k2.below hb3 k2.lt
  have HB3 : Hid (Below w.heap.size w w3) := HB2.out.trans (hb3.mono HB2.out.size)
  clear hb3 HB2 k2
  go_wp2_with ((with_reducible show wpList _ _ _ (Oper.mk _ (Op.store 27 _ _) _ _ _ _ :: _) _ _); refine storeB (k3) rfl rfl rfl rfl ?_)
  try simp only [Exit.inBlock, Exit.then]
  refine retcB (k3.row 16 _) rfl rfl rfl ⟨?_, below_setRow HB3.out (by omega) _⟩
  rw [mk_congr]
  intro j hj
  show f _ = f _
  congr 1
  omega
theorem upsideDown_any (f : Nat → Int) (w : World) :
    Calls Try.prog 160 #[.agg (mk 16 f)] w fun e w' => e = .returned (.agg (mk 16 (fun j => f ((3 - j / 4) * 4 + j % 4)))) ∧ Below w.heap.size w w' := by
  have z16 := zero16
  have K1 := (Blk.new w 16 f 27).alloc (.cells (mk 16 fun _ => 0) 27)
  have K2 := Blk.new (w.alloc (.cells (mk 16 f) 27)) 16 (fun _ => 0) 27
  have HB := Lib.hid (((Below.refl w.heap.size w).alloc (Nat.le_refl _) (.cells (mk 16 f) 27)).alloc (by simp) (.cells (mk 16 fun _ => 0) 27))
  simp only [World.size_alloc] at K2
  go_enter Try.func160, Try.ntmps160
  go_wp2_with ((with_reducible show wpList _ _ _ (Oper.mk _ (Op.load 27 _) _ _ _ _ :: _) _ _); refine loadB (K1) rfl rfl rfl ?_)
  refine (turnedTwice_any _ _).mono ?_
  rintro e w2 ⟨rfl, hb2⟩
  have k2 := K2.below hb2 (by simp)
  have HB2 : Hid (Below w.heap.size w w2) := HB.out.trans (hb2.mono HB.out.size)
  clear hb2 HB K1 K2
  go_wp2_with fail
  refine (mirrored_any _ _).mono ?_
  rintro e w3 ⟨rfl, hb3⟩
  have k3 := k2.below hb3 k2.lt
  have HB3 : Hid (Below w.heap.size w w3) := HB2.out.trans (hb3.mono HB2.out.size)
  clear hb3 HB2 k2
  go_wp2_with ((with_reducible show wpList _ _ _ (Oper.mk _ (Op.store 27 _ _) _ _ _ _ :: _) _ _); refine storeB (k3) rfl rfl rfl rfl ?_)
  try simp only [Exit.inBlock, Exit.then]
  refine retcB (k3.row 16 _) rfl rfl rfl ⟨?_, below_setRow HB3.out (by omega) _⟩
  rw [mk_congr]
  intro j hj
  show f _ = f _
  congr 1
  omega
theorem transposedFromEnd_any (f : Nat → Int) (w : World) :
    Calls Try.prog 161 #[.agg (mk 16 f)] w fun e w' => e = .returned (.agg (mk 16 (fun j => f ((3 - j % 4) * 4 + (3 - j / 4))))) ∧ Below w.heap.size w w' := by
  have z16 := zero16
  have K1 := (Blk.new w 16 f 27).alloc (.cells (mk 16 fun _ => 0) 27)
  have K2 := Blk.new (w.alloc (.cells (mk 16 f) 27)) 16 (fun _ => 0) 27
  have HB := Lib.hid (((Below.refl w.heap.size w).alloc (Nat.le_refl _) (.cells (mk 16 f) 27)).alloc (by simp) (.cells (mk 16 fun _ => 0) 27))
  simp only [World.size_alloc] at K2
  go_enter Try.func161, Try.ntmps161
  go_wp2_with ((with_reducible show wpList _ _ _ (Oper.mk _ (Op.load 27 _) _ _ _ _ :: _) _ _); refine loadB (K1) rfl rfl rfl ?_)
  refine (turnedBack_any _ _).mono ?_
  rintro e w2 ⟨rfl, hb2⟩
  have k2 := K2.below hb2 (by simp)
  have HB2 : Hid (Below w.heap.size w w2) := HB.out.trans (hb2.mono HB.out.size)
  clear hb2 HB K1 K2
  go_wp2_with fail
  refine (mirrored_any _ _).mono ?_
  rintro e w3 ⟨rfl, hb3⟩
  have k3 := k2.below hb3 k2.lt
  have HB3 : Hid (Below w.heap.size w w3) := HB2.out.trans (hb3.mono HB2.out.size)
  clear hb3 HB2 k2
  go_wp2_with ((with_reducible show wpList _ _ _ (Oper.mk _ (Op.store 27 _ _) _ _ _ _ :: _) _ _); refine storeB (k3) rfl rfl rfl rfl ?_)
  try simp only [Exit.inBlock, Exit.then]
  refine retcB (k3.row 16 _) rfl rfl rfl ⟨?_, below_setRow HB3.out (by omega) _⟩
  rw [mk_congr]
  intro j hj
  show f _ = f _
  congr 1
  omega

/-- What the table of forms holds. -/
def formCells : Array Value := #[.func (.func 154) #[] #[], .func (.func 155) #[] #[], .func (.func 156) #[] #[], .func (.func 157) #[] #[], .func (.func 158) #[] #[], .func (.func 159) #[] #[], .func (.func 160) #[] #[], .func (.func 161) #[] #[]]
theorem formOne : formCells.all (·.oneCell') = true := by simp [formCells, Value.oneCell']
theorem sizeFT : (Try.prog.info? 117).map (·.size) = some 8 := by kernel_rfl
theorem forms_any (w : World) :
    Calls Try.prog 105 #[] w fun e w' => e = .returned (.agg formCells) ∧ Below w.heap.size w w' := by
  go_enter Try.func105, Try.ntmps105
  go_wp2_with ((with_reducible show wpList _ _ _ (Oper.mk _ (Op.store 117 _ _) _ _ _ _ :: _) _ _); refine wpList_store_row rfl 117 _ _ rfl _ formCells rfl rfl _ _ (heap_alloc_new _ _) sizeFT rfl formOne ?_)
  try simp only [Exit.inBlock, Exit.then]
  exact bodyPost_ret (v := .agg formCells) (results_cell_row rfl _ _ _ 117 formCells (0, 0) _ rfl (setRow_heap _ _ _ _ _ _ (heap_alloc_new _ _)) Try.underlying117 rfl sizeFT) rfl ⟨rfl, below_setRow ((Below.refl _ _).alloc (Nat.le_refl _) _) (Nat.le_refl _) _⟩
theorem idxF0 (w : World) : (Instr.index 117 (.agg formCells) (.int .i64 0)).run Try.prog w = .ok (.func (.func 154) #[] #[]) w := by kernel_rfl
theorem form0_any (f : Nat → Int) (w : World) :
    Calls Try.prog 154 #[.agg (mk 16 f)] w fun e w' => e = .returned (.agg (mk 16 (formF f 0))) ∧ Below w.heap.size w w' := unturned_any f w
theorem idxF1 (w : World) : (Instr.index 117 (.agg formCells) (.int .i64 1)).run Try.prog w = .ok (.func (.func 155) #[] #[]) w := by kernel_rfl
theorem form1_any (f : Nat → Int) (w : World) :
    Calls Try.prog 155 #[.agg (mk 16 f)] w fun e w' => e = .returned (.agg (mk 16 (formF f 1))) ∧ Below w.heap.size w w' := turned_any f w
theorem idxF2 (w : World) : (Instr.index 117 (.agg formCells) (.int .i64 2)).run Try.prog w = .ok (.func (.func 156) #[] #[]) w := by kernel_rfl
theorem form2_any (f : Nat → Int) (w : World) :
    Calls Try.prog 156 #[.agg (mk 16 f)] w fun e w' => e = .returned (.agg (mk 16 (formF f 2))) ∧ Below w.heap.size w w' := turnedTwice_any f w
theorem idxF3 (w : World) : (Instr.index 117 (.agg formCells) (.int .i64 3)).run Try.prog w = .ok (.func (.func 157) #[] #[]) w := by kernel_rfl
theorem form3_any (f : Nat → Int) (w : World) :
    Calls Try.prog 157 #[.agg (mk 16 f)] w fun e w' => e = .returned (.agg (mk 16 (formF f 3))) ∧ Below w.heap.size w w' := turnedBack_any f w
theorem idxF4 (w : World) : (Instr.index 117 (.agg formCells) (.int .i64 4)).run Try.prog w = .ok (.func (.func 158) #[] #[]) w := by kernel_rfl
theorem form4_any (f : Nat → Int) (w : World) :
    Calls Try.prog 158 #[.agg (mk 16 f)] w fun e w' => e = .returned (.agg (mk 16 (formF f 4))) ∧ Below w.heap.size w w' := mirrored_any f w
theorem idxF5 (w : World) : (Instr.index 117 (.agg formCells) (.int .i64 5)).run Try.prog w = .ok (.func (.func 159) #[] #[]) w := by kernel_rfl
theorem form5_any (f : Nat → Int) (w : World) :
    Calls Try.prog 159 #[.agg (mk 16 f)] w fun e w' => e = .returned (.agg (mk 16 (formF f 5))) ∧ Below w.heap.size w w' := transposed_any f w
theorem idxF6 (w : World) : (Instr.index 117 (.agg formCells) (.int .i64 6)).run Try.prog w = .ok (.func (.func 160) #[] #[]) w := by kernel_rfl
theorem form6_any (f : Nat → Int) (w : World) :
    Calls Try.prog 160 #[.agg (mk 16 f)] w fun e w' => e = .returned (.agg (mk 16 (formF f 6))) ∧ Below w.heap.size w w' := upsideDown_any f w
theorem idxF7 (w : World) : (Instr.index 117 (.agg formCells) (.int .i64 7)).run Try.prog w = .ok (.func (.func 161) #[] #[]) w := by kernel_rfl
theorem form7_any (f : Nat → Int) (w : World) :
    Calls Try.prog 161 #[.agg (mk 16 f)] w fun e w' => e = .returned (.agg (mk 16 (formF f 7))) ∧ Below w.heap.size w w' := transposedFromEnd_any f w
end Go.Proofs.Ytpiegllffkjneaa
