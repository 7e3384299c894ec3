/-
  The path through all cells in their order: its array of places, as the program builds it.
-/
import Derived.Test.YtmcmpedmgibmkabSpecLine
import Derived.Test.YtmcmpedmgibmkabRowsKit
namespace Go.Proofs.Ytmcmpedmgibmkab
open Go.RowKit Plain
attribute [local go_sem] store_new
set_option linter.unusedVariables false
set_option linter.unusedSimpArgs false
theorem sizeP : (Try.prog.info? 23).map (·.size) = some 32 := by kernel_rfl
theorem loadP {ops : Array Oper} {rest : List Oper} {o : Oper} {a : Act} {w : World} {Q : Exit → Act → World → Prop} {x : Operand} {b : Nat} {f : Nat → Int} {t : TypeId}
    (hg : Blk w b 32 f t) (hgd : o.guard = none) (ho : o.op = .load 23 x) (hx : a.eval x = .pointer (some ⟨b, 0, none⟩))
    (h : wpList Try.prog ops Q rest (a.put o.dst (.agg (mk 32 f))) w) : wpList Try.prog ops Q (o :: rest) a w :=
  wpList_load_blk hgd _ x ho b 32 f t _ hx hg Try.underlying23 rfl sizeP h
theorem storeP {ops : Array Oper} {rest : List Oper} {o : Oper} {a : Act} {w : World} {Q : Exit → Act → World → Prop} {x y : Operand} {b : Nat} {f g : Nat → Int} {t : TypeId}
    (hg : Blk w b 32 f t) (hgd : o.guard = none) (ho : o.op = .store 23 x y) (hx : a.eval x = .pointer (some ⟨b, 0, none⟩)) (hy : a.eval y = .agg (mk 32 g))
    (h : wpList Try.prog ops Q rest (a.put o.dst undef) (w.setRow b (mk 32 g))) : wpList Try.prog ops Q (o :: rest) a w :=
  wpList_store_blk hgd _ x y ho b 32 f g t hx hy hg sizeP h
theorem loadPP {ops : Array Oper} {rest : List Oper} {o : Oper} {a : Act} {w : World} {Q : Exit → Act → World → Prop} {x : Operand} {b n off : Nat} {f : Nat → Int} {t : TypeId}
    (hg : Blk w b n f t) (hm : off + 32 ≤ n) (hgd : o.guard = none) (ho : o.op = .load 23 x) (hx : a.eval x = .pointer (some ⟨b, off, none⟩))
    (h : wpList Try.prog ops Q rest (a.put o.dst (.agg (mk 32 (fun i => f (off + i))))) w) : wpList Try.prog ops Q (o :: rest) a w :=
  wpList_load_part hgd _ x ho b n off 32 f t _ hx hg hm Try.underlying23 rfl sizeP h
theorem storePP {ops : Array Oper} {rest : List Oper} {o : Oper} {a : Act} {w : World} {Q : Exit → Act → World → Prop} {x y : Operand} {b n off : Nat} {f g : Nat → Int} {t : TypeId}
    (hg : Blk w b n f t) (hm : off + 32 ≤ n) (hgd : o.guard = none) (ho : o.op = .store 23 x y) (hx : a.eval x = .pointer (some ⟨b, off, none⟩)) (hy : a.eval y = .agg (mk 32 g))
    (h : wpList Try.prog ops Q rest (a.put o.dst undef) (w.setRow b (mk n (patch f off 32 g)))) : wpList Try.prog ops Q (o :: rest) a w :=
  wpList_store_part hgd _ x y ho b n off 32 f g t hx hy hg hm sizeP h
theorem retcP {fn : Func} {R : Ending → World → Prop} {a : Act} {w : World} {p : Tmp} {t : TypeId} {b : Nat} {f : Nat → Int}
    (hg : Blk w b 32 f t) (h : fn.results = #[.cell p 23]) (hp : a.tmps.getD p undef = .pointer (some ⟨b, 0, none⟩)) (hdf : a.defers = [])
    (hR : R (.returned (.agg (mk 32 f))) w) : bodyPost Try.prog fn R .ret a w := ret_c Try.underlying23 rfl sizeP h hp hdf hg hR
theorem retctP {fn : Func} {R : Ending → World → Prop} {a : Act} {w : World} {p q : Tmp} {t : TypeId} {b : Nat} {f : Nat → Int}
    (hg : Blk w b 32 f t) (h : fn.results = #[.cell p 23, .tmp q]) (hp : a.tmps.getD p undef = .pointer (some ⟨b, 0, none⟩)) (hdf : a.defers = [])
    (hR : R (.returned (.tuple #[.agg (mk 32 f), a.tmps.getD q undef])) w) : bodyPost Try.prog fn R .ret a w := ret_ct Try.underlying23 rfl sizeP h hp hdf hg hR
theorem retcttP {fn : Func} {R : Ending → World → Prop} {a : Act} {w : World} {p q r : Tmp} {t : TypeId} {b : Nat} {f : Nat → Int}
    (hg : Blk w b 32 f t) (h : fn.results = #[.cell p 23, .tmp q, .tmp r]) (hp : a.tmps.getD p undef = .pointer (some ⟨b, 0, none⟩)) (hdf : a.defers = [])
    (hR : R (.returned (.tuple #[.agg (mk 32 f), a.tmps.getD q undef, a.tmps.getD r undef])) w) : bodyPost Try.prog fn R .ret a w := ret_ctt Try.underlying23 rfl sizeP h hp hdf hg hR
theorem zero32 : (#[.int .i64 0, .int .i64 0, .int .i64 0, .int .i64 0, .int .i64 0, .int .i64 0, .int .i64 0, .int .i64 0, .int .i64 0, .int .i64 0, .int .i64 0, .int .i64 0, .int .i64 0, .int .i64 0, .int .i64 0, .int .i64 0, .int .i64 0, .int .i64 0, .int .i64 0, .int .i64 0, .int .i64 0, .int .i64 0, .int .i64 0, .int .i64 0, .int .i64 0, .int .i64 0, .int .i64 0, .int .i64 0, .int .i64 0, .int .i64 0, .int .i64 0, .int .i64 0] : Array Value) = mk 32 (fun _ => 0) := rfl
namespace Plain
/-- The places of the cells in their order, two numbers each. -/
def pathF : Nat → Int := fun j => if j % 2 = 0 then ((j / 2 / 4 : Nat) : Int) else ((j / 2 % 4 : Nat) : Int)
theorem pathF_row (i : Nat) : pathF (i * 2) = ((i / 4 : Nat) : Int) := by
  unfold pathF
  rw [if_pos (by omega), show i * 2 / 2 = i by omega]
theorem pathF_col (i : Nat) : pathF (i * 2 + 1) = ((i % 4 : Nat) : Int) := by
  unfold pathF
  rw [if_neg (by omega), show (i * 2 + 1) / 2 = i by omega]
end Plain
theorem path_step (i : Nat) : ∀ j, patch (upto pathF (i * 2)) (i * 2) 2 (two ((i / 4 : Nat) : Int) ((i % 4 : Nat) : Int)) j = upto pathF ((i + 1) * 2) j := fun j => by
  rw [← upto_row pathF i 2 j]
  refine patch_congr _ _ _ (fun k hk => ?_) j
  rcases (by omega : k = 0 ∨ k = 1) with rfl | rfl
  · exact (pathF_row i).symm
  · exact (pathF_col i).symm
set_option maxHeartbeats 1000000 in
set_option maxRecDepth 20000 in
theorem cellPath_any (w : World) :
    Calls Try.prog 46 #[] w fun e w' => e = .returned (.agg (mk 32 pathF)) ∧ Below w.heap.size w w' := by
  have z32 := zero32
  have K0 := (Blk.new w 32 (fun _ => 0) 23).alloc (.cells (mk 32 fun _ => 0) 23)
  have K1 := Blk.new (w.alloc (.cells (mk 32 fun _ => 0) 23)) 32 (fun _ => 0) 23
  have HB := Lib.hid (((Below.refl w.heap.size w).alloc (Nat.le_refl _) (.cells (mk 32 fun _ => 0) 23)).alloc (by simp) (.cells (mk 32 fun _ => 0) 23))
  simp only [World.size_alloc] at K1
  go_enter Try.func46, Try.ntmps46
  go_wp2_with ((with_reducible show wpList _ _ _ (Oper.mk _ (Op.store 23 _ _) _ _ _ _ :: _) _ _); refine storeP (K1) rfl rfl rfl rfl ?_)
  have K0 := K0.rowOther (w.heap.size + 1) (mk 32 fun _ => 0) (by omega)
  have K1 := K1.row 32 (fun _ => 0)
  have HB : Hid (Below w.heap.size w (((w.alloc (.cells (mk 32 fun _ => 0) 23)).alloc (.cells (mk 32 fun _ => 0) 23)).setRow (w.heap.size + 1) (mk 32 fun _ => 0))) := below_setRow HB.out (by omega) _
  generalize ((w.alloc (.cells (mk 32 fun _ => 0) 23)).alloc (.cells (mk 32 fun _ => 0) 23)).setRow (w.heap.size + 1) (mk 32 fun _ => 0) = w1 at *
  clear z32
  go_loopg [4] 16 (fun g s4 wr => ∃ i : Nat, i + g = 16 ∧ s4 = .int .i64 i ∧ Blk wr (w.heap.size + 1) 32 (upto pathF (i * 2)) 23 ∧ Blk wr w.heap.size 32 (fun _ => 0) 23 ∧ Hid (Below w.heap.size w wr))
  case atStart => exact ⟨0, by omega, rfl, K1.congr (fun j _ => by simp [upto]), K0, HB⟩
  case round =>
    clear K0 K1 HB
    obtain ⟨i, hig, rfl, K1, K0, HB⟩ := hrel
    cases gk with
    | zero =>
      have hd : ¬ ((i : Int) < 16) := by omega
      obtain rfl : i = 16 := by omega
      have HF : Hid (mk 32 (upto pathF (16 * 2)) = mk 32 pathF) := mk_congr fun j hj => by simp [upto, hj]
      clear hig
      go_wp2_with (first | ((with_reducible show wpList _ _ _ (Oper.mk _ (Op.load 23 _) _ _ _ _ :: _) _ _); refine loadP (K1) rfl rfl rfl ?_) | ((with_reducible show wpList _ _ _ (Oper.mk _ (Op.store 23 _ _) _ _ _ _ :: _) _ _); refine storeP (K0) rfl rfl rfl rfl ?_))
      try simp only [Exit.inBlock, Exit.then]
      rw [← HF.out]
      exact retcP (K0.row 32 _) rfl rfl rfl ⟨rfl, below_setRow HB.out (Nat.le_refl _) _⟩
    | succ g =>
      have hd : (i : Int) < 16 := by omega
      have hq : (i : Int).tdiv 4 = ((i / 4 : Nat) : Int) := by rw [Int.tdiv_eq_ediv_of_nonneg (by omega)]; omega
      have hqw : IntKind.i64.wrap ((i : Int) / 4) = (i : Int) / 4 := IntWalk.i64_in _ (by omega)
      have hm : (i : Int).tmod 4 = ((i % 4 : Nat) : Int) := by rw [Int.tmod_eq_emod_of_nonneg (by omega)]; omega
      have HU : Hid (mk 32 (patch (upto pathF (i * 2)) (i * 2) 2 (two ((i / 4 : Nat) : Int) ((i % 4 : Nat) : Int))) = mk 32 (upto pathF ((i + 1) * 2))) := mk_congr fun j _ => path_step i j
      go_wp2_with ((with_reducible show wpList _ _ _ (Oper.mk _ (Op.store 22 _ _) _ _ _ _ :: _) _ _); refine storePC (g := two _ _) (K1) (by omega) rfl rfl rfl rfl ?_)
      have K0 := K0.rowOther (w.heap.size + 1) (mk 32 (upto pathF ((i + 1) * 2))) (by omega)
      have K1 := K1.row 32 (upto pathF ((i + 1) * 2))
      go_roundg g
      case rel => exact ⟨i + 1, by omega, by go_num, by first | exact K1 | (rw [← HU.out] at K1; exact K1), by first | exact K0 | (rw [← HU.out] at K0; exact K0), below_setRow HB.out (by omega) _⟩
      case measure => omega
end Go.Proofs.Ytmcmpedmgibmkab
