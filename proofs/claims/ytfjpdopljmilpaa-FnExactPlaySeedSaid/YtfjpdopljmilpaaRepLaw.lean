/-
  A replay that comes in by value, and the laws' size and copy of it, their comparison, marks and looks. No condition.
-/
import Derived.Test.YtfjpdopljmilpaaRepKit
import Derived.Test.YtfjpdopljmilpaaStepRows
import Derived.Test.YtfjpdopljmilpaaStepsIn
namespace Go.Proofs.Ytfjpdopljmilpaa
open Go.ChangeShapes Go.WideShapes Go.ChangeAt Go.RowKit Plain
attribute [local go_sem] store_new
set_option linter.unusedVariables false
set_option linter.unusedSimpArgs false
theorem store_newR {P : Program} (W : World) (b : Nat) (f g : Nat → Int) (u : Value) (a : Option Addr) (n c : Nat) (t : TypeId) (hb : b = W.heap.size) :
    (storeCells ⟨b, 0, none⟩ (rpl g (.slice a n c)).toList).run P (W.alloc (.cells (rpl f u) t)) = .ok () (W.alloc (.cells (rpl g (.slice a n c)) t)) := by
  subst hb
  have := run_storeCells_from (P := P) W.heap.size t (rpl g (.slice a n c)).toList 0 _ _ (Rp.new W f u t) (by simp [rpl_size]) (fun v hv => (Array.all_eq_true_iff_forall_mem.1 (rpl_one g (v := .slice a n c) rfl)) v (by simpa using hv))
  rw [this]
  simp [World.setRow_alloc_new, rpl_size]
theorem execRp {o : Oper} {ev : Operand → Value} {w : World} {b : Nat} {f : Nat → Int} {v : Value} {t : TypeId} {x : Operand} (hg : Rp w b f v t) (ho : o.op = .load 29 x) (hx : ev x = .pointer (some ⟨b, 0, none⟩)) :
    (execOp ev o).run Try.prog w = .ok (.value (.agg (rpl f v))) w := by
  unfold execOp
  simp only [ho, hx, Instr.loadAt, Instr.sureAddr, Sem.run_bind, Sem.run_pure, Result.andThen_ok, run_load_rp hg]
theorem execRB {o : Oper} {ev : Operand → Value} {w : World} {b : Nat} {f : Nat → Int} {v : Value} {t : TypeId} {x : Operand} (hg : Rp w b f v t) (ho : o.op = .load 26 x) (hx : ev x = .pointer (some ⟨b, 0, none⟩)) :
    (execOp ev o).run Try.prog w = .ok (.value (.agg (mk 16 f))) w := by
  have hq := run_loadVar_mid (P := Try.prog) w b 0 26 _ _ hg.range Try.underlying26 rfl (by rw [mk_len]; exact sizeB)
  rw [Array.toArray_toList] at hq
  unfold execOp
  simp only [ho, hx, Instr.loadAt, Instr.sureAddr, Sem.run_bind, Sem.run_pure, Result.andThen_ok, hq]
section
variable {H : Type} {enc : TypeId × Value → H} {P : Program} {w : World} {base : Nat} {spare : Nat → Bool} {held : Bool}
/-- The board of a struct that begins with one. -/
theorem trod_board {fuel : Nat} {t g e i : TypeId} {f0 : Field} {cs : List Value} {x : DataW H × List MemPlace} (ht : P.underlying t = some (.struct #[f0])) (ho : f0.offset = 0) (hg : f0.type = g) (hgu : P.underlying g = some (.array 4 e)) (heu : P.underlying e = some (.array 4 i))
    (hiu : P.underlying i = some (.int .i64)) (cg : P.cellsOf g = 16) (ce : P.cellsOf e = 4) (ci : P.cellsOf i = 1)
    (h : DataW.trod enc P w base spare held fuel t cs = some x) : ∀ j, j < 16 → ∃ z : Int, cs[j]? = some (.int .i64 z) ∧ (Lit.int .i64 z).wf = true := by
  obtain ⟨xs, n, _, _, _, hl, hq⟩ := DataW.trod_struct ht h
  have h0 := hq 0 f0 rfl
  have hl2 : xs.length = 1 := hl
  rw [List.getElem?_eq_getElem (by omega), ho, hg, cg] at h0
  have hr := trod_rows hgu heu hiu ce ci h0
  intro j hj
  obtain ⟨z, hz, hw⟩ := hr (j / 4) (j % 4) (by omega) (by omega)
  refine ⟨z, ?_, hw⟩
  rw [show j / 4 * 4 + j % 4 = j by omega, List.getElem?_take, if_pos hj] at hz
  simpa [Value.cells] using hz
/-- A replay that reads: its board, and its slice of steps. -/
theorem open_replay {t b s g e i st c : TypeId} {f0 f1 fb s0 s1 s2 : Field} (ht : P.underlying t = some (.struct #[f0, f1])) (o0 : f0.offset = 0) (o1 : f1.offset = 16) (t0 : f0.type = b) (t1 : f1.type = s)
    (hb : P.underlying b = some (.struct #[fb])) (ob : fb.offset = 0) (tb : fb.type = g) (hgu : P.underlying g = some (.array 4 e)) (heu : P.underlying e = some (.array 4 i)) (hiu : P.underlying i = some (.int .i64))
    (hs : P.underlying s = some (.slice st)) (hst : P.underlying st = some (.struct #[s0, s1, s2])) (p0 : s0.offset = 0) (p1 : s1.offset = 1) (p2 : s2.offset = 3) (u0 : s0.type = i) (u1 : s1.type = c) (u2 : s2.type = i) (hc : P.underlying c = some (.array 2 i))
    (ct : P.cellsOf t = 17) (cb : P.cellsOf b = 16) (cs' : P.cellsOf s = 1) (cg : P.cellsOf g = 16) (ce : P.cellsOf e = 4) (ci : P.cellsOf i = 1) (cst : P.cellsOf st = 4) (cc : P.cellsOf c = 2)
    {r : Reach} {b0 : Nat} {v : Value} {d : DataW H} {p : List MemPlace} (hv : Value.okWide P w r b0 t v) (h : DataW.Trod enc P w base spare held t v d p) :
    ∃ (f : Nat → Int) (a : Option Addr) (len cap : Nat), v = .agg (rpl f (.slice a len cap)) ∧ IsSteps w a len cap := by
  obtain ⟨cs, rfl, hsz⟩ := okWide_struct ht hv
  rw [ct] at hsz
  obtain ⟨fuel, hf⟩ := h
  obtain ⟨xs, n, _, _, _, hl, hq⟩ := DataW.trod_struct ht hf
  have hl2 : xs.length = 2 := hl
  have h0 := hq 0 f0 rfl
  have h1 := hq 1 f1 rfl
  rw [List.getElem?_eq_getElem (by omega), o0, t0, cb] at h0
  rw [List.getElem?_eq_getElem (by omega), o1, t1, cs'] at h1
  have hB := trod_board hb ob tb hgu heu hiu cg ce ci h0
  have hcl : (Value.agg cs).cells = cs := rfl
  rw [hcl] at h1 hB
  have hall : ∀ j, j < 16 → ∃ z : Int, cs[j]? = some (.int .i64 z) ∧ (Lit.int .i64 z).wf = true := by
    intro j hj
    obtain ⟨z, hz, hw⟩ := hB j hj
    refine ⟨z, ?_, hw⟩
    rw [List.drop_zero, List.getElem?_take, if_pos hj] at hz
    simpa using hz
  have hlast : ∀ x, (cs.toList.drop 16).take 1 = [x] → cs[16]? = some x := by
    intro x hx
    have : ((cs.toList.drop 16).take 1)[0]? = some x := by rw [hx]; rfl
    rw [List.getElem?_take, if_pos (by omega), List.getElem?_drop] at this
    simpa using this
  have hmk : ∀ x, cs[16]? = some x → cs = rpl (nums cs) x := fun x hx => rpl_ext hsz (fun j hj => by
    obtain ⟨z, hz, _⟩ := hall j hj
    simp [nums, hz]) hx
  rcases open_steps hs hst p0 p1 p2 u0 u1 u2 hc hiu cst cc ci h1 with hcs | ⟨x, l, c', hcs, hl', hm, hcell⟩
  · exact ⟨nums cs, none, 0, 0, congrArg Value.agg (hmk _ (hlast _ hcs)), .inl ⟨rfl, rfl, rfl⟩⟩
  · exact ⟨nums cs, some x, l, c', congrArg Value.agg (hmk _ (hlast _ hcs)), .inr ⟨_, rfl, hl', hm, hcell⟩⟩
end
set_option maxHeartbeats 1000000 in
theorem eqReplay_yes (f : Nat → Int) (v u : Value) (n : Nat) (h : Nat → Int) (w : World) (hv : KRow 4 w v n h) (hu : KRow 4 w u n h) (hn : n ≤ 1048576) :
    Calls Try.prog 18 #[.agg (rpl f v), .agg (rpl f u)] w fun e w' => e = .returned (.bool true) ∧ Below w.heap.size w w' := by
  have hb0 := ((Below.refl w.heap.size w).alloc (Nat.le_refl _) (.cells (rpl f v) 29)).alloc (by simp) (.cells (rpl f u) 29)
  have K1 := (Rp.new w f v 29).alloc (.cells (rpl f u) 29)
  have K2 := Rp.new (w.alloc (.cells (rpl f v) 29)) f u 29
  have HV := Lib.hid (hv.below hb0)
  have HU := Lib.hid (hu.below hb0)
  have HB0 := Lib.hid hb0
  simp only [World.size_alloc] at K2
  clear hv hu hb0
  go_enter Try.func18, Try.ntmps18
  go_wp2_with (first | ((with_reducible show wpList _ _ _ (Oper.mk _ (Op.load 26 _) _ _ _ _ :: _) _ _); refine loadRB (K1) rfl rfl rfl ?_) | ((with_reducible show wpList _ _ _ (Oper.mk _ (Op.load 26 _) _ _ _ _ :: _) _ _); refine loadRB (K2) rfl rfl rfl ?_))
  refine (eqBoard_same _ _).mono ?_
  rintro e w1 ⟨rfl, hb⟩
  have K1 := K1.below hb K1.lt
  have K2 := K2.below hb K2.lt
  have c16 := K1.last
  have d16 := K2.last
  have HV := Lib.hid (HV.out.below hb)
  have HU := Lib.hid (HU.out.below hb)
  have HB := Lib.hid (HB0.out.trans (hb.mono HB0.out.size))
  clear hb HB0
  go_wp2_with fail
  refine (eqT_yes v u n h _ HV.out HU.out hn).mono ?_
  rintro e w2 ⟨rfl, hb⟩
  have HB : Hid (Below w.heap.size w w2) := HB.out.trans (hb.mono HB.out.size)
  clear hb
  go_wp2_with fail
  go_ret
  exact ⟨rfl, HB.out⟩
set_option maxHeartbeats 1000000 in
theorem markReplay_any (f : Nat → Int) (g cap n base : Nat) (h : Nat → Int) (w : World) (ho : w.ownsRow base 52 4 (.slice (some ⟨g, 0, none⟩) n cap) n (mk (n * 4) h).toList) (hn : n ≤ 1048576) (hb : base ≤ w.heap.size) :
    Calls Try.prog 19 #[.agg (rpl f (.slice (some ⟨g, 0, none⟩) n cap)), .int .i64 1] w fun e w' => e = .returned (.int .i64 (1 + n * 4 : Nat)) ∧
      w'.ownsRow base 52 4 (.slice (some ⟨g, 0, none⟩) n cap) n (mk (n * 4) fun j => ((1 + j : Nat) : Int)).toList ∧ Below base w w' := by
  have K1 := Rp.new w f (.slice (some ⟨g, 0, none⟩) n cap) 29
  have HB0 : Hid (Below base w (w.alloc (.cells (rpl f (.slice (some ⟨g, 0, none⟩) n cap)) 29))) := (Below.refl base w).alloc hb _
  have HO := Lib.hid (World.ownsRow.alloc ho (.cells (rpl f (.slice (some ⟨g, 0, none⟩) n cap)) 29))
  have c16 := K1.last
  clear ho
  go_enter Try.func19, Try.ntmps19
  go_wp2_with fail
  refine (markT_row g cap n base h _ HO.out hn).mono ?_
  rintro e w1 ⟨rfl, r, hb⟩
  have HB : Hid (Below base w w1) := HB0.out.trans hb
  have HR := Lib.hid r
  clear hb r HB0 HO
  go_wp2_with fail
  go_ret
  exact ⟨rfl, HR.out, HB.out⟩
set_option maxHeartbeats 1000000 in
theorem heldReplay_any (f : Nat → Int) (v : Value) (n : Nat) (w : World) (hv : KRow 4 w v n fun j => ((1 + j : Nat) : Int)) (hn : n ≤ 1048576) :
    Calls Try.prog 20 #[.agg (rpl f v), .int .i64 1] w fun e w' => e = .returned (.int .i64 (1 + n * 4 : Nat)) ∧ Below w.heap.size w w' := by
  have K1 := Rp.new w f v 29
  have hb0 := (Below.refl w.heap.size w).alloc (Nat.le_refl _) (.cells (rpl f v) 29)
  have HV := Lib.hid (hv.below hb0)
  have HB0 := Lib.hid hb0
  have c16 := K1.last
  clear hv hb0
  have n0 : ¬ (((1 + n * 4 : Nat) : Int) < 0) := by omega
  go_enter Try.func20, Try.ntmps20
  go_wp2_with fail
  refine (heldT_row v n _ HV.out hn).mono ?_
  rintro e w1 ⟨rfl, rfl⟩
  go_wp2_with fail
  go_ret
  exact ⟨rfl, HB0.out⟩
end Go.Proofs.Ytfjpdopljmilpaa
