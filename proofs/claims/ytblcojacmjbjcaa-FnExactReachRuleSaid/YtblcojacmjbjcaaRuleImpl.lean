/-
  The contracts of the program's rules: the table of their laws, the law of a rule, what two tiles merge to, what a tile is worth, MergeOf and WorthBy.
-/
import Derived.Test.YtblcojacmjbjcaaRuleLine
namespace Go.Proofs.Ytblcojacmjbjcaa
open Go.RowKit Plain
set_option linter.unusedVariables false
set_option linter.unusedSimpArgs false
attribute [local go_sem] store_new
/-- The law that the law of a rule bounds. -/
def inR (r : Int) : Value :=
  if r = 1 then .iface 110 (.agg #[]) else if r = 2 then .iface 113 (.agg #[]) else if r = 3 then .iface 114 (.agg #[]) else .iface 115 (.agg #[])
def lawCells : Array Value := #[lawOn (inR 1), lawOn (inR 2), lawOn (inR 3), lawOn (inR 4)]
theorem lawOneC : lawCells.all (·.oneCell') = true := by simp [lawCells, lawOn, inR, Value.oneCell']
theorem sizeLw : (Try.prog.info? 82).map (·.size) = some 4 := by kernel_rfl
theorem laws_any (w : World) :
    Calls Try.prog 69 #[] w fun e w' => e = .returned (.agg lawCells) ∧ Below w.heap.size w w' := by
  go_enter Try.func69, Try.ntmps69
  go_wp2_with ((with_reducible show wpList _ _ _ (Oper.mk _ (Op.store 82 _ _) _ _ _ _ :: _) _ _); refine wpList_store_row rfl 82 _ _ rfl _ lawCells rfl rfl _ _ (heap_alloc_new _ _) sizeLw rfl lawOneC ?_)
  try simp only [Exit.inBlock, Exit.then]
  exact bodyPost_ret (v := .agg lawCells) (results_cell_row rfl _ _ _ 82 lawCells (0, 0) _ rfl (setRow_heap _ _ _ _ _ _ (heap_alloc_new _ _)) Try.underlying82 rfl sizeLw) rfl ⟨rfl, below_setRow ((Below.refl _ _).alloc (Nat.le_refl _) _) (Nat.le_refl _) _⟩
theorem idxL0 (w : World) : (Instr.index 82 (.agg lawCells) (.int .i64 0)).run Try.prog w = .ok (lawOn (inR 1)) w := by kernel_rfl
theorem idxL1 (w : World) : (Instr.index 82 (.agg lawCells) (.int .i64 1)).run Try.prog w = .ok (lawOn (inR 2)) w := by kernel_rfl
theorem idxL2 (w : World) : (Instr.index 82 (.agg lawCells) (.int .i64 2)).run Try.prog w = .ok (lawOn (inR 3)) w := by kernel_rfl
theorem idxL3 (w : World) : (Instr.index 82 (.agg lawCells) (.int .i64 3)).run Try.prog w = .ok (lawOn (inR 4)) w := by kernel_rfl
theorem idxL (k : Nat) (hk : k < 4) (w : World) : (Instr.index 82 (.agg lawCells) (.int .i64 (k : Int))).run Try.prog w = .ok (lawOn (inR ((k : Int) + 1))) w := by
  rcases (by omega : k = 0 ∨ k = 1 ∨ k = 2 ∨ k = 3) with rfl | rfl | rfl | rfl
  · exact idxL0 w
  · exact idxL1 w
  · exact idxL2 w
  · exact idxL3 w
theorem lawOf_gen (r : Int) (w : World) (h : RlOk r) (L : Value) (hL : lawOn (inR r) = L) (C : Array Value) (hC : lawCells = C) :
    Calls Try.prog 51 #[.int .i64 r] w fun e w' => e = .returned (.tuple #[L, .bool true]) ∧ Below w.heap.size w w' := by
  obtain ⟨h0, h1⟩ := h
  have iL : ∀ W : World, (Instr.index 82 (.agg lawCells) (.int .i64 (r - 1))).run Try.prog W = .ok (lawOn (inR r)) W := by
    intro W
    have := idxL (r - 1).toNat (by omega) W
    rw [show (((r - 1).toNat : Nat) : Int) = r - 1 by omega, show r - 1 + 1 = r by omega] at this
    exact this
  rw [hL, hC] at iL
  have HLa : Hid (∀ W : World, Calls Try.prog 69 #[] W fun e w' => e = .returned (.agg C) ∧ Below W.heap.size W w') := by rw [← hC]; exact laws_any
  clear hL hC
  have d0 : decide (r < 1) = false := by simp; omega
  have d1 : decide (4 < r) = false := by simp; omega
  go_enter Try.func51, Try.ntmps51
  go_wp2_with fail
  refine (HLa.out _).mono ?_
  rintro e w1 ⟨rfl, hb⟩
  go_wp2_with fail
  go_ret2
  exact ⟨rfl, hb⟩
theorem lawOf_yes (r : Int) (w : World) (h : RlOk r) :
    Calls Try.prog 51 #[.int .i64 r] w fun e w' => e = .returned (.tuple #[lawOn (inR r), .bool true]) ∧ Below w.heap.size w w' := lawOf_gen r w h _ rfl _ rfl
theorem lawOf_no (r : Int) (w : World) (h : ¬ RlOk r) :
    Calls Try.prog 51 #[.int .i64 r] w fun e w' => e = .returned (.tuple #[.nilIface, .bool false]) ∧ Below w.heap.size w w' := by
  unfold RlOk at h
  by_cases h0 : r < 1
  · have d0 : decide (r < 1) = true := by simpa using h0
    clear h h0
    go_enter Try.func51, Try.ntmps51
    go_wp2_with fail
    go_ret2
    exact ⟨rfl, Below.refl _ _⟩
  · have d0 : decide (r < 1) = false := by simpa using h0
    have d1 : decide (4 < r) = true := by simp; omega
    clear h h0
    go_enter Try.func51, Try.ntmps51
    go_wp2_with fail
    go_ret2
    exact ⟨rfl, Below.refl _ _⟩
/-- What the law of a rule tells of two tiles, before it is bounded. -/
theorem doublingM (lo hi : Int) (w : World) (h0 : 1 ≤ hi) (h1 : hi ≤ 17) :
    Calls Try.prog 141 #[.agg #[], .int .i64 lo, .int .i64 hi] w fun e w' => e = .returned (.tuple #[.int .i64 (hi + 1), .bool (lo == hi)]) ∧ Below w.heap.size w w' := by
  have HB := Lib.hid ((Below.refl w.heap.size w).alloc (Nat.le_refl _) (.cells #[] 110))
  go_enter Try.func141, Try.ntmps141
  go_wp2_with fail
  go_ret2
  exact ⟨rfl, HB.out⟩
theorem followingM (lo hi : Int) (w : World) (h0 : 1 ≤ hi) (h1 : hi ≤ 17) (h2 : 1 ≤ lo) (h3 : lo ≤ 17) :
    Calls Try.prog 144 #[.agg #[], .int .i64 lo, .int .i64 hi] w fun e w' => e = .returned (.tuple #[.int .i64 (hi + 1), .bool (hi == lo + 1)]) ∧ Below w.heap.size w w' := by
  have HB := Lib.hid ((Below.refl w.heap.size w).alloc (Nat.le_refl _) (.cells #[] 113))
  go_enter Try.func144, Try.ntmps144
  go_wp2_with fail
  go_ret2
  exact ⟨rfl, HB.out⟩
theorem triplingM (lo hi : Int) (w : World) (h0 : 1 ≤ hi) (h1 : hi ≤ 17) :
    Calls Try.prog 146 #[.agg #[], .int .i64 lo, .int .i64 hi] w fun e w' => e = .returned (.tuple #[.int .i64 (hi + 1), .bool (decide ((lo = 1 ∧ hi = 2) ∨ (lo = hi ∧ 3 ≤ lo)))]) ∧ Below w.heap.size w w' := by
  have HB := Lib.hid ((Below.refl w.heap.size w).alloc (Nat.le_refl _) (.cells #[] 114))
  have HD : Hid (decide ((lo = 1 ∧ hi = 2) ∨ (lo = hi ∧ 3 ≤ lo)) = (((lo == 1) && (hi == 2)) || ((lo == hi) && decide (lo ≥ 3)))) := by
    show _ = _
    rw [Bool.eq_iff_iff]
    simp only [decide_eq_true_eq, Bool.or_eq_true, Bool.and_eq_true, beq_iff_eq, ge_iff_le]
  cases e1 : (lo == 1) <;> cases e2 : (hi == 2) <;> cases e3 : (lo == hi) <;> cases e4 : decide (lo ≥ 3) <;> rw [e1, e2, e3, e4] at HD <;>
  · go_enter Try.func146, Try.ntmps146
    go_wp2_with fail
    go_ret2
    exact ⟨by rw [HD.out]; rfl, HB.out⟩
theorem addingM (lo hi : Int) (w : World) (h0 : 1 ≤ hi) (h1 : hi ≤ 17) (h2 : 1 ≤ lo) (h3 : lo ≤ 17) :
    Calls Try.prog 148 #[.agg #[], .int .i64 lo, .int .i64 hi] w fun e w' => e = .returned (.tuple #[.int .i64 (lo + hi), .bool (lo == lo)]) ∧ Below w.heap.size w w' := by
  rw [show (lo == lo) = true by simp]
  have HB := Lib.hid ((Below.refl w.heap.size w).alloc (Nat.le_refl _) (.cells #[] 115))
  go_enter Try.func148, Try.ntmps148
  go_wp2_with fail
  go_ret2
  exact ⟨rfl, HB.out⟩
theorem run_min (s t : Int) (ats : Array TypeId) (ty : TypeId) (w : World) : (Builtin.min_ ats ty #[.int .i64 s, .int .i64 t]).run Try.prog w = .ok (.int .i64 (lowI s t)) w := by
  have : lowI s t = if t < s then t else s := by unfold lowI; split <;> split <;> omega
  rw [this]; rfl
theorem run_max (s t : Int) (ats : Array TypeId) (ty : TypeId) (w : World) : (Builtin.max_ ats ty #[.int .i64 s, .int .i64 t]).run Try.prog w = .ok (.int .i64 (hghI s t)) w := by
  have : hghI s t = if t > s then t else s := by unfold hghI; split <;> split <;> omega
  rw [this]; rfl
set_option maxRecDepth 20000
/-- A law that is bounded: it merges as the one in it tells of the less tile and the greater one, but not beyond the greatest tile. -/
theorem bmerge_1 (s t : Int) (w : World) (hs : TlOk s) (ht : TlOk t) :
    Calls Try.prog 143 #[.agg #[.iface 110 (.agg #[])], .int .i64 s, .int .i64 t] w fun e w' => e = .returned (.tuple #[.int .i64 (mgF 1 s t), .bool (decide (0 < mgF 1 s t))]) ∧ Below w.heap.size w w' := by
  have HB := Lib.hid ((Below.refl w.heap.size w).alloc (Nat.le_refl _) (.cells #[.iface 110 (.agg #[])] 112))
  obtain ⟨a0, a1⟩ := lowI_bd hs ht
  obtain ⟨b0, b1⟩ := hghI_bd hs ht
  have hlh := low_hgh s t
  have iMin := run_min s t
  have iMax := run_max s t
  have HF : Hid (∀ lo hi, lowI s t = lo → hghI s t = hi → mgF 1 s t = if 17 < (if (lo == hi) = true then (hi + 1) else 0) then 0 else (if (lo == hi) = true then (hi + 1) else 0)) := by
    intro lo hi h1 h2
    unfold mgF; rw [h1, h2]
    have e : mgRaw 1 lo hi = if (lo == hi) = true then (hi + 1) else 0 := by unfold mgRaw; simp
    rw [e]
  have HF := Lib.hid (HF.out _ _ rfl rfl)
  generalize lowI s t = lo at *
  generalize hghI s t = hi at *
  have HP : Hid (0 < (hi + 1)) := by show 0 < _; omega
  have HC := Lib.hid (fun w => doublingM lo hi w b0 b1)
  generalize (hi + 1) = V at *
  generalize (lo == hi) = B at *
  clear hs ht
  go_enter Try.func143, Try.ntmps143
  go_wp2_with fail
  refine (HC.out _).mono ?_
  rintro e w1 ⟨rfl, hb⟩
  have HB : Hid (Below w.heap.size w w1) := HB.out.trans (hb.mono HB.out.size)
  clear hb
  cases B with
  | false =>
    have HZ := Lib.hid (show mgF 1 s t = 0 from by have := HF.out; simpa using this)
    clear HF
    go_wp2_with fail
    go_ret2
    exact ⟨by rw [HZ.out]; rfl, HB.out⟩
  | true =>
    by_cases h17 : 17 < V
    · have HZ := Lib.hid (show mgF 1 s t = 0 from by have := HF.out; simpa [h17] using this)
      have d17 : decide (V > 17) = true := by simpa using h17
      clear HF
      go_wp2_with fail
      go_ret2
      exact ⟨by rw [HZ.out]; rfl, HB.out⟩
    · have HZ := Lib.hid (show mgF 1 s t = V from by have := HF.out; simpa [h17] using this)
      have HQ : Hid (decide (0 < V) = true) := by show decide (0 < V) = true; simpa using HP.out
      have d17 : decide (V > 17) = false := by simpa using h17
      clear HF
      go_wp2_with fail
      go_ret2
      exact ⟨by rw [HZ.out, HQ.out]; rfl, HB.out⟩
theorem merges_1 : MergesAs (inR 1) (mgF 1) := ⟨mgFn 1, bmerge_1⟩
/-- A law that is bounded: it merges as the one in it tells of the less tile and the greater one, but not beyond the greatest tile. -/
theorem bmerge_2 (s t : Int) (w : World) (hs : TlOk s) (ht : TlOk t) :
    Calls Try.prog 143 #[.agg #[.iface 113 (.agg #[])], .int .i64 s, .int .i64 t] w fun e w' => e = .returned (.tuple #[.int .i64 (mgF 2 s t), .bool (decide (0 < mgF 2 s t))]) ∧ Below w.heap.size w w' := by
  have HB := Lib.hid ((Below.refl w.heap.size w).alloc (Nat.le_refl _) (.cells #[.iface 113 (.agg #[])] 112))
  obtain ⟨a0, a1⟩ := lowI_bd hs ht
  obtain ⟨b0, b1⟩ := hghI_bd hs ht
  have hlh := low_hgh s t
  have iMin := run_min s t
  have iMax := run_max s t
  have HF : Hid (∀ lo hi, lowI s t = lo → hghI s t = hi → mgF 2 s t = if 17 < (if (hi == lo + 1) = true then (hi + 1) else 0) then 0 else (if (hi == lo + 1) = true then (hi + 1) else 0)) := by
    intro lo hi h1 h2
    unfold mgF; rw [h1, h2]
    have e : mgRaw 2 lo hi = if (hi == lo + 1) = true then (hi + 1) else 0 := by unfold mgRaw; simp
    rw [e]
  have HF := Lib.hid (HF.out _ _ rfl rfl)
  generalize lowI s t = lo at *
  generalize hghI s t = hi at *
  have HP : Hid (0 < (hi + 1)) := by show 0 < _; omega
  have HC := Lib.hid (fun w => followingM lo hi w b0 b1 a0 a1)
  generalize (hi + 1) = V at *
  generalize (hi == lo + 1) = B at *
  clear hs ht
  go_enter Try.func143, Try.ntmps143
  go_wp2_with fail
  refine (HC.out _).mono ?_
  rintro e w1 ⟨rfl, hb⟩
  have HB : Hid (Below w.heap.size w w1) := HB.out.trans (hb.mono HB.out.size)
  clear hb
  cases B with
  | false =>
    have HZ := Lib.hid (show mgF 2 s t = 0 from by have := HF.out; simpa using this)
    clear HF
    go_wp2_with fail
    go_ret2
    exact ⟨by rw [HZ.out]; rfl, HB.out⟩
  | true =>
    by_cases h17 : 17 < V
    · have HZ := Lib.hid (show mgF 2 s t = 0 from by have := HF.out; simpa [h17] using this)
      have d17 : decide (V > 17) = true := by simpa using h17
      clear HF
      go_wp2_with fail
      go_ret2
      exact ⟨by rw [HZ.out]; rfl, HB.out⟩
    · have HZ := Lib.hid (show mgF 2 s t = V from by have := HF.out; simpa [h17] using this)
      have HQ : Hid (decide (0 < V) = true) := by show decide (0 < V) = true; simpa using HP.out
      have d17 : decide (V > 17) = false := by simpa using h17
      clear HF
      go_wp2_with fail
      go_ret2
      exact ⟨by rw [HZ.out, HQ.out]; rfl, HB.out⟩
theorem merges_2 : MergesAs (inR 2) (mgF 2) := ⟨mgFn 2, bmerge_2⟩
/-- A law that is bounded: it merges as the one in it tells of the less tile and the greater one, but not beyond the greatest tile. -/
theorem bmerge_3 (s t : Int) (w : World) (hs : TlOk s) (ht : TlOk t) :
    Calls Try.prog 143 #[.agg #[.iface 114 (.agg #[])], .int .i64 s, .int .i64 t] w fun e w' => e = .returned (.tuple #[.int .i64 (mgF 3 s t), .bool (decide (0 < mgF 3 s t))]) ∧ Below w.heap.size w w' := by
  have HB := Lib.hid ((Below.refl w.heap.size w).alloc (Nat.le_refl _) (.cells #[.iface 114 (.agg #[])] 112))
  obtain ⟨a0, a1⟩ := lowI_bd hs ht
  obtain ⟨b0, b1⟩ := hghI_bd hs ht
  have hlh := low_hgh s t
  have iMin := run_min s t
  have iMax := run_max s t
  have HF : Hid (∀ lo hi, lowI s t = lo → hghI s t = hi → mgF 3 s t = if 17 < (if (decide ((lo = 1 ∧ hi = 2) ∨ (lo = hi ∧ 3 ≤ lo))) = true then (hi + 1) else 0) then 0 else (if (decide ((lo = 1 ∧ hi = 2) ∨ (lo = hi ∧ 3 ≤ lo))) = true then (hi + 1) else 0)) := by
    intro lo hi h1 h2
    unfold mgF; rw [h1, h2]
    have e : mgRaw 3 lo hi = if (decide ((lo = 1 ∧ hi = 2) ∨ (lo = hi ∧ 3 ≤ lo))) = true then (hi + 1) else 0 := by unfold mgRaw; simp
    rw [e]
  have HF := Lib.hid (HF.out _ _ rfl rfl)
  generalize lowI s t = lo at *
  generalize hghI s t = hi at *
  have HP : Hid (0 < (hi + 1)) := by show 0 < _; omega
  have HC := Lib.hid (fun w => triplingM lo hi w b0 b1)
  generalize (hi + 1) = V at *
  generalize (decide ((lo = 1 ∧ hi = 2) ∨ (lo = hi ∧ 3 ≤ lo))) = B at *
  clear hs ht
  go_enter Try.func143, Try.ntmps143
  go_wp2_with fail
  refine (HC.out _).mono ?_
  rintro e w1 ⟨rfl, hb⟩
  have HB : Hid (Below w.heap.size w w1) := HB.out.trans (hb.mono HB.out.size)
  clear hb
  cases B with
  | false =>
    have HZ := Lib.hid (show mgF 3 s t = 0 from by have := HF.out; simpa using this)
    clear HF
    go_wp2_with fail
    go_ret2
    exact ⟨by rw [HZ.out]; rfl, HB.out⟩
  | true =>
    by_cases h17 : 17 < V
    · have HZ := Lib.hid (show mgF 3 s t = 0 from by have := HF.out; simpa [h17] using this)
      have d17 : decide (V > 17) = true := by simpa using h17
      clear HF
      go_wp2_with fail
      go_ret2
      exact ⟨by rw [HZ.out]; rfl, HB.out⟩
    · have HZ := Lib.hid (show mgF 3 s t = V from by have := HF.out; simpa [h17] using this)
      have HQ : Hid (decide (0 < V) = true) := by show decide (0 < V) = true; simpa using HP.out
      have d17 : decide (V > 17) = false := by simpa using h17
      clear HF
      go_wp2_with fail
      go_ret2
      exact ⟨by rw [HZ.out, HQ.out]; rfl, HB.out⟩
theorem merges_3 : MergesAs (inR 3) (mgF 3) := ⟨mgFn 3, bmerge_3⟩
/-- A law that is bounded: it merges as the one in it tells of the less tile and the greater one, but not beyond the greatest tile. -/
theorem bmerge_4 (s t : Int) (w : World) (hs : TlOk s) (ht : TlOk t) :
    Calls Try.prog 143 #[.agg #[.iface 115 (.agg #[])], .int .i64 s, .int .i64 t] w fun e w' => e = .returned (.tuple #[.int .i64 (mgF 4 s t), .bool (decide (0 < mgF 4 s t))]) ∧ Below w.heap.size w w' := by
  have HB := Lib.hid ((Below.refl w.heap.size w).alloc (Nat.le_refl _) (.cells #[.iface 115 (.agg #[])] 112))
  obtain ⟨a0, a1⟩ := lowI_bd hs ht
  obtain ⟨b0, b1⟩ := hghI_bd hs ht
  have hlh := low_hgh s t
  have iMin := run_min s t
  have iMax := run_max s t
  have HF : Hid (∀ lo hi, lowI s t = lo → hghI s t = hi → mgF 4 s t = if 17 < (if (lo == lo) = true then (lo + hi) else 0) then 0 else (if (lo == lo) = true then (lo + hi) else 0)) := by
    intro lo hi h1 h2
    unfold mgF; rw [h1, h2]
    have e : mgRaw 4 lo hi = if (lo == lo) = true then (lo + hi) else 0 := by unfold mgRaw; simp
    rw [e]
  have HF := Lib.hid (HF.out _ _ rfl rfl)
  generalize lowI s t = lo at *
  generalize hghI s t = hi at *
  have HP : Hid (0 < (lo + hi)) := by show 0 < _; omega
  have HC := Lib.hid (fun w => addingM lo hi w b0 b1 a0 a1)
  generalize (lo + hi) = V at *
  generalize (lo == lo) = B at *
  clear hs ht
  go_enter Try.func143, Try.ntmps143
  go_wp2_with fail
  refine (HC.out _).mono ?_
  rintro e w1 ⟨rfl, hb⟩
  have HB : Hid (Below w.heap.size w w1) := HB.out.trans (hb.mono HB.out.size)
  clear hb
  cases B with
  | false =>
    have HZ := Lib.hid (show mgF 4 s t = 0 from by have := HF.out; simpa using this)
    clear HF
    go_wp2_with fail
    go_ret2
    exact ⟨by rw [HZ.out]; rfl, HB.out⟩
  | true =>
    by_cases h17 : 17 < V
    · have HZ := Lib.hid (show mgF 4 s t = 0 from by have := HF.out; simpa [h17] using this)
      have d17 : decide (V > 17) = true := by simpa using h17
      clear HF
      go_wp2_with fail
      go_ret2
      exact ⟨by rw [HZ.out]; rfl, HB.out⟩
    · have HZ := Lib.hid (show mgF 4 s t = V from by have := HF.out; simpa [h17] using this)
      have HQ : Hid (decide (0 < V) = true) := by show decide (0 < V) = true; simpa using HP.out
      have d17 : decide (V > 17) = false := by simpa using h17
      clear HF
      go_wp2_with fail
      go_ret2
      exact ⟨by rw [HZ.out, HQ.out]; rfl, HB.out⟩
theorem merges_4 : MergesAs (inR 4) (mgF 4) := ⟨mgFn 4, bmerge_4⟩
theorem merges_any (r : Int) (h : RlOk r) : MergesAs (inR r) (mgF r) := by
  obtain ⟨h0, h1⟩ := h
  rcases (by omega : r = 1 ∨ r = 2 ∨ r = 3 ∨ r = 4) with rfl | rfl | rfl | rfl
  · exact merges_1
  · exact merges_2
  · exact merges_3
  · exact merges_4
/-- What a tile is worth. -/
theorem doublingW (t : Int) (w : World) (ht : TlOk t) :
    Calls Try.prog 142 #[.agg #[], .int .i64 t] w fun e w' => e = .returned (.int .i64 (woF 1 t)) ∧ Below w.heap.size w w' := by
  have HB := Lib.hid ((Below.refl w.heap.size w).alloc (Nat.le_refl _) (.cells #[] 110))
  obtain ⟨h0, h1⟩ := ht
  go_enter Try.func142, Try.ntmps142
  go_wp2_with fail
  refine (worthOf_any t _ (by omega) (by omega)).mono ?_
  rintro e w1 ⟨rfl, rfl⟩
  go_wp2_with fail
  go_ret
  exact ⟨rfl, HB.out⟩
theorem followingW (t : Int) (w : World) (ht : TlOk t) :
    Calls Try.prog 145 #[.agg #[], .int .i64 t] w fun e w' => e = .returned (.int .i64 (woF 2 t)) ∧ Below w.heap.size w w' := by
  have HB := Lib.hid ((Below.refl w.heap.size w).alloc (Nat.le_refl _) (.cells #[] 113))
  obtain ⟨h0, h1⟩ := ht
  go_enter Try.func145, Try.ntmps145
  go_wp2_with fail
  generalize w.alloc (.cells #[] 113) = w1 at *
  go_loopg [5, 6, 9] 17 (fun g s5 s6 s9 wr => ∃ k : Nat, (k : Int) + 1 ≤ t ∧ t ≤ k + 1 + g ∧ s5 = .int .i64 (fibP k).1 ∧ s6 = .int .i64 (fibP k).2 ∧ s9 = .int .i64 (k : Int) ∧ w1 = wr)
  case atStart => exact ⟨0, by omega, by omega, rfl, rfl, rfl, rfl⟩
  case round =>
    obtain ⟨k, hk1, hk2, rfl, rfl, rfl, rfl⟩ := hrel
    by_cases hq : (k : Int) < t - 1
    · obtain ⟨g, rfl⟩ : ∃ g, gk = g + 1 := ⟨gk - 1, by omega⟩
      have HBq := fibP_bd k (by omega)
      have HS : Hid (fibP (k + 1) = ((fibP k).2, (fibP k).1 + (fibP k).2)) := rfl
      generalize fibP k = p at *
      obtain ⟨a, b⟩ := p
      simp only [] at HBq HS
      obtain ⟨q0, q1, q2, q3⟩ := HBq
      go_wp2_with fail
      go_roundg g
      case rel => exact ⟨k + 1, by omega, by omega, by rw [HS.out], by rw [HS.out], by go_num, rfl⟩
      case measure => omega
    · have hq2 : decide ((k : Int) < t - 1) = false := by simpa using hq
      have HW : Hid (woF 2 t = (fibP k).1) := by show woF 2 t = _; unfold woF; simp; rw [show t.toNat - 1 = k by omega]
      clear hq
      go_wp2_with fail
      go_ret
      exact ⟨by rw [HW.out]; rfl, HB.out⟩
theorem triplingW (t : Int) (w : World) (ht : TlOk t) :
    Calls Try.prog 147 #[.agg #[], .int .i64 t] w fun e w' => e = .returned (.int .i64 (woF 3 t)) ∧ Below w.heap.size w w' := by
  have HB := Lib.hid ((Below.refl w.heap.size w).alloc (Nat.le_refl _) (.cells #[] 114))
  obtain ⟨h0, h1⟩ := ht
  by_cases h : t < 3
  · have HW : Hid (woF 3 t = t) := by show woF 3 t = t; unfold woF; simp [h]
    go_enter Try.func147, Try.ntmps147
    go_wp2_with fail
    go_ret
    exact ⟨by rw [HW.out]; rfl, HB.out⟩
  · have HW : Hid (woF 3 t = 3 * 2 ^ (t - 3).toNat) := by show woF 3 t = _; unfold woF; simp [h]
    have HZ := Lib.hid (woF_bd (r := 3) (t := t) (by decide) ⟨h0, h1⟩)
    have h2 : decide (t < 3) = false := by simpa using h
    have h3 : 0 ≤ t - 3 := by omega
    have h4 : t - 3 < 64 := by omega
    clear h
    go_enter Try.func147, Try.ntmps147
    go_wp2_with fail
    go_ret
    refine ⟨ret_int ?_, HB.out⟩
    have := HZ.out
    rw [HW.out] at this ⊢
    exact IntWalk.wrap64_in _ ⟨by omega, by omega⟩
theorem addingW (t : Int) (w : World) (ht : TlOk t) :
    Calls Try.prog 149 #[.agg #[], .int .i64 t] w fun e w' => e = .returned (.int .i64 (woF 4 t)) ∧ Below w.heap.size w w' := by
  have HB := Lib.hid ((Below.refl w.heap.size w).alloc (Nat.le_refl _) (.cells #[] 115))
  go_enter Try.func149, Try.ntmps149
  go_wp2_with fail
  go_ret
  exact ⟨rfl, HB.out⟩
end Go.Proofs.Ytblcojacmjbjcaa
