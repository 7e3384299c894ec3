/-
  The contracts of l11Text in the reference, and of StepText in the reference and in the program.
-/
import Derived.Test.YtekdodlkimgbhaaTextB
import Derived.Test.YtekdodlkimgbhaaSpecDo
import Derived.Test.YtekdodlkimgbhaaImplDo
import Derived.Test.YtekdodlkimgbhaaHeldLaw4
namespace Go.Proofs.Ytekdodlkimgbhaa.Plain
/-- A step with a direction, a cell and a tile 1 or 2. -/
def SxOk (s : Nat → Int) : Prop := (0 ≤ s 0 ∧ s 0 ≤ 3) ∧ CellIn (cellS s) ∧ (1 ≤ s 3 ∧ s 3 ≤ 2)
instance (s : Nat → Int) : Decidable (SxOk s) := by unfold SxOk; infer_instance
def dirL (d : Int) : UInt8 := if d = 0 then 108 else if d = 1 then 117 else if d = 2 then 114 else 100
def digL (d : Int) : UInt8 := UInt8.ofNat (48 + d.toNat)
/-- The signs of a step. -/
def sxL (s : Nat → Int) : List UInt8 := [dirL (s 0), digL (s 1), digL (s 2), letB (s 3)]
def sxR (s : Nat → Int) : ByteArray := if SxOk s then tbs (sxL s) else ByteArray.empty
def sxO (s : Nat → Int) : Bool := decide (SxOk s)
theorem sx_yes {s : Nat → Int} (h : SxOk s) : sxR s = tbs (sxL s) ∧ sxO s = true := by simp [sxR, sxO, h]
theorem sx_no {s : Nat → Int} (h : ¬ SxOk s) : sxR s = ByteArray.empty ∧ sxO s = false := by simp [sxR, sxO, h]
theorem four {d : Int} (h0 : 0 ≤ d) (h1 : d ≤ 3) : d = 0 ∨ d = 1 ∨ d = 2 ∨ d = 3 := by omega
theorem lurd_slice {d : Int} (h0 : 0 ≤ d) (h1 : d ≤ 3) : (⟨#[108, 117, 114, 100]⟩ : ByteArray).extract d.toNat (d + 1).toNat = tbs [dirL d] := by
  rcases four h0 h1 with rfl | rfl | rfl | rfl <;> rfl
theorem ab_slice {t : Int} (h0 : 1 ≤ t) (h1 : t ≤ 2) : (⟨#[97, 98]⟩ : ByteArray).extract (t.toNat - 1) t.toNat = tbs [letB t] := by
  rcases (by omega : t = 1 ∨ t = 2) with rfl | rfl <;> rfl
theorem dig_slice {d : Int} (h0 : 0 ≤ d) (h1 : d ≤ 3) : (⟨#[48, 49, 50, 51, 52, 53, 54, 55, 56, 57]⟩ : ByteArray).extract d.toNat (d + 1).toNat = tbs [digL d] := by
  rcases four h0 h1 with rfl | rfl | rfl | rfl <;> rfl
theorem dig_conv {d : Int} (h0 : 0 ≤ d) (h1 : d ≤ 3) : IntKind.u8.wrap (48 + d) = ((digL d).toNat : Int) := by
  rcases four h0 h1 with rfl | rfl | rfl | rfl <;> rfl
theorem lurd_at {d : Int} (h0 : 0 ≤ d) (h1 : d ≤ 3) : ∀ hh : d.toNat < (⟨#[108, 117, 114, 100]⟩ : ByteArray).size, (⟨#[108, 117, 114, 100]⟩ : ByteArray)[d.toNat]'hh = dirL d := by
  rcases four h0 h1 with rfl | rfl | rfl | rfl <;> intro hh <;> rfl
end Go.Proofs.Ytekdodlkimgbhaa.Plain
namespace Go.Proofs.Ytekdodlkimgbhaa
open Go.RowKit Plain
attribute [local go_sem] store_new
set_option linter.unusedVariables false
set_option linter.unusedSimpArgs false
theorem wp_build4 {w : World} {o : Oper} {a : Act} {K : Act → World → Prop} {Q : Exit → Act → World → Prop} (x0 x1 x2 x3 : Operand) (ho : o.op = .buildSlice 89 4 #[(0, x0), (1, x1), (2, x2), (3, x3)]) {p0 p1 p2 p3 : Int}
    (h0 : a.eval x0 = .int .u8 p0) (h1 : a.eval x1 = .int .u8 p1) (h2 : a.eval x2 = .int .u8 p2) (h3 : a.eval x3 = .int .u8 p3)
    (h : K (a.put o.dst (.slice (some ⟨w.heap.size, 0, none⟩) 4 4)) (w.alloc (.cells #[.int .u8 p0, .int .u8 p1, .int .u8 p2, .int .u8 p3] 5))) : o.wp Try.prog a w K Q := by
  obtain ⟨i0, hi, hz0, hz1, hz2⟩ := info_parts infoU8
  refine Go.wp_buildSlice 89 5 4 #[(0, x0), (1, x1), (2, x2), (3, x3)] ho #[.int .u8 p0, .int .u8 p1, .int .u8 p2, .int .u8 p3] i0 _ Try.underlying89 hi hz0 (by rw [hz1]; decide) (by rw [hz1]; decide) ?_ h
  rw [hz1]
  have e : (Array.map (fun (p : Nat × Operand) => (p.1, a.eval p.2)) #[(0, x0), (1, x1), (2, x2), (3, x3)]).toList = [(0, .int .u8 p0), (1, .int .u8 p1), (2, .int .u8 p2), (3, .int .u8 p3)] := by simp [h0, h1, h2, h3]
  show Instr.fill _ _ (Array.map (fun (p : Nat × Operand) => (p.1, a.eval p.2)) #[(0, x0), (1, x1), (2, x2), (3, x3)]).toList = _
  rw [e]
  kernel_rfl
theorem own_four (w : World) (a b c d : UInt8) : OwnsBs (w.alloc (.cells #[.int .u8 (a.toNat : Int), .int .u8 (b.toNat : Int), .int .u8 (c.toNat : Int), .int .u8 (d.toNat : Int)] 5)) 0 (.slice (some ⟨w.heap.size, 0, none⟩) 4 4) [a, b, c, d] :=
  ⟨rfl, .inr ⟨w.heap.size, 4, #[.int .u8 (a.toNat : Int), .int .u8 (b.toNat : Int), .int .u8 (c.toNat : Int), .int .u8 (d.toNat : Int)], rfl, Nat.zero_le _, heap_alloc_new w _, Nat.le_refl _, by decide, rfl, rfl⟩⟩
theorem l1Num_dig (d : Int) (w : World) (h0 : 0 ≤ d) (h1 : d ≤ 3) :
    Calls Try.prog 92 #[.int .i64 d] w fun e w' => e = .returned (.string (tbs [digL d])) ∧ w = w' := by
  rcases four h0 h1 with rfl | rfl | rfl | rfl
  all_goals
    go_enter Try.func92, Try.ntmps92
    go_wp2
    go_ret
    exact ⟨rfl, rfl⟩
set_option maxHeartbeats 2000000 in
set_option maxRecDepth 20000 in
theorem l11Text_any (s : Nat → Int) (w : World) (h : SxOk s) :
    Calls Try.prog 65 #[.agg (mk 4 s)] w fun e w' => e = .returned (.string (tbs (sxL s))) ∧ Below w.heap.size w w' := by
  have K1 := Blk.new w 4 s 49
  have HB := Lib.hid ((Below.refl w.heap.size w).alloc (Nat.le_refl _) (.cells (mk 4 s) 49))
  obtain ⟨⟨a0, a1⟩, ⟨⟨b0, b1⟩, b2, b3⟩, t0, t1⟩ := h
  have b0 : 0 ≤ s 1 := b0
  have b1 : s 1 ≤ 3 := b1
  have b2 : 0 ≤ s 2 := b2
  have b3 : s 2 ≤ 3 := b3
  have e1 := lurd_slice a0 a1
  have e2 := ab_slice t0 t1
  have HS : Hid (tbs (sxL s) = (((tbs [dirL (s 0)] ++ tbs [digL (s 1)]) ++ tbs [digL (s 2)]) ++ tbs [letB (s 3)])) := by
    show _ = _
    rw [← tbs_app, ← tbs_app, ← tbs_app]; rfl
  have q1 : IntKind.i64.wrap (s 0 + 1) = s 0 + 1 := IntWalk.i64_in _ (by omega)
  have q2 : IntKind.i64.wrap (s 3 - 1) = s 3 - 1 := IntWalk.i64_in _ (by omega)
  have q3 : s 0 + 1 ≤ 4 := by omega
  have q4 : (0 : Int) ≤ s 3 - 1 := by omega
  have q5 : s 3 - 1 ≤ s 3 := by omega
  have q6 : s 0 ≤ s 0 + 1 := by omega
  have q7 : (0 : Int) ≤ s 0 + 1 := by omega
  have z1 : ∀ b : UInt8, (tbs [b]).size = 1 := fun _ => rfl
  go_enter Try.func65, Try.ntmps65
  go_wp2_with fail
  generalize w.alloc (.cells (mk 4 s) 49) = wr at *
  refine wp_region_held_drew (S := fun W => Blk W w.heap.size 4 s 49) (by kernel_rfl) (K1.drew) (fun hHeld => ?_)
  have K1 : Blk wr.drew w.heap.size 4 s 49 := K1.drew
  have HB : Hid (Below w.heap.size w wr.drew) := HB.out.drew
  generalize wr.drew = x0 at *
  refine wpAnyH_take (i := 0) (oi := { dst := some 3, op := _, type := _, pos := _, after := _, guard := _ }) (v := .pointer (some ⟨w.heap.size, 0, none⟩)) rfl (by kernel_rfl) (by kernel_rfl) (by kernel_rfl) (fun _ _ _ h => h) (Or.inl ⟨by rfl, by intro w hSw; clear hSw; go_simp; (try with_reducible rfl)⟩) (by assumption) ?_
  try simp only [Act.put, List.setIfInBounds_toArray, List.set_cons_zero, List.set_cons_succ]
  refine wpAnyH_take (i := 1) (oi := { dst := some 4, op := _, type := _, pos := _, after := _, guard := _ }) (v := .int .i64 (s 0)) rfl (by kernel_rfl) (by kernel_rfl) (by kernel_rfl) (fun _ _ _ h => h) (Or.inl ⟨by rfl, by intro W hSw; have cc := Blk.cell hSw (i := 0) (by omega); clear hSw; go_simp; (try with_reducible rfl)⟩) (by assumption) ?_
  try simp only [Act.put, List.setIfInBounds_toArray, List.set_cons_zero, List.set_cons_succ]
  refine wpAnyH_take (i := 2) (oi := { dst := some 5, op := _, type := _, pos := _, after := _, guard := _ }) (v := .pointer (some ⟨w.heap.size, 0, none⟩)) rfl (by kernel_rfl) (by kernel_rfl) (by kernel_rfl) (fun _ _ _ h => h) (Or.inl ⟨by rfl, by intro w hSw; clear hSw; go_simp; (try with_reducible rfl)⟩) (by assumption) ?_
  try simp only [Act.put, List.setIfInBounds_toArray, List.set_cons_zero, List.set_cons_succ]
  refine wpAnyH_take (i := 3) (oi := { dst := some 6, op := _, type := _, pos := _, after := _, guard := _ }) (v := .int .i64 (s 0)) rfl (by kernel_rfl) (by kernel_rfl) (by kernel_rfl) (fun _ _ _ h => h) (Or.inl ⟨by rfl, by intro W hSw; have cc := Blk.cell hSw (i := 0) (by omega); clear hSw; go_simp; (try with_reducible rfl)⟩) (by assumption) ?_
  try simp only [Act.put, List.setIfInBounds_toArray, List.set_cons_zero, List.set_cons_succ]
  refine wpAnyH_take (i := 4) (oi := { dst := some 7, op := _, type := _, pos := _, after := _, guard := _ }) (v := .int .i64 (s 0 + 1)) rfl (by kernel_rfl) (by kernel_rfl) (by kernel_rfl) (fun _ _ _ h => h) (Or.inl ⟨by rfl, by intro w hSw; clear hSw; go_simp; (try with_reducible rfl)⟩) (by assumption) ?_
  try simp only [Act.put, List.setIfInBounds_toArray, List.set_cons_zero, List.set_cons_succ]
  refine wpAnyH_take (i := 5) (oi := { dst := some 8, op := _, type := _, pos := _, after := _, guard := _ }) (v := .string (tbs [dirL (s 0)])) rfl (by kernel_rfl) (by kernel_rfl) (by kernel_rfl) (fun _ _ _ h => h) (Or.inl ⟨by rfl, by intro w hSw; clear hSw; go_simp; (try with_reducible rfl)⟩) (by assumption) ?_
  try simp only [Act.put, List.setIfInBounds_toArray, List.set_cons_zero, List.set_cons_succ]
  refine wpAnyH_take (i := 6) (oi := { dst := some 9, op := _, type := _, pos := _, after := _, guard := _ }) (v := .pointer (some ⟨w.heap.size, 1, none⟩)) rfl (by kernel_rfl) (by kernel_rfl) (by kernel_rfl) (fun _ _ _ h => h) (Or.inl ⟨by rfl, by intro w hSw; clear hSw; go_simp; (try with_reducible rfl)⟩) (by assumption) ?_
  try simp only [Act.put, List.setIfInBounds_toArray, List.set_cons_zero, List.set_cons_succ]
  refine wpAnyH_take (i := 7) (oi := { dst := some 10, op := _, type := _, pos := _, after := _, guard := _ }) (v := .pointer (some ⟨w.heap.size, 1, none⟩)) rfl (by kernel_rfl) (by kernel_rfl) (by kernel_rfl) (fun _ _ _ h => h) (Or.inl ⟨by rfl, by intro w hSw; clear hSw; go_simp; (try with_reducible rfl)⟩) (by assumption) ?_
  try simp only [Act.put, List.setIfInBounds_toArray, List.set_cons_zero, List.set_cons_succ]
  refine wpAnyH_take (i := 8) (oi := { dst := some 11, op := _, type := _, pos := _, after := _, guard := _ }) (v := .int .i64 (s 1)) rfl (by kernel_rfl) (by kernel_rfl) (by kernel_rfl) (fun _ _ _ h => h) (Or.inl ⟨by rfl, by intro W hSw; have cc := Blk.cell hSw (i := 1) (by omega); clear hSw; go_simp; (try with_reducible rfl)⟩) (by assumption) ?_
  try simp only [Act.put, List.setIfInBounds_toArray, List.set_cons_zero, List.set_cons_succ]
  refine wpAnyH_take (i := 11) (oi := { dst := some 14, op := _, type := _, pos := _, after := _, guard := _ }) (v := .pointer (some ⟨w.heap.size, 1, none⟩)) rfl (by kernel_rfl) (by kernel_rfl) (by kernel_rfl) (fun _ _ _ h => h) (Or.inl ⟨by rfl, by intro w hSw; clear hSw; go_simp; (try with_reducible rfl)⟩) (by assumption) ?_
  try simp only [Act.put, List.setIfInBounds_toArray, List.set_cons_zero, List.set_cons_succ]
  refine wpAnyH_take (i := 12) (oi := { dst := some 15, op := _, type := _, pos := _, after := _, guard := _ }) (v := .pointer (some ⟨w.heap.size, 2, none⟩)) rfl (by kernel_rfl) (by kernel_rfl) (by kernel_rfl) (fun _ _ _ h => h) (Or.inl ⟨by rfl, by intro w hSw; clear hSw; go_simp; (try with_reducible rfl)⟩) (by assumption) ?_
  try simp only [Act.put, List.setIfInBounds_toArray, List.set_cons_zero, List.set_cons_succ]
  refine wpAnyH_take (i := 13) (oi := { dst := some 16, op := _, type := _, pos := _, after := _, guard := _ }) (v := .int .i64 (s 2)) rfl (by kernel_rfl) (by kernel_rfl) (by kernel_rfl) (fun _ _ _ h => h) (Or.inl ⟨by rfl, by intro W hSw; have cc := Blk.cell hSw (i := 2) (by omega); clear hSw; go_simp; (try with_reducible rfl)⟩) (by assumption) ?_
  try simp only [Act.put, List.setIfInBounds_toArray, List.set_cons_zero, List.set_cons_succ]
  refine wpAnyH_take (i := 16) (oi := { dst := some 19, op := _, type := _, pos := _, after := _, guard := _ }) (v := .pointer (some ⟨w.heap.size, 3, none⟩)) rfl (by kernel_rfl) (by kernel_rfl) (by kernel_rfl) (fun _ _ _ h => h) (Or.inl ⟨by rfl, by intro w hSw; clear hSw; go_simp; (try with_reducible rfl)⟩) (by assumption) ?_
  try simp only [Act.put, List.setIfInBounds_toArray, List.set_cons_zero, List.set_cons_succ]
  refine wpAnyH_take (i := 17) (oi := { dst := some 20, op := _, type := _, pos := _, after := _, guard := _ }) (v := .int .i64 (s 3)) rfl (by kernel_rfl) (by kernel_rfl) (by kernel_rfl) (fun _ _ _ h => h) (Or.inl ⟨by rfl, by intro W hSw; have cc := Blk.cell hSw (i := 3) (by omega); clear hSw; go_simp; (try with_reducible rfl)⟩) (by assumption) ?_
  try simp only [Act.put, List.setIfInBounds_toArray, List.set_cons_zero, List.set_cons_succ]
  refine wpAnyH_take (i := 18) (oi := { dst := some 21, op := _, type := _, pos := _, after := _, guard := _ }) (v := .int .i64 (s 3 - 1)) rfl (by kernel_rfl) (by kernel_rfl) (by kernel_rfl) (fun _ _ _ h => h) (Or.inl ⟨by rfl, by intro w hSw; clear hSw; go_simp; (try with_reducible rfl)⟩) (by assumption) ?_
  try simp only [Act.put, List.setIfInBounds_toArray, List.set_cons_zero, List.set_cons_succ]
  refine wpAnyH_take (i := 19) (oi := { dst := some 22, op := _, type := _, pos := _, after := _, guard := _ }) (v := .pointer (some ⟨w.heap.size, 3, none⟩)) rfl (by kernel_rfl) (by kernel_rfl) (by kernel_rfl) (fun _ _ _ h => h) (Or.inl ⟨by rfl, by intro w hSw; clear hSw; go_simp; (try with_reducible rfl)⟩) (by assumption) ?_
  try simp only [Act.put, List.setIfInBounds_toArray, List.set_cons_zero, List.set_cons_succ]
  refine wpAnyH_take (i := 20) (oi := { dst := some 23, op := _, type := _, pos := _, after := _, guard := _ }) (v := .int .i64 (s 3)) rfl (by kernel_rfl) (by kernel_rfl) (by kernel_rfl) (fun _ _ _ h => h) (Or.inl ⟨by rfl, by intro W hSw; have cc := Blk.cell hSw (i := 3) (by omega); clear hSw; go_simp; (try with_reducible rfl)⟩) (by assumption) ?_
  try simp only [Act.put, List.setIfInBounds_toArray, List.set_cons_zero, List.set_cons_succ]
  refine wpAnyH_take (i := 21) (oi := { dst := some 24, op := _, type := _, pos := _, after := _, guard := _ }) (v := .string (tbs [letB (s 3)])) rfl (by kernel_rfl) (by kernel_rfl) (by kernel_rfl) (fun _ _ _ h => h) (Or.inl ⟨by rfl, by intro w hSw; clear hSw; go_simp; (try with_reducible rfl)⟩) (by assumption) ?_
  try simp only [Act.put, List.setIfInBounds_toArray, List.set_cons_zero, List.set_cons_succ]
  refine wpAnyH_ready (rs := [9]) (by kernel_rfl) (by simp) ?_
  refine AllReadyH.cons rfl (fun K hK => ?_) AllReadyH.nil
  go_simp
  refine (l1Num_dig (s 1) _ b0 b1).mono ?_
  rintro e x1 ⟨rfl, rfl⟩
  clear hHeld
  go_wp2_with fail
  refine hK.out _ _ K1 (fun hHeld => ?_)
  clear hK K
  try simp only [Act.put, List.setIfInBounds_toArray, List.set_cons_zero, List.set_cons_succ]
  refine wpAnyH_take (i := 10) (oi := { dst := some 13, op := _, type := _, pos := _, after := _, guard := _ }) (v := .string (tbs [dirL (s 0)] ++ tbs [digL (s 1)])) rfl (by kernel_rfl) (by kernel_rfl) (by kernel_rfl) (fun _ _ _ h => h) (Or.inl ⟨by rfl, by intro w hSw; clear hSw; go_simp; (try with_reducible rfl)⟩) (by assumption) ?_
  try simp only [Act.put, List.setIfInBounds_toArray, List.set_cons_zero, List.set_cons_succ]
  refine wpAnyH_ready (rs := [14]) (by kernel_rfl) (by simp) ?_
  refine AllReadyH.cons rfl (fun K hK => ?_) AllReadyH.nil
  go_simp
  refine (l1Num_dig (s 2) _ b2 b3).mono ?_
  rintro e x1 ⟨rfl, rfl⟩
  clear hHeld
  go_wp2_with fail
  refine hK.out _ _ K1 (fun hHeld => ?_)
  clear hK K
  try simp only [Act.put, List.setIfInBounds_toArray, List.set_cons_zero, List.set_cons_succ]
  refine wpAnyH_take (i := 15) (oi := { dst := some 18, op := _, type := _, pos := _, after := _, guard := _ }) (v := .string ((tbs [dirL (s 0)] ++ tbs [digL (s 1)]) ++ tbs [digL (s 2)])) rfl (by kernel_rfl) (by kernel_rfl) (by kernel_rfl) (fun _ _ _ h => h) (Or.inl ⟨by rfl, by intro w hSw; clear hSw; go_simp; (try with_reducible rfl)⟩) (by assumption) ?_
  try simp only [Act.put, List.setIfInBounds_toArray, List.set_cons_zero, List.set_cons_succ]
  refine wpAnyH_take (i := 22) (oi := { dst := some 25, op := _, type := _, pos := _, after := _, guard := _ }) (v := .string (((tbs [dirL (s 0)] ++ tbs [digL (s 1)]) ++ tbs [digL (s 2)]) ++ tbs [letB (s 3)])) rfl (by kernel_rfl) (by kernel_rfl) (by kernel_rfl) (fun _ _ _ h => h) (Or.inl ⟨by rfl, by intro w hSw; clear hSw; go_simp; (try with_reducible rfl)⟩) (by assumption) ?_
  try simp only [Act.put, List.setIfInBounds_toArray, List.set_cons_zero, List.set_cons_succ]
  refine wpAnyH_take (i := 23) (oi := { dst := some 2, op := _, type := _, pos := _, after := _, guard := _ }) (v := .string (((tbs [dirL (s 0)] ++ tbs [digL (s 1)]) ++ tbs [digL (s 2)]) ++ tbs [letB (s 3)])) rfl (by kernel_rfl) (by kernel_rfl) (by kernel_rfl) (fun _ _ _ h => h) (Or.inl ⟨by rfl, by intro w hSw; clear hSw; go_simp; (try with_reducible rfl)⟩) (by assumption) ?_
  try simp only [Act.put, List.setIfInBounds_toArray, List.set_cons_zero, List.set_cons_succ]
  refine wpAnyH_done (by kernel_rfl) ?_ _
  clear hHeld
  go_wp2_with fail
  go_ret
  exact ⟨by rw [HS.out]; rfl, HB.out⟩
set_option maxHeartbeats 2000000 in
set_option maxRecDepth 20000 in
theorem specStepT_any (s : Nat → Int) (w : World) :
    Calls Try.prog 38 #[.agg (mk 4 s)] w fun e w' => e = .returned (.tuple #[.string (sxR s), .bool (sxO s)]) ∧ Below w.heap.size w w' := by
  have K1 := Blk.new w 4 s 49
  have HB := Lib.hid ((Below.refl w.heap.size w).alloc (Nat.le_refl _) (.cells (mk 4 s) 49))
  have c0 := K1.cell (i := 0) (by omega)
  by_cases h0 : 0 ≤ s 0 ∧ s 0 ≤ 3
  · by_cases hC : CellIn (cellS s)
    · by_cases ht : 1 ≤ s 3 ∧ s 3 ≤ 2
      · have hS : SxOk s := ⟨h0, hC, ht⟩
        obtain ⟨y1, y2⟩ := sx_yes hS
        have HY := Lib.hid (show sxR s = tbs (sxL s) ∧ sxO s = true from ⟨y1, y2⟩)
        clear y1 y2
        go_enter Try.func38, Try.ntmps38
        go_wp2_with fail
        refine (l2Side_yes (s 0) _ h0.1 h0.2).mono ?_
        rintro e w' ⟨rfl, rfl⟩
        go_wp2_with ((with_reducible show wpList _ _ _ (Oper.mk _ (Op.load 44 _) _ _ _ (some _) :: _) _ _); refine loadPgC (K1) (by omega) rfl rfl rfl ?_)
        refine (l2Cell_yes (cellS s) _ hC).mono ?_
        rintro e w1 ⟨rfl, hb⟩
        have K1 := K1.below hb K1.lt
        have HB : Hid (Below w.heap.size w w1) := HB.out.trans (hb.mono HB.out.size)
        clear hb c0
        have c3 := K1.cell (i := 3) (by omega)
        go_wp2_with fail
        refine (l1In_yes (s 3) 1 2 _ ht.1 ht.2).mono ?_
        rintro e w' ⟨rfl, rfl⟩
        clear c3
        go_wp2_with ((with_reducible show wpList _ _ _ (Oper.mk _ (Op.load 49 _) _ _ _ _ :: _) _ _); refine loadT (K1) rfl rfl rfl ?_)
        refine (l11Text_any s _ hS).mono ?_
        rintro e w2 ⟨rfl, hb⟩
        have HB : Hid (Below w.heap.size w w2) := HB.out.trans (hb.mono HB.out.size)
        clear hb
        go_wp2_with fail
        go_ret2
        exact ⟨by rw [HY.out.1, HY.out.2]; rfl, HB.out⟩
      · obtain ⟨y1, y2⟩ := sx_no (s := s) (fun q => ht q.2.2)
        have HY := Lib.hid (show sxR s = ByteArray.empty ∧ sxO s = false from ⟨y1, y2⟩)
        clear y1 y2
        go_enter Try.func38, Try.ntmps38
        go_wp2_with fail
        refine (l2Side_yes (s 0) _ h0.1 h0.2).mono ?_
        rintro e w' ⟨rfl, rfl⟩
        go_wp2_with ((with_reducible show wpList _ _ _ (Oper.mk _ (Op.load 44 _) _ _ _ (some _) :: _) _ _); refine loadPgC (K1) (by omega) rfl rfl rfl ?_)
        refine (l2Cell_yes (cellS s) _ hC).mono ?_
        rintro e w1 ⟨rfl, hb⟩
        have K1 := K1.below hb K1.lt
        have HB : Hid (Below w.heap.size w w1) := HB.out.trans (hb.mono HB.out.size)
        clear hb c0
        have c3 := K1.cell (i := 3) (by omega)
        go_wp2_with fail
        refine (l1In_no (s 3) 1 2 _ (by omega)).mono ?_
        rintro e w' ⟨rfl, rfl⟩
        go_wp2_with fail
        go_ret2
        exact ⟨by rw [HY.out.1, HY.out.2]; rfl, HB.out⟩
    · obtain ⟨y1, y2⟩ := sx_no (s := s) (fun q => hC q.2.1)
      have HY := Lib.hid (show sxR s = ByteArray.empty ∧ sxO s = false from ⟨y1, y2⟩)
      clear y1 y2
      go_enter Try.func38, Try.ntmps38
      go_wp2_with fail
      refine (l2Side_yes (s 0) _ h0.1 h0.2).mono ?_
      rintro e w' ⟨rfl, rfl⟩
      go_wp2_with ((with_reducible show wpList _ _ _ (Oper.mk _ (Op.load 44 _) _ _ _ (some _) :: _) _ _); refine loadPgC (K1) (by omega) rfl rfl rfl ?_)
      refine (l2Cell_no (cellS s) _ hC).mono ?_
      rintro e w1 ⟨rfl, hb⟩
      have K1 := K1.below hb K1.lt
      have HB : Hid (Below w.heap.size w w1) := HB.out.trans (hb.mono HB.out.size)
      clear hb c0
      have c3 := K1.cell (i := 3) (by omega)
      go_wp2_with fail
      go_ret2
      exact ⟨by rw [HY.out.1, HY.out.2]; rfl, HB.out⟩
  · obtain ⟨y1, y2⟩ := sx_no (s := s) (fun q => h0 q.1)
    have HY := Lib.hid (show sxR s = ByteArray.empty ∧ sxO s = false from ⟨y1, y2⟩)
    clear y1 y2
    go_enter Try.func38, Try.ntmps38
    go_wp2_with fail
    refine (l2Side_no (s 0) _ (by omega)).mono ?_
    rintro e w' ⟨rfl, rfl⟩
    go_wp2_with fail
    go_ret2
    exact ⟨by rw [HY.out.1, HY.out.2]; rfl, HB.out⟩
set_option maxHeartbeats 2000000 in
set_option maxRecDepth 20000 in
theorem implStepT_any (s : Nat → Int) (w : World) :
    Calls Try.prog 39 #[.agg (mk 4 s)] w fun e w' => e = .returned (.tuple #[.string (sxR s), .bool (sxO s)]) ∧ Below w.heap.size w w' := by
  have K1 := Blk.new w 4 s 49
  have HB := Lib.hid ((Below.refl w.heap.size w).alloc (Nat.le_refl _) (.cells (mk 4 s) 49))
  have c0 := K1.cell (i := 0) (by omega)
  by_cases h0 : 0 ≤ s 0 ∧ s 0 ≤ 3
  · by_cases hC : CellIn (cellS s)
    · by_cases ht : 1 ≤ s 3 ∧ s 3 ≤ 2
      · have hS : SxOk s := ⟨h0, hC, ht⟩
        obtain ⟨y1, y2⟩ := sx_yes hS
        have HY := Lib.hid (show sxR s = tbs (sxL s) ∧ sxO s = true from ⟨y1, y2⟩)
        clear y1 y2
        go_enter Try.func39, Try.ntmps39
        go_wp2_with fail
        refine (isDirection_yes (s 0) _ h0.1 h0.2).mono ?_
        rintro e w' ⟨rfl, rfl⟩
        go_wp2_with ((with_reducible show wpList _ _ _ (Oper.mk _ (Op.load 44 _) _ _ _ (some _) :: _) _ _); refine loadPgC (K1) (by omega) rfl rfl rfl ?_)
        refine (isCell_yes (cellS s) _ hC).mono ?_
        rintro e w1 ⟨rfl, hb⟩
        have K1 := K1.below hb K1.lt
        have HB : Hid (Below w.heap.size w w1) := HB.out.trans (hb.mono HB.out.size)
        clear hb c0
        have c3 := K1.cell (i := 3) (by omega)
        go_wp2_with fail
        refine (newTile_yes (s 3) _ ht.1 ht.2).mono ?_
        rintro e w' ⟨rfl, rfl⟩
        clear c3
        obtain ⟨⟨a0, a1⟩, ⟨⟨b0, b1⟩, b2, b3⟩, t0, t1⟩ := hS
        have b0 : 0 ≤ s 1 := b0
        have b1 : s 1 ≤ 3 := b1
        have b2 : 0 ≤ s 2 := b2
        have b3 : s 2 ≤ 3 := b3
        have g1 := dig_conv b0 b1
        have g2 := dig_conv b2 b3
        have g0 := lurd_at a0 a1
        have q1 : IntKind.i64.wrap (48 + s 1) = 48 + s 1 := IntWalk.i64_in _ (by omega)
        have q2 : IntKind.i64.wrap (48 + s 2) = 48 + s 2 := IntWalk.i64_in _ (by omega)
        have q3 : ¬ ((4 : Int) ≤ s 0) := by omega
        go_wp2_with fail
        refine wp_region_held_drew (S := fun W => Blk W w.heap.size 4 s 49) (by kernel_rfl) (K1.drew) (fun hHeld => ?_)
        have K1 : Blk w1.drew w.heap.size 4 s 49 := K1.drew
        have HB : Hid (Below w.heap.size w w1.drew) := HB.out.drew
        generalize w1.drew = x0 at *
        refine wpAnyH_take (i := 0) (oi := { dst := some 22, op := _, type := _, pos := _, after := _, guard := _ }) (v := .pointer (some ⟨w.heap.size, 1, none⟩)) rfl (by kernel_rfl) (by kernel_rfl) (by kernel_rfl) (fun _ _ _ h => h) (Or.inl ⟨by rfl, by intro w hSw; clear hSw; go_simp; (try with_reducible rfl)⟩) (by assumption) ?_
        try simp only [Act.put, List.setIfInBounds_toArray, List.set_cons_zero, List.set_cons_succ]
        refine wpAnyH_take (i := 1) (oi := { dst := some 23, op := _, type := _, pos := _, after := _, guard := _ }) (v := .pointer (some ⟨w.heap.size, 1, none⟩)) rfl (by kernel_rfl) (by kernel_rfl) (by kernel_rfl) (fun _ _ _ h => h) (Or.inl ⟨by rfl, by intro w hSw; clear hSw; go_simp; (try with_reducible rfl)⟩) (by assumption) ?_
        try simp only [Act.put, List.setIfInBounds_toArray, List.set_cons_zero, List.set_cons_succ]
        refine wpAnyH_take (i := 2) (oi := { dst := some 24, op := _, type := _, pos := _, after := _, guard := _ }) (v := .int .i64 (s 1)) rfl (by kernel_rfl) (by kernel_rfl) (by kernel_rfl) (fun _ _ _ h => h) (Or.inl ⟨by rfl, by intro W hSw; have cc := Blk.cell hSw (i := 1) (by omega); clear hSw; go_simp; (try with_reducible rfl)⟩) (by assumption) ?_
        try simp only [Act.put, List.setIfInBounds_toArray, List.set_cons_zero, List.set_cons_succ]
        refine wpAnyH_take (i := 3) (oi := { dst := some 25, op := _, type := _, pos := _, after := _, guard := _ }) (v := .int .i64 (48 + s 1)) rfl (by kernel_rfl) (by kernel_rfl) (by kernel_rfl) (fun _ _ _ h => h) (Or.inl ⟨by rfl, by intro w hSw; clear hSw; go_simp; (try with_reducible rfl)⟩) (by assumption) ?_
        try simp only [Act.put, List.setIfInBounds_toArray, List.set_cons_zero, List.set_cons_succ]
        refine wpAnyH_take (i := 4) (oi := { dst := some 26, op := _, type := _, pos := _, after := _, guard := _ }) (v := .int .u8 ((digL (s 1)).toNat : Int)) rfl (by kernel_rfl) (by kernel_rfl) (by kernel_rfl) (fun _ _ _ h => h) (Or.inl ⟨by rfl, by intro w hSw; clear hSw; go_simp; (try with_reducible rfl)⟩) (by assumption) ?_
        try simp only [Act.put, List.setIfInBounds_toArray, List.set_cons_zero, List.set_cons_succ]
        refine wpAnyH_take (i := 5) (oi := { dst := some 27, op := _, type := _, pos := _, after := _, guard := _ }) (v := .pointer (some ⟨w.heap.size, 1, none⟩)) rfl (by kernel_rfl) (by kernel_rfl) (by kernel_rfl) (fun _ _ _ h => h) (Or.inl ⟨by rfl, by intro w hSw; clear hSw; go_simp; (try with_reducible rfl)⟩) (by assumption) ?_
        try simp only [Act.put, List.setIfInBounds_toArray, List.set_cons_zero, List.set_cons_succ]
        refine wpAnyH_take (i := 6) (oi := { dst := some 28, op := _, type := _, pos := _, after := _, guard := _ }) (v := .pointer (some ⟨w.heap.size, 2, none⟩)) rfl (by kernel_rfl) (by kernel_rfl) (by kernel_rfl) (fun _ _ _ h => h) (Or.inl ⟨by rfl, by intro w hSw; clear hSw; go_simp; (try with_reducible rfl)⟩) (by assumption) ?_
        try simp only [Act.put, List.setIfInBounds_toArray, List.set_cons_zero, List.set_cons_succ]
        refine wpAnyH_take (i := 7) (oi := { dst := some 29, op := _, type := _, pos := _, after := _, guard := _ }) (v := .int .i64 (s 2)) rfl (by kernel_rfl) (by kernel_rfl) (by kernel_rfl) (fun _ _ _ h => h) (Or.inl ⟨by rfl, by intro W hSw; have cc := Blk.cell hSw (i := 2) (by omega); clear hSw; go_simp; (try with_reducible rfl)⟩) (by assumption) ?_
        try simp only [Act.put, List.setIfInBounds_toArray, List.set_cons_zero, List.set_cons_succ]
        refine wpAnyH_take (i := 8) (oi := { dst := some 30, op := _, type := _, pos := _, after := _, guard := _ }) (v := .int .i64 (48 + s 2)) rfl (by kernel_rfl) (by kernel_rfl) (by kernel_rfl) (fun _ _ _ h => h) (Or.inl ⟨by rfl, by intro w hSw; clear hSw; go_simp; (try with_reducible rfl)⟩) (by assumption) ?_
        try simp only [Act.put, List.setIfInBounds_toArray, List.set_cons_zero, List.set_cons_succ]
        refine wpAnyH_take (i := 9) (oi := { dst := some 31, op := _, type := _, pos := _, after := _, guard := _ }) (v := .int .u8 ((digL (s 2)).toNat : Int)) rfl (by kernel_rfl) (by kernel_rfl) (by kernel_rfl) (fun _ _ _ h => h) (Or.inl ⟨by rfl, by intro w hSw; clear hSw; go_simp; (try with_reducible rfl)⟩) (by assumption) ?_
        try simp only [Act.put, List.setIfInBounds_toArray, List.set_cons_zero, List.set_cons_succ]
        refine wpAnyH_take (i := 10) (oi := { dst := some 4, op := _, type := _, pos := _, after := _, guard := _ }) (v := .int .u8 ((digL (s 1)).toNat : Int)) rfl (by kernel_rfl) (by kernel_rfl) (by kernel_rfl) (fun _ _ _ h => h) (Or.inl ⟨by rfl, by intro w hSw; clear hSw; go_simp; (try with_reducible rfl)⟩) (by assumption) ?_
        try simp only [Act.put, List.setIfInBounds_toArray, List.set_cons_zero, List.set_cons_succ]
        refine wpAnyH_take (i := 11) (oi := { dst := some 5, op := _, type := _, pos := _, after := _, guard := _ }) (v := .int .u8 ((digL (s 2)).toNat : Int)) rfl (by kernel_rfl) (by kernel_rfl) (by kernel_rfl) (fun _ _ _ h => h) (Or.inl ⟨by rfl, by intro w hSw; clear hSw; go_simp; (try with_reducible rfl)⟩) (by assumption) ?_
        try simp only [Act.put, List.setIfInBounds_toArray, List.set_cons_zero, List.set_cons_succ]
        refine wpAnyH_done (by kernel_rfl) ?_ _
        clear hHeld
        go_wp2_with fail
        refine wp_region_held_drew (S := fun W => Blk W w.heap.size 4 s 49) (by kernel_rfl) (K1.drew) (fun hHeld => ?_)
        have K1 : Blk x0.drew w.heap.size 4 s 49 := K1.drew
        have HB : Hid (Below w.heap.size w x0.drew) := HB.out.drew
        generalize x0.drew = y0 at *
        refine wpAnyH_take (i := 0) (oi := { dst := some 32, op := _, type := _, pos := _, after := _, guard := _ }) (v := .pointer (some ⟨w.heap.size, 0, none⟩)) rfl (by kernel_rfl) (by kernel_rfl) (by kernel_rfl) (fun _ _ _ h => h) (Or.inl ⟨by rfl, by intro w hSw; clear hSw; go_simp; (try with_reducible rfl)⟩) (by assumption) ?_
        try simp only [Act.put, List.setIfInBounds_toArray, List.set_cons_zero, List.set_cons_succ]
        refine wpAnyH_take (i := 1) (oi := { dst := some 33, op := _, type := _, pos := _, after := _, guard := _ }) (v := .int .i64 (s 0)) rfl (by kernel_rfl) (by kernel_rfl) (by kernel_rfl) (fun _ _ _ h => h) (Or.inl ⟨by rfl, by intro W hSw; have cc := Blk.cell hSw (i := 0) (by omega); clear hSw; go_simp; (try with_reducible rfl)⟩) (by assumption) ?_
        try simp only [Act.put, List.setIfInBounds_toArray, List.set_cons_zero, List.set_cons_succ]
        refine wpAnyH_take (i := 2) (oi := { dst := some 34, op := _, type := _, pos := _, after := _, guard := _ }) (v := .int .u8 ((dirL (s 0)).toNat : Int)) rfl (by kernel_rfl) (by kernel_rfl) (by kernel_rfl) (fun _ _ _ h => h) (Or.inl ⟨by rfl, by intro w hSw; clear hSw; go_simp; (try with_reducible rfl)⟩) (by assumption) ?_
        try simp only [Act.put, List.setIfInBounds_toArray, List.set_cons_zero, List.set_cons_succ]
        refine wpAnyH_take (i := 3) (oi := { dst := some 35, op := _, type := _, pos := _, after := _, guard := _ }) (v := .int .u8 ((digL (s 1)).toNat : Int)) rfl (by kernel_rfl) (by kernel_rfl) (by kernel_rfl) (fun _ _ _ h => h) (Or.inl ⟨by rfl, by intro w hSw; clear hSw; go_simp; (try with_reducible rfl)⟩) (by assumption) ?_
        try simp only [Act.put, List.setIfInBounds_toArray, List.set_cons_zero, List.set_cons_succ]
        refine wpAnyH_take (i := 4) (oi := { dst := some 36, op := _, type := _, pos := _, after := _, guard := _ }) (v := .int .u8 ((digL (s 2)).toNat : Int)) rfl (by kernel_rfl) (by kernel_rfl) (by kernel_rfl) (fun _ _ _ h => h) (Or.inl ⟨by rfl, by intro w hSw; clear hSw; go_simp; (try with_reducible rfl)⟩) (by assumption) ?_
        try simp only [Act.put, List.setIfInBounds_toArray, List.set_cons_zero, List.set_cons_succ]
        refine wpAnyH_take (i := 5) (oi := { dst := some 37, op := _, type := _, pos := _, after := _, guard := _ }) (v := .pointer (some ⟨w.heap.size, 3, none⟩)) rfl (by kernel_rfl) (by kernel_rfl) (by kernel_rfl) (fun _ _ _ h => h) (Or.inl ⟨by rfl, by intro w hSw; clear hSw; go_simp; (try with_reducible rfl)⟩) (by assumption) ?_
        try simp only [Act.put, List.setIfInBounds_toArray, List.set_cons_zero, List.set_cons_succ]
        refine wpAnyH_take (i := 6) (oi := { dst := some 38, op := _, type := _, pos := _, after := _, guard := _ }) (v := .int .i64 (s 3)) rfl (by kernel_rfl) (by kernel_rfl) (by kernel_rfl) (fun _ _ _ h => h) (Or.inl ⟨by rfl, by intro W hSw; have cc := Blk.cell hSw (i := 3) (by omega); clear hSw; go_simp; (try with_reducible rfl)⟩) (by assumption) ?_
        try simp only [Act.put, List.setIfInBounds_toArray, List.set_cons_zero, List.set_cons_succ]
        refine wpAnyH_ready (rs := [7]) (by kernel_rfl) (by simp) ?_
        refine AllReadyH.cons rfl (fun K hK => ?_) AllReadyH.nil
        go_simp
        refine (letterOf_any (s 3) _ (by omega) (by omega)).mono ?_
        rintro e x1 ⟨rfl, rfl⟩
        clear hHeld
        go_wp2_with fail
        refine hK.out _ _ K1 (fun hHeld => ?_)
        clear hK K
        try simp only [Act.put, List.setIfInBounds_toArray, List.set_cons_zero, List.set_cons_succ]
        refine wpAnyH_ready (rs := [8]) (by kernel_rfl) (by simp) ?_
        refine AllReadyH.cons rfl (fun K hK => ?_) AllReadyH.nil
        rw [if_pos (by rfl)]
        refine wp_build4 _ _ _ _ rfl rfl rfl rfl rfl ?_
        have HO : OwnsBs (y0.alloc (.cells #[.int .u8 ((dirL (s 0)).toNat : Int), .int .u8 ((digL (s 1)).toNat : Int), .int .u8 ((digL (s 2)).toNat : Int), .int .u8 ((letB (s 3)).toNat : Int)] 5)) 0 (.slice (some ⟨y0.heap.size, 0, none⟩) 4 4) (sxL s) := own_four _ _ _ _ _
        have cv : (convert 89 9 (.slice (some ⟨y0.heap.size, 0, none⟩) 4 4)).run Try.prog (y0.alloc (.cells #[.int .u8 ((dirL (s 0)).toNat : Int), .int .u8 ((digL (s 1)).toNat : Int), .int .u8 ((digL (s 2)).toNat : Int), .int .u8 ((letB (s 3)).toNat : Int)] 5)) = .ok (.string (tbs (sxL s))) (y0.alloc (.cells #[.int .u8 ((dirL (s 0)).toNat : Int), .int .u8 ((digL (s 1)).toNat : Int), .int .u8 ((digL (s 2)).toNat : Int), .int .u8 ((letB (s 3)).toNat : Int)] 5)) := bytes_text (cap := 4) HO
        have K1 := K1.alloc (.cells #[.int .u8 ((dirL (s 0)).toNat : Int), .int .u8 ((digL (s 1)).toNat : Int), .int .u8 ((digL (s 2)).toNat : Int), .int .u8 ((letB (s 3)).toNat : Int)] 5)
        have HB : Hid (Below w.heap.size w (y0.alloc (.cells #[.int .u8 ((dirL (s 0)).toNat : Int), .int .u8 ((digL (s 1)).toNat : Int), .int .u8 ((digL (s 2)).toNat : Int), .int .u8 ((letB (s 3)).toNat : Int)] 5))) := HB.out.alloc HB.out.size _
        clear hHeld
        generalize y0.alloc (.cells #[.int .u8 ((dirL (s 0)).toNat : Int), .int .u8 ((digL (s 1)).toNat : Int), .int .u8 ((digL (s 2)).toNat : Int), .int .u8 ((letB (s 3)).toNat : Int)] 5) = y1 at *
        generalize y0.heap.size = b4 at *
        refine hK.out _ _ K1 (fun hHeld => ?_)
        clear hK K
        try simp only [Act.put, List.setIfInBounds_toArray, List.set_cons_zero, List.set_cons_succ]
        try dsimp only
        try simp only [Act.put, List.setIfInBounds_toArray, List.set_cons_zero, List.set_cons_succ]
        refine wpAnyH_ready (rs := [9]) (by kernel_rfl) (by simp) ?_
        refine AllReadyH.cons rfl (fun K hK => ?_) AllReadyH.nil
        go_simp
        clear hHeld cv HO
        refine hK.out _ _ K1 (fun hHeld => ?_)
        clear hK K
        try simp only [Act.put, List.setIfInBounds_toArray, List.set_cons_zero, List.set_cons_succ]
        try dsimp only
        try simp only [Act.put, List.setIfInBounds_toArray, List.set_cons_zero, List.set_cons_succ]
        refine wpAnyH_take (i := 10) (oi := { dst := some 2, op := _, type := _, pos := _, after := _, guard := _ }) (v := .string (tbs (sxL s))) rfl (by kernel_rfl) (by kernel_rfl) (by kernel_rfl) (fun _ _ _ h => h) (Or.inl ⟨by rfl, by intro w hSw; clear hSw; go_simp; (try with_reducible rfl)⟩) (by assumption) ?_
        try simp only [Act.put, List.setIfInBounds_toArray, List.set_cons_zero, List.set_cons_succ]
        refine wpAnyH_take (i := 11) (oi := { dst := some 3, op := _, type := _, pos := _, after := _, guard := _ }) (v := .bool true) rfl (by kernel_rfl) (by kernel_rfl) (by kernel_rfl) (fun _ _ _ h => h) (Or.inl ⟨by rfl, by intro w hSw; clear hSw; go_simp; (try with_reducible rfl)⟩) (by assumption) ?_
        try simp only [Act.put, List.setIfInBounds_toArray, List.set_cons_zero, List.set_cons_succ]
        refine wpAnyH_done (by kernel_rfl) ?_ _
        clear hHeld
        go_wp2_with fail
        go_ret2
        exact ⟨by rw [HY.out.1, HY.out.2]; rfl, HB.out⟩
      · obtain ⟨y1, y2⟩ := sx_no (s := s) (fun q => ht q.2.2)
        have HY := Lib.hid (show sxR s = ByteArray.empty ∧ sxO s = false from ⟨y1, y2⟩)
        clear y1 y2
        go_enter Try.func39, Try.ntmps39
        go_wp2_with fail
        refine (isDirection_yes (s 0) _ h0.1 h0.2).mono ?_
        rintro e w' ⟨rfl, rfl⟩
        go_wp2_with ((with_reducible show wpList _ _ _ (Oper.mk _ (Op.load 44 _) _ _ _ (some _) :: _) _ _); refine loadPgC (K1) (by omega) rfl rfl rfl ?_)
        refine (isCell_yes (cellS s) _ hC).mono ?_
        rintro e w1 ⟨rfl, hb⟩
        have K1 := K1.below hb K1.lt
        have HB : Hid (Below w.heap.size w w1) := HB.out.trans (hb.mono HB.out.size)
        clear hb c0
        have c3 := K1.cell (i := 3) (by omega)
        go_wp2_with fail
        refine (newTile_no (s 3) _ (by omega)).mono ?_
        rintro e w' ⟨rfl, rfl⟩
        go_wp2_with fail
        go_ret2
        exact ⟨by rw [HY.out.1, HY.out.2]; rfl, HB.out⟩
    · obtain ⟨y1, y2⟩ := sx_no (s := s) (fun q => hC q.2.1)
      have HY := Lib.hid (show sxR s = ByteArray.empty ∧ sxO s = false from ⟨y1, y2⟩)
      clear y1 y2
      go_enter Try.func39, Try.ntmps39
      go_wp2_with fail
      refine (isDirection_yes (s 0) _ h0.1 h0.2).mono ?_
      rintro e w' ⟨rfl, rfl⟩
      go_wp2_with ((with_reducible show wpList _ _ _ (Oper.mk _ (Op.load 44 _) _ _ _ (some _) :: _) _ _); refine loadPgC (K1) (by omega) rfl rfl rfl ?_)
      refine (isCell_no (cellS s) _ hC).mono ?_
      rintro e w1 ⟨rfl, hb⟩
      have K1 := K1.below hb K1.lt
      have HB : Hid (Below w.heap.size w w1) := HB.out.trans (hb.mono HB.out.size)
      clear hb c0
      have c3 := K1.cell (i := 3) (by omega)
      go_wp2_with fail
      go_ret2
      exact ⟨by rw [HY.out.1, HY.out.2]; rfl, HB.out⟩
  · obtain ⟨y1, y2⟩ := sx_no (s := s) (fun q => h0 q.1)
    have HY := Lib.hid (show sxR s = ByteArray.empty ∧ sxO s = false from ⟨y1, y2⟩)
    clear y1 y2
    go_enter Try.func39, Try.ntmps39
    go_wp2_with fail
    refine (isDirection_no (s 0) _ (by omega)).mono ?_
    rintro e w' ⟨rfl, rfl⟩
    go_wp2_with fail
    go_ret2
    exact ⟨by rw [HY.out.1, HY.out.2]; rfl, HB.out⟩
end Go.Proofs.Ytekdodlkimgbhaa
