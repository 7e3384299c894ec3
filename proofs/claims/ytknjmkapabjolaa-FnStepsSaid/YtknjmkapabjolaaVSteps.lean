/-
  The laws' comparison of two rows of steps: equal rows. No condition.
-/
import Derived.Test.YtknjmkapabjolaaStepRows
import Derived.Test.YtknjmkapabjolaaCellHelp
namespace Go.Proofs.Ytknjmkapabjolaa
open Go.RowKit Plain
attribute [local go_sem] Oper.semAt_some
set_option linter.unusedVariables false
set_option linter.unusedSimpArgs false

theorem part_at {P : Program} {e : TypeId} {m n off : Nat} {d : TypeDesc} (he : P.underlying e = some d) (hd : d.isRow = true)
    (hi : (P.info? e).map (·.size) = some m) (f : Nat → Int) (hn : off + m ≤ n) (w : World) :
    (part e (mk n f) off).run P w = .ok (.agg (mk m (fun c => f (off + c)))) w := by
  have hagg : (isAgg e).run P w = .ok true w := by
    unfold isAgg
    rw [Sem.run_bind, run_underlying he w]
    cases d <;> simp_all
  cases hq : P.info? e with
  | none => simp [hq] at hi
  | some i =>
    have hs : i.size = m := by simpa [hq] using hi
    simp [part, hagg, sizeOf, typeInfo, hq, hs, mk_extract f off m hn]
theorem eqT_self (s : Nat → Int) (w : World) : (Op.equalIn 10000 33 (.agg (mk 4 s)) (.agg (mk 4 s))).run Try.prog w = .ok true w := by
  rw [run_equalIn_struct w 9999 33 (mk 4 s) (mk 4 s) (by kernel_rfl) (by kernel_rfl)]
  have p0 : (part 3 (mk 4 s) 0).run Try.prog w = .ok (.int .i64 (s 0)) w := by simpa using part_int (n := 4) (k := 0) Try.underlying3 s (by omega) w
  have p3 : (part 3 (mk 4 s) 3).run Try.prog w = .ok (.int .i64 (s 3)) w := by simpa using part_int (n := 4) (k := 3) Try.underlying3 s (by omega) w
  have p1 := part_at (n := 4) (off := 1) Try.underlying26 rfl sizeC s (by omega) w
  have q0 : ∀ x : Int, (Op.equalIn 9999 3 (.int .i64 x) (.int .i64 x)).run Try.prog w = .ok true w := fun x => by
    rw [run_equalIn_int w 9998 _ _ _ _ _ Try.underlying3]; simp
  have q1 : (Op.equalIn 9999 26 (.agg (mk 2 fun c => s (1 + c))) (.agg (mk 2 fun c => s (1 + c)))).run Try.prog w = .ok true w := by
    rw [eqC2 9997, sameC_rfl]
  have hf : (Try.prog.fieldsOf 33).toList.map (fun f => (f.name, f.type, f.offset)) = [("Direction", 3, 0), ("Cell", 26, 1), ("Tile", 3, 3)] := by kernel_rfl
  generalize (Try.prog.fieldsOf 33).toList = fs at hf
  rcases fs with _ | ⟨a, _ | ⟨b, _ | ⟨c, _ | ⟨d, fs⟩⟩⟩⟩
  · simp at hf
  · simp at hf
  · simp at hf
  · simp only [List.map_cons, List.map_nil, List.cons.injEq, Prod.mk.injEq, and_true] at hf
    obtain ⟨⟨a0, a1, a2⟩, ⟨b0, b1, b2⟩, ⟨c0, c1, c2⟩⟩ := hf
    simp [Op.eqFields, a0, a1, a2, b0, b1, b2, c0, c1, c2, p0, p1, p3, q0, q1]
  · simp at hf
theorem neqT_self (s : Nat → Int) (w : World) : (binOp .neq 33 (.agg (mk 4 s)) (.agg (mk 4 s))).run Try.prog w = .ok (.bool false) w := by
  rw [run_neq_struct, eqT_self]; rfl
theorem execNT {o : Oper} {ev : Operand → Value} {w : World} {f : Nat → Int} {x y : Operand} (ho : o.op = .binOp .neq 33 x y 33) (hx : ev x = .agg (mk 4 f)) (hy : ev y = .agg (mk 4 f)) :
    (execOp ev o).run Try.prog w = .ok (.value (.bool false)) w := by
  unfold execOp
  simp [ho, hx, hy, eqGuard, neqT_self]
set_option maxHeartbeats 1000000 in
set_option maxRecDepth 20000 in
theorem vSteps_yes (v u : Value) (n : Nat) (h : Nat → Int) (w : World) (hv : KRow 4 w v n h) (hu : KRow 4 w u n h) (hn : n ≤ 1048576) :
    Calls Try.prog 44 #[v, u] w fun e w' => e = .returned (.bool true) ∧ Below w.heap.size w w' := by
  obtain ⟨b1, c1, rfl, _, k1⟩ := hv
  obtain ⟨b2, c2, rfl, _, k2⟩ := hu
  have HB := Lib.hid (Below.refl w.heap.size w)
  go_enter Try.func44, Try.ntmps44
  go_wp2
  go_loopg [5] n (fun gk s5 wr => ∃ k : Nat, k + gk = n ∧ s5 = .int .i64 k ∧ CAt wr b1 (n * 4) h ∧ CAt wr b2 (n * 4) h ∧ Hid (Below w.heap.size w wr))
  case atStart => exact ⟨0, by omega, rfl, k1, k2, HB⟩
  case round =>
    clear k1 k2 HB
    obtain ⟨k, hkg, rfl, k1, k2, HB⟩ := hrel
    cases gk with
    | zero =>
      have hk : ¬ ((k : Int) < (n : Int)) := by omega
      go_wp2_with fail
      go_ret
      exact ⟨rfl, HB.out⟩
    | succ gk2 =>
      have hb : (0 : Int) ≤ (k : Int) := by omega
      have hl : (k : Int) < (n : Int) := by omega
      go_wp2_with fail
      refine wp_region_held_drew (S := fun W => CAt W b1 (n * 4) h ∧ CAt W b2 (n * 4) h) (by kernel_rfl) (⟨CAt.drew k1, CAt.drew k2⟩) (fun hHeld => ?_)
      refine wpAnyH_take (i := 0) (oi := { dst := some 17, op := _, type := _, pos := _, after := _, guard := _ }) (v := .slice (some ⟨b1, 0, none⟩) n c1) rfl (by kernel_rfl) (by kernel_rfl) (by kernel_rfl) (fun _ _ _ h => h) (Or.inl ⟨by rfl, by intro w hSw; clear hSw; go_simp; (try with_reducible rfl)⟩) (by assumption) ?_
      try simp only [Act.put, List.setIfInBounds_toArray, List.set_cons_zero, List.set_cons_succ]
      refine wpAnyH_take (i := 1) (oi := { dst := some 18, op := _, type := _, pos := _, after := _, guard := _ }) (v := .int .i64 (k : Int)) rfl (by kernel_rfl) (by kernel_rfl) (by kernel_rfl) (fun _ _ _ h => h) (Or.inl ⟨by rfl, by intro w hSw; clear hSw; go_simp; (try with_reducible rfl)⟩) (by assumption) ?_
      try simp only [Act.put, List.setIfInBounds_toArray, List.set_cons_zero, List.set_cons_succ]
      refine wpAnyH_take (i := 2) (oi := { dst := some 19, op := _, type := _, pos := _, after := _, guard := _ }) (v := .pointer (some ⟨b1, k * 4, none⟩)) rfl (by kernel_rfl) (by kernel_rfl) (by kernel_rfl) (fun _ _ _ h => h) (Or.inl ⟨by rfl, by intro w hSw; clear hSw; go_simp; (try with_reducible rfl)⟩) (by assumption) ?_
      try simp only [Act.put, List.setIfInBounds_toArray, List.set_cons_zero, List.set_cons_succ]
      refine wpAnyH_take (i := 3) (oi := { dst := some 20, op := _, type := _, pos := _, after := _, guard := _ }) (v := .agg (mk 4 fun j => h (k * 4 + j))) rfl (by kernel_rfl) (by kernel_rfl) (by kernel_rfl) (fun _ _ _ h => h) (Or.inl ⟨by rfl, fun _ q => execAT q.1 (by omega) rfl rfl⟩) (by assumption) ?_
      try simp only [Act.put, List.setIfInBounds_toArray, List.set_cons_zero, List.set_cons_succ]
      refine wpAnyH_take (i := 4) (oi := { dst := some 21, op := _, type := _, pos := _, after := _, guard := _ }) (v := .slice (some ⟨b2, 0, none⟩) n c2) rfl (by kernel_rfl) (by kernel_rfl) (by kernel_rfl) (fun _ _ _ h => h) (Or.inl ⟨by rfl, by intro w hSw; clear hSw; go_simp; (try with_reducible rfl)⟩) (by assumption) ?_
      try simp only [Act.put, List.setIfInBounds_toArray, List.set_cons_zero, List.set_cons_succ]
      refine wpAnyH_take (i := 5) (oi := { dst := some 22, op := _, type := _, pos := _, after := _, guard := _ }) (v := .int .i64 (k : Int)) rfl (by kernel_rfl) (by kernel_rfl) (by kernel_rfl) (fun _ _ _ h => h) (Or.inl ⟨by rfl, by intro w hSw; clear hSw; go_simp; (try with_reducible rfl)⟩) (by assumption) ?_
      try simp only [Act.put, List.setIfInBounds_toArray, List.set_cons_zero, List.set_cons_succ]
      refine wpAnyH_take (i := 6) (oi := { dst := some 23, op := _, type := _, pos := _, after := _, guard := _ }) (v := .pointer (some ⟨b2, k * 4, none⟩)) rfl (by kernel_rfl) (by kernel_rfl) (by kernel_rfl) (fun _ _ _ h => h) (Or.inl ⟨by rfl, by intro w hSw; clear hSw; go_simp; (try with_reducible rfl)⟩) (by assumption) ?_
      try simp only [Act.put, List.setIfInBounds_toArray, List.set_cons_zero, List.set_cons_succ]
      refine wpAnyH_take (i := 7) (oi := { dst := some 24, op := _, type := _, pos := _, after := _, guard := _ }) (v := .agg (mk 4 fun j => h (k * 4 + j))) rfl (by kernel_rfl) (by kernel_rfl) (by kernel_rfl) (fun _ _ _ h => h) (Or.inl ⟨by rfl, fun _ q => execAT q.2 (by omega) rfl rfl⟩) (by assumption) ?_
      try simp only [Act.put, List.setIfInBounds_toArray, List.set_cons_zero, List.set_cons_succ]
      refine wpAnyH_take (i := 8) (oi := { dst := some 25, op := _, type := _, pos := _, after := _, guard := _ }) (v := .bool false) rfl (by kernel_rfl) (by kernel_rfl) (by kernel_rfl) (fun _ _ _ h => h) (Or.inl ⟨by rfl, fun W _ => execNT (f := fun j => h (k * 4 + j)) rfl rfl rfl⟩) (by assumption) ?_
      try simp only [Act.put, List.setIfInBounds_toArray, List.set_cons_zero, List.set_cons_succ]
      refine wpAnyH_done (by kernel_rfl) ?_ _
      clear hHeld
      replace k1 := k1.drew
      replace k2 := k2.drew
      replace HB : Hid (Below w.heap.size w wr.drew) := HB.out.drew
      generalize wr.drew = x9 at *
      go_wp2_with fail
      go_roundg gk2
      case rel => exact ⟨k + 1, by omega, by go_num, k1, k2, HB⟩
      case measure => omega
end Go.Proofs.Ytknjmkapabjolaa
