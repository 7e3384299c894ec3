/-
  Two boards are compared: what the comparison of arrays of arrays of integers, and of structs that hold one, answers.
-/
import Derived.Test.YtpiegllffkjneaaTypes
import Derived.Test.YtpiegllffkjneaaEqPlain
import Derived.ChangeKeysEq
namespace Go.Proofs.Ytpiegllffkjneaa
open Go.RowKit Plain

theorem items_all {P : Program} (d : Nat) (e : TypeId) (c : Nat) (xs ys : Array Value) (w : World) (a b : Nat → Value) (r : Nat → Bool) : ∀ is : List Nat,
    (∀ i ∈ is, (part e xs (i * c)).run P w = .ok (a i) w ∧ (part e ys (i * c)).run P w = .ok (b i) w ∧ (Op.equalIn d e (a i) (b i)).run P w = .ok (r i) w) →
    (Op.eqItems d e c xs ys is).run P w = .ok (is.all r) w
  | [], _ => by simp [Op.eqItems]
  | i :: is, h => by
    obtain ⟨h1, h2, h3⟩ := h i (by simp)
    have ih := items_all d e c xs ys w a b r is (fun j hj => h j (by simp [hj]))
    simp only [Op.eqItems, Sem.run_bind, h1, h2, h3, Result.andThen_ok]
    cases hr : r i <;> simp [hr, ih]
theorem part_int {P : Program} {e : TypeId} {n k : Nat} (he : P.underlying e = some (.int .i64)) (f : Nat → Int) (hk : k < n) (w : World) :
    (part e (mk n f) (k * 1)).run P w = .ok (.int .i64 (f k)) w := by
  have hagg : (isAgg e).run P w = .ok false w := by
    unfold isAgg
    rw [Sem.run_bind, run_underlying he w]
    simp
  simp [part, hagg, mk_get f hk]
theorem part_row {P : Program} {e : TypeId} {m n k : Nat} {d : TypeDesc} (he : P.underlying e = some d) (hd : d.isRow = true)
    (hi : (P.info? e).map (·.size) = some m) (f : Nat → Int) (hn : k * m + m ≤ n) (w : World) :
    (part e (mk n f) (k * m)).run P w = .ok (.agg (mk m (fun c => f (k * m + c)))) w := by
  have hagg : (isAgg e).run P w = .ok true w := by
    unfold isAgg
    rw [Sem.run_bind, run_underlying he w]
    cases d <;> simp_all
  cases hq : P.info? e with
  | none => simp [hq] at hi
  | some i =>
    have hs : i.size = m := by simpa [hq] using hi
    simp [part, hagg, sizeOf, typeInfo, hq, hs, mk_extract f (k * m) m hn]
theorem cells1 : Try.prog.cellsOf 3 = 1 := by kernel_rfl
theorem cellsR : Try.prog.cellsOf 24 = 4 := by kernel_rfl
theorem eqR (d : Nat) (f g : Nat → Int) (w : World) : (Op.equalIn (d + 2) 24 (.agg (mk 4 f)) (.agg (mk 4 g))).run Try.prog w = .ok (sameR f g) w := by
  cases hq : Try.prog.info? 3 with
  | none => have := size1; simp [hq] at this
  | some i =>
    rw [run_equalIn_array w (d + 1) (mk 4 f) (mk 4 g) Try.underlying24 hq, cells1]
    exact items_all _ _ _ _ _ _ (fun c => .int .i64 (f c)) (fun c => .int .i64 (g c)) (fun c => f c == g c) _ fun c hc => by
      have hc4 : c < 4 := List.mem_range.1 hc
      exact ⟨part_int Try.underlying3 f hc4 w, part_int Try.underlying3 g hc4 w, run_equalIn_int w d _ _ _ _ _ Try.underlying3⟩
theorem eqG (d : Nat) (f g : Nat → Int) (w : World) : (Op.equalIn (d + 3) 25 (.agg (mk 16 f)) (.agg (mk 16 g))).run Try.prog w = .ok (sameB f g) w := by
  cases hq : Try.prog.info? 24 with
  | none => have := sizeR; simp [hq] at this
  | some i =>
    rw [run_equalIn_array w (d + 2) (mk 16 f) (mk 16 g) Try.underlying25 hq, cellsR]
    exact items_all _ _ _ _ _ _ (fun r => .agg (mk 4 fun c => f (r * 4 + c))) (fun r => .agg (mk 4 fun c => g (r * 4 + c))) (fun r => sameR (fun c => f (r * 4 + c)) (fun c => g (r * 4 + c))) _ fun r hr => by
      have hr4 : r < 4 := List.mem_range.1 hr
      exact ⟨part_row Try.underlying24 rfl sizeR f (by omega) w, part_row Try.underlying24 rfl sizeR g (by omega) w, eqR d _ _ w⟩
theorem eqB (d : Nat) (f g : Nat → Int) (w : World) : (Op.equalIn (d + 4) 27 (.agg (mk 16 f)) (.agg (mk 16 g))).run Try.prog w = .ok (sameB f g) w := by
  rw [run_equalIn_struct w (d + 3) 27 (mk 16 f) (mk 16 g) (by kernel_rfl) (by kernel_rfl)]
  have hp : ∀ h : Nat → Int, (part 25 (mk 16 h) 0).run Try.prog w = .ok (.agg (mk 16 h)) w := fun h => by
    have := part_row (P := Try.prog) (m := 16) (n := 16) (k := 0) Try.underlying25 rfl sizeG h (by omega) w
    simp only [Nat.zero_mul, Nat.zero_add] at this
    exact this
  have hf : (Try.prog.fieldsOf 27).toList.map (fun f => (f.name, f.type, f.offset)) = [("Rows", 25, 0)] := by kernel_rfl
  generalize (Try.prog.fieldsOf 27).toList = fs at hf
  cases fs with
  | nil => simp at hf
  | cons q qs =>
    cases qs with
    | cons q2 qs => simp at hf
    | nil =>
      simp only [List.map_cons, List.map_nil, List.cons.injEq, Prod.mk.injEq, and_true] at hf
      obtain ⟨h1, h2, h3⟩ := hf
      cases hs : sameB f g <;> simp [Op.eqFields, h1, h2, h3, hp, eqG, hs]
theorem neqG (f g : Nat → Int) (w : World) : (binOp .neq 25 (.agg (mk 16 f)) (.agg (mk 16 g))).run Try.prog w = .ok (.bool (!sameB f g)) w := by
  rw [run_neq_struct, eqG]; rfl
theorem neqB (f g : Nat → Int) (w : World) : (binOp .neq 27 (.agg (mk 16 f)) (.agg (mk 16 g))).run Try.prog w = .ok (.bool (!sameB f g)) w := by
  rw [run_neq_struct, eqB]; rfl
theorem neqR (f g : Nat → Int) (w : World) : (binOp .neq 24 (.agg (mk 4 f)) (.agg (mk 4 g))).run Try.prog w = .ok (.bool (!sameR f g)) w := by
  rw [run_neq_struct, eqR]; rfl
end Go.Proofs.Ytpiegllffkjneaa
