/-
  Two steps are compared with == and !=.
-/
import Derived.Test.YtfjpdopljmilpaaStepMem
import Derived.Test.YtfjpdopljmilpaaBaseA
namespace Go.Proofs.Ytfjpdopljmilpaa
open Go.RowKit Plain
set_option linter.unusedSimpArgs false
theorem part_at {P : Program} {e : TypeId} {m n o : Nat} {d : TypeDesc} (he : P.underlying e = some d) (hd : d.isRow = true)
    (hi : (P.info? e).map (·.size) = some m) (f : Nat → Int) (hn : o + m ≤ n) (w : World) :
    (part e (mk n f) o).run P w = .ok (.agg (mk m (fun c => f (o + c)))) w := by
  have hagg : (isAgg e).run P w = .ok true w := by
    unfold isAgg
    rw [Sem.run_bind, run_underlying he w]
    cases d <;> simp_all
  cases hq : P.info? e with
  | none => simp [hq] at hi
  | some i =>
    have hs : i.size = m := by simpa [hq] using hi
    simp [part, hagg, sizeOf, typeInfo, hq, hs, mk_extract f o m hn]
theorem part_one {P : Program} {e : TypeId} {n o : Nat} (he : P.underlying e = some (.int .i64)) (f : Nat → Int) (hk : o < n) (w : World) :
    (part e (mk n f) o).run P w = .ok (.int .i64 (f o)) w := by
  have hagg : (isAgg e).run P w = .ok false w := by
    unfold isAgg
    rw [Sem.run_bind, run_underlying he w]
    simp
  simp [part, hagg, mk_get f hk]
def sameC2 (f g : Nat → Int) : Bool := (List.range 2).all fun c => f c == g c
theorem eqC2t (d : Nat) (f g : Nat → Int) (w : World) : (Op.equalIn (d + 2) 37 (.agg (mk 2 f)) (.agg (mk 2 g))).run Try.prog w = .ok (sameC2 f g) w := by
  cases hq : Try.prog.info? 3 with
  | none => have := size1; simp [hq] at this
  | some i =>
    rw [run_equalIn_array w (d + 1) (mk 2 f) (mk 2 g) Try.underlying37 hq, cells1]
    exact items_all _ _ _ _ _ _ (fun c => .int .i64 (f c)) (fun c => .int .i64 (g c)) (fun c => f c == g c) _ fun c hc => by
      have hc4 : c < 2 := List.mem_range.1 hc
      exact ⟨part_int Try.underlying3 f hc4 w, part_int Try.underlying3 g hc4 w, run_equalIn_int w d _ _ _ _ _ Try.underlying3⟩
def sameT4 (s u : Nat → Int) : Bool := s 0 == u 0 && (sameC2 (fun c => s (1 + c)) (fun c => u (1 + c)) && s 3 == u 3)
theorem sameT4_iff {s u : Nat → Int} : sameT4 s u = true ↔ cl 4 s = cl 4 u := by
  rw [cl_inj]
  unfold sameT4 sameC2
  simp only [Bool.and_eq_true, beq_iff_eq, List.all_eq_true, List.mem_range]
  constructor
  · rintro ⟨a, b, c⟩ i hi
    rcases (by omega : i = 0 ∨ i = 1 ∨ i = 2 ∨ i = 3) with rfl | rfl | rfl | rfl
    · exact a
    · exact b 0 (by omega)
    · exact b 1 (by omega)
    · exact c
  · intro q
    exact ⟨q 0 (by omega), fun c hc => q (1 + c) (by omega), q 3 (by omega)⟩
theorem eqStepV (d : Nat) (s u : Nat → Int) (w : World) : (Op.equalIn (d + 4) 52 (.agg (mk 4 s)) (.agg (mk 4 u))).run Try.prog w = .ok (sameT4 s u) w := by
  rw [run_equalIn_struct w (d + 3) 52 (mk 4 s) (mk 4 u) (by kernel_rfl) (by kernel_rfl)]
  have hp : ∀ h : Nat → Int, (part 37 (mk 4 h) 1).run Try.prog w = .ok (.agg (mk 2 fun c => h (1 + c))) w := fun h => part_at Try.underlying37 rfl sizeC h (by omega) w
  have h0 : ∀ h : Nat → Int, (part 3 (mk 4 h) 0).run Try.prog w = .ok (.int .i64 (h 0)) w := fun h => part_one Try.underlying3 h (by omega) w
  have h3 : ∀ h : Nat → Int, (part 3 (mk 4 h) 3).run Try.prog w = .ok (.int .i64 (h 3)) w := fun h => part_one Try.underlying3 h (by omega) w
  have he : ∀ a b : Int, (Op.equalIn (d + 3) 3 (.int .i64 a) (.int .i64 b)).run Try.prog w = .ok (a == b) w := fun a b => run_equalIn_int w (d + 2) _ _ _ _ _ Try.underlying3
  have hc := fun f g => eqC2t (d + 1) f g w
  have hf : (Try.prog.fieldsOf 52).toList.map (fun f => (f.name, f.type, f.offset)) = [("Direction", 3, 0), ("Cell", 37, 1), ("Tile", 3, 3)] := by kernel_rfl
  generalize (Try.prog.fieldsOf 52).toList = fs at hf
  obtain ⟨a, b, c, rfl⟩ : ∃ a b c, fs = [a, b, c] := by
    have hl : fs.length = 3 := by have := congrArg List.length hf; simpa using this
    match fs, hl with
    | [a, b, c], _ => exact ⟨a, b, c, rfl⟩
  simp only [List.map_cons, List.map_nil, List.cons.injEq, Prod.mk.injEq, and_true] at hf
  obtain ⟨⟨a1, a2, a3⟩, ⟨b1, b2, b3⟩, c1, c2, c3⟩ := hf
  unfold sameT4
  cases hx : (s 0 == u 0) <;> cases hy : sameC2 (fun c => s (1 + c)) (fun c => u (1 + c)) <;> cases hz : (s 3 == u 3) <;> simp [Op.eqFields, a1, a2, a3, b1, b2, b3, c1, c2, c3, h0, hp, h3, he, hc, hx, hy, hz]
end Go.Proofs.Ytfjpdopljmilpaa
