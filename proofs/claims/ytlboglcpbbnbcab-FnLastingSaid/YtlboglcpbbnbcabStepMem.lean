/-
  Steps, and boards behind steps, as the program keeps them: read, written, built, and put at the end of rows. Nothing is proved here of the program's functions.
-/
import Derived.Test.YtlboglcpbbnbcabRowsKit
import Derived.Test.YtlboglcpbbnbcabStepPlain
import Derived.Test.YtlboglcpbbnbcabBaseA
namespace Go.Proofs.Ytlboglcpbbnbcab
open Go.RowKit Plain
set_option linter.unusedVariables false
set_option linter.unusedSimpArgs false
theorem execAC {o : Oper} {ev : Operand → Value} {w : World} {b n off : Nat} {f : Nat → Int} {x : Operand} (hg : CAt w b n f) (hm : off + 2 ≤ n) (ho : o.op = .load 61 x) (hx : ev x = .pointer (some ⟨b, off, none⟩)) :
    (execOp ev o).run Try.prog w = .ok (.value (.agg (mk 2 (fun i => f (off + i))))) w := exec_load_at _ x ho hx hg hm Try.underlying61 rfl sizeC
theorem loadAC {ops : Array Oper} {rest : List Oper} {o : Oper} {a : Act} {w : World} {Q : Exit → Act → World → Prop} {x : Operand} {b n off : Nat} {f : Nat → Int} (hg : CAt w b n f) (hm : off + 2 ≤ n)
    (hgd : o.guard = none) (ho : o.op = .load 61 x) (hx : a.eval x = .pointer (some ⟨b, off, none⟩))
    (h : wpList Try.prog ops Q rest (a.put o.dst (.agg (mk 2 (fun i => f (off + i))))) w) : wpList Try.prog ops Q (o :: rest) a w :=
  wpList_load_at hgd _ x ho b n off 2 f _ hx hg hm Try.underlying61 rfl sizeC h
/-- A part of a block is read under a guard that is met. -/
theorem wpList_load_partg {P : Program} {ops : Array Oper} {rest : List Oper} {o : Oper} {a : Act} {w : World} {Q : Exit → Act → World → Prop} (hw : Region.wanted o (yielded ops a.tmps) = true) (ty : TypeId) (x : Operand) (ho : o.op = .load ty x) (b n off m : Nat) (f : Nat → Int) (t : TypeId) (d : TypeDesc)
    (hx : a.eval x = .pointer (some ⟨b, off, none⟩)) (hg : Blk w b n f t) (hm : off + m ≤ n)
    (hu : P.underlying ty = some d) (hd : d.isRow = true) (hi : (P.info? ty).map (·.size) = some m)
    (h : wpList P ops Q rest (a.put o.dst (.agg (mk m (fun i => f (off + i))))) w) : wpList P ops Q (o :: rest) a w :=
  wpList_step fun _ hK => by
    rw [if_pos hw]
    exact wp_load_mid ty x ho b off hx _ d (hg.range off m hm) hu hd (by rw [mk_len]; exact hi) (by rw [Array.toArray_toList]; exact hK _ _ h)
theorem loadPgC {ops : Array Oper} {rest : List Oper} {o : Oper} {a : Act} {w : World} {Q : Exit → Act → World → Prop} {x : Operand} {b n off : Nat} {f : Nat → Int} {t : TypeId}
    (hg : Blk w b n f t) (hm : off + 2 ≤ n) (hw : Region.wanted o (yielded ops a.tmps) = true) (ho : o.op = .load 61 x) (hx : a.eval x = .pointer (some ⟨b, off, none⟩))
    (h : wpList Try.prog ops Q rest (a.put o.dst (.agg (mk 2 (fun i => f (off + i))))) w) : wpList Try.prog ops Q (o :: rest) a w :=
  wpList_load_partg hw _ x ho b n off 2 f t _ hx hg hm Try.underlying61 rfl sizeC h
/-- A step of its parts. -/
def stepF (d : Int) (g : Nat → Int) (t : Int) : Nat → Int := fun j => if j = 0 then d else if j = 1 then g 0 else if j = 2 then g 1 else t
/-- A board behind a step. -/
def nextF (s f : Nat → Int) : Nat → Int := fun j => if j < 4 then s j else f (j - 4)
/-- Two steps, one behind the other. -/
def twoF (s u : Nat → Int) : Nat → Int := fun j => if j < 4 then s j else u (j - 4)
theorem fill_two_at (s u : Nat → Int) (a b c d e f g h : Value) : Instr.fill (fun i => some (i * 4, 4)) #[a, b, c, d, e, f, g, h] [(0, .agg (mk 4 s)), (1, .agg (mk 4 u))] = some (mk 8 (twoF s u)) := by kernel_rfl
theorem fill_two (s u : Nat → Int) (cs : Array Value) (hc : cs.size = 8) : Instr.fill (fun i => some (i * 4, 4)) cs [(0, .agg (mk 4 s)), (1, .agg (mk 4 u))] = some (mk 8 (twoF s u)) := by
  obtain ⟨l⟩ := cs
  have hl : l.length = 8 := by simpa using hc
  match l, hl with
  | [a, b, c, d, e, f, g, h], _ => exact fill_two_at s u a b c d e f g h
theorem wp_allocX {w : World} {o : Oper} {a : Act} {K : Act → World → Prop} {Q : Exit → Act → World → Prop} (ho : o.op = .alloc 29)
    (h : K (a.put o.dst (.pointer (some ⟨w.heap.size, 0, none⟩))) (w.alloc (.cells (mk 16 fun _ => 0) 29))) : o.wp Try.prog a w K Q := by
  have z16 := zero16
  unfold Oper.wp
  go_simp
  exact h
theorem grown_row {w : World} {b n : Nat} {f : Nat → Int} {t : TypeId} (k : Blk w b n f t) (cs : Array Value) : w.grownBy (w.setRow b cs) (some b) := by
  refine ⟨rfl, rfl, rfl, ?_, fun j hj hne => ?_⟩
  · simp [World.setRow]
  · exact setRow_other w b j cs (fun e => hne (by rw [e]))
theorem own_past {t : TypeId} {m b : Nat} {w w' : World} {v : Value} {L : List (List Int)} (h : OwnsL t m w b v L) (hb : Below w.heap.size w w') : OwnsL t m w' b v L := h.below hb
theorem own_slice {w : World} {b size n gg len cap x : Nat} {e : TypeId} {v : Value} {xs : List Value} (h : w.ownsRow b e size v n xs) (hl : v.ownBlock = (Value.slice (some ⟨gg, 0, none⟩) len cap).ownBlock ∨ v.ownBlock = some x) :
    ∃ g c, v = .slice (some ⟨g, 0, none⟩) n c := by
  rcases h.2 with ⟨rfl, _⟩ | ⟨g, c, cur, rfl, _⟩
  · rcases hl with h | h <;> simp [Value.ownBlock] at h
  · exact ⟨g, c, rfl⟩
/-- A row of lists is read at its place. -/
theorem next_at {L : List (List Int)} (ha : AllL 4 L) {k : Nat} {l : List Int} (h : L[k]? = some l) (f : Nat → Int) : doB f (fun j => flatF L (k * 4 + j)) = doB f (fn l) := (do_congr fun i hi => flatF_at ha h hi).1
theorem cl_at {m : Nat} {L : List (List Int)} (ha : AllL m L) {k : Nat} {l : List Int} (h : L[k]? = some l) : cl m (fun j => flatF L (k * m + j)) = l := by
  rw [← cl_fn (ha l (List.mem_of_getElem? h))]
  exact cl_inj.2 fun i hi => flatF_at ha h hi
end Go.Proofs.Ytlboglcpbbnbcab
