/-
  Maps whose keys are boards and whose elements are numbers: each board of a list holds its place. Nothing is proved here of the program's functions.
-/
import Derived.Test.YtknjmkapabjolaaMapKit
namespace Go.Proofs.Ytknjmkapabjolaa
open Go.RowKit Plain
open Go.Maps (Keyed)
set_option linter.unusedVariables false

/-- The place of a list among others, 0 if it is not there. -/
def ixS (S : List (List Int)) (x : List Int) : Int := if x ∈ S then ((S.idxOf x : Nat) : Int) else 0
theorem ixS_snoc {S : List (List Int)} {l x : List Int} (hl : l ∉ S) : ixS (S ++ [l]) x = if x = l then (S.length : Int) else ixS S x := by
  unfold ixS
  by_cases e : x = l
  · subst e
    rw [if_pos rfl, if_pos (by simp), List.idxOf_append]
    simp [hl]
  · rw [if_neg e]
    by_cases hx : x ∈ S
    · rw [if_pos hx, if_pos (by simp [hx]), List.idxOf_append]; simp [hx]
    · rw [if_neg hx, if_neg (by simp [hx, e])]
section
variable {P : Program} {k e t : TypeId} {b n m : Nat} {w w' : World} {S : List (List Int)} {f : Nat → Int}
/-- The block b is a map of at most n entries: what it has are the lists of S, each m numbers long, each with its place. -/
def Nums (P : Program) (k e : TypeId) (m : Nat) (w : World) (b n : Nat) (S : List (List Int)) : Prop :=
  ∃ D : DataW Unit, w.ownsMap P k (plainElem P e) b n D ∧ Maps.size D = S.length ∧
    ∀ f kl, keyOf P k (.agg (mk m f)) = some kl → Maps.has D kl = decide (cl m f ∈ S) ∧ D.atKey kl (.lit (.int .i64 0)) = .lit (.int .i64 (ixS S (cl m f)))
theorem Nums.made (w : World) (P : Program) (k e : TypeId) (m : Nat) : Nums P k e m (w.alloc (.map #[] 0)) w.heap.size 0 [] :=
  ⟨.map [], World.ownsMap_made _ _ _ _, rfl, fun f kl _ => ⟨by simp [Maps.has], by simp [DataW.atKey, ixS]⟩⟩
theorem Nums.kept {row : Option Nat} (h : Nums P k e m w b n S) (hg : w.grownBy w' row) (hne : some b ≠ row) : Nums P k e m w' b n S := by
  obtain ⟨D, h1, h2⟩ := h; exact ⟨D, h1.kept hg hne, h2⟩
theorem Nums.lt (h : Nums P k e m w b n S) : b < w.heap.size := by obtain ⟨D, h1, _⟩ := h; exact h1.lt
theorem Nums.below {B : Nat} (h : Nums P k e m w b n S) (hb : Below B w w') (hB : b < B) : Nums P k e m w' b n S := by
  obtain ⟨D, ⟨es, clock, hh, r⟩, h2⟩ := h
  exact ⟨D, ⟨es, clock, (hb.block b hB).trans hh, r⟩, h2⟩
theorem Nums.alloc (h : Nums P k e m w b n S) (o : Obj) : Nums P k e m (w.alloc o) b n S := by obtain ⟨D, h1, h2⟩ := h; exact ⟨D, h1.alloc o, h2⟩
theorem Nums.look (h : Nums P k e m w b n S) (K : Keyed P k) (ht : P.underlying t = some (.map k e)) (he : P.underlying e = some (.int .i64)) (hz : (zeroValue e).run P w = .ok (.int .i64 0) w)
    (hkey : ∃ kl, keyOf P k (.agg (mk m f)) = some kl) : (Instr.lookup t (.map (some b)) (.agg (mk m f)) true).run P w = .ok (.tuple #[.int .i64 (ixS S (cl m f)), .bool (decide (cl m f ∈ S))]) w := by
  obtain ⟨D, h1, _, h3⟩ := h
  obtain ⟨kl, hkl⟩ := hkey
  obtain ⟨v, ps, hrun, hv⟩ := h1.look_ok K ht hz (plainElem_int he (by decide)) hkl
  obtain ⟨c, rfl, hc, _⟩ := plainElem_int_inv he hv
  rw [(h3 f kl hkl).2] at hc
  simp only [Prod.mk.injEq, DataW.lit.injEq, Lit.int.injEq, true_and] at hc
  rw [hrun, (h3 f kl hkl).1, hc.1]
theorem Nums.put (h : Nums P k e m w b n S) (K : Keyed P k) (ht : P.underlying t = some (.map k e)) (he : P.underlying e = some (.int .i64)) (hn : n < maxLen) (hS : cl m f ∉ S) (hl : (Lit.int .i64 (S.length : Int)).wf = true)
    (hkey : ∃ kl, keyOf P k (.agg (mk m f)) = some kl) : ∃ w', (Instr.mapUpdate t (.map (some b)) (.agg (mk m f)) (.int .i64 (S.length : Int))).run P w = .ok () w' ∧ Nums P k e m w' b (n + 1) (S ++ [cl m f]) ∧ w.grownBy w' (some b) := by
  obtain ⟨D, h1, h2, h3⟩ := h
  obtain ⟨kl, hkl⟩ := hkey
  obtain ⟨w', hrun, ho, hg⟩ := h1.update K ht hn hkl (plainElem_int he hl)
  refine ⟨w', hrun, ⟨_, ho, ?_, ?_⟩, hg⟩
  · rw [Maps.size_put (h1.tidy K), (h3 f kl hkl).1, h2]
    simp [hS]
  · intro g gl hgl
    by_cases e : gl = kl
    · subst e
      have hag := K.inj hgl hkl
      simp only [Value.agg.injEq] at hag
      have hcl : cl m g = cl m f := cl_inj.2 (mk_inj hag)
      rw [hcl, ixS_snoc hS, if_pos rfl, Maps.has_put_same h1.isMap (K.key hkl), Maps.atKey_put_same h1.isMap (K.key hkl)]
      exact ⟨by simp, rfl⟩
    · have hcl : cl m g ≠ cl m f := fun q => by
        have : mk m g = mk m f := mk_congr (cl_inj.1 q)
        rw [this, hkl] at hgl; cases hgl; exact e rfl
      rw [ixS_snoc hS, if_neg hcl, Maps.has_put_other e, Maps.atKey_put_other e]
      obtain ⟨q1, q2⟩ := h3 g gl hgl
      exact ⟨by rw [q1]; simp [hcl], q2⟩
theorem Nums.len (h : Nums P k e m w b n S) (ht : P.underlying t = some (.map k e)) (ty : TypeId) : (Builtin.len_ #[t] ty #[.map (some b)]).run P w = .ok (.int .i64 S.length) w := by
  obtain ⟨D, h1, h2, _⟩ := h
  rw [h1.len ht, h2]
end
/-- 'v, ok := m[k]' at the operation. -/
theorem wpList_look_num {P : Program} (w : World) {ops : Array Oper} {rest : List Oper} {o : Oper} {a : Act} {Q : Exit → Act → World → Prop}
    (hg : o.guard = none) (m x : Operand) (t : TypeId) (hop : o.op = Op.lookup t m x true) (k e : TypeId) (K : Keyed P k) (ht : P.underlying t = some (.map k e)) (he : P.underlying e = some (.int .i64))
    (hz : (zeroValue e).run P w = .ok (.int .i64 0) w) (b n c : Nat) (S : List (List Int)) (f : Nat → Int) (hm : a.eval m = .map (some b)) (hs : Nums P k e c w b n S) (hx : a.eval x = .agg (mk c f))
    (hkey : ∃ kl, keyOf P k (.agg (mk c f)) = some kl) (hK : wpList P ops Q rest (a.put o.dst (.tuple #[.int .i64 (ixS S (cl c f)), .bool (decide (cl c f ∈ S))])) w) : wpList P ops Q (o :: rest) a w := by
  refine wpList_plain hg fun K' hK' => ?_
  have hrun := hs.look K ht he hz hkey
  unfold Oper.wp
  simp [execOp, hop, hm, hx, hrun, Result.andThen]
  exact hK' _ _ hK
/-- 'm[k] = len(m)' at the operation. -/
theorem wpList_put_num {P : Program} (w : World) {ops : Array Oper} {rest : List Oper} {o : Oper} {a : Act} {Q : Exit → Act → World → Prop}
    (hg : o.guard = none) (m x v : Operand) (t : TypeId) (hop : o.op = Op.mapUpdate t m x v) (k e : TypeId) (K : Keyed P k) (ht : P.underlying t = some (.map k e)) (he : P.underlying e = some (.int .i64))
    (b n c : Nat) (S : List (List Int)) (f : Nat → Int) (hm : a.eval m = .map (some b)) (hs : Nums P k e c w b n S) (hn : n < maxLen) (hS : cl c f ∉ S) (hl : (Lit.int .i64 (S.length : Int)).wf = true) (hx : a.eval x = .agg (mk c f)) (hv : a.eval v = .int .i64 (S.length : Int))
    (hkey : ∃ kl, keyOf P k (.agg (mk c f)) = some kl) (hK : ∀ w', Nums P k e c w' b (n + 1) (S ++ [cl c f]) → w.grownBy w' (some b) → wpList P ops Q rest (a.put o.dst undef) w') : wpList P ops Q (o :: rest) a w := by
  refine wpList_plain hg fun K' hK' => ?_
  obtain ⟨w', hrun, r1, r2⟩ := hs.put K ht he hn hS hl hkey
  unfold Oper.wp
  simp [execOp, hop, hm, hx, hv, hrun, Result.andThen]
  exact hK' _ _ (hK w' r1 r2)
/-- An entry of a map's literal. -/
theorem wpList_ins_num {P : Program} (w : World) {ops : Array Oper} {rest : List Oper} {o : Oper} {a : Act} {Q : Exit → Act → World → Prop}
    (hg : o.guard = none) (m x v : Operand) (t : TypeId) (hop : o.op = Op.insert t m x v) (k e : TypeId) (K : Keyed P k) (ht : P.underlying t = some (.map k e)) (he : P.underlying e = some (.int .i64))
    (b n c : Nat) (S : List (List Int)) (f : Nat → Int) (hm : a.eval m = .map (some b)) (hs : Nums P k e c w b n S) (hn : n < maxLen) (hS : cl c f ∉ S) (hl : (Lit.int .i64 (S.length : Int)).wf = true) (hx : a.eval x = .agg (mk c f)) (hv : a.eval v = .int .i64 (S.length : Int))
    (hkey : ∃ kl, keyOf P k (.agg (mk c f)) = some kl) (hK : ∀ w', Nums P k e c w' b (n + 1) (S ++ [cl c f]) → w.grownBy w' (some b) → wpList P ops Q rest (a.put o.dst undef) w') : wpList P ops Q (o :: rest) a w := by
  refine wpList_plain hg fun K' hK' => ?_
  obtain ⟨w', hrun, r1, r2⟩ := hs.put K ht he hn hS hl hkey
  unfold Oper.wp
  simp [execOp, hop, hm, hx, hv, hrun, Result.andThen]
  exact hK' _ _ (hK w' r1 r2)
end Go.Proofs.Ytknjmkapabjolaa
