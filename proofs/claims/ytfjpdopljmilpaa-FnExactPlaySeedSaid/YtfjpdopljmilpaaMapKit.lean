/-
  Maps whose keys are boards, or rows of four: what the program keeps there, as a list of their numbers. Nothing is proved here of the program's functions.
-/
import Derived.Test.YtfjpdopljmilpaaBaseA
import Derived.Test.YtfjpdopljmilpaaPlainA
import Derived.Test.YtfjpdopljmilpaaClosed
import Derived.Maps.OwnSet
import Derived.DeepKeys4
namespace Go.Proofs.Ytfjpdopljmilpaa
open Go.RowKit Plain
open Go.Maps (Keyed)

/-- An element that reads as a truth value is one. -/
theorem plainElem_bool_inv {H : Type} {P : Program} {e : TypeId} (he : P.underlying e = some .bool) {v : Value} {z : DataW H × List MemPlace} (h : plainElem P e v = some z) : ∃ b, v = .bool b ∧ z = (.lit (.bool b), []) := by
  unfold plainElem at h
  rw [he] at h
  cases v <;> simp at h
  exact ⟨_, rfl, h.symm⟩

/-- The numbers, each one of a cell. -/
def Wf (n : Nat) (f : Nat → Int) : Prop := ∀ i, i < n → (Lit.int .i64 (f i)).wf = true

section
variable {P : Program} {d n m : Nat} {t e g : TypeId} {f : Nat → Int}
theorem keyLits_int (he : P.underlying e = some (.int .i64)) {z : Int} (hz : (Lit.int .i64 z).wf = true) : P.keyLits (d + 1) e [.int .i64 z] = some [.int .i64 z] := by
  simp [Program.keyLits, he, hz]
theorem mapM_some {α β : Type} {F : α → Option β} : ∀ {L : List α}, (∀ x ∈ L, ∃ y, F x = some y) → ∃ ys, L.mapM F = some ys
  | [], _ => ⟨[], rfl⟩
  | x :: L, h => by
    obtain ⟨y, hy⟩ := h x (by simp)
    obtain ⟨ys, hys⟩ := mapM_some (L := L) fun z hz => h z (by simp [hz])
    exact ⟨y :: ys, by rw [List.mapM_cons, hy, hys]; rfl⟩
theorem take_mk {N o : Nat} (h : o + m ≤ N) : ((mk N f).toList.drop o).take m = (mk m fun i => f (o + i)).toList := by
  refine List.ext_getElem? fun i => ?_
  rw [List.getElem?_take, List.getElem?_drop]
  by_cases hi : i < m
  · have h1 : (mk N f).toList[o + i]? = some (.int .i64 (f (o + i))) := by rw [Array.getElem?_toList]; exact mk_get f (by omega)
    have h2 : (mk m fun i => f (o + i)).toList[i]? = some (.int .i64 (f (o + i))) := by rw [Array.getElem?_toList]; exact mk_get (fun i => f (o + i)) hi
    rw [if_pos hi, h1, h2]
  · have h2 : (mk m fun i => f (o + i)).toList[i]? = none := by rw [Array.getElem?_toList]; exact mk_out _ (by omega)
    rw [if_neg hi, h2]
theorem keyLits_row (ht : P.underlying t = some (.array n e)) (he : P.underlying e = some (.int .i64)) (ct : P.cellsOf t = n) (ce : P.cellsOf e = 1) (hf : Wf n f) : ∃ ls, P.keyLits (d + 2) t (mk n f).toList = some ls := by
  obtain ⟨ys, hys⟩ := mapM_some (F := fun i => P.keyLits (d + 1) e (((mk n f).toList.drop (i * P.cellsOf e)).take (P.cellsOf e))) (L := List.range n) fun i hi => by
    have hi : i < n := List.mem_range.1 hi
    refine ⟨[.int .i64 (f i)], ?_⟩
    rw [ce, Nat.mul_one, take_mk (by omega)]
    exact keyLits_int he (hf i hi)
  refine ⟨ys.flatten, ?_⟩
  unfold Program.keyLits
  simp only [ht]
  rw [if_pos (by rw [mk_len, ct]), hys]
  rfl
theorem keyLits_rows (ht : P.underlying t = some (.array n g)) (hg : P.underlying g = some (.array m e)) (he : P.underlying e = some (.int .i64)) (ct : P.cellsOf t = n * m) (cg : P.cellsOf g = m) (ce : P.cellsOf e = 1)
    (hf : Wf (n * m) f) : ∃ ls, P.keyLits (d + 3) t (mk (n * m) f).toList = some ls := by
  obtain ⟨ys, hys⟩ := mapM_some (F := fun i => P.keyLits (d + 2) g (((mk (n * m) f).toList.drop (i * P.cellsOf g)).take (P.cellsOf g))) (L := List.range n) fun i hi => by
    have hi : i < n := List.mem_range.1 hi
    have hm : i * m + m ≤ n * m := by
      have := Nat.mul_le_mul_right m (show i + 1 ≤ n from hi); rwa [Nat.add_mul, Nat.one_mul] at this
    rw [cg, take_mk hm]
    exact keyLits_row hg he cg ce fun c hc => hf _ (by omega)
  refine ⟨ys.flatten, ?_⟩
  unfold Program.keyLits
  simp only [ht]
  rw [if_pos (by rw [mk_len, ct]), hys]
  rfl
end
theorem keyLits_struct {P : Program} {d n : Nat} {t g : TypeId} {f : Nat → Int} {f0 : Field} (ht : P.underlying t = some (.struct #[f0])) (ho : f0.offset = 0) (hg : f0.type = g) (hn : f0.name ≠ "_") (ct : P.cellsOf t = n) (cg : P.cellsOf g = n)
    (h : ∃ ls, P.keyLits d g (mk n f).toList = some ls) : ∃ ls, P.keyLits (d + 1) t (mk n f).toList = some ls := by
  obtain ⟨ls, hl⟩ := h
  refine ⟨ls, ?_⟩
  unfold Program.keyLits
  simp only [ht]
  have e1 : List.take (P.cellsOf g) (List.drop f0.offset (mk n f).toList) = (mk n f).toList := by
    rw [ho, cg, List.drop_zero, List.take_of_length_le (by rw [mk_len]; exact Nat.le_refl _)]
  rw [if_pos ⟨by rw [mk_len, ct], by simpa using hn⟩]
  simp only [List.mapM_cons, List.mapM_nil, hg, e1, hl]
  simp
theorem key_struct {P : Program} {n : Nat} {t : TypeId} {f : Nat → Int} {fs : Array Field} (ht : P.underlying t = some (.struct fs)) (hk : P.keyType t = true) (ct : P.cellsOf t = n)
    (h : ∃ ls, P.keyLits (P.types.size + 1) t (mk n f).toList = some ls) : ∃ kl, keyOf P t (.agg (mk n f)) = some kl := by
  obtain ⟨ls, hl⟩ := h
  refine ⟨.string (keyBytes ls), ?_⟩
  have hf : (Value.agg (mk n f)).formed P t = true := by simp [Value.formed, ht, mk_size, ct]
  have hc : (Value.agg (mk n f)).cells.toList = (mk n f).toList := rfl
  unfold keyOf
  simp only [ht]
  rw [if_pos (by rw [hk, hf]; rfl), hc, hl]
  rfl
theorem key_array {P : Program} {n a : Nat} {t e : TypeId} {f : Nat → Int} (ht : P.underlying t = some (.array a e)) (hk : P.keyType t = true) (ct : P.cellsOf t = n)
    (h : ∃ ls, P.keyLits (P.types.size + 1) t (mk n f).toList = some ls) : ∃ kl, keyOf P t (.agg (mk n f)) = some kl := by
  obtain ⟨ls, hl⟩ := h
  refine ⟨.string (keyBytes ls), ?_⟩
  have hf : (Value.agg (mk n f)).formed P t = true := by simp [Value.formed, ht, mk_size, ct]
  have hc : (Value.agg (mk n f)).cells.toList = (mk n f).toList := rfl
  unfold keyOf
  simp only [ht]
  rw [if_pos (by rw [hk, hf]; rfl), hc, hl]
  rfl
theorem many_types : ∃ d, Try.prog.types.size + 1 = d + 4 := by
  have h : decide (3 ≤ Try.prog.types.size) = true := by kernel_rfl
  have h2 := of_decide_eq_true h
  exact ⟨Try.prog.types.size - 3, by omega⟩
theorem keyR {f : Nat → Int} (hf : Wf 4 f) : ∃ kl, keyOf Try.prog 22 (.agg (mk 4 f)) = some kl := by
  obtain ⟨d, hd⟩ := many_types
  refine key_array Try.underlying22 (by kernel_rfl) (by kernel_rfl) ?_
  rw [hd]
  exact keyLits_row (d := d + 2) Try.underlying22 Try.underlying3 (by kernel_rfl) (by kernel_rfl) hf
theorem keyedR : Keyed Try.prog 22 := Keyed.of_law (deep_law_laid laidOut (m := 5) (by decide) (of_decide_eq_true (by kernel_rfl)) (by kernel_rfl) (by kernel_rfl))

/-- One more, if it is not there. -/
def addS (S : List (List Int)) (l : List Int) : List (List Int) := if l ∈ S then S else S ++ [l]
theorem addS_mem (S : List (List Int)) (l x : List Int) : x ∈ addS S l ↔ x ∈ S ∨ x = l := by
  unfold addS; split
  · constructor
    · exact Or.inl
    · rintro (h | rfl)
      · exact h
      · assumption
  · simp
theorem addS_nodup {S : List (List Int)} (h : S.Nodup) (l : List Int) : (addS S l).Nodup := by
  unfold addS; split
  · exact h
  · rename_i hn
    rw [List.nodup_append]
    exact ⟨h, by simp, fun a ha b hb => by
      obtain rfl : b = l := by simpa using hb
      intro e; subst e; exact hn ha⟩

section
variable {P : Program} {k e t : TypeId} {b n m : Nat} {w w' : World} {S : List (List Int)} {f : Nat → Int}
/-- The block b is a map of at most n entries: what it has are the lists of S, each m numbers long, each with true. -/
def Seen (P : Program) (k e : TypeId) (m : Nat) (w : World) (b n : Nat) (S : List (List Int)) : Prop :=
  ∃ D : DataW Unit, w.ownsMap P k (plainElem P e) b n D ∧ Maps.size D = S.length ∧
    ∀ f kl, keyOf P k (.agg (mk m f)) = some kl → Maps.has D kl = decide (cl m f ∈ S) ∧ D.atKey kl (.lit (.bool false)) = .lit (.bool (decide (cl m f ∈ S)))
theorem Seen.made (w : World) (P : Program) (k e : TypeId) (m : Nat) : Seen P k e m (w.alloc (.map #[] 0)) w.heap.size 0 [] :=
  ⟨.map [], World.ownsMap_made _ _ _ _, rfl, fun f kl _ => ⟨by simp [Maps.has], by simp [DataW.atKey]⟩⟩
theorem Seen.kept {row : Option Nat} (h : Seen P k e m w b n S) (hg : w.grownBy w' row) (hne : some b ≠ row) : Seen P k e m w' b n S := by
  obtain ⟨D, h1, h2⟩ := h; exact ⟨D, h1.kept hg hne, h2⟩
theorem Seen.lt (h : Seen P k e m w b n S) : b < w.heap.size := by obtain ⟨D, h1, _⟩ := h; exact h1.lt
theorem Seen.below {B : Nat} (h : Seen P k e m w b n S) (hb : Below B w w') (hB : b < B) : Seen P k e m w' b n S := by
  obtain ⟨D, ⟨es, clock, hh, r⟩, h2⟩ := h
  exact ⟨D, ⟨es, clock, (hb.block b hB).trans hh, r⟩, h2⟩
theorem Seen.alloc (h : Seen P k e m w b n S) (o : Obj) : Seen P k e m (w.alloc o) b n S := by obtain ⟨D, h1, h2⟩ := h; exact ⟨D, h1.alloc o, h2⟩
theorem Seen.drew (h : Seen P k e m w b n S) : Seen P k e m w.drew b n S := h
theorem Seen.size_le (h : Seen P k e m w b n S) : S.length ≤ n := by obtain ⟨D, h1, h2, _⟩ := h; rw [← h2]; exact h1.size_le
theorem Seen.look (h : Seen P k e m w b n S) (K : Keyed P k) (ht : P.underlying t = some (.map k e)) (he : P.underlying e = some .bool) (hz : (zeroValue e).run P w = .ok (.bool false) w)
    (hkey : ∃ kl, keyOf P k (.agg (mk m f)) = some kl) : (Instr.lookup t (.map (some b)) (.agg (mk m f)) false).run P w = .ok (.bool (decide (cl m f ∈ S))) w := by
  obtain ⟨D, h1, _, h3⟩ := h
  obtain ⟨kl, hkl⟩ := hkey
  obtain ⟨v, ps, hrun, hv⟩ := h1.lookup K ht hz (plainElem_bool he false) hkl
  obtain ⟨c, rfl, hc⟩ := plainElem_bool_inv he hv
  rw [hrun]
  rw [(h3 f kl hkl).2] at hc
  simp only [Prod.mk.injEq, DataW.lit.injEq, Lit.bool.injEq] at hc
  rw [hc.1]
theorem Seen.put (h : Seen P k e m w b n S) (K : Keyed P k) (ht : P.underlying t = some (.map k e)) (he : P.underlying e = some .bool) (hn : n < maxLen)
    (hkey : ∃ kl, keyOf P k (.agg (mk m f)) = some kl) : ∃ w', (Instr.mapUpdate t (.map (some b)) (.agg (mk m f)) (.bool true)).run P w = .ok () w' ∧ Seen P k e m w' b (n + 1) (addS S (cl m f)) ∧ w.grownBy w' (some b) := by
  obtain ⟨D, h1, h2, h3⟩ := h
  obtain ⟨kl, hkl⟩ := hkey
  obtain ⟨w', hrun, ho, hg⟩ := h1.update K ht hn hkl (plainElem_bool he true)
  refine ⟨w', hrun, ⟨_, ho, ?_, ?_⟩, hg⟩
  · rw [Maps.size_put (h1.tidy K), (h3 f kl hkl).1, h2]
    unfold addS
    by_cases hm : cl m f ∈ S <;> simp [hm]
  · intro g gl hgl
    have hmem := addS_mem S (cl m f) (cl m g)
    by_cases e : gl = kl
    · subst e
      have hag := K.inj hgl hkl
      simp only [Value.agg.injEq] at hag
      have hcl : cl m g = cl m f := cl_inj.2 (mk_inj hag)
      have : decide (cl m g ∈ addS S (cl m f)) = true := decide_eq_true (hmem.2 (Or.inr hcl))
      rw [this, Maps.has_put_same h1.isMap (K.key hkl), Maps.atKey_put_same h1.isMap (K.key hkl)]
      exact ⟨rfl, rfl⟩
    · have hcl : cl m g ≠ cl m f := fun q => by
        have : mk m g = mk m f := mk_congr (cl_inj.1 q)
        rw [this, hkl] at hgl; cases hgl; exact e rfl
      have : decide (cl m g ∈ addS S (cl m f)) = decide (cl m g ∈ S) := by
        rw [Bool.eq_iff_iff, decide_eq_true_iff, decide_eq_true_iff, hmem]; simp [hcl]
      rw [this, Maps.has_put_other e, Maps.atKey_put_other e]
      exact h3 g gl hgl
theorem Seen.len (h : Seen P k e m w b n S) (ht : P.underlying t = some (.map k e)) (ty : TypeId) : (Builtin.len_ #[t] ty #[.map (some b)]).run P w = .ok (.int .i64 S.length) w := by
  obtain ⟨D, h1, h2, _⟩ := h
  rw [h1.len ht, h2]
end

/-- 'm[k]' at the operation. -/
theorem wpList_look_seen {P : Program} (w : World) {ops : Array Oper} {rest : List Oper} {o : Oper} {a : Act} {Q : Exit → Act → World → Prop}
    (hg : o.guard = none) (m x : Operand) (t : TypeId) (hop : o.op = Op.lookup t m x false) (k e : TypeId) (K : Keyed P k) (ht : P.underlying t = some (.map k e)) (he : P.underlying e = some .bool)
    (hz : (zeroValue e).run P w = .ok (.bool false) w) (b n c : Nat) (S : List (List Int)) (f : Nat → Int) (hm : a.eval m = .map (some b)) (hs : Seen P k e c w b n S) (hx : a.eval x = .agg (mk c f))
    (hkey : ∃ kl, keyOf P k (.agg (mk c f)) = some kl) (hK : wpList P ops Q rest (a.put o.dst (.bool (decide (cl c f ∈ S)))) w) : wpList P ops Q (o :: rest) a w := by
  refine wpList_plain hg fun K' hK' => ?_
  have hrun := hs.look K ht he hz hkey
  unfold Oper.wp
  simp [execOp, hop, hm, hx, hrun, Result.andThen]
  exact hK' _ _ hK
/-- 'm[k] = true' at the operation. -/
theorem wpList_put_seen {P : Program} (w : World) {ops : Array Oper} {rest : List Oper} {o : Oper} {a : Act} {Q : Exit → Act → World → Prop}
    (hg : o.guard = none) (m x v : Operand) (t : TypeId) (hop : o.op = Op.mapUpdate t m x v) (k e : TypeId) (K : Keyed P k) (ht : P.underlying t = some (.map k e)) (he : P.underlying e = some .bool)
    (b n c : Nat) (S : List (List Int)) (f : Nat → Int) (hm : a.eval m = .map (some b)) (hs : Seen P k e c w b n S) (hn : n < maxLen) (hx : a.eval x = .agg (mk c f)) (hv : a.eval v = .bool true)
    (hkey : ∃ kl, keyOf P k (.agg (mk c f)) = some kl) (hK : ∀ w', Seen P k e c w' b (n + 1) (addS S (cl c f)) → w.grownBy w' (some b) → wpList P ops Q rest (a.put o.dst undef) w') : wpList P ops Q (o :: rest) a w := by
  refine wpList_plain hg fun K' hK' => ?_
  obtain ⟨w', hrun, r1, r2⟩ := hs.put K ht he hn hkey
  unfold Oper.wp
  simp [execOp, hop, hm, hx, hv, hrun, Result.andThen]
  exact hK' _ _ (hK w' r1 r2)
end Go.Proofs.Ytfjpdopljmilpaa
