/-
  Several texts in one:
  Maps whose keys are boards, or rows of four: what the program keeps there, as a list of their numbers. Nothing is proved here of the program's functions.
  What is needed beside rows and maps that one call owns. Nothing is proved here of the program's functions.
-/
import Derived.Test.YtmcmpedmgibmkabGreatBaseA
import Derived.Test.YtmcmpedmgibmkabGreatPlainA
import Derived.Test.YtmcmpedmgibmkabGreatClosed
import Derived.Maps.OwnSet
import Derived.DeepKeys4
import Derived.Test.YtmcmpedmgibmkabGreatRowsKit
namespace Go.Proofs.YtmcmpedmgibmkabGreat
open Go.RowKit Plain
open Go.Maps (Keyed)

/-- An element that reads as a truth value is one. -/
theorem plainElem_bool_inv {H : Type} {P : Program} {e : TypeId} (he : P.underlying e = some .bool) {v : Value} {z : DataW H × List MemPlace} (h : plainElem P e v = some z) : ∃ b, v = .bool b ∧ z = (.lit (.bool b), []) := by
  unfold plainElem at h
  rw [he] at h
  cases v <;> simp at h
  exact ⟨_, rfl, h.symm⟩

/-- The numbers, each one of a cell. -/
def Wf (n : Nat) (f : Nat → Int) : Prop := ∀ i, i < n → (Lit.int .i64 (f i)).wf = true

section
variable {P : Program} {d n m : Nat} {t e g : TypeId} {f : Nat → Int}
theorem keyLits_int (he : P.underlying e = some (.int .i64)) {z : Int} (hz : (Lit.int .i64 z).wf = true) : P.keyLits (d + 1) e [.int .i64 z] = some [.int .i64 z] := by
  simp [Program.keyLits, he, hz]
theorem mapM_some {α β : Type} {F : α → Option β} : ∀ {L : List α}, (∀ x ∈ L, ∃ y, F x = some y) → ∃ ys, L.mapM F = some ys
  | [], _ => ⟨[], rfl⟩
  | x :: L, h => by
    obtain ⟨y, hy⟩ := h x (by simp)
    obtain ⟨ys, hys⟩ := mapM_some (L := L) fun z hz => h z (by simp [hz])
    exact ⟨y :: ys, by rw [List.mapM_cons, hy, hys]; rfl⟩
theorem take_mk {N o : Nat} (h : o + m ≤ N) : ((mk N f).toList.drop o).take m = (mk m fun i => f (o + i)).toList := by
  refine List.ext_getElem? fun i => ?_
  rw [List.getElem?_take, List.getElem?_drop]
  by_cases hi : i < m
  · have h1 : (mk N f).toList[o + i]? = some (.int .i64 (f (o + i))) := by rw [Array.getElem?_toList]; exact mk_get f (by omega)
    have h2 : (mk m fun i => f (o + i)).toList[i]? = some (.int .i64 (f (o + i))) := by rw [Array.getElem?_toList]; exact mk_get (fun i => f (o + i)) hi
    rw [if_pos hi, h1, h2]
  · have h2 : (mk m fun i => f (o + i)).toList[i]? = none := by rw [Array.getElem?_toList]; exact mk_out _ (by omega)
    rw [if_neg hi, h2]
theorem keyLits_row (ht : P.underlying t = some (.array n e)) (he : P.underlying e = some (.int .i64)) (ct : P.cellsOf t = n) (ce : P.cellsOf e = 1) (hf : Wf n f) : ∃ ls, P.keyLits (d + 2) t (mk n f).toList = some ls := by
  obtain ⟨ys, hys⟩ := mapM_some (F := fun i => P.keyLits (d + 1) e (((mk n f).toList.drop (i * P.cellsOf e)).take (P.cellsOf e))) (L := List.range n) fun i hi => by
    have hi : i < n := List.mem_range.1 hi
    refine ⟨[.int .i64 (f i)], ?_⟩
    rw [ce, Nat.mul_one, take_mk (by omega)]
    exact keyLits_int he (hf i hi)
  refine ⟨ys.flatten, ?_⟩
  unfold Program.keyLits
  simp only [ht]
  rw [if_pos (by rw [mk_len, ct]), hys]
  rfl
theorem keyLits_rows (ht : P.underlying t = some (.array n g)) (hg : P.underlying g = some (.array m e)) (he : P.underlying e = some (.int .i64)) (ct : P.cellsOf t = n * m) (cg : P.cellsOf g = m) (ce : P.cellsOf e = 1)
    (hf : Wf (n * m) f) : ∃ ls, P.keyLits (d + 3) t (mk (n * m) f).toList = some ls := by
  obtain ⟨ys, hys⟩ := mapM_some (F := fun i => P.keyLits (d + 2) g (((mk (n * m) f).toList.drop (i * P.cellsOf g)).take (P.cellsOf g))) (L := List.range n) fun i hi => by
    have hi : i < n := List.mem_range.1 hi
    have hm : i * m + m ≤ n * m := by
      have := Nat.mul_le_mul_right m (show i + 1 ≤ n from hi); rwa [Nat.add_mul, Nat.one_mul] at this
    rw [cg, take_mk hm]
    exact keyLits_row hg he cg ce fun c hc => hf _ (by omega)
  refine ⟨ys.flatten, ?_⟩
  unfold Program.keyLits
  simp only [ht]
  rw [if_pos (by rw [mk_len, ct]), hys]
  rfl
end
theorem keyLits_struct {P : Program} {d n : Nat} {t g : TypeId} {f : Nat → Int} {f0 : Field} (ht : P.underlying t = some (.struct #[f0])) (ho : f0.offset = 0) (hg : f0.type = g) (hn : f0.name ≠ "_") (ct : P.cellsOf t = n) (cg : P.cellsOf g = n)
    (h : ∃ ls, P.keyLits d g (mk n f).toList = some ls) : ∃ ls, P.keyLits (d + 1) t (mk n f).toList = some ls := by
  obtain ⟨ls, hl⟩ := h
  refine ⟨ls, ?_⟩
  unfold Program.keyLits
  simp only [ht]
  have e1 : List.take (P.cellsOf g) (List.drop f0.offset (mk n f).toList) = (mk n f).toList := by
    rw [ho, cg, List.drop_zero, List.take_of_length_le (by rw [mk_len]; exact Nat.le_refl _)]
  rw [if_pos ⟨by rw [mk_len, ct], by simpa using hn⟩]
  simp only [List.mapM_cons, List.mapM_nil, hg, e1, hl]
  simp
theorem key_struct {P : Program} {n : Nat} {t : TypeId} {f : Nat → Int} {fs : Array Field} (ht : P.underlying t = some (.struct fs)) (hk : P.keyType t = true) (ct : P.cellsOf t = n)
    (h : ∃ ls, P.keyLits (P.types.size + 1) t (mk n f).toList = some ls) : ∃ kl, keyOf P t (.agg (mk n f)) = some kl := by
  obtain ⟨ls, hl⟩ := h
  refine ⟨.string (keyBytes ls), ?_⟩
  have hf : (Value.agg (mk n f)).formed P t = true := by simp [Value.formed, ht, mk_size, ct]
  have hc : (Value.agg (mk n f)).cells.toList = (mk n f).toList := rfl
  unfold keyOf
  simp only [ht]
  rw [if_pos (by rw [hk, hf]; rfl), hc, hl]
  rfl
theorem key_array {P : Program} {n a : Nat} {t e : TypeId} {f : Nat → Int} (ht : P.underlying t = some (.array a e)) (hk : P.keyType t = true) (ct : P.cellsOf t = n)
    (h : ∃ ls, P.keyLits (P.types.size + 1) t (mk n f).toList = some ls) : ∃ kl, keyOf P t (.agg (mk n f)) = some kl := by
  obtain ⟨ls, hl⟩ := h
  refine ⟨.string (keyBytes ls), ?_⟩
  have hf : (Value.agg (mk n f)).formed P t = true := by simp [Value.formed, ht, mk_size, ct]
  have hc : (Value.agg (mk n f)).cells.toList = (mk n f).toList := rfl
  unfold keyOf
  simp only [ht]
  rw [if_pos (by rw [hk, hf]; rfl), hc, hl]
  rfl
theorem many_types : ∃ d, Tryz.prog.types.size + 1 = d + 4 := by
  have h : decide (3 ≤ Tryz.prog.types.size) = true := by kernel_rfl
  have h2 := of_decide_eq_true h
  exact ⟨Tryz.prog.types.size - 3, by omega⟩
theorem keyR {f : Nat → Int} (hf : Wf 4 f) : ∃ kl, keyOf Tryz.prog 24 (.agg (mk 4 f)) = some kl := by
  obtain ⟨d, hd⟩ := many_types
  refine key_array Tryz.underlying24 (by kernel_rfl) (by kernel_rfl) ?_
  rw [hd]
  exact keyLits_row (d := d + 2) Tryz.underlying24 Tryz.underlying3 (by kernel_rfl) (by kernel_rfl) hf
theorem keyedR : Keyed Tryz.prog 24 := Keyed.of_law (deep_law_laid laidOut (m := 5) (by decide) (of_decide_eq_true (by kernel_rfl)) (by kernel_rfl) (by kernel_rfl))

/-- One more, if it is not there. -/
def addS (S : List (List Int)) (l : List Int) : List (List Int) := if l ∈ S then S else S ++ [l]
theorem addS_mem (S : List (List Int)) (l x : List Int) : x ∈ addS S l ↔ x ∈ S ∨ x = l := by
  unfold addS; split
  · constructor
    · exact Or.inl
    · rintro (h | rfl)
      · exact h
      · assumption
  · simp
theorem addS_nodup {S : List (List Int)} (h : S.Nodup) (l : List Int) : (addS S l).Nodup := by
  unfold addS; split
  · exact h
  · rename_i hn
    rw [List.nodup_append]
    exact ⟨h, by simp, fun a ha b hb => by
      obtain rfl : b = l := by simpa using hb
      intro e; subst e; exact hn ha⟩

section
variable {P : Program} {k e t : TypeId} {b n m : Nat} {w w' : World} {S : List (List Int)} {f : Nat → Int}
/-- The block b is a map of at most n entries: what it has are the lists of S, each m numbers long, each with true. -/
def Seen (P : Program) (k e : TypeId) (m : Nat) (w : World) (b n : Nat) (S : List (List Int)) : Prop :=
  ∃ D : DataW Unit, w.ownsMap P k (plainElem P e) b n D ∧ Maps.size D = S.length ∧
    ∀ f kl, keyOf P k (.agg (mk m f)) = some kl → Maps.has D kl = decide (cl m f ∈ S) ∧ D.atKey kl (.lit (.bool false)) = .lit (.bool (decide (cl m f ∈ S)))
theorem Seen.made (w : World) (P : Program) (k e : TypeId) (m : Nat) : Seen P k e m (w.alloc (.map #[] 0)) w.heap.size 0 [] :=
  ⟨.map [], World.ownsMap_made _ _ _ _, rfl, fun f kl _ => ⟨by simp [Maps.has], by simp [DataW.atKey]⟩⟩
theorem Seen.kept {row : Option Nat} (h : Seen P k e m w b n S) (hg : w.grownBy w' row) (hne : some b ≠ row) : Seen P k e m w' b n S := by
  obtain ⟨D, h1, h2⟩ := h; exact ⟨D, h1.kept hg hne, h2⟩
theorem Seen.lt (h : Seen P k e m w b n S) : b < w.heap.size := by obtain ⟨D, h1, _⟩ := h; exact h1.lt
theorem Seen.below {B : Nat} (h : Seen P k e m w b n S) (hb : Below B w w') (hB : b < B) : Seen P k e m w' b n S := by
  obtain ⟨D, ⟨es, clock, hh, r⟩, h2⟩ := h
  exact ⟨D, ⟨es, clock, (hb.block b hB).trans hh, r⟩, h2⟩
theorem Seen.alloc (h : Seen P k e m w b n S) (o : Obj) : Seen P k e m (w.alloc o) b n S := by obtain ⟨D, h1, h2⟩ := h; exact ⟨D, h1.alloc o, h2⟩
theorem Seen.drew (h : Seen P k e m w b n S) : Seen P k e m w.drew b n S := h
theorem Seen.size_le (h : Seen P k e m w b n S) : S.length ≤ n := by obtain ⟨D, h1, h2, _⟩ := h; rw [← h2]; exact h1.size_le
theorem Seen.look (h : Seen P k e m w b n S) (K : Keyed P k) (ht : P.underlying t = some (.map k e)) (he : P.underlying e = some .bool) (hz : (zeroValue e).run P w = .ok (.bool false) w)
    (hkey : ∃ kl, keyOf P k (.agg (mk m f)) = some kl) : (Instr.lookup t (.map (some b)) (.agg (mk m f)) false).run P w = .ok (.bool (decide (cl m f ∈ S))) w := by
  obtain ⟨D, h1, _, h3⟩ := h
  obtain ⟨kl, hkl⟩ := hkey
  obtain ⟨v, ps, hrun, hv⟩ := h1.lookup K ht hz (plainElem_bool he false) hkl
  obtain ⟨c, rfl, hc⟩ := plainElem_bool_inv he hv
  rw [hrun]
  rw [(h3 f kl hkl).2] at hc
  simp only [Prod.mk.injEq, DataW.lit.injEq, Lit.bool.injEq] at hc
  rw [hc.1]
theorem Seen.put (h : Seen P k e m w b n S) (K : Keyed P k) (ht : P.underlying t = some (.map k e)) (he : P.underlying e = some .bool) (hn : n < maxLen)
    (hkey : ∃ kl, keyOf P k (.agg (mk m f)) = some kl) : ∃ w', (Instr.mapUpdate t (.map (some b)) (.agg (mk m f)) (.bool true)).run P w = .ok () w' ∧ Seen P k e m w' b (n + 1) (addS S (cl m f)) ∧ w.grownBy w' (some b) := by
  obtain ⟨D, h1, h2, h3⟩ := h
  obtain ⟨kl, hkl⟩ := hkey
  obtain ⟨w', hrun, ho, hg⟩ := h1.update K ht hn hkl (plainElem_bool he true)
  refine ⟨w', hrun, ⟨_, ho, ?_, ?_⟩, hg⟩
  · rw [Maps.size_put (h1.tidy K), (h3 f kl hkl).1, h2]
    unfold addS
    by_cases hm : cl m f ∈ S <;> simp [hm]
  · intro g gl hgl
    have hmem := addS_mem S (cl m f) (cl m g)
    by_cases e : gl = kl
    · subst e
      have hag := K.inj hgl hkl
      simp only [Value.agg.injEq] at hag
      have hcl : cl m g = cl m f := cl_inj.2 (mk_inj hag)
      have : decide (cl m g ∈ addS S (cl m f)) = true := decide_eq_true (hmem.2 (Or.inr hcl))
      rw [this, Maps.has_put_same h1.isMap (K.key hkl), Maps.atKey_put_same h1.isMap (K.key hkl)]
      exact ⟨rfl, rfl⟩
    · have hcl : cl m g ≠ cl m f := fun q => by
        have : mk m g = mk m f := mk_congr (cl_inj.1 q)
        rw [this, hkl] at hgl; cases hgl; exact e rfl
      have : decide (cl m g ∈ addS S (cl m f)) = decide (cl m g ∈ S) := by
        rw [Bool.eq_iff_iff, decide_eq_true_iff, decide_eq_true_iff, hmem]; simp [hcl]
      rw [this, Maps.has_put_other e, Maps.atKey_put_other e]
      exact h3 g gl hgl
theorem Seen.len (h : Seen P k e m w b n S) (ht : P.underlying t = some (.map k e)) (ty : TypeId) : (Builtin.len_ #[t] ty #[.map (some b)]).run P w = .ok (.int .i64 S.length) w := by
  obtain ⟨D, h1, h2, _⟩ := h
  rw [h1.len ht, h2]
end

/-- 'm[k]' at the operation. -/
theorem wpList_look_seen {P : Program} (w : World) {ops : Array Oper} {rest : List Oper} {o : Oper} {a : Act} {Q : Exit → Act → World → Prop}
    (hg : o.guard = none) (m x : Operand) (t : TypeId) (hop : o.op = Op.lookup t m x false) (k e : TypeId) (K : Keyed P k) (ht : P.underlying t = some (.map k e)) (he : P.underlying e = some .bool)
    (hz : (zeroValue e).run P w = .ok (.bool false) w) (b n c : Nat) (S : List (List Int)) (f : Nat → Int) (hm : a.eval m = .map (some b)) (hs : Seen P k e c w b n S) (hx : a.eval x = .agg (mk c f))
    (hkey : ∃ kl, keyOf P k (.agg (mk c f)) = some kl) (hK : wpList P ops Q rest (a.put o.dst (.bool (decide (cl c f ∈ S)))) w) : wpList P ops Q (o :: rest) a w := by
  refine wpList_plain hg fun K' hK' => ?_
  have hrun := hs.look K ht he hz hkey
  unfold Oper.wp
  simp [execOp, hop, hm, hx, hrun, Result.andThen]
  exact hK' _ _ hK
/-- 'm[k] = true' at the operation. -/
theorem wpList_put_seen {P : Program} (w : World) {ops : Array Oper} {rest : List Oper} {o : Oper} {a : Act} {Q : Exit → Act → World → Prop}
    (hg : o.guard = none) (m x v : Operand) (t : TypeId) (hop : o.op = Op.mapUpdate t m x v) (k e : TypeId) (K : Keyed P k) (ht : P.underlying t = some (.map k e)) (he : P.underlying e = some .bool)
    (b n c : Nat) (S : List (List Int)) (f : Nat → Int) (hm : a.eval m = .map (some b)) (hs : Seen P k e c w b n S) (hn : n < maxLen) (hx : a.eval x = .agg (mk c f)) (hv : a.eval v = .bool true)
    (hkey : ∃ kl, keyOf P k (.agg (mk c f)) = some kl) (hK : ∀ w', Seen P k e c w' b (n + 1) (addS S (cl c f)) → w.grownBy w' (some b) → wpList P ops Q rest (a.put o.dst undef) w') : wpList P ops Q (o :: rest) a w := by
  refine wpList_plain hg fun K' hK' => ?_
  obtain ⟨w', hrun, r1, r2⟩ := hs.put K ht he hn hkey
  unfold Oper.wp
  simp [execOp, hop, hm, hx, hv, hrun, Result.andThen]
  exact hK' _ _ (hK w' r1 r2)
end Go.Proofs.YtmcmpedmgibmkabGreat
namespace Go.Proofs.YtmcmpedmgibmkabGreat.Plain
/-- The first form behind a slide. -/
noncomputable def ffs (f : Nat → Int) (d : Int) : List Int := cl 16 (fstF (slideB f d.toNat))
theorem movL_mem (f : Nat → Int) : ∀ n x, x ∈ movL f n → ∃ k : Nat, k < n ∧ x = (k : Int)
  | 0, x, h => by cases h
  | n + 1, x, h => by
    by_cases hm : isMv f n = true
    · rw [mov_yes hm] at h
      rcases List.mem_append.1 h with h | h
      · obtain ⟨k, hk, e⟩ := movL_mem f n x h; exact ⟨k, by omega, e⟩
      · obtain rfl : x = (n : Int) := by simpa using h
        exact ⟨n, by omega, rfl⟩
    · rw [mov_no (by simpa using hm)] at h
      obtain ⟨k, hk, e⟩ := movL_mem f n x h; exact ⟨k, by omega, e⟩
/-- What has been seen behind the first k of some slides, and which of these are told. -/
noncomputable def dm (f : Nat → Int) (M : List Int) : Nat → List (List Int) × List Int
  | 0 => ([], [])
  | k + 1 => match M[k]? with
    | none => dm f M k
    | some d => if ffs f d ∈ (dm f M k).1 then dm f M k else ((dm f M k).1 ++ [ffs f d], (dm f M k).2 ++ [d])
theorem dm_yes {f : Nat → Int} {M : List Int} {k : Nat} {d : Int} (h : M[k]? = some d) (hd : ffs f d ∈ (dm f M k).1) : dm f M (k + 1) = dm f M k := by simp only [dm, h]; rw [if_pos hd]
theorem dm_no {f : Nat → Int} {M : List Int} {k : Nat} {d : Int} (h : M[k]? = some d) (hd : ¬ ffs f d ∈ (dm f M k).1) : dm f M (k + 1) = ((dm f M k).1 ++ [ffs f d], (dm f M k).2 ++ [d]) := by simp only [dm, h]; rw [if_neg hd]
theorem dm_le (f : Nat → Int) (M : List Int) : ∀ k, (dm f M k).1.length ≤ k ∧ (dm f M k).2.length = (dm f M k).1.length
  | 0 => ⟨Nat.le_refl _, rfl⟩
  | k + 1 => by
    have := dm_le f M k
    unfold dm
    split
    · exact ⟨by omega, this.2⟩
    · split
      · exact ⟨by omega, this.2⟩
      · simp; omega
theorem dm_len (f : Nat → Int) (M : List Int) : ∀ k x, x ∈ (dm f M k).1 → x.length = 16
  | 0, x, h => by cases h
  | k + 1, x, h => by
    unfold dm at h
    split at h
    · exact dm_len f M k x h
    · split at h
      · exact dm_len f M k x h
      · rcases List.mem_append.1 h with h | h
        · exact dm_len f M k x h
        · obtain rfl : x = _ := by simpa using h
          exact cl_len _ _
/-- The same put in order. -/
noncomputable def di (f : Nat → Int) (M : List Int) : Nat → List (List Int)
  | 0 => []
  | k + 1 => match M[k]? with
    | none => di f M k
    | some d => insL (lt 16) (di f M k) (ffs f d)
theorem di_step {f : Nat → Int} {M : List Int} {k : Nat} {d : Int} (h : M[k]? = some d) : di f M (k + 1) = insL (lt 16) (di f M k) (ffs f d) := by simp only [di, h]
theorem di_mem (f : Nat → Int) (M : List Int) : ∀ k x, x ∈ di f M k ↔ x ∈ (dm f M k).1
  | 0, x => Iff.rfl
  | k + 1, x => by
    rcases h : M[k]? with _ | d
    · have e1 : di f M (k + 1) = di f M k := by simp [di, h]
      have e2 : dm f M (k + 1) = dm f M k := by simp [dm, h]
      rw [e1, e2]; exact di_mem f M k x
    · rw [di_step h, ins_mem, di_mem f M k x]
      by_cases hd : ffs f d ∈ (dm f M k).1
      · rw [dm_yes h hd]
        constructor
        · rintro (q | rfl)
          · exact q
          · exact hd
        · exact Or.inl
      · rw [dm_no h hd]; simp
theorem di_len (f : Nat → Int) (M : List Int) (k : Nat) : ∀ x, x ∈ di f M k → x.length = 16 := fun x hx => dm_len f M k x ((di_mem f M k x).1 hx)
theorem di_ss (f : Nat → Int) (M : List Int) : ∀ k, SS (lt 16) (di f M k)
  | 0 => List.Pairwise.nil
  | k + 1 => by
    rcases h : M[k]? with _ | d
    · have e1 : di f M (k + 1) = di f M k := by simp [di, h]
      rw [e1]; exact di_ss f M k
    · rw [di_step h]
      exact ins_ss (lt 16) (fun x y z h1 h2 => lt_trans h1 h2) _ _ (fun x hx h1 h2 => lt_total (di_len f M k x hx) (cl_len _ _) h1 h2) (di_ss f M k)
theorem di_le (f : Nat → Int) (M : List Int) : ∀ k, (di f M k).length ≤ k
  | 0 => Nat.le_refl _
  | k + 1 => by
    have := di_le f M k
    rcases h : M[k]? with _ | d
    · have e1 : di f M (k + 1) = di f M k := by simp [di, h]
      rw [e1]; omega
    · rw [di_step h, ins_len]; split <;> omega
/-- What stands in a list in order is found at its place. -/
theorem ins_found {α : Type} [DecidableEq α] (l : α → α → Bool) (hir : ∀ x, l x x = false) (b : α) : ∀ I : List α, SS l I → b ∈ I → I[plcL l b I]? = some b
  | [], _, h => by cases h
  | x :: xs, hs, h => by
    obtain ⟨h1, h2⟩ := List.pairwise_cons.1 hs
    unfold plcL
    by_cases hx : l x b = true
    · rw [if_pos hx, List.getElem?_cons_succ]
      rcases List.mem_cons.1 h with rfl | h
      · rw [hir] at hx; cases hx
      · exact ins_found l hir b xs h2 h
    · rw [if_neg hx]
      rcases List.mem_cons.1 h with rfl | h
      · rfl
      · exact absurd (h1 b h) hx
/-- More than before, just where it was not there. -/
theorem di_more {f : Nat → Int} {M : List Int} {k : Nat} {d : Int} (h : M[k]? = some d) :
    (ffs f d ∈ (dm f M k).1 → di f M (k + 1) = di f M k) ∧ (¬ ffs f d ∈ (dm f M k).1 → (di f M (k + 1)).length = (di f M k).length + 1) := by
  rw [di_step h]
  constructor
  · intro hd
    exact ins_same _ (ins_found (lt 16) (lt_irrefl 16) _ _ (di_ss f M k) ((di_mem f M k _).2 hd))
  · intro hd
    rw [ins_len, if_neg]
    intro e
    exact hd ((di_mem f M k _).1 (List.mem_of_getElem? e))
/-- What DistinctMoves returns. -/
noncomputable def dmR (f : Nat → Int) : List Int := if Vd f then (dm f (movL f 4) (movL f 4).length).2 else []
theorem dmR_yes {f : Nat → Int} (h : Vd f) : dmR f = (dm f (movL f 4) (movL f 4).length).2 := by simp [dmR, h]
theorem dmR_no {f : Nat → Int} (h : ¬ Vd f) : dmR f = [] := by simp [dmR, h]
theorem dmR_le (f : Nat → Int) : (dmR f).length ≤ 4 := by
  unfold dmR; split
  · have h1 := dm_le f (movL f 4) (movL f 4).length
    have h2 := movL_le f 4
    omega
  · exact Nat.zero_le _
end Go.Proofs.YtmcmpedmgibmkabGreat.Plain
namespace Go.Proofs.YtmcmpedmgibmkabGreat
open Go.RowKit Plain
open Go.Maps (Keyed)

theorem CAt.grown {w w' : World} {g n : Nat} {h : Nat → Int} {row : Option Nat} (r : CAt w g n h) (hg : w.grownBy w' row) (hne : some g ≠ row) : CAt w' g n h := by
  have hb := hg.block g r.1 hne
  exact ⟨Nat.lt_of_lt_of_le r.1 hg.size, fun j hj => (World.cell?_of_block (w := w) hb).trans (r.2 j hj)⟩
theorem CAt.of_ints {w : World} {b g cap : Nat} {xs : List Int} (ho : OwnsInts w b (.slice (some ⟨g, 0, none⟩) xs.length cap) xs) : CAt w g xs.length fun i => xs.getD i 0 := by
  unfold OwnsInts at ho
  refine ⟨(ho.lt g rfl).2, fun j hj => ?_⟩
  rw [ho.cellAt j (by omega), List.getElem?_map, List.getElem?_eq_getElem hj]
  simp [List.getD, List.getElem?_eq_getElem hj]
/-- A row and a map, a row and another row of other elements, a variable and a map, lie in blocks of their own. -/
theorem own_ne_map {w : World} {b : Nat} {e : TypeId} {size n mb : Nat} {v : Value} {xs : List Value} {es : Array MapEntry} {c : Nat} (h : w.ownsRow b e size v n xs) (hm : w.heap[mb]? = some (.map es c)) : v.ownBlock ≠ some mb := by
  intro hv
  rcases h.2 with ⟨rfl, _⟩ | ⟨g, cap, cur, rfl, _, hg, _⟩
  · simp [Value.ownBlock] at hv
  · simp only [Value.ownBlock, Option.some.injEq] at hv
    subst hv; rw [hg] at hm; cases hm
theorem own_ne_own {w : World} {b b' : Nat} {e e' : TypeId} {s s' n n' : Nat} {v v' : Value} {xs xs' : List Value} (h : w.ownsRow b e s v n xs) (h' : w.ownsRow b' e' s' v' n' xs') (he : e ≠ e') : v.ownBlock = none ∨ v.ownBlock ≠ v'.ownBlock := by
  rcases h.2 with ⟨rfl, _⟩ | ⟨g, cap, cur, rfl, _, hg, _⟩
  · exact Or.inl rfl
  · refine Or.inr fun hv => ?_
    rcases h'.2 with ⟨rfl, _⟩ | ⟨g', cap', cur', rfl, _, hg', _⟩
    · simp [Value.ownBlock] at hv
    · simp only [Value.ownBlock, Option.some.injEq] at hv
      subst hv; rw [hg] at hg'; cases hg'; exact he rfl
theorem own_ne_blk {w : World} {b : Nat} {e t : TypeId} {s n c m : Nat} {v : Value} {xs : List Value} {f : Nat → Int} (h : w.ownsRow b e s v n xs) (k : Blk w c m f t) (he : e ≠ t) : v.ownBlock ≠ some c := by
  intro hv
  rcases h.2 with ⟨rfl, _⟩ | ⟨g, cap, cur, rfl, _, hg, _⟩
  · simp [Value.ownBlock] at hv
  · simp only [Value.ownBlock, Option.some.injEq] at hv
    subst hv; unfold Blk at k; rw [hg] at k; cases k; exact he rfl
theorem at_ne_map {w : World} {g n mb : Nat} {h : Nat → Int} {es : Array MapEntry} {c : Nat} (r : CAt w g n h) (hn : 0 < n) (hm : w.heap[mb]? = some (.map es c)) : g ≠ mb := by
  rintro rfl
  have := r.2 0 hn
  simp [World.cell?, hm] at this
theorem blk_ne_map {w : World} {b n mb : Nat} {f : Nat → Int} {t : TypeId} {es : Array MapEntry} {c : Nat} (k : Blk w b n f t) (hm : w.heap[mb]? = some (.map es c)) : b ≠ mb := by
  rintro rfl
  unfold Blk at k; rw [k] at hm; cases hm
theorem Seen.map {P : Program} {k e : TypeId} {m : Nat} {w : World} {b n : Nat} {S : List (List Int)} (h : Seen P k e m w b n S) : ∃ es c, w.heap[b]? = some (.map es c) := by
  obtain ⟨D, ⟨es, c, hh, _⟩, _⟩ := h; exact ⟨es, c, hh⟩
theorem Seen.mono {P : Program} {k e : TypeId} {m : Nat} {w : World} {b n n' : Nat} {S : List (List Int)} (h : Seen P k e m w b n S) (hn : n ≤ n') : Seen P k e m w b n' S := by
  obtain ⟨D, h1, h2⟩ := h; exact ⟨D, h1.mono hn, h2⟩
theorem wf_small {x : Int} (h0 : 0 ≤ x) (h1 : x ≤ 17) : (Lit.int .i64 x).wf = true := WalkArith.wf_i64 (by omega)
theorem wf_vd {f : Nat → Int} (h : Vd f) : Wf 16 f := fun i hi => wf_small (h i hi).1 (h i hi).2
theorem wf_row {f : Nat → Int} (h : VdRow f) : Wf 4 f := fun i hi => wf_small (h i hi).1 (h i hi).2
theorem zeroBool (w : World) : (zeroValue 4).run Tryz.prog w = .ok (.bool false) w := by kernel_rfl
/-- 'm[k]' at the operation, the answer known. -/
theorem wpList_look_is {P : Program} (w : World) {ops : Array Oper} {rest : List Oper} {o : Oper} {a : Act} {Q : Exit → Act → World → Prop}
    (hg : o.guard = none) (m x : Operand) (t : TypeId) (hop : o.op = Op.lookup t m x false) (k e : TypeId) (K : Keyed P k) (ht : P.underlying t = some (.map k e)) (he : P.underlying e = some .bool)
    (hz : (zeroValue e).run P w = .ok (.bool false) w) (b n c : Nat) (S : List (List Int)) (f : Nat → Int) (r : Bool) (hr : decide (cl c f ∈ S) = r) (hm : a.eval m = .map (some b)) (hs : Seen P k e c w b n S) (hx : a.eval x = .agg (mk c f))
    (hkey : ∃ kl, keyOf P k (.agg (mk c f)) = some kl) (hK : wpList P ops Q rest (a.put o.dst (.bool r)) w) : wpList P ops Q (o :: rest) a w := by
  subst hr
  exact wpList_look_seen w hg m x t hop k e K ht he hz b n c S f hm hs hx hkey hK
end Go.Proofs.YtmcmpedmgibmkabGreat
