/-
  A slice of steps that came in, and the laws' size and copy of it. No condition.
-/
import Derived.Test.YtfjpdopljmilpaaStepLaw
import Derived.Test.YtfjpdopljmilpaaIntsIn
import Derived.DataReads
namespace Go.Proofs.Ytfjpdopljmilpaa
open Go.ChangeShapes Go.WideShapes Go.ChangeAt Go.RowKit Plain
attribute [local go_sem] store_new
set_option linter.unusedVariables false
set_option linter.unusedSimpArgs false

/-- The value v is a slice of n steps that read as these numbers. -/
def SRow (w : World) (v : Value) (n : Nat) (h : Nat → Int) : Prop :=
  (∃ a cap, v = .slice a 0 cap ∧ n = 0) ∨
  ∃ b o cap, v = .slice (some ⟨b, o, none⟩) n cap ∧ n ≤ cap ∧ b < w.heap.size ∧ ∀ j, j < n * 4 → w.cell? ⟨b, o + j, none⟩ = some (.int .i64 (h j))
theorem SRow.below {w w' : World} {v : Value} {n : Nat} {h : Nat → Int} (r : SRow w v n h) (hb : Below w.heap.size w w') : SRow w' v n h := by
  rcases r with r | ⟨b, o, cap, rfl, h0, h1, h2⟩
  · exact .inl r
  · exact .inr ⟨b, o, cap, rfl, h0, Nat.lt_of_lt_of_le h1 hb.size, fun j hj => (hb.cell (p := ⟨b, o + j, none⟩) h1).trans (h2 j hj)⟩
section
variable {H : Type} {enc : TypeId × Value → H} {P : Program} {w : World} {base : Nat} {spare : Nat → Bool} {held : Bool}
theorem open_steps {fuel : Nat} {t e c i : TypeId} {f0 f1 f2 : Field} {cs : List Value} {x : DataW H × List MemPlace} (ht : P.underlying t = some (.slice e)) (he : P.underlying e = some (.struct #[f0, f1, f2])) (o0 : f0.offset = 0) (o1 : f1.offset = 1) (o2 : f2.offset = 3)
    (t0 : f0.type = i) (t1 : f1.type = c) (t2 : f2.type = i) (hc : P.underlying c = some (.array 2 i)) (hi : P.underlying i = some (.int .i64)) (ce : P.cellsOf e = 4) (cc : P.cellsOf c = 2) (ci : P.cellsOf i = 1)
    (h : DataW.trod enc P w base spare held fuel t cs = some x) :
    cs = [.slice none 0 0] ∨ ∃ (a : Addr) (len cap : Nat), cs = [.slice (some a) len cap] ∧ len ≤ cap ∧ cap ≤ maxLen ∧ ∀ k, k < len → ∀ j, j < 4 → ∃ z : Int, w.cell? ((a.add (k * 4)).add j) = some (.int .i64 z) := by
  rcases DataW.trod_slice ht h with ⟨h0, _⟩ | ⟨a, len, cap, elems, rest, n, _, rfl, _, hb, hl, hm, hlen, hel, hsp, hns⟩
  · exact Or.inl h0
  · refine Or.inr ⟨a, len, cap, rfl, hl, hm, fun k hk j hj => ?_⟩
    have h1 := hel k hk
    rw [ce, List.getElem?_eq_getElem (by omega), Option.bind_eq_some_iff] at h1
    obtain ⟨l, hcs, hy⟩ := h1
    obtain ⟨z, hz, _⟩ := trod_step he o0 o1 o2 t0 t1 t2 hc hi cc ci hy j hj
    refine ⟨z, ?_⟩
    exact ((World.cells?_some hcs).2.2 j hj).trans hz
end
/-- A slice of steps that came in: nil, or a row of cells. -/
def IsSteps (w : World) (a : Option Addr) (len cap : Nat) : Prop :=
  (a = none ∧ len = 0 ∧ cap = 0) ∨ ∃ x, a = some x ∧ len ≤ cap ∧ cap ≤ maxLen ∧ ∀ k, k < len → ∀ j, j < 4 → ∃ z : Int, w.cell? ((x.add (k * 4)).add j) = some (.int .i64 z)
/-- The number in a cell. -/
def numAt (w : World) (b o : Nat) : Nat → Int := fun j => match w.cell? ⟨b, o + j, none⟩ with | some (.int _ z) => z | _ => 0
theorem IsSteps.len_le {w : World} {a : Option Addr} {len cap : Nat} (q : IsSteps w a len cap) : len ≤ 9223372036854775807 := by
  rcases q with ⟨_, rfl, _⟩ | ⟨_, _, h1, h2, _⟩
  · omega
  · unfold maxLen at h2; omega
theorem IsSteps.srow {w : World} {a : Option Addr} {len cap : Nat} (q : IsSteps w a len cap) : ∃ h, SRow w (.slice a len cap) len h := by
  rcases q with ⟨rfl, rfl, rfl⟩ | ⟨x, rfl, h1, _, h4⟩
  · exact ⟨fun _ => 0, .inl ⟨_, _, rfl, rfl⟩⟩
  · by_cases h0 : len = 0
    · subst h0
      exact ⟨fun _ => 0, .inl ⟨_, _, rfl, rfl⟩⟩
    · obtain ⟨b, o, sp⟩ := x
      obtain ⟨z0, hc⟩ := h4 0 (by omega) 0 (by omega)
      have hsp : sp = none := by simpa [Addr.add] using World.cell?_spot hc
      subst hsp
      have hb : b < w.heap.size := by simpa [Addr.add] using World.block_lt_of_cell? w _ hc
      refine ⟨numAt w b o, .inr ⟨b, o, cap, rfl, h1, hb, fun j hj => ?_⟩⟩
      obtain ⟨z, hz⟩ := h4 (j / 4) (by omega) (j % 4) (by omega)
      have e : ((⟨b, o, none⟩ : Addr).add (j / 4 * 4)).add (j % 4) = ⟨b, o + j, none⟩ := by
        have e1 : ∀ (o k : Nat), (⟨b, o, none⟩ : Addr).add k = ⟨b, o + k, none⟩ := fun o k => by unfold Addr.add; split <;> simp_all
        rw [e1, e1, show o + j / 4 * 4 + j % 4 = o + j by omega]
      rw [e] at hz
      simp only [numAt, hz]
/-- The first k steps of a copy. -/
def mixS (h : Nat → Int) (k : Nat) : Nat → Int := fun j => if j < k * 4 then h j else 0
theorem mixS_step (h : Nat → Int) (k n : Nat) : ∀ j, j < n → patch (mixS h k) (k * 4) 4 (fun j => h (k * 4 + j)) j = mixS h (k + 1) j := fun j hj => by
  unfold patch mixS
  by_cases h1 : k * 4 ≤ j ∧ j < k * 4 + 4
  · rw [if_pos h1, if_pos (by omega)]
    show h (k * 4 + (j - k * 4)) = h j
    congr 1; omega
  · rw [if_neg h1]
    by_cases h2 : j < k * 4
    · rw [if_pos h2, if_pos (by omega)]
    · rw [if_neg h2, if_neg (by omega)]
theorem made_zero (n : Nat) : (madeCells (Value.agg (mk 4 fun _ => 0)).cells (n * 4)).toList = (mk (n * 4) fun _ => 0).toList := by
  have hv : (Value.agg (mk 4 fun _ => 0)).cells = mk 4 fun _ => 0 := rfl
  rw [hv]
  refine congrArg Array.toList (Array.ext_getElem? fun i => ?_)
  by_cases hi : i < n * 4
  · rw [mk_get _ hi]
    have h4 : (mk 4 fun _ => 0)[i % 4]? = some (.int .i64 0) := mk_get (fun _ => 0) (by omega)
    simp only [madeCells, mk_size, Array.getElem?_map, Array.getElem?_range, if_pos hi, Option.map_some]
    rw [getElem!_def, h4]
  · rw [mk_out _ (by omega)]
    simp [madeCells, hi]
theorem blk_own4 {w : World} {base b n : Nat} {f : Nat → Int} {t : TypeId} (h : w.ownsRow base t 4 (.slice (some ⟨b, 0, none⟩) n n) n (mk (n * 4) f).toList) : Blk w b (n * 4) f t := by
  rcases h.2 with ⟨h2, _⟩ | ⟨g, cap, cur, h2, hb, hh, h3, h4, h5, h6⟩
  · cases h2
  · cases h2
    have : cur = mk (n * 4) f := by
      rw [List.take_of_length_le (by simp [h5])] at h6
      exact Array.toList_inj.1 h6
    subst this
    exact hh
theorem own_blk4 {w : World} {b n : Nat} {f : Nat → Int} {t : TypeId} (base : Nat) (h : Blk w b (n * 4) f t) (hb : base ≤ b) (hn : n ≤ maxLen) : w.ownsRow base t 4 (.slice (some ⟨b, 0, none⟩) n n) n (mk (n * 4) f).toList :=
  ⟨by rw [mk_len], .inr ⟨b, n, mk (n * 4) f, rfl, hb, h, Nat.le_refl _, hn, by rw [mk_size], by rw [List.take_of_length_le (by rw [mk_len]; exact Nat.le_refl _)]⟩⟩
end Go.Proofs.Ytfjpdopljmilpaa
