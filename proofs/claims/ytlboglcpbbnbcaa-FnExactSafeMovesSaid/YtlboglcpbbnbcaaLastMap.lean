/-
  The map that the program keeps of boards and numbers of moves, with whether they last. Nothing is proved here of the program's functions.
-/
import Derived.Test.YtlboglcpbbnbcaaMapKit
import Derived.Test.YtlboglcpbbnbcaaViaKit
namespace Go.Proofs.Ytlboglcpbbnbcaa
open Go.RowKit Plain
open Go.Maps (Keyed)
set_option linter.unusedVariables false
set_option linter.unusedSimpArgs false

theorem slideB_like {f g : Nat → Int} (h : ∀ j, j < 16 → f j = g j) (d : Nat) : ∀ j, j < 16 → slideB f d j = slideB g d j := fun j hj => by
  unfold slideB
  rw [slid_congr (f := lineF f d (lineOf d j)) (g := lineF g d (lineOf d j)) 4 fun k hk => h _ (pos_lt (lineOf_lt hj) hk)]
theorem isMv_like {f g : Nat → Int} (h : ∀ j, j < 16 → f j = g j) (d : Nat) : isMv f d = isMv g d := by
  unfold isMv
  congr 1
  rw [Bool.eq_iff_iff, sameB_iff, sameB_iff]
  constructor
  · intro q j hj; rw [← slideB_like h d j hj, ← h j hj]; exact q j hj
  · intro q j hj; rw [slideB_like h d j hj, h j hj]; exact q j hj
theorem last_like : ∀ (n : Nat) {f g : Nat → Int}, (∀ j, j < 16 → f j = g j) → lastF n f = true → lastF n g = true
  | 0, _, _, _, _ => rfl
  | n + 1, f, g, h, q => by
    obtain ⟨d, hd, hs⟩ := (last_iff n f).1 q
    obtain ⟨h1, h2⟩ := sf_iff.1 hs
    refine (last_iff n g).2 ⟨d, hd, sf_iff.2 ⟨by rw [← isMv_like h d]; exact h1, fun p hp => ?_⟩⟩
    have hq := plA_ok.1 hp
    have hl := slideB_like h d
    have hp2 : p ∈ plA (slideB f d) := plA_ok.2 ⟨hq.1, by rw [hl _ hq.1]; exact hq.2.1, hq.2.2⟩
    refine last_like n (fun j hj => ?_) (h2 p hp2)
    unfold plB upd
    split
    · rfl
    · exact hl j hj
theorem lastF_like (n : Nat) {f g : Nat → Int} (h : ∀ j, j < 16 → f j = g j) : lastF n f = lastF n g := by
  rw [Bool.eq_iff_iff]
  exact ⟨last_like n h, last_like n fun j hj => (h j hj).symm⟩
/-- A board and a number of moves, in seventeen cells. -/
def okF (f : Nat → Int) (n : Nat) : Nat → Int := fun j => if j < 16 then f j else (n : Int)
theorem okF_like {f g : Nat → Int} {n m : Nat} (h : mk 17 (okF f n) = mk 17 (okF g m)) : lastF n f = lastF m g := by
  have e := mk_inj h
  have h1 : ∀ j, j < 16 → f j = g j := fun j hj => by have := e j (by omega); unfold okF at this; rwa [if_pos hj, if_pos hj] at this
  have h2 := e 16 (by omega)
  unfold okF at h2
  rw [if_neg (by omega), if_neg (by omega)] at h2
  have : n = m := by omega
  subst this
  exact lastF_like n h1
theorem keyLits_pair {P : Program} {d n m N : Nat} {t g e : TypeId} {f : Nat → Int} {f0 f1 : Field} (ht : P.underlying t = some (.struct #[f0, f1])) (o0 : f0.offset = 0) (o1 : f1.offset = n) (t0 : f0.type = g) (t1 : f1.type = e) (n0 : f0.name ≠ "_") (n1 : f1.name ≠ "_")
    (hN : N = n + m) (ct : P.cellsOf t = N) (cg : P.cellsOf g = n) (ce : P.cellsOf e = m) (h0 : ∃ ls, P.keyLits d g (mk n f).toList = some ls) (h1 : ∃ ls, P.keyLits d e (mk m fun i => f (n + i)).toList = some ls) : ∃ ls, P.keyLits (d + 1) t (mk N f).toList = some ls := by
  obtain ⟨l0, q0⟩ := h0
  obtain ⟨l1, q1⟩ := h1
  subst hN
  refine ⟨l0 ++ l1, ?_⟩
  unfold Program.keyLits
  simp only [ht]
  have e0 : List.take (P.cellsOf g) (List.drop f0.offset (mk (n + m) f).toList) = (mk n f).toList := by
    rw [o0, cg, take_mk (by omega)]; simp only [Nat.zero_add]
  have e1 : List.take (P.cellsOf e) (List.drop f1.offset (mk (n + m) f).toList) = (mk m fun i => f (n + i)).toList := by
    rw [o1, ce, take_mk (by omega)]
  rw [if_pos ⟨by rw [mk_len, ct], by simp [n0, n1]⟩]
  simp only [List.mapM_cons, List.mapM_nil, t0, t1, e0, e1, q0, q1]
  simp
theorem keyO {f : Nat → Int} (hf : Wf 17 f) : ∃ kl, keyOf Try.prog 107 (.agg (mk 17 f)) = some kl := by
  obtain ⟨d, hd⟩ : ∃ d, Try.prog.types.size + 1 = d + 5 := by
    have h : decide (4 ≤ Try.prog.types.size) = true := by kernel_rfl
    have h2 := of_decide_eq_true h
    exact ⟨Try.prog.types.size - 4, by omega⟩
  refine key_struct Try.underlying107 (by kernel_rfl) (by kernel_rfl) ?_
  rw [hd]
  refine keyLits_pair (d := d + 4) (g := 29) (e := 3) (n := 16) (m := 1) Try.underlying107 rfl rfl rfl rfl (by decide) (by decide) rfl (by kernel_rfl) (by kernel_rfl) (by kernel_rfl) ?_ ?_
  · refine keyLits_struct (d := d + 3) (g := 23) Try.underlying29 rfl rfl (by decide) (by kernel_rfl) (by kernel_rfl) ?_
    exact keyLits_rows (n := 4) (m := 4) Try.underlying23 Try.underlying22 Try.underlying3 (by kernel_rfl) (by kernel_rfl) (by kernel_rfl) (fun i hi => hf i (by omega))
  · exact ⟨_, keyLits_int (d := d + 3) Try.underlying3 (hf 16 (by omega))⟩
theorem keyedO : Keyed Try.prog 107 := Keyed.of_law (deep_law_laid laidOut (m := 6) (by decide) (of_decide_eq_true (by kernel_rfl)) (by kernel_rfl) (by kernel_rfl))
theorem lit_wf (x : Int) (h0 : 0 ≤ x) (h1 : x ≤ 1000) : (Lit.int .i64 x).wf = true := WalkArith.wf_i64 (by omega)
theorem okF_wf {f : Nat → Int} {n : Nat} (hV : Vd f) (hn : n ≤ 3) : Wf 17 (okF f n) := fun i hi => by
  unfold okF
  split
  · rename_i h
    have := hV i h
    exact lit_wf _ (by omega) (by omega)
  · exact lit_wf _ (by omega) (by omega)
/-- The block K is a map of at most m entries, and each tells whether its board lasts its number of moves. -/
def Good (w : World) (K m : Nat) : Prop := ∃ D : DataW Unit, w.ownsMap Try.prog 107 (plainElem Try.prog 4) K m D ∧
  ∀ F kl, keyOf Try.prog 107 (.agg (mk 17 F)) = some kl → (Maps.has D kl = true → ∀ f n, mk 17 F = mk 17 (okF f n) → D.atKey kl (.lit (.bool false)) = .lit (.bool (lastF n f))) ∧ (Maps.has D kl = false → D.atKey kl (.lit (.bool false)) = .lit (.bool false))
theorem Good.made (w : World) : Good (w.alloc (.map #[] 0)) w.heap.size 0 :=
  ⟨.map [], World.ownsMap_made _ _ _ _, fun F kl _ => ⟨fun h => by simp [Maps.has] at h, fun _ => by simp [DataW.atKey]⟩⟩
theorem Good.kept {w w' : World} {K m : Nat} {row : Option Nat} (h : Good w K m) (hg : w.grownBy w' row) (hne : some K ≠ row) : Good w' K m := by
  obtain ⟨D, h1, h2⟩ := h; exact ⟨D, h1.kept hg hne, h2⟩
theorem Good.lt {w : World} {K m : Nat} (h : Good w K m) : K < w.heap.size := by obtain ⟨D, h1, _⟩ := h; exact h1.lt
theorem Good.low {w w' : World} {K m : Nat} (h : Good w K m) (hb : Below w.heap.size w w') : Good w' K m := h.kept (below_grown hb) (by simp)
theorem Good.alloc {w : World} {K m : Nat} (h : Good w K m) (o : Obj) : Good (w.alloc o) K m := by obtain ⟨D, h1, h2⟩ := h; exact ⟨D, h1.alloc o, h2⟩
theorem Good.map {w : World} {K m : Nat} (h : Good w K m) : ∃ es c, w.heap[K]? = some (.map es c) := by
  obtain ⟨D, ⟨es, c, hh, _⟩, _⟩ := h; exact ⟨es, c, hh⟩
theorem Good.more {w : World} {K m m' : Nat} (h : Good w K m) (hm : m ≤ m') : Good w K m' := by
  obtain ⟨D, h1, h2⟩ := h; exact ⟨D, h1.mono hm, h2⟩
theorem Good.look {w : World} {K m : Nat} (h : Good w K m) (hz : (zeroValue 4).run Try.prog w = .ok (.bool false) w) {f : Nat → Int} {n : Nat} (hV : Vd f) (hn : n ≤ 3) :
    ∃ c s : Bool, (Instr.lookup 78 (.map (some K)) (.agg (mk 17 (okF f n))) true).run Try.prog w = .ok (.tuple #[.bool c, .bool s]) w ∧ (s = true → c = lastF n f) ∧ (s = false → c = false) := by
  obtain ⟨D, h1, h3⟩ := h
  obtain ⟨kl, hkl⟩ := keyO (okF_wf hV hn)
  obtain ⟨v, ps, hrun, hv⟩ := h1.look_ok keyedO Try.underlying78 hz (plainElem_bool Try.underlying4 false) hkl
  obtain ⟨c, rfl, hc⟩ := plainElem_bool_inv Try.underlying4 hv
  refine ⟨c, _, hrun, fun hs => ?_, fun hs => ?_⟩
  · rw [(h3 _ kl hkl).1 hs f n rfl] at hc
    simp only [Prod.mk.injEq, DataW.lit.injEq, Lit.bool.injEq] at hc
    exact hc.1.symm
  · rw [(h3 _ kl hkl).2 hs] at hc
    simp only [Prod.mk.injEq, DataW.lit.injEq, Lit.bool.injEq] at hc
    exact hc.1.symm
theorem Good.put {w : World} {K m : Nat} (h : Good w K m) (hm : m < maxLen) {f : Nat → Int} {n : Nat} (hV : Vd f) (hn : n ≤ 3) :
    ∃ w', (Instr.mapUpdate 78 (.map (some K)) (.agg (mk 17 (okF f n))) (.bool (lastF n f))).run Try.prog w = .ok () w' ∧ Good w' K (m + 1) ∧ w.grownBy w' (some K) := by
  obtain ⟨D, h1, h3⟩ := h
  obtain ⟨kl, hkl⟩ := keyO (okF_wf hV hn)
  obtain ⟨w', hrun, ho, hg⟩ := h1.update keyedO Try.underlying78 hm hkl (plainElem_bool Try.underlying4 (lastF n f))
  refine ⟨w', hrun, ⟨_, ho, ?_⟩, hg⟩
  intro F gl hgl
  by_cases e : gl = kl
  · subst e
    have hag := keyedO.inj hgl hkl
    simp only [Value.agg.injEq] at hag
    rw [Maps.has_put_same h1.isMap (keyedO.key hkl), Maps.atKey_put_same h1.isMap (keyedO.key hkl)]
    refine ⟨fun _ f' n' e' => ?_, fun q => by cases q⟩
    rw [okF_like (e'.symm.trans hag)]
  · rw [Maps.has_put_other e, Maps.atKey_put_other e]
    exact h3 F gl hgl
end Go.Proofs.Ytlboglcpbbnbcaa
