/-
  The contracts of slices.Clone and slices.Delete at rows of integers, and of the program's areTiles.
-/
import Derived.Test.YtblcojacmjbjcaaLaysR
import Derived.Test.YtblcojacmjbjcaaRchPlain
import Derived.Test.YtblcojacmjbjcaaRuleTops
import Derived.Test.YtblcojacmjbjcaaRowsKit
import Derived.Sort.OwnSortedInts
import Derived.Laws.OwnMore
namespace Go.Proofs.Ytblcojacmjbjcaa
open Go.RowKit Plain Go.Sort Go.Shelf
set_option linter.unusedVariables false
set_option linter.unusedSimpArgs false
def IL (w : World) (v : Value) (L : List Int) : Prop := IRow w v L.length (fun i => L.getD i 0)
theorem IL.below {w w' : World} {v : Value} {L : List Int} (h : IL w v L) (hb : Below w.heap.size w w') : IL w' v L := IRow.below h hb
theorem IL.of_own {w : World} {base g cap : Nat} {L : List Int} {t : TypeId} (o : w.ownsRow base t 1 (.slice (some ⟨g, 0, none⟩) L.length cap) L.length (L.map (Value.int .i64))) : IL w (.slice (some ⟨g, 0, none⟩) L.length cap) L := by
  rw [ints_mk] at o
  exact IRow.of_own o
set_option maxRecDepth 100000 in
theorem clone_any (L : List Int) (g cap : Nat) (w : World) (h : IL w (.slice (some ⟨g, 0, none⟩) L.length cap) L) (hl : L.length ≤ 1000000) :
    Calls Try.prog 94 #[.slice (some ⟨g, 0, none⟩) L.length cap] w fun e w' => ∃ v', e = .returned v' ∧ w'.ownsRow w.heap.size 3 1 v' L.length (L.map (Value.int .i64)) ∧ v' ≠ .slice none 0 0 ∧ Below w.heap.size w w' := by
  obtain ⟨b, c, e, hb, hn, hc⟩ := h
  cases e
  have hcon := AnyG.slices_Clone_int Try.cloneI g 0 L.length cap L w (Nat.le_refl _) (by omega) (fun j hj => by rw [Nat.zero_add]; exact hc j hj)
  change Calls Try.prog 94 _ _ _ at hcon
  rw [List.take_length] at hcon
  exact hcon
set_option maxRecDepth 100000 in
theorem delete_any (L : List Int) (B g cap i : Nat) (w : World) (h : w.ownsRow B 3 1 (.slice (some ⟨g, 0, none⟩) L.length cap) L.length (L.map (Value.int .i64))) (hi : i < L.length) :
    Calls Try.prog 95 #[.slice (some ⟨g, 0, none⟩) L.length cap, .int .i64 (i : Int), .int .i64 ((i : Int) + 1)] w fun e w' => e = .returned (.slice (some ⟨g, 0, none⟩) (L.eraseIdx i).length cap) ∧
      w'.ownsRow B 3 1 (.slice (some ⟨g, 0, none⟩) (L.eraseIdx i).length cap) (L.eraseIdx i).length ((L.eraseIdx i).map (Value.int .i64)) ∧ w.grownBy w' (some g) := by
  have hle := len_erase L i hi
  rcases h.2 with ⟨h0, _⟩ | ⟨g', cap', cur, hv, hg, hb, hn, hcap, hcur, htk⟩
  · cases h0
  cases hv
  have hH : Holds (Value.int .i64) w g 0 L.toArray := holds_of_blockI hb (by rw [Nat.mul_one] at htk; exact htk)
  have hcon := AnyG.slices_Delete_int Try.delI g 0 cap i (i + 1) L w hH hn (by unfold maxLen at hcap; omega) (by omega) (by omega)
  change Calls Try.prog 95 _ _ _ at hcon
  rw [show ((i + 1 : Nat) : Int) = (i : Int) + 1 by omega] at hcon
  refine hcon.mono ?_
  rintro e w' ⟨rfl, q, rfl⟩
  have hs : (L.take i ++ L.drop (i + 1) ++ List.replicate (i + 1 - i) (0 : Int)) = L.eraseIdx i ++ [0] := by
    rw [List.eraseIdx_eq_take_drop_succ, show i + 1 - i = 1 by omega]
    rfl
  rw [hs]
  have hl2 : (L.eraseIdx i ++ [(0 : Int)]).length = L.length := by simp; omega
  have hn2 : (L.eraseIdx i).length = L.length - (i + 1 - i) := by omega
  have ho := ownsRow_sortedI (base := B) (n := q) (os := #[]) (e := 3) (ss := L) (ts := L.eraseIdx i ++ [(0 : Int)]) hl2 hg hb hn hcap (by rw [hcur])
  have hgr := grownBy_sortedI (w := w) (g := g) (n := q) (os := #[]) (L.eraseIdx i ++ [(0 : Int)]).toArray
  have eG : ∀ W : World, grow W #[] = W := fun W => by cases W; simp [grow]
  rw [eG] at ho hgr
  refine ⟨by rw [hn2], ?_, hgr⟩
  rcases ho.2 with ⟨h0, _⟩ | ⟨g', cap', cur', hv, hg', hb', hn', hcap', hcur', htk'⟩
  · cases h0
  cases hv
  refine ⟨by simp, .inr ⟨g, cap, cur', rfl, hg', hb', by omega, hcap', hcur', ?_⟩⟩
  have e2 := congrArg (List.take ((L.eraseIdx i).length * 1)) htk'
  rw [List.take_take, Nat.mul_one, Nat.mul_one, Nat.min_eq_left (by omega), List.map_append, List.take_append_of_le_length (by simp), show List.take (L.eraseIdx i).length (List.map (Value.int .i64) (L.eraseIdx i)) = List.map (Value.int .i64) (L.eraseIdx i) from List.take_of_length_le (by simp)] at e2
  rw [Nat.mul_one]
  exact e2
set_option maxHeartbeats 1000000 in
theorem areTiles_any (L : List Int) (v : Value) (w : World) (h : IL w v L) (hl : L.length ≤ 1000000) :
    Calls Try.prog 72 #[v] w fun e w' => e = .returned (.bool (decide (∀ x ∈ L, TlOk x))) ∧ w = w' := by
  obtain ⟨b, c, rfl, hb, hn, hc⟩ := h
  have HC := Lib.hid hc
  have HD : Hid (∀ k, k < L.length → (∀ j, j < k → TlOk (L.getD j 0)) → ¬ TlOk (L.getD k 0) → decide (∀ x ∈ L, TlOk x) = false) := fun k hk _ hq => by
    rw [decide_eq_false_iff_not]
    intro q
    exact hq (q _ (by rw [List.getD_eq_getElem?_getD, List.getElem?_eq_getElem hk]; exact List.getElem_mem hk))
  have HY : Hid ((∀ j, j < L.length → TlOk (L.getD j 0)) → decide (∀ x ∈ L, TlOk x) = true) := fun q => by
    rw [decide_eq_true_eq]
    intro x hx
    obtain ⟨j, hj, e⟩ := mem_at hx
    rw [← e]; exact q j hj
  generalize decide (∀ x ∈ L, TlOk x) = D at *
  generalize hN : L.length = n at *
  clear hc
  go_enter Try.func72, Try.ntmps72
  go_wp2_with fail
  go_loopg [7] n (fun g s7 wr => ∃ k : Nat, k + g = n ∧ s7 = .int .i64 (k : Int) ∧ Hid (∀ j, j < k → TlOk (L.getD j 0)) ∧ w = wr)
  case atStart => exact ⟨0, by omega, rfl, fun j hj => absurd hj (by omega), rfl⟩
  case round =>
    obtain ⟨k, hkg, rfl, HT, rfl⟩ := hrel
    cases gk with
    | zero =>
      have hk : ¬ ((k : Int) < (n : Int)) := by omega
      have HE : Hid (D = true) := HY.out (fun j hj => HT.out j (by omega))
      go_wp2_with fail
      go_ret
      exact ⟨by rw [HE.out]; rfl, rfl⟩
    | succ g =>
      have hk : (k : Int) < (n : Int) := by omega
      have hk0 : (0 : Int) ≤ (k : Int) := by omega
      have c1 := HC.out k (by omega)
      by_cases hq : TlOk (L.getD k 0)
      · have HQ := Lib.hid hq
        have HT2 : Hid (∀ j, j < k + 1 → TlOk (L.getD j 0)) := fun j hj => by
          by_cases e : j = k
          · subst e; exact HQ.out
          · exact HT.out j (by omega)
        generalize L.getD k 0 = t at c1 HQ
        clear hq
        go_wp2_with fail
        refine (isTile_yes t _ HQ.out.1 HQ.out.2).mono ?_
        rintro e w2 ⟨rfl, rfl⟩
        go_wp2_with fail
        go_roundg g
        case rel => exact ⟨k + 1, by omega, by go_num, HT2, rfl⟩
        case measure => omega
      · have HE : Hid (D = false) := HD.out k (by omega) HT.out hq
        have HQ := Lib.hid (tl_out hq)
        generalize L.getD k 0 = t at c1 HQ
        clear hq
        go_wp2_with fail
        refine (isTile_no t _ HQ.out).mono ?_
        rintro e w2 ⟨rfl, rfl⟩
        go_wp2_with fail
        go_ret
        exact ⟨by rw [HE.out]; rfl, rfl⟩
end Go.Proofs.Ytblcojacmjbjcaa
