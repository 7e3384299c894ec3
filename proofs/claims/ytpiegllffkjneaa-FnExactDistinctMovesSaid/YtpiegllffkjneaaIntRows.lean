/-
  Rows of integers that are read, and the contracts of the laws' helpers on them: eqIntS, markIntS, heldIntS.
-/
import Derived.Test.YtpiegllffkjneaaMoves
import Derived.OwnWalk
import Derived.Deep.QuietTactic
import Derived.BigQuiet
namespace Go.Proofs.Ytpiegllffkjneaa
open Go.RowKit Plain

attribute [local go_sem] Oper.semAt_some

/-- The value v is a slice of n integers, told by a function of their places. -/
def IRow (w : World) (v : Value) (n : Nat) (h : Nat → Int) : Prop :=
  ∃ g cap, v = .slice (some ⟨g, 0, none⟩) n cap ∧ n ≤ cap ∧ g < w.heap.size ∧ ∀ j, j < n → w.cell? ⟨g, j, none⟩ = some (.int .i64 (h j))
theorem IRow.below {w w' : World} {v : Value} {n : Nat} {h : Nat → Int} (r : IRow w v n h) (hb : Below w.heap.size w w') : IRow w' v n h := by
  obtain ⟨g, cap, rfl, h0, h1, h2⟩ := r
  exact ⟨g, cap, rfl, h0, Nat.lt_of_lt_of_le h1 hb.size, fun j hj => (hb.cell (p := ⟨g, j, none⟩) h1).trans (h2 j hj)⟩
theorem IRow.of_own {w : World} {base g cap n : Nat} {h : Nat → Int} {t : TypeId} (o : w.ownsRow base t 1 (.slice (some ⟨g, 0, none⟩) n cap) n (mk n h).toList) : IRow w (.slice (some ⟨g, 0, none⟩) n cap) n h := by
  have hlt := (o.lt g rfl).2
  have hcap : n ≤ cap := by
    rcases o.2 with ⟨h2, _⟩ | ⟨g', cap', cur, h2, _, _, h3, _⟩
    · cases h2
    · cases h2; exact h3
  refine ⟨g, cap, rfl, hcap, hlt, fun j hj => ?_⟩
  have := o.cellAt j (by omega)
  rw [this, Array.getElem?_toList]
  exact mk_get h hj
/-- A list of integers, told by a function of its places. -/
theorem ints_mk (xs : List Int) : xs.map (Value.int .i64) = (mk xs.length fun i => xs.getD i 0).toList := by
  apply List.ext_getElem?
  intro i
  have e : (mk xs.length fun i => xs.getD i 0).toList[i]? = (mk xs.length fun i => xs.getD i 0)[i]? := Array.getElem?_toList
  rw [e]
  by_cases hi : i < xs.length
  · rw [mk_get _ hi]; simp [hi]
  · rw [mk_out _ (by omega)]; simp; omega

set_option maxHeartbeats 400000 in
theorem eqI_yes (v u : Value) (n : Nat) (h : Nat → Int) (w : World) (hv : IRow w v n h) (hu : IRow w u n h) (hn : n ≤ 1048576) :
    Calls Try.prog 80 #[v, u] w fun e w' => e = .returned (.bool true) ∧ ∃ k, w' = w.drewN k := by
  obtain ⟨b1, c1, rfl, _, _, hc1⟩ := hv
  obtain ⟨b2, c2, rfl, _, _, hc2⟩ := hu
  have HC1 := Lib.hid hc1
  have HC2 := Lib.hid hc2
  clear hc1 hc2
  go_enter Try.func80, Try.ntmps80
  go_wp2
  go_loopw [5] (fun i wr => ∃ k m : Nat, k ≤ n ∧ i = .int .i64 k ∧ wr = w.drewN m) (fun i _ => n - (intOf i).toNat)
  case atStart => exact ⟨0, 0, Nat.zero_le _, rfl, rfl⟩
  case round =>
    obtain ⟨k, m, hk, rfl, rfl⟩ := hrel
    by_cases hlt : k < n
    · have e1 := HC1.out k hlt
      have e2 := HC2.out k hlt
      generalize h k = t at *
      have hb : (0 : Int) ≤ (k : Int) := by omega
      have hl : (k : Int) < (n : Int) := by omega
      go_wp2_with fail
      go_quiet (fail)
      go_wp2
      go_roundw
      case rel => exact ⟨k + 1, _, by omega, by go_num, rfl⟩
      case measure => simp [intOf]; omega
    · go_wp2
      go_ret
      exact ⟨rfl, _, rfl⟩

/-- The first k are the marks, the others as they were. -/
def mixI (h : Nat → Int) (k : Nat) : Nat → Int := fun j => if j < k then ((1 + j : Nat) : Int) else h j
theorem mixI_zero (h : Nat → Int) (n : Nat) : mk n (mixI h 0) = mk n h := mk_congr fun i _ => by simp [mixI]
theorem mixI_step (h : Nat → Int) (k n : Nat) : mk n (upd (mixI h k) k ((1 + k : Nat) : Int)) = mk n (mixI h (k + 1)) := mk_congr fun j _ => by
  unfold upd mixI
  by_cases e : j = k
  · subst e; simp
  · by_cases l : j < k
    · simp [e, l, show j < k + 1 by omega]
    · simp [e, l, show ¬ j < k + 1 by omega]
theorem mixI_end (h : Nat → Int) (n : Nat) : mk n (mixI h n) = mk n fun j => ((1 + j : Nat) : Int) := mk_congr fun j hj => by simp [mixI, hj]

set_option maxHeartbeats 400000 in
theorem markI_row (g cap n base : Nat) (h : Nat → Int) (w : World) (ho : w.ownsRow base 3 1 (.slice (some ⟨g, 0, none⟩) n cap) n (mk n h).toList) (hn : n ≤ 1048576) :
    Calls Try.prog 81 #[.slice (some ⟨g, 0, none⟩) n cap, .int .i64 1] w fun e w' => e = .returned (.int .i64 (1 + n : Nat)) ∧
      w'.ownsRow base 3 1 (.slice (some ⟨g, 0, none⟩) n cap) n (mk n fun j => ((1 + j : Nat) : Int)).toList ∧ Below base w w' := by
  have hgb : base ≤ g := (ho.lt g rfl).1
  have HO : Hid (w.ownsRow base 3 1 (.slice (some ⟨g, 0, none⟩) n cap) n (mk n (mixI h 0)).toList) := by
    show w.ownsRow _ _ _ _ _ _
    rw [mixI_zero]; exact ho
  clear ho
  go_enter Try.func81, Try.ntmps81
  go_wp2
  go_loopw [1, 5] (fun q i wr => ∃ k : Nat, k ≤ n ∧ i = .int .i64 k ∧ q = .int .i64 (1 + k : Nat) ∧ wr.ownsRow base 3 1 (.slice (some ⟨g, 0, none⟩) n cap) n (mk n (mixI h k)).toList ∧ Below base w wr) (fun _ i _ => n - (intOf i).toNat)
  case atStart => exact ⟨0, Nat.zero_le _, rfl, rfl, HO.out, Below.refl _ _⟩
  case round =>
    obtain ⟨k, hk, rfl, rfl, hown, hbel⟩ := hrel
    have HB := Lib.hid hbel
    clear hbel
    by_cases hlt : k < n
    · have hd : wr.cell? ⟨g, k, none⟩ = some (.int .i64 (mixI h k k)) := by
        rw [hown.cellAt k (by omega), Array.getElem?_toList]; exact mk_get _ hlt
      have hf := hown.frozenAt k
      have hst := hown.stored k (.int .i64 ((1 + k : Nat) : Int))
      rw [← Array.toList_setIfInBounds, mk_set _ _ hlt, mixI_step] at hst
      have HST := Lib.hid hst
      generalize mixI h k k = u0 at hd
      clear hst hown
      go_wp2
      go_roundw
      case rel => exact ⟨k + 1, by omega, by go_num, by go_num, HST.out.1, HB.out.setCell (p := ⟨g, k, none⟩) hgb _⟩
      case measure => simp [intOf]; omega
    · obtain rfl : k = n := by omega
      have HW := Lib.hid hown
      clear hown
      go_wp2
      go_ret
      refine ⟨rfl, ?_, HB.out⟩
      have := HW.out
      rw [mixI_end] at this
      exact this

set_option maxHeartbeats 400000 in
theorem heldI_row (v : Value) (n : Nat) (w : World) (hv : IRow w v n fun j => ((1 + j : Nat) : Int)) (hn : n ≤ 1048576) :
    Calls Try.prog 82 #[v, .int .i64 1] w fun e w' => e = .returned (.int .i64 (1 + n : Nat)) ∧ w = w' := by
  obtain ⟨b, c, rfl, _, _, hc⟩ := hv
  have HC := Lib.hid hc
  clear hc
  go_enter Try.func82, Try.ntmps82
  go_wp2
  go_loop [1, 5] (fun q i => ∃ k : Nat, k ≤ n ∧ i = .int .i64 k ∧ q = .int .i64 (1 + k : Nat)) (fun _ i => n - (intOf i).toNat)
  case atStart => exact ⟨0, Nat.zero_le _, rfl, rfl⟩
  case round =>
    obtain ⟨k, hk, rfl, rfl⟩ := hrel
    by_cases hlt : k < n
    · have e1 := HC.out k hlt
      go_wp2
      go_round
      case rel => exact ⟨k + 1, by omega, by go_num, by go_num⟩
      case measure => simp [intOf]; omega
    · obtain rfl : k = n := by omega
      go_wp2
      go_ret
      exact ⟨rfl, rfl⟩
end Go.Proofs.Ytpiegllffkjneaa
