/-
  The contracts of the laws' helpers rInts and rHas, on rows of integers; and what the list of moves has.
-/
import Derived.Test.YtblcojacmjbjcabRowsKit
import Derived.Test.YtblcojacmjbjcabPlainA
namespace Go.Proofs.Ytblcojacmjbjcab
open Go.RowKit Plain
attribute [local go_sem] Oper.semAt_some

set_option maxHeartbeats 400000 in
theorem rInts_yes (v u : Value) (n : Nat) (h : Nat → Int) (w : World) (hv : IRow w v n h) (hu : IRow w u n h) (hn : n ≤ 1048576) :
    Calls Try.prog 29 #[v, u] w fun e w' => e = .returned (.bool true) ∧ ∃ k, w' = w.drewN k := by
  obtain ⟨b1, c1, rfl, _, _, hc1⟩ := hv
  obtain ⟨b2, c2, rfl, _, _, hc2⟩ := hu
  have HC1 := Lib.hid hc1
  have HC2 := Lib.hid hc2
  clear hc1 hc2
  go_enter Try.func29, Try.ntmps29
  go_wp2
  go_loopw [5] (fun i wr => ∃ k m : Nat, k ≤ n ∧ i = .int .i64 k ∧ wr = w.drewN m) (fun i _ => n - (intOf i).toNat)
  case atStart => exact ⟨0, 0, Nat.zero_le _, rfl, rfl⟩
  case round =>
    obtain ⟨k, m, hk, rfl, rfl⟩ := hrel
    by_cases hlt : k < n
    · have e1 := HC1.out k hlt
      have e2 := HC2.out k hlt
      generalize h k = t at *
      have hb : (0 : Int) ≤ (k : Int) := by omega
      have hl : (k : Int) < (n : Int) := by omega
      go_wp2_with fail
      go_quiet (fail)
      go_wp2
      go_roundw
      case rel => exact ⟨k + 1, _, by omega, by go_num, rfl⟩
      case measure => simp [intOf]; omega
    · go_wp2
      go_ret
      exact ⟨rfl, _, rfl⟩
/-- x is among the first n numbers. -/
def hasI (h : Nat → Int) (n : Nat) (x : Int) : Bool := (List.range n).any fun j => h j == x
theorem hasI_yes {h : Nat → Int} {n k : Nat} {x : Int} (hk : k < n) (hx : h k = x) : hasI h n x = true := by
  unfold hasI
  rw [List.any_eq_true]
  exact ⟨k, List.mem_range.2 hk, by simpa using hx⟩
theorem hasI_no {h : Nat → Int} {n : Nat} {x : Int} (hx : ∀ j, j < n → h j ≠ x) : hasI h n x = false := by
  unfold hasI
  rw [List.any_eq_false]
  intro j hj
  simpa using hx j (List.mem_range.1 hj)
set_option maxHeartbeats 400000 in
theorem rHas_any (v : Value) (n : Nat) (h : Nat → Int) (x : Int) (w : World) (hv : IRow w v n h) (hn : n ≤ 1048576) :
    Calls Try.prog 30 #[v, .int .i64 x] w fun e w' => e = .returned (.bool (hasI h n x)) ∧ w = w' := by
  obtain ⟨b1, c1, rfl, _, _, hc1⟩ := hv
  have HC1 := Lib.hid hc1
  clear hc1
  go_enter Try.func30, Try.ntmps30
  go_wp2
  go_loopg [5] n (fun g s5 wr => ∃ k : Nat, k + g = n ∧ s5 = .int .i64 k ∧ (∀ j, j < k → h j ≠ x) ∧ w = wr)
  case atStart => exact ⟨0, by omega, rfl, fun j hj => by omega, rfl⟩
  case round =>
    obtain ⟨k, hkg, rfl, hn0, rfl⟩ := hrel
    have HN := Lib.hid hn0
    clear hn0
    cases gk with
    | zero =>
      have hk : ¬ ((k : Int) < (n : Int)) := by omega
      obtain rfl : k = n := by omega
      clear hkg hk
      go_wp2_with fail
      go_ret
      exact ⟨by rw [hasI_no HN.out]; rfl, rfl⟩
    | succ g =>
      have hk : (k : Int) < (n : Int) := by omega
      have hkn : k < n := by omega
      have hb : (0 : Int) ≤ (k : Int) := by omega
      have e1 := HC1.out k hkn
      by_cases hq : h k = x
      · have q1 : (h k == x) = true := by simpa using hq
        have HY := Lib.hid (hasI_yes hkn hq)
        clear hq
        generalize h k = t at *
        go_wp2_with fail
        go_ret
        exact ⟨by rw [HY.out]; rfl, rfl⟩
      · have q1 : (h k == x) = false := by simpa using hq
        have HQ := Lib.hid hq
        clear hq
        generalize ht : h k = t at *
        have HT := Lib.hid ht
        clear ht
        go_wp2_with fail
        go_roundg g
        case rel => exact ⟨k + 1, by omega, by go_num, fun j hj => by
          by_cases e : j = k
          · subst e; rw [HT.out]; exact HQ.out
          · exact HN.out j (by omega), rfl⟩
        case measure => omega
theorem mem_mov (f : Nat → Int) (x : Int) : ∀ k, x ∈ movL f k ↔ ∃ j, j < k ∧ x = (j : Int) ∧ isMv f j = true
  | 0 => by simp [movL]
  | k + 1 => by
    have ih := mem_mov f x k
    by_cases h : isMv f k = true
    · rw [mov_yes h, List.mem_append, ih]
      constructor
      · rintro (⟨j, a, b, c⟩ | hx)
        · exact ⟨j, by omega, b, c⟩
        · exact ⟨k, by omega, by simpa using hx, h⟩
      · rintro ⟨j, a, b, c⟩
        by_cases e : j = k
        · subst e; exact .inr (by simpa using b)
        · exact .inl ⟨j, by omega, b, c⟩
    · have h2 : isMv f k = false := by simpa using h
      rw [mov_no h2, ih]
      constructor
      · rintro ⟨j, a, b, c⟩; exact ⟨j, by omega, b, c⟩
      · rintro ⟨j, a, b, c⟩
        by_cases e : j = k
        · subst e; exact absurd c h
        · exact ⟨j, by omega, b, c⟩
theorem has_mov (f : Nat → Int) {d : Nat} (hd : d < 4) : hasI (fun i => (movL f 4).getD i 0) (movL f 4).length (d : Int) = isMv f d := by
  by_cases h : isMv f d = true
  · rw [h]
    have hm : (d : Int) ∈ movL f 4 := (mem_mov f d 4).2 ⟨d, hd, rfl, h⟩
    obtain ⟨i, hi, he⟩ := List.getElem_of_mem hm
    exact hasI_yes hi (by show (movL f 4).getD i 0 = _; rw [List.getD_eq_getElem?_getD, List.getElem?_eq_getElem hi]; exact he)
  · have h2 : isMv f d = false := by simpa using h
    rw [h2]
    refine hasI_no fun j hj e => ?_
    have e2 : (movL f 4).getD j 0 = (d : Int) := e
    rw [List.getD_eq_getElem?_getD, List.getElem?_eq_getElem hj] at e2
    have hm : (d : Int) ∈ movL f 4 := by
      have := List.getElem_mem hj
      rw [show (movL f 4)[j] = (d : Int) from e2] at this
      exact this
    obtain ⟨l, _, b, c⟩ := (mem_mov f d 4).1 hm
    have : l = d := by omega
    subst this
    exact h c
theorem noMv_iff (f : Nat → Int) : (movL f 4).length = 0 ↔ NoMv f := by
  constructor
  · intro h d hd j hj
    have hn : ¬ isMv f d = true := fun e => by
      have := (mem_mov f d 4).2 ⟨d, hd, rfl, e⟩
      rw [List.length_eq_zero_iff.1 h] at this
      cases this
    have : sameB (slideB f d) f = true := by simpa [isMv] using hn
    exact sameB_iff.1 this j hj
  · intro h
    apply List.length_eq_zero_iff.2
    apply List.eq_nil_iff_forall_not_mem.2
    intro x hx
    obtain ⟨j, a, _, c⟩ := (mem_mov f x 4).1 hx
    have : sameB (slideB f j) f = true := sameB_iff.2 (h j a)
    simp [isMv, this] at c
end Go.Proofs.Ytblcojacmjbjcab
