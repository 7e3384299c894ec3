/-
  Orders of directions: the contracts of l11Order, l11First and isOrder.
-/
import Derived.Test.YtfjpdopljmilpaaSeedPlain
import Derived.Test.YtfjpdopljmilpaaSlideTo
import Derived.Test.YtfjpdopljmilpaaRowsKit
import Derived.Deep.CutRange
namespace Go.Proofs.Ytfjpdopljmilpaa.Plain
/-- The first k are directions, each another one. -/
def OrdPre (o : Nat → Int) (k : Nat) : Prop := (∀ i, i < k → 0 ≤ o i ∧ o i ≤ 3) ∧ ∀ i j, i < j → j < k → o i ≠ o j
theorem ordPre_zero (o : Nat → Int) : OrdPre o 0 := ⟨fun i h => by omega, fun i j _ h => by omega⟩
theorem ordPre_all {o : Nat → Int} : OrdPre o 4 ↔ OrdOk o := Iff.rfl
theorem ordPre_step {o : Nat → Int} {k : Nat} (h : OrdPre o k) (a : 0 ≤ o k ∧ o k ≤ 3) (b : ∀ i, i < k → o i ≠ o k) : OrdPre o (k + 1) :=
  ⟨fun i hi => by rcases (by omega : i < k ∨ i = k) with q | rfl; exact h.1 i q; exact a,
   fun i j hi hj => by
    rcases (by omega : j < k ∨ j = k) with q | rfl
    · exact h.2 i j hi q
    · exact b i hi⟩
theorem ord_out {o : Nat → Int} {k : Nat} (hk : k < 4) (a : ¬ (0 ≤ o k ∧ o k ≤ 3)) : ¬ OrdOk o := fun h => a (h.1 k hk)
theorem ord_twice {o : Nat → Int} {i k : Nat} (hi : i < k) (hk : k < 4) (a : o i = o k) : ¬ OrdOk o := fun h => h.2 i k hi hk a
/-- The directions that are among the first k. -/
def ordS (o : Nat → Int) (k : Nat) : Nat → Bool := fun j => (List.range k).any fun i => o i == (j : Int)
theorem ordS_iff {o : Nat → Int} {k j : Nat} : ordS o k j = true ↔ ∃ i, i < k ∧ o i = (j : Int) := by
  simp [ordS]
theorem ordS_step (o : Nat → Int) (k j d : Nat) (h : o k = (d : Int)) : ordS o (k + 1) j = if j = d then true else ordS o k j := by
  rw [Bool.eq_iff_iff]
  constructor
  · intro q
    obtain ⟨i, hi, e⟩ := ordS_iff.1 q
    split
    · rfl
    · rename_i hj
      refine ordS_iff.2 ⟨i, ?_, e⟩
      rcases (by omega : i < k ∨ i = k) with r | rfl
      · exact r
      · rw [h] at e; omega
  · intro q
    split at q
    · rename_i hj; subst hj; exact ordS_iff.2 ⟨k, by omega, h⟩
    · obtain ⟨i, hi, e⟩ := ordS_iff.1 q
      exact ordS_iff.2 ⟨i, by omega, e⟩
end Go.Proofs.Ytfjpdopljmilpaa.Plain
namespace Go.Proofs.Ytfjpdopljmilpaa
open Go.RowKit Plain
attribute [local go_sem] store_new
set_option linter.unusedVariables false
set_option linter.unusedSimpArgs false
set_option maxHeartbeats 2000000 in
set_option maxRecDepth 20000 in
theorem l11Order_any (o : Nat → Int) (w : World) :
    Calls Try.prog 137 #[.agg (mk 4 o)] w fun e w' => e = .returned (.bool (decide (OrdOk o))) ∧ Below w.heap.size w w' := by
  have K1 := Blk.new w 4 o 22
  have HB := Lib.hid ((Below.refl w.heap.size w).alloc (Nat.le_refl _) (.cells (mk 4 o) 22))
  go_enter Try.func137, Try.ntmps137
  go_wp2_with fail
  go_loopg [3] 4 (fun gk s3 wr => ∃ k : Nat, k + gk = 4 ∧ s3 = .int .i64 k ∧ Hid (OrdPre o k) ∧ Blk wr w.heap.size 4 o 22 ∧ Hid (Below w.heap.size w wr))
  case atStart => exact ⟨0, by omega, rfl, ordPre_zero o, K1, HB⟩
  case round =>
    clear K1 HB
    obtain ⟨k, hkg, rfl, HP, K1, HB⟩ := hrel
    cases gk with
    | zero =>
      have hk : ¬ ((k : Int) < 4) := by omega
      obtain rfl : k = 4 := by omega
      have HD : Hid (decide (OrdOk o) = true) := decide_eq_true HP.out
      clear hkg
      go_wp2_with fail
      go_ret
      exact ⟨by rw [HD.out]; rfl, HB.out⟩
    | succ gk2 =>
      have hk8 : (k : Int) < 4 := by omega
      have hk9 : k < 4 := by omega
      have hk0 : (0 : Int) ≤ (k : Int) := by omega
      have hk4 : ¬ ((4 : Int) ≤ (k : Int)) := by omega
      have c0 := K1.cell (i := k) hk9
      by_cases ha : 0 ≤ o k ∧ o k ≤ 3
      · have HA := Lib.hid ha
        go_wp2_with fail
        refine (l2Side_yes (o k) _ ha.1 ha.2).mono ?_
        rintro e w' ⟨rfl, rfl⟩
        clear ha c0
        go_wp2_with fail
        go_loopg [4] k (fun gj s4 wx => ∃ j : Nat, j + gj = k ∧ s4 = .int .i64 j ∧ Hid (∀ i, i < j → o i ≠ o k) ∧ Blk wx w.heap.size 4 o 22 ∧ Hid (Below w.heap.size w wx))
        case atStart => exact ⟨0, by omega, rfl, fun i hi => by omega, K1, HB⟩
        case round =>
          clear K1 HB
          obtain ⟨j, hjg, rfl, HJ, K1, HB⟩ := hrel
          cases gk with
          | zero =>
            have hj : ¬ ((j : Int) < (k : Int)) := by omega
            obtain rfl : j = k := by omega
            go_wp2_with fail
            go_roundg gk2
            case rel => exact ⟨j + 1, by omega, by go_num, ordPre_step HP.out HA.out HJ.out, K1, HB⟩
            case measure => omega
          | succ gj2 =>
            have hj : (j : Int) < (k : Int) := by omega
            have hj0 : (0 : Int) ≤ (j : Int) := by omega
            have hj4 : ¬ ((4 : Int) ≤ (j : Int)) := by omega
            have hj9 : j < 4 := by omega
            have hc1 := fun (W : World) (q : Blk W w.heap.size 4 o 22) => q.cell (i := k) hk9
            have hc2 := fun (W : World) (q : Blk W w.heap.size 4 o 22) => q.cell (i := j) hj9
            by_cases hE : o j = o k
            · have HD : Hid (decide (OrdOk o) = false) := decide_eq_false (ord_twice (by omega) hk9 hE)
              have hq : (o j == o k) = true := by simpa using hE
              have hq2 : (o k == o k) = true := by simp
              go_wp2_with fail
              go_region_held3 (fun w' => Blk w' w.heap.size 4 o 22 ∧ Below w.heap.size w w') (first | exact ⟨K1, HB.out.drew⟩ | assumption) (fail)
              all_goals
                go_wp2_with fail
                go_ret
                exact ⟨by rw [HD.out]; rfl, And.right (by assumption)⟩
            · have hq : (o j == o k) = false := by simpa using hE
              have HJ2 : Hid (∀ i, i < j + 1 → o i ≠ o k) := fun i hi => by
                rcases (by omega : i < j ∨ i = j) with q | rfl
                · exact HJ.out i q
                · exact hE
              clear hE
              go_wp2_with fail
              go_region_held3 (fun w' => Blk w' w.heap.size 4 o 22 ∧ Below w.heap.size w w') (first | exact ⟨K1, HB.out.drew⟩ | assumption) (fail)
              all_goals
                go_wp2_with fail
                go_roundg gj2
                case rel => exact ⟨j + 1, by omega, by go_num, HJ2, And.left (by assumption), And.right (by assumption)⟩
                case measure => omega
      · have HD : Hid (decide (OrdOk o) = false) := decide_eq_false (ord_out hk9 ha)
        have HA := Lib.hid (show o k < 0 ∨ 3 < o k by omega)
        clear ha
        go_wp2_with fail
        refine (l2Side_no (o k) _ HA.out).mono ?_
        rintro e w' ⟨rfl, rfl⟩
        go_wp2_with fail
        go_ret
        exact ⟨by rw [HD.out]; rfl, HB.out⟩
set_option maxHeartbeats 1000000 in
theorem l1Has11_any (g cap : Nat) (xs : List Int) (x : Int) (w : World) (hc : CAt w g xs.length fun i => xs.getD i 0) (hn : xs.length ≤ 1048576) :
    Calls Try.prog 235 #[.slice (some ⟨g, 0, none⟩) xs.length cap, .int .i64 x] w fun e w' => e = .returned (.bool (decide (x ∈ xs))) ∧ w = w' := by
  have HC : Hid (∀ k y, xs[k]? = some y → w.cell? ⟨g, k, none⟩ = some (.int .i64 y)) := fun k y hk => by
    have := hc.2 k (List.getElem?_eq_some_iff.1 hk).1
    simpa [List.getD, hk] using this
  clear hc
  generalize hN : xs.length = n at *
  go_enter Try.func235, Try.ntmps235
  go_wp2
  go_loop [5] (fun i => ∃ k : Nat, k ≤ n ∧ i = .int .i64 k ∧ ∀ j y, j < k → xs[j]? = some y → y ≠ x) (fun i => n - (intOf i).toNat)
  case atStart => exact ⟨0, Nat.zero_le _, rfl, fun j y hj => by omega⟩
  case round =>
    obtain ⟨k, hk, rfl, hp⟩ := hrel
    have HP := Lib.hid hp
    clear hp
    by_cases hlt : k < n
    · have hk0 : (0 : Int) ≤ (k : Int) := by omega
      have hl : (k : Int) < (n : Int) := by omega
      obtain ⟨y, hy⟩ : ∃ y, xs[k]? = some y := ⟨xs[k]'(by omega), List.getElem?_eq_getElem _⟩
      have HY := Lib.hid hy
      have c1 := HC.out k y hy
      clear hy
      by_cases hq : y = x
      · have HD : Hid (decide (x ∈ xs) = true) := decide_eq_true (by rw [← hq]; exact List.mem_of_getElem? HY.out)
        have q1 : (y == x) = true := by simpa using hq
        clear hq
        go_wp2
        go_ret
        exact ⟨by rw [HD.out]; rfl, rfl⟩
      · have HQ := Lib.hid hq
        have q1 : (y == x) = false := by simpa using hq
        clear hq
        go_wp2
        go_round
        case rel => exact ⟨k + 1, by omega, by go_num, fun j z hj hz => by
          rcases (by omega : j < k ∨ j = k) with p | rfl
          · exact HP.out j z p hz
          · rw [HY.out] at hz; cases hz; exact HQ.out⟩
        case measure => simp [intOf]; omega
    · obtain rfl : k = n := by omega
      have HD : Hid (decide (x ∈ xs) = false) := decide_eq_false fun hm => by
        obtain ⟨j, hj⟩ := List.getElem?_of_mem hm
        exact HP.out j x (by have := (List.getElem?_eq_some_iff.1 hj).1; omega) hj rfl
      go_wp2
      go_ret
      exact ⟨by rw [HD.out]; rfl, rfl⟩

theorem mv_mem {b : Nat → Int} {d : Nat} : ∀ {k}, (d : Int) ∈ movL b k ↔ d < k ∧ isMv b d = true
  | 0 => by simp [movL]
  | k + 1 => by
    cases e : isMv b k with
    | true =>
      rw [mov_yes e, List.mem_append, mv_mem]
      constructor
      · rintro (⟨a, c⟩ | q)
        · exact ⟨by omega, c⟩
        · have : d = k := by have q2 : (d : Int) = (k : Int) := by simpa using q
                             omega
          subst this; exact ⟨by omega, e⟩
      · rintro ⟨a, c⟩
        rcases (by omega : d < k ∨ d = k) with q | rfl
        · exact .inl ⟨q, c⟩
        · exact .inr (by simp)
    | false =>
      rw [mov_no e, mv_mem]
      constructor
      · rintro ⟨a, c⟩; exact ⟨by omega, c⟩
      · rintro ⟨a, c⟩
        rcases (by omega : d < k ∨ d = k) with q | rfl
        · exact ⟨q, c⟩
        · rw [e] at c; cases c
set_option maxHeartbeats 2000000 in
set_option maxRecDepth 20000 in
theorem l11First_gen (o : Nat → Int) (L : List Int) (g cap n N : Nat) (w : World) (hl : L.length = n) (hn : n ≤ 4) (hN : N < 4) (hno : ∀ i, i < N → o i ∉ L) (hyes : o N ∈ L) (hc : CAt w g n fun i => L.getD i 0) :
    Calls Try.prog 141 #[.agg (mk 4 o), .slice (some ⟨g, 0, none⟩) n cap] w fun e w' => e = .returned (.int .i64 (o N)) ∧ Below w.heap.size w w' := by
  have K1 := Blk.new w 4 o 22
  have HB := Lib.hid ((Below.refl w.heap.size w).alloc (Nat.le_refl _) (.cells (mk 4 o) 22))
  have HC := Lib.hid hc
  have HNO := Lib.hid hno
  have HYS := Lib.hid hyes
  have HCON : Hid (∀ (W : World) (x : Int), CAt W g n (fun i => L.getD i 0) → Calls Try.prog 235 #[.slice (some ⟨g, 0, none⟩) n cap, .int .i64 x] W fun e w' => e = .returned (.bool (decide (x ∈ L))) ∧ W = w') := fun W x q => by
    subst hl; exact l1Has11_any g cap L x W q (by omega)
  clear hc hno hyes hl
  go_enter Try.func141, Try.ntmps141
  go_wp2_with fail
  go_loopg [5] 4 (fun gk s5 wr => ∃ k : Nat, k + gk = 4 ∧ s5 = .int .i64 k ∧ k ≤ N ∧ Blk wr w.heap.size 4 o 22 ∧ Hid (Below w.heap.size w wr))
  case atStart => exact ⟨0, by omega, rfl, Nat.zero_le _, K1, HB⟩
  case round =>
    clear K1 HB
    obtain ⟨k, hkg, rfl, hkN, K1, HB⟩ := hrel
    have hk9 : k < 4 := by omega
    have hk0 : (0 : Int) ≤ (k : Int) := by omega
    have hk4 : ¬ ((4 : Int) ≤ (k : Int)) := by omega
    have c0 := K1.cell (i := k) hk9
    have hcon := HCON.out wr (o k) (CAt.low HC.out HB.out HC.out.1)
    by_cases hq : k = N
    · subst hq
      rw [decide_eq_true HYS.out] at hcon
      go_wp2_with fail
      refine hcon.mono ?_
      rintro e w' ⟨rfl, rfl⟩
      go_wp2_with fail
      go_ret
      exact ⟨rfl, HB.out⟩
    · rw [decide_eq_false (HNO.out k (by omega))] at hcon
      cases gk with
      | zero => exact absurd hkg (by omega)
      | succ gk2 =>
        go_wp2_with fail
        refine hcon.mono ?_
        rintro e w' ⟨rfl, rfl⟩
        go_wp2_with fail
        go_roundg gk2
        case rel => exact ⟨k + 1, by omega, by go_num, by omega, K1, HB⟩
        case measure => omega
theorem l11First_any (o b : Nat → Int) (g cap n : Nat) (w : World) (hn : n = (movL b 4).length) (hO : OrdOk o) (hM : fmN b o 4 < 4) (hc : CAt w g n fun i => (movL b 4).getD i 0) :
    Calls Try.prog 141 #[.agg (mk 4 o), .slice (some ⟨g, 0, none⟩) n cap] w fun e w' => e = .returned (.int .i64 (fmD b o : Int)) ∧ Below w.heap.size w w' := by
  rw [← (fmD_mv hO hM).2.2]
  refine l11First_gen o (movL b 4) g cap n (fmN b o 4) w hn.symm (by rw [hn]; exact movL_le b 4) hM (fun i hi q => ?_) ?_ hc
  · have h0 := hO.1 i (by omega)
    obtain ⟨d, hd⟩ := Int.eq_ofNat_of_zero_le h0.1
    rw [hd] at q
    have h1 := (mv_mem.1 q).2
    have h2 := fmN_all (fmN_at hM).2 i hi
    rw [hd] at h2
    simp only [Int.toNat_natCast] at h2
    rw [h2] at h1; cases h1
  · have h0 := fmD_mv hO hM
    rw [h0.2.2]
    exact mv_mem.2 ⟨h0.1, h0.2.1⟩
end Go.Proofs.Ytfjpdopljmilpaa
