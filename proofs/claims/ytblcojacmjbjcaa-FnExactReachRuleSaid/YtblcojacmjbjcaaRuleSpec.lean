/-
  The contracts of the reference's rules: whether a number is a rule, what two tiles merge to, what a tile is worth, MergeOf and WorthBy.
-/
import Derived.Test.YtblcojacmjbjcaaRulePlain
import Derived.Test.YtblcojacmjbjcaaBaseA
namespace Go.Proofs.Ytblcojacmjbjcaa
open Go.RowKit Plain
set_option linter.unusedVariables false
set_option linter.unusedSimpArgs false
theorem l1Low_any (s t : Int) (w : World) :
    Calls Try.prog 77 #[.int .i64 s, .int .i64 t] w fun e w' => e = .returned (.int .i64 (lowI s t)) ∧ w = w' := by
  by_cases h : s < t
  · have HL : Hid (lowI s t = s) := by show lowI s t = s; unfold lowI; rw [if_pos (by omega)]
    go_enter Try.func77, Try.ntmps77
    go_wp2
    go_ret
    exact ⟨by rw [HL.out]; rfl, rfl⟩
  · have HL : Hid (lowI s t = t) := by show lowI s t = t; unfold lowI; split <;> omega
    have h2 : decide (s < t) = false := by simpa using h
    clear h
    go_enter Try.func77, Try.ntmps77
    go_wp2
    go_ret
    exact ⟨by rw [HL.out]; rfl, rfl⟩
theorem l1High_any (s t : Int) (w : World) :
    Calls Try.prog 78 #[.int .i64 s, .int .i64 t] w fun e w' => e = .returned (.int .i64 (hghI s t)) ∧ w = w' := by
  by_cases h : t < s
  · have HL : Hid (hghI s t = s) := by show hghI s t = s; unfold hghI; rw [if_neg (by omega)]
    go_enter Try.func78, Try.ntmps78
    go_wp2
    go_ret
    exact ⟨by rw [HL.out]; rfl, rfl⟩
  · have HL : Hid (hghI s t = t) := by show hghI s t = t; unfold hghI; rw [if_pos (by omega)]
    have h2 : decide (t < s) = false := by simpa using h
    clear h
    go_enter Try.func78, Try.ntmps78
    go_wp2
    go_ret
    exact ⟨by rw [HL.out]; rfl, rfl⟩
theorem mgF_split {r s t lo hi v : Int} (hl : lowI s t = lo) (hh : hghI s t = hi) (hv : mgRaw r lo hi = v) : mgF r s t = if 17 < v then 0 else v := by
  unfold mgF; rw [hl, hh, hv]
theorem l10Merge_1 (s t : Int) (w : World) (hs : TlOk s) (ht : TlOk t) :
    Calls Try.prog 50 #[.int .i64 1, .int .i64 s, .int .i64 t] w fun e w' => e = .returned (.int .i64 (mgF 1 s t)) ∧ w = w' := by
  obtain ⟨a0, a1⟩ := lowI_bd hs ht
  obtain ⟨b0, b1⟩ := hghI_bd hs ht
  have hlh := low_hgh s t
  have CL : Hid (∀ W, Calls Try.prog 77 #[.int .i64 s, .int .i64 t] W fun e w' => e = .returned (.int .i64 (lowI s t)) ∧ W = w') := l1Low_any s t
  have CH : Hid (∀ W, Calls Try.prog 78 #[.int .i64 s, .int .i64 t] W fun e w' => e = .returned (.int .i64 (hghI s t)) ∧ W = w') := l1High_any s t
  have HL : Hid (∃ lo hi, lowI s t = lo ∧ hghI s t = hi) := ⟨_, _, rfl, rfl⟩
  have HM : Hid (∀ v, mgRaw 1 (lowI s t) (hghI s t) = v → mgF 1 s t = if 17 < v then 0 else v) := fun v h => mgF_split rfl rfl h
  generalize lowI s t = lo at *
  generalize hghI s t = hi at *
  clear hs ht HL
  by_cases h : lo = hi
  · have h1 : (lo == hi) = true := by simpa using h
    have HV2 : Hid (mgF 1 s t = if 17 < (hi + 1) then 0 else (hi + 1)) := HM.out _ (by unfold mgRaw; simp [h] <;> omega)
    clear HM
    by_cases h17 : 17 < (hi + 1)
    · have HV3 : Hid (mgF 1 s t = 0) := by have := HV2.out; rw [if_pos h17] at this; exact this
      have e17 : decide ((hi + 1) > 17) = true := by first | (simp; done) | (simp; omega)
      clear HV2
      go_enter Try.func50, Try.ntmps50
      go_wp2_with fail
      refine (CL.out _).mono ?_
      rintro e w1 ⟨rfl, rfl⟩
      go_wp2_with fail
      refine (CH.out _).mono ?_
      rintro e w1 ⟨rfl, rfl⟩
      go_wp2_with fail
      go_ret
      exact ⟨by rw [HV3.out]; rfl, rfl⟩
    · have HV3 : Hid (mgF 1 s t = (hi + 1)) := by have := HV2.out; rw [if_neg h17] at this; exact this
      have e17 : decide ((hi + 1) > 17) = false := by first | (simp; done) | (simp; omega)
      clear HV2
      go_enter Try.func50, Try.ntmps50
      go_wp2_with fail
      refine (CL.out _).mono ?_
      rintro e w1 ⟨rfl, rfl⟩
      go_wp2_with fail
      refine (CH.out _).mono ?_
      rintro e w1 ⟨rfl, rfl⟩
      go_wp2_with fail
      go_ret
      exact ⟨by rw [HV3.out]; rfl, rfl⟩
  · have h1 : (lo == hi) = false := by simpa using h
    have HV2 : Hid (mgF 1 s t = if 17 < (0 : Int) then 0 else (0 : Int)) := HM.out _ (by unfold mgRaw; simp [h] <;> omega)
    clear HM
    have h17 : ¬ 17 < (0 : Int) := by decide
    have HV3 : Hid (mgF 1 s t = (0 : Int)) := by have := HV2.out; rw [if_neg h17] at this; exact this
    have e17 : decide ((0 : Int) > 17) = false := by first | (simp; done) | (simp; omega)
    clear HV2
    go_enter Try.func50, Try.ntmps50
    go_wp2_with fail
    refine (CL.out _).mono ?_
    rintro e w1 ⟨rfl, rfl⟩
    go_wp2_with fail
    refine (CH.out _).mono ?_
    rintro e w1 ⟨rfl, rfl⟩
    go_wp2_with fail
    go_ret
    exact ⟨by rw [HV3.out]; rfl, rfl⟩
theorem l10Merge_2 (s t : Int) (w : World) (hs : TlOk s) (ht : TlOk t) :
    Calls Try.prog 50 #[.int .i64 2, .int .i64 s, .int .i64 t] w fun e w' => e = .returned (.int .i64 (mgF 2 s t)) ∧ w = w' := by
  obtain ⟨a0, a1⟩ := lowI_bd hs ht
  obtain ⟨b0, b1⟩ := hghI_bd hs ht
  have hlh := low_hgh s t
  have CL : Hid (∀ W, Calls Try.prog 77 #[.int .i64 s, .int .i64 t] W fun e w' => e = .returned (.int .i64 (lowI s t)) ∧ W = w') := l1Low_any s t
  have CH : Hid (∀ W, Calls Try.prog 78 #[.int .i64 s, .int .i64 t] W fun e w' => e = .returned (.int .i64 (hghI s t)) ∧ W = w') := l1High_any s t
  have HL : Hid (∃ lo hi, lowI s t = lo ∧ hghI s t = hi) := ⟨_, _, rfl, rfl⟩
  have HM : Hid (∀ v, mgRaw 2 (lowI s t) (hghI s t) = v → mgF 2 s t = if 17 < v then 0 else v) := fun v h => mgF_split rfl rfl h
  generalize lowI s t = lo at *
  generalize hghI s t = hi at *
  clear hs ht HL
  by_cases h : hi = lo + 1
  · subst h
    have h1 : (lo + 1 == lo + 1) = true := by simp
    have HV2 : Hid (mgF 2 s t = if 17 < (lo + 1 + 1) then 0 else (lo + 1 + 1)) := HM.out _ (by unfold mgRaw; simp  <;> omega)
    clear HM
    by_cases h17 : 17 < (lo + 1 + 1)
    · have HV3 : Hid (mgF 2 s t = 0) := by have := HV2.out; rw [if_pos h17] at this; exact this
      have e17 : decide ((lo + 1 + 1) > 17) = true := by first | (simp; done) | (simp; omega)
      clear HV2
      go_enter Try.func50, Try.ntmps50
      go_wp2_with fail
      refine (CL.out _).mono ?_
      rintro e w1 ⟨rfl, rfl⟩
      go_wp2_with fail
      refine (CH.out _).mono ?_
      rintro e w1 ⟨rfl, rfl⟩
      go_wp2_with fail
      go_ret
      exact ⟨by rw [HV3.out]; rfl, rfl⟩
    · have HV3 : Hid (mgF 2 s t = (lo + 1 + 1)) := by have := HV2.out; rw [if_neg h17] at this; exact this
      have e17 : decide ((lo + 1 + 1) > 17) = false := by first | (simp; done) | (simp; omega)
      clear HV2
      go_enter Try.func50, Try.ntmps50
      go_wp2_with fail
      refine (CL.out _).mono ?_
      rintro e w1 ⟨rfl, rfl⟩
      go_wp2_with fail
      refine (CH.out _).mono ?_
      rintro e w1 ⟨rfl, rfl⟩
      go_wp2_with fail
      go_ret
      exact ⟨by rw [HV3.out]; rfl, rfl⟩
  · have h1 : (hi == lo + 1) = false := by simpa using h
    have HV2 : Hid (mgF 2 s t = if 17 < (0 : Int) then 0 else (0 : Int)) := HM.out _ (by unfold mgRaw; simp [h] <;> omega)
    clear HM
    have h17 : ¬ 17 < (0 : Int) := by decide
    have HV3 : Hid (mgF 2 s t = (0 : Int)) := by have := HV2.out; rw [if_neg h17] at this; exact this
    have e17 : decide ((0 : Int) > 17) = false := by first | (simp; done) | (simp; omega)
    clear HV2
    go_enter Try.func50, Try.ntmps50
    go_wp2_with fail
    refine (CL.out _).mono ?_
    rintro e w1 ⟨rfl, rfl⟩
    go_wp2_with fail
    refine (CH.out _).mono ?_
    rintro e w1 ⟨rfl, rfl⟩
    go_wp2_with fail
    go_ret
    exact ⟨by rw [HV3.out]; rfl, rfl⟩
theorem l10Merge_3 (s t : Int) (w : World) (hs : TlOk s) (ht : TlOk t) :
    Calls Try.prog 50 #[.int .i64 3, .int .i64 s, .int .i64 t] w fun e w' => e = .returned (.int .i64 (mgF 3 s t)) ∧ w = w' := by
  obtain ⟨a0, a1⟩ := lowI_bd hs ht
  obtain ⟨b0, b1⟩ := hghI_bd hs ht
  have hlh := low_hgh s t
  have CL : Hid (∀ W, Calls Try.prog 77 #[.int .i64 s, .int .i64 t] W fun e w' => e = .returned (.int .i64 (lowI s t)) ∧ W = w') := l1Low_any s t
  have CH : Hid (∀ W, Calls Try.prog 78 #[.int .i64 s, .int .i64 t] W fun e w' => e = .returned (.int .i64 (hghI s t)) ∧ W = w') := l1High_any s t
  have HL : Hid (∃ lo hi, lowI s t = lo ∧ hghI s t = hi) := ⟨_, _, rfl, rfl⟩
  have HM : Hid (∀ v, mgRaw 3 (lowI s t) (hghI s t) = v → mgF 3 s t = if 17 < v then 0 else v) := fun v h => mgF_split rfl rfl h
  generalize lowI s t = lo at *
  generalize hghI s t = hi at *
  clear hs ht HL
  by_cases h : lo = 1 ∧ hi = 2
  · obtain ⟨rfl, rfl⟩ := h
    have HV2 : Hid (mgF 3 s t = if 17 < (3 : Int) then 0 else (3 : Int)) := HM.out _ (by unfold mgRaw; simp  <;> omega)
    clear HM
    have h17 : ¬ 17 < (3 : Int) := by decide
    have HV3 : Hid (mgF 3 s t = (3 : Int)) := by have := HV2.out; rw [if_neg h17] at this; exact this
    have e17 : decide ((3 : Int) > 17) = false := by first | (simp; done) | (simp; omega)
    clear HV2
    go_enter Try.func50, Try.ntmps50
    go_wp2_with fail
    refine (CL.out _).mono ?_
    rintro e w1 ⟨rfl, rfl⟩
    go_wp2_with fail
    refine (CH.out _).mono ?_
    rintro e w1 ⟨rfl, rfl⟩
    go_wp2_with fail
    go_ret
    exact ⟨by rw [HV3.out]; rfl, rfl⟩
  · by_cases h2 : lo = hi ∧ 3 ≤ lo
    · obtain ⟨rfl, h3⟩ := h2
      have n1 : (lo == 1) = false := by simp; omega
      have n2 : decide (lo ≥ 3) = true := by simpa using h3
      have n3 : (lo == lo) = true := by simp
      have HV2 : Hid (mgF 3 s t = if 17 < (lo + 1) then 0 else (lo + 1)) := HM.out _ (by unfold mgRaw; simp [h3] <;> omega)
      clear HM
      by_cases h17 : 17 < (lo + 1)
      · have HV3 : Hid (mgF 3 s t = 0) := by have := HV2.out; rw [if_pos h17] at this; exact this
        have e17 : decide ((lo + 1) > 17) = true := by first | (simp; done) | (simp; omega)
        clear HV2
        go_enter Try.func50, Try.ntmps50
        go_wp2_with fail
        refine (CL.out _).mono ?_
        rintro e w1 ⟨rfl, rfl⟩
        go_wp2_with fail
        refine (CH.out _).mono ?_
        rintro e w1 ⟨rfl, rfl⟩
        go_wp2_with fail
        go_ret
        exact ⟨by rw [HV3.out]; rfl, rfl⟩
      · have HV3 : Hid (mgF 3 s t = (lo + 1)) := by have := HV2.out; rw [if_neg h17] at this; exact this
        have e17 : decide ((lo + 1) > 17) = false := by first | (simp; done) | (simp; omega)
        clear HV2
        go_enter Try.func50, Try.ntmps50
        go_wp2_with fail
        refine (CL.out _).mono ?_
        rintro e w1 ⟨rfl, rfl⟩
        go_wp2_with fail
        refine (CH.out _).mono ?_
        rintro e w1 ⟨rfl, rfl⟩
        go_wp2_with fail
        go_ret
        exact ⟨by rw [HV3.out]; rfl, rfl⟩
    · by_cases q : lo = 1
      · subst q
        have n2 : (hi == 2) = false := by simp; omega
        by_cases q2 : (1 : Int) = hi
        · subst q2
          have HV2 : Hid (mgF 3 s t = if 17 < (0 : Int) then 0 else (0 : Int)) := HM.out _ (by unfold mgRaw; simp  <;> omega)
          clear HM
          have h17 : ¬ 17 < (0 : Int) := by decide
          have HV3 : Hid (mgF 3 s t = (0 : Int)) := by have := HV2.out; rw [if_neg h17] at this; exact this
          have e17 : decide ((0 : Int) > 17) = false := by first | (simp; done) | (simp; omega)
          clear HV2
          go_enter Try.func50, Try.ntmps50
          go_wp2_with fail
          refine (CL.out _).mono ?_
          rintro e w1 ⟨rfl, rfl⟩
          go_wp2_with fail
          refine (CH.out _).mono ?_
          rintro e w1 ⟨rfl, rfl⟩
          go_wp2_with fail
          go_ret
          exact ⟨by rw [HV3.out]; rfl, rfl⟩
        · have n3 : ((1 : Int) == hi) = false := by simpa using q2
          have HV2 : Hid (mgF 3 s t = if 17 < (0 : Int) then 0 else (0 : Int)) := HM.out _ (by unfold mgRaw; simp [q2,h] <;> omega)
          clear HM
          have h17 : ¬ 17 < (0 : Int) := by decide
          have HV3 : Hid (mgF 3 s t = (0 : Int)) := by have := HV2.out; rw [if_neg h17] at this; exact this
          have e17 : decide ((0 : Int) > 17) = false := by first | (simp; done) | (simp; omega)
          clear HV2
          go_enter Try.func50, Try.ntmps50
          go_wp2_with fail
          refine (CL.out _).mono ?_
          rintro e w1 ⟨rfl, rfl⟩
          go_wp2_with fail
          refine (CH.out _).mono ?_
          rintro e w1 ⟨rfl, rfl⟩
          go_wp2_with fail
          go_ret
          exact ⟨by rw [HV3.out]; rfl, rfl⟩
      · have n1 : (lo == 1) = false := by simpa using q
        by_cases q2 : lo = hi
        · have n3 : (lo == hi) = true := by simpa using q2
          have n4 : decide (lo ≥ 3) = false := by simp; omega
          have HV2 : Hid (mgF 3 s t = if 17 < (0 : Int) then 0 else (0 : Int)) := HM.out _ (by unfold mgRaw; simp [h,h2] <;> omega)
          clear HM
          have h17 : ¬ 17 < (0 : Int) := by decide
          have HV3 : Hid (mgF 3 s t = (0 : Int)) := by have := HV2.out; rw [if_neg h17] at this; exact this
          have e17 : decide ((0 : Int) > 17) = false := by first | (simp; done) | (simp; omega)
          clear HV2
          go_enter Try.func50, Try.ntmps50
          go_wp2_with fail
          refine (CL.out _).mono ?_
          rintro e w1 ⟨rfl, rfl⟩
          go_wp2_with fail
          refine (CH.out _).mono ?_
          rintro e w1 ⟨rfl, rfl⟩
          go_wp2_with fail
          go_ret
          exact ⟨by rw [HV3.out]; rfl, rfl⟩
        · have n3 : (lo == hi) = false := by simpa using q2
          have HV2 : Hid (mgF 3 s t = if 17 < (0 : Int) then 0 else (0 : Int)) := HM.out _ (by unfold mgRaw; simp [h,h2] <;> omega)
          clear HM
          have h17 : ¬ 17 < (0 : Int) := by decide
          have HV3 : Hid (mgF 3 s t = (0 : Int)) := by have := HV2.out; rw [if_neg h17] at this; exact this
          have e17 : decide ((0 : Int) > 17) = false := by first | (simp; done) | (simp; omega)
          clear HV2
          go_enter Try.func50, Try.ntmps50
          go_wp2_with fail
          refine (CL.out _).mono ?_
          rintro e w1 ⟨rfl, rfl⟩
          go_wp2_with fail
          refine (CH.out _).mono ?_
          rintro e w1 ⟨rfl, rfl⟩
          go_wp2_with fail
          go_ret
          exact ⟨by rw [HV3.out]; rfl, rfl⟩
theorem l10Merge_4 (s t : Int) (w : World) (hs : TlOk s) (ht : TlOk t) :
    Calls Try.prog 50 #[.int .i64 4, .int .i64 s, .int .i64 t] w fun e w' => e = .returned (.int .i64 (mgF 4 s t)) ∧ w = w' := by
  obtain ⟨a0, a1⟩ := lowI_bd hs ht
  obtain ⟨b0, b1⟩ := hghI_bd hs ht
  have hlh := low_hgh s t
  have CL : Hid (∀ W, Calls Try.prog 77 #[.int .i64 s, .int .i64 t] W fun e w' => e = .returned (.int .i64 (lowI s t)) ∧ W = w') := l1Low_any s t
  have CH : Hid (∀ W, Calls Try.prog 78 #[.int .i64 s, .int .i64 t] W fun e w' => e = .returned (.int .i64 (hghI s t)) ∧ W = w') := l1High_any s t
  have HL : Hid (∃ lo hi, lowI s t = lo ∧ hghI s t = hi) := ⟨_, _, rfl, rfl⟩
  have HM : Hid (∀ v, mgRaw 4 (lowI s t) (hghI s t) = v → mgF 4 s t = if 17 < v then 0 else v) := fun v h => mgF_split rfl rfl h
  generalize lowI s t = lo at *
  generalize hghI s t = hi at *
  clear hs ht HL
  have HV2 : Hid (mgF 4 s t = if 17 < (lo + hi) then 0 else (lo + hi)) := HM.out _ (by unfold mgRaw; simp  <;> omega)
  clear HM
  by_cases h17 : 17 < (lo + hi)
  · have HV3 : Hid (mgF 4 s t = 0) := by have := HV2.out; rw [if_pos h17] at this; exact this
    have e17 : decide ((lo + hi) > 17) = true := by first | (simp; done) | (simp; omega)
    clear HV2
    go_enter Try.func50, Try.ntmps50
    go_wp2_with fail
    refine (CL.out _).mono ?_
    rintro e w1 ⟨rfl, rfl⟩
    go_wp2_with fail
    refine (CH.out _).mono ?_
    rintro e w1 ⟨rfl, rfl⟩
    go_wp2_with fail
    go_ret
    exact ⟨by rw [HV3.out]; rfl, rfl⟩
  · have HV3 : Hid (mgF 4 s t = (lo + hi)) := by have := HV2.out; rw [if_neg h17] at this; exact this
    have e17 : decide ((lo + hi) > 17) = false := by first | (simp; done) | (simp; omega)
    clear HV2
    go_enter Try.func50, Try.ntmps50
    go_wp2_with fail
    refine (CL.out _).mono ?_
    rintro e w1 ⟨rfl, rfl⟩
    go_wp2_with fail
    refine (CH.out _).mono ?_
    rintro e w1 ⟨rfl, rfl⟩
    go_wp2_with fail
    go_ret
    exact ⟨by rw [HV3.out]; rfl, rfl⟩
theorem l10Merge_any (r s t : Int) (w : World) (hr : RlOk r) (hs : TlOk s) (ht : TlOk t) :
    Calls Try.prog 50 #[.int .i64 r, .int .i64 s, .int .i64 t] w fun e w' => e = .returned (.int .i64 (mgF r s t)) ∧ w = w' := by
  obtain ⟨h0, h1⟩ := hr
  rcases (by omega : r = 1 ∨ r = 2 ∨ r = 3 ∨ r = 4) with rfl | rfl | rfl | rfl
  · exact l10Merge_1 s t w hs ht
  · exact l10Merge_2 s t w hs ht
  · exact l10Merge_3 s t w hs ht
  · exact l10Merge_4 s t w hs ht
theorem l10Rule_yes (r : Int) (w : World) (h : RlOk r) :
    Calls Try.prog 48 #[.int .i64 r] w fun e w' => e = .returned (.bool true) ∧ w = w' := by
  obtain ⟨h0, h1⟩ := h
  go_enter Try.func48, Try.ntmps48
  go_wp2_with fail
  refine (l1In_yes r 1 4 _ h0 h1).mono ?_
  rintro e w' ⟨rfl, rfl⟩
  go_wp2
  go_ret
  exact ⟨rfl, rfl⟩
theorem l10Rule_no (r : Int) (w : World) (h : ¬ RlOk r) :
    Calls Try.prog 48 #[.int .i64 r] w fun e w' => e = .returned (.bool false) ∧ w = w' := by
  have H := Lib.hid (show r < 1 ∨ 4 < r by unfold RlOk at h; omega)
  clear h
  go_enter Try.func48, Try.ntmps48
  go_wp2_with fail
  refine (l1In_no r 1 4 _ H.out).mono ?_
  rintro e w' ⟨rfl, rfl⟩
  go_wp2
  go_ret
  exact ⟨rfl, rfl⟩
theorem l10Worth_1 (t : Int) (w : World) (ht : TlOk t) :
    Calls Try.prog 53 #[.int .i64 1, .int .i64 t] w fun e w' => e = .returned (.int .i64 (woF 1 t)) ∧ w = w' := by
  obtain ⟨h0, h1⟩ := ht
  go_enter Try.func53, Try.ntmps53
  go_wp2_with fail
  refine (l2Worth_any t _ (by omega) (by omega)).mono ?_
  rintro e w' ⟨rfl, rfl⟩
  go_wp2
  go_ret
  exact ⟨rfl, rfl⟩
theorem l10Worth_2 (t : Int) (w : World) (ht : TlOk t) :
    Calls Try.prog 53 #[.int .i64 2, .int .i64 t] w fun e w' => e = .returned (.int .i64 (woF 2 t)) ∧ w = w' := by
  obtain ⟨h0, h1⟩ := ht
  go_enter Try.func53, Try.ntmps53
  go_wp2_with fail
  go_loopg [5, 6, 7] 17 (fun g s5 s6 s7 wr => ∃ k : Nat, (k : Int) + 1 ≤ t ∧ t ≤ k + 1 + g ∧ s5 = .int .i64 (fibP k).1 ∧ s6 = .int .i64 (fibP k).2 ∧ s7 = .int .i64 ((k : Int) + 1) ∧ w = wr)
  case atStart => exact ⟨0, by omega, by omega, rfl, rfl, rfl, rfl⟩
  case round =>
    obtain ⟨k, hk1, hk2, rfl, rfl, rfl, rfl⟩ := hrel
    by_cases hq : (k : Int) + 1 < t
    · obtain ⟨g, rfl⟩ : ∃ g, gk = g + 1 := ⟨gk - 1, by omega⟩
      have HB := fibP_bd k (by omega)
      have HS : Hid (fibP (k + 1) = ((fibP k).2, (fibP k).1 + (fibP k).2)) := rfl
      generalize fibP k = p at *
      obtain ⟨a, b⟩ := p
      simp only [] at HB HS
      obtain ⟨q0, q1, q2, q3⟩ := HB
      go_wp2_with fail
      go_roundg g
      case rel => exact ⟨k + 1, by omega, by omega, by rw [HS.out], by rw [HS.out], by go_num, rfl⟩
      case measure => omega
    · have hq2 : decide ((k : Int) + 1 < t) = false := by simpa using hq
      have HW : Hid (woF 2 t = (fibP k).1) := by show woF 2 t = _; unfold woF; simp; rw [show t.toNat - 1 = k by omega]
      clear hq
      go_wp2_with fail
      go_ret
      exact ⟨by rw [HW.out]; rfl, rfl⟩
theorem l10Worth_3 (t : Int) (w : World) (ht : TlOk t) :
    Calls Try.prog 53 #[.int .i64 3, .int .i64 t] w fun e w' => e = .returned (.int .i64 (woF 3 t)) ∧ w = w' := by
  obtain ⟨h0, h1⟩ := ht
  by_cases h : t < 3
  · have HW : Hid (woF 3 t = t) := by show woF 3 t = t; unfold woF; simp [h]
    go_enter Try.func53, Try.ntmps53
    go_wp2_with fail
    go_ret
    exact ⟨by rw [HW.out]; rfl, rfl⟩
  · have HW : Hid (woF 3 t = 3 * 2 ^ (t - 3).toNat) := by show woF 3 t = _; unfold woF; simp [h]
    have HZ := Lib.hid (woF_bd (r := 3) (t := t) (by decide) ⟨h0, h1⟩)
    have h2 : decide (t < 3) = false := by simpa using h
    have h3 : 0 ≤ t - 3 := by omega
    have h4 : t - 3 < 64 := by omega
    clear h
    go_enter Try.func53, Try.ntmps53
    go_wp2_with fail
    go_ret
    refine ⟨ret_int ?_, rfl⟩
    have := HZ.out
    rw [HW.out] at this ⊢
    exact IntWalk.wrap64_in _ ⟨by omega, by omega⟩
theorem l10Worth_4 (t : Int) (w : World) (ht : TlOk t) :
    Calls Try.prog 53 #[.int .i64 4, .int .i64 t] w fun e w' => e = .returned (.int .i64 (woF 4 t)) ∧ w = w' := by
  go_enter Try.func53, Try.ntmps53
  go_wp2_with fail
  go_ret
  exact ⟨rfl, rfl⟩
theorem l10Worth_any (r t : Int) (w : World) (hr : RlOk r) (ht : TlOk t) :
    Calls Try.prog 53 #[.int .i64 r, .int .i64 t] w fun e w' => e = .returned (.int .i64 (woF r t)) ∧ w = w' := by
  obtain ⟨h0, h1⟩ := hr
  rcases (by omega : r = 1 ∨ r = 2 ∨ r = 3 ∨ r = 4) with rfl | rfl | rfl | rfl
  · exact l10Worth_1 t w ht
  · exact l10Worth_2 t w ht
  · exact l10Worth_3 t w ht
  · exact l10Worth_4 t w ht
theorem tl_out {t : Int} (h : ¬ TlOk t) : t < 1 ∨ 17 < t := by unfold TlOk at h; omega
theorem specMergeOf_any (r s t : Int) (w : World) :
    Calls Try.prog 15 #[.int .i64 r, .int .i64 s, .int .i64 t] w fun e w' => e = .returned (.tuple #[.int .i64 (mgR r s t), .bool (mgO r s t)]) ∧ Below w.heap.size w w' := by
  have HB := Lib.hid (Below.refl w.heap.size w)
  by_cases hr : RlOk r
  · by_cases hs : TlOk s
    · by_cases ht : TlOk t
      · obtain ⟨q1, q2⟩ := mg_yes (r := r) (s := s) (t := t) ⟨hr, hs, ht⟩
        rw [q1, q2]
        have H := Lib.hid (And.intro hr (And.intro hs ht))
        clear hr hs ht q1 q2
        go_enter Try.func15, Try.ntmps15
        go_wp2_with fail
        refine (l10Rule_yes r _ H.out.1).mono ?_
        rintro e w1 ⟨rfl, rfl⟩
        go_wp2_with fail
        refine (l2Tile_yes s _ H.out.2.1.1 H.out.2.1.2).mono ?_
        rintro e w1 ⟨rfl, rfl⟩
        go_wp2_with fail
        refine (l2Tile_yes t _ H.out.2.2.1 H.out.2.2.2).mono ?_
        rintro e w1 ⟨rfl, rfl⟩
        go_wp2_with fail
        refine (l10Merge_any r s t _ H.out.1 H.out.2.1 H.out.2.2).mono ?_
        rintro e w1 ⟨rfl, rfl⟩
        go_wp2_with fail
        go_ret2
        exact ⟨rfl, HB.out⟩
      · obtain ⟨q1, q2⟩ := mg_no (r := r) (s := s) (t := t) (fun h => ht h.2.2)
        rw [q1, q2]
        have H := Lib.hid (And.intro hr (And.intro hs (tl_out ht)))
        clear hr hs ht q1 q2
        go_enter Try.func15, Try.ntmps15
        go_wp2_with fail
        refine (l10Rule_yes r _ H.out.1).mono ?_
        rintro e w1 ⟨rfl, rfl⟩
        go_wp2_with fail
        refine (l2Tile_yes s _ H.out.2.1.1 H.out.2.1.2).mono ?_
        rintro e w1 ⟨rfl, rfl⟩
        go_wp2_with fail
        refine (l2Tile_no t _ H.out.2.2).mono ?_
        rintro e w1 ⟨rfl, rfl⟩
        go_wp2_with fail
        go_ret2
        exact ⟨rfl, HB.out⟩
    · obtain ⟨q1, q2⟩ := mg_no (r := r) (s := s) (t := t) (fun h => hs h.2.1)
      rw [q1, q2]
      have H := Lib.hid (And.intro hr (tl_out hs))
      clear hr hs q1 q2
      go_enter Try.func15, Try.ntmps15
      go_wp2_with fail
      refine (l10Rule_yes r _ H.out.1).mono ?_
      rintro e w1 ⟨rfl, rfl⟩
      go_wp2_with fail
      refine (l2Tile_no s _ H.out.2).mono ?_
      rintro e w1 ⟨rfl, rfl⟩
      go_wp2_with fail
      go_ret2
      exact ⟨rfl, HB.out⟩
  · obtain ⟨q1, q2⟩ := mg_no (r := r) (s := s) (t := t) (fun h => hr h.1)
    rw [q1, q2]
    have H := Lib.hid hr
    clear hr q1 q2
    go_enter Try.func15, Try.ntmps15
    go_wp2_with fail
    refine (l10Rule_no r _ H.out).mono ?_
    rintro e w1 ⟨rfl, rfl⟩
    go_wp2_with fail
    go_ret2
    exact ⟨rfl, HB.out⟩
theorem specWorthBy_any (r t : Int) (w : World) :
    Calls Try.prog 17 #[.int .i64 r, .int .i64 t] w fun e w' => e = .returned (.tuple #[.int .i64 (woR r t), .bool (woO r t)]) ∧ Below w.heap.size w w' := by
  have HB := Lib.hid (Below.refl w.heap.size w)
  by_cases hr : RlOk r
  · by_cases ht : TlOk t
    · obtain ⟨q1, q2⟩ := wo_yes (r := r) (t := t) ⟨hr, ht⟩
      rw [q1, q2]
      have H := Lib.hid (And.intro hr ht)
      clear hr ht q1 q2
      go_enter Try.func17, Try.ntmps17
      go_wp2_with fail
      refine (l10Rule_yes r _ H.out.1).mono ?_
      rintro e w1 ⟨rfl, rfl⟩
      go_wp2_with fail
      refine (l2Tile_yes t _ H.out.2.1 H.out.2.2).mono ?_
      rintro e w1 ⟨rfl, rfl⟩
      go_wp2_with fail
      refine (l10Worth_any r t _ H.out.1 H.out.2).mono ?_
      rintro e w1 ⟨rfl, rfl⟩
      go_wp2_with fail
      go_ret2
      exact ⟨rfl, HB.out⟩
    · obtain ⟨q1, q2⟩ := wo_no (r := r) (t := t) (fun h => ht h.2)
      rw [q1, q2]
      have H := Lib.hid (And.intro hr (tl_out ht))
      clear hr ht q1 q2
      go_enter Try.func17, Try.ntmps17
      go_wp2_with fail
      refine (l10Rule_yes r _ H.out.1).mono ?_
      rintro e w1 ⟨rfl, rfl⟩
      go_wp2_with fail
      refine (l2Tile_no t _ H.out.2).mono ?_
      rintro e w1 ⟨rfl, rfl⟩
      go_wp2_with fail
      go_ret2
      exact ⟨rfl, HB.out⟩
  · obtain ⟨q1, q2⟩ := wo_no (r := r) (t := t) (fun h => hr h.1)
    rw [q1, q2]
    have H := Lib.hid hr
    clear hr q1 q2
    go_enter Try.func17, Try.ntmps17
    go_wp2_with fail
    refine (l10Rule_no r _ H.out).mono ?_
    rintro e w1 ⟨rfl, rfl⟩
    go_wp2_with fail
    go_ret2
    exact ⟨rfl, HB.out⟩
end Go.Proofs.Ytblcojacmjbjcaa
