/-
  The contracts of the seeds: l11Seed, l11Behind, isSeed and NextSeed.
-/
import Derived.Test.YtfjpdopljmilpaaBaseA
import Derived.Test.YtfjpdopljmilpaaSeedPlain
namespace Go.Proofs.Ytfjpdopljmilpaa
open Go.RowKit Plain
set_option linter.unusedVariables false
set_option linter.unusedSimpArgs false
theorem isSeed_yes (x : Int) (w : World) (h0 : 0 ≤ x) (h1 : x ≤ 65535) :
    Calls Try.prog 149 #[.int .i64 x] w fun e w' => e = .returned (.bool true) ∧ w = w' := by
  have d0 : decide (0 ≤ x) = true := by simpa using h0
  have d1 : decide (x ≤ 65535) = true := by simp; omega
  clear h0 h1
  go_enter Try.func149, Try.ntmps149
  go_wp2
  go_ret
  exact ⟨rfl, rfl⟩
theorem isSeed_no (x : Int) (w : World) (h : x < 0 ∨ 65535 < x) :
    Calls Try.prog 149 #[.int .i64 x] w fun e w' => e = .returned (.bool false) ∧ w = w' := by
  by_cases h0 : 0 ≤ x
  · have d0 : decide (0 ≤ x) = true := by simpa using h0
    have d1 : decide (x ≤ 65535) = false := by simp; omega
    clear h h0
    go_enter Try.func149, Try.ntmps149
    go_wp2
    go_ret
    exact ⟨rfl, rfl⟩
  · have d0 : decide (0 ≤ x) = false := by simp; omega
    clear h h0
    go_enter Try.func149, Try.ntmps149
    go_wp2
    go_ret
    exact ⟨rfl, rfl⟩
theorem l11Seed_yes (x : Int) (w : World) (h0 : 0 ≤ x) (h1 : x ≤ 65535) :
    Calls Try.prog 138 #[.int .i64 x] w fun e w' => e = .returned (.bool true) ∧ w = w' := by
  go_enter Try.func138, Try.ntmps138
  go_wp2_with fail
  refine (l1In_yes x 0 65535 _ h0 h1).mono ?_
  rintro e w' ⟨rfl, rfl⟩
  go_wp2
  go_ret
  exact ⟨rfl, rfl⟩
theorem l11Seed_no (x : Int) (w : World) (h : x < 0 ∨ 65535 < x) :
    Calls Try.prog 138 #[.int .i64 x] w fun e w' => e = .returned (.bool false) ∧ w = w' := by
  have H := Lib.hid h
  clear h
  go_enter Try.func138, Try.ntmps138
  go_wp2_with fail
  refine (l1In_no x 0 65535 _ H.out).mono ?_
  rintro e w' ⟨rfl, rfl⟩
  go_wp2
  go_ret
  exact ⟨rfl, rfl⟩
theorem wrap_seed {s : Int} (h : SeedOk s) : IntKind.i64.wrap (25173 * s) = 25173 * s ∧ IntKind.i64.wrap (25173 * s + 13849) = 25173 * s + 13849 ∧ Int.tmod (25173 * s + 13849) 65536 = nxS s := by
  obtain ⟨h0, h1⟩ := h
  refine ⟨IntWalk.i64_in _ (by omega), IntWalk.i64_in _ (by omega), ?_⟩
  unfold nxS
  rw [Int.tmod_eq_emod_of_nonneg (by omega)]
theorem l11Behind_any (s : Int) (w : World) (h : SeedOk s) :
    Calls Try.prog 144 #[.int .i64 s] w fun e w' => e = .returned (.int .i64 (nxS s)) ∧ w = w' := by
  obtain ⟨q1, q2, q3⟩ := wrap_seed h
  have q4 : IntKind.i64.wrap (nxS s) = nxS s := IntWalk.i64_in _ (by have := nxS_ok s; unfold SeedOk at this; omega)
  have HN := Lib.hid q3
  go_enter Try.func144, Try.ntmps144
  go_wp2
  go_ret
  exact ⟨rfl, rfl⟩
theorem implNextSeed_any (s : Int) (w : World) :
    Calls Try.prog 151 #[.int .i64 s] w fun e w' => e = .returned (.tuple #[.int .i64 (nsdR s), .bool (nsdO s)]) ∧ w = w' := by
  by_cases h : SeedOk s
  · obtain ⟨y1, y2⟩ := nsd_yes h
    rw [y1, y2]
    obtain ⟨q1, q2, q3⟩ := wrap_seed h
    have q4 : IntKind.i64.wrap (nxS s) = nxS s := IntWalk.i64_in _ (by have := nxS_ok s; unfold SeedOk at this; omega)
    have H := Lib.hid h
    clear h
    go_enter Try.func151, Try.ntmps151
    go_wp2_with fail
    refine (isSeed_yes s _ H.out.1 H.out.2).mono ?_
    rintro e w' ⟨rfl, rfl⟩
    go_wp2_with fail
    go_ret2
    exact ⟨rfl, rfl⟩
  · obtain ⟨y1, y2⟩ := nsd_no h
    rw [y1, y2]
    have H := Lib.hid (show s < 0 ∨ 65535 < s by unfold SeedOk at h; omega)
    clear h
    go_enter Try.func151, Try.ntmps151
    go_wp2_with fail
    refine (isSeed_no s _ H.out).mono ?_
    rintro e w' ⟨rfl, rfl⟩
    go_wp2_with fail
    go_ret2
    exact ⟨rfl, rfl⟩
theorem implNextS_any (s : Int) (w : World) :
    Calls Try.prog 151 #[.int .i64 s] w fun e w' => e = .returned (.tuple #[.int .i64 (nsdR s), .bool (nsdO s)]) ∧ Below w.heap.size w w' :=
  (implNextSeed_any s w).mono fun e w' h => ⟨h.1, by rw [← h.2]; exact Below.refl _ _⟩
end Go.Proofs.Ytfjpdopljmilpaa
