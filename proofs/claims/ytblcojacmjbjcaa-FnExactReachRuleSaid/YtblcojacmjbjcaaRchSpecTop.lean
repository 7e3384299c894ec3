/-
  The contract of the reference's ReachRule.
-/
import Derived.Test.YtblcojacmjbjcaaRchRec
namespace Go.Proofs.Ytblcojacmjbjcaa
open Go.RowKit Plain Go.Sort Go.Shelf
attribute [local go_sem] store_new
set_option linter.unusedVariables false
set_option linter.unusedSimpArgs false
set_option maxRecDepth 20000 in
set_option maxHeartbeats 1000000 in
theorem specRch_no (r : Int) (L : List Int) (g cap : Nat) (w : World) (h : IL w (.slice (some ⟨g, 0, none⟩) L.length cap) L) (hl : L.length ≤ 1048576) (hk : ¬ rchOk r L) :
    Calls Try.prog 45 #[.int .i64 r, .slice (some ⟨g, 0, none⟩) L.length cap] w fun e w' => ∃ g2 cap2, e = .returned (.tuple #[.slice (some ⟨g2, 0, none⟩) 0 cap2, .bool false]) ∧ IL w' (.slice (some ⟨g2, 0, none⟩) ([] : List Int).length cap2) [] ∧ Below w.heap.size w w' := by
  by_cases hR : RlOk r
  · have HR := Lib.hid hR
    have HI := Lib.hid h
    have hgl := il_len h
    by_cases h5 : L.length ≤ 5
    · have hT : ¬ (∀ x ∈ L, TlOk x) := fun q => hk ⟨hR, h5, q⟩
      have HT : Hid (¬ ∀ j, j < L.length → TlOk (L.getD j 0)) := fun q => hT (fun x hx => by
        obtain ⟨j, hj, e⟩ := mem_at hx
        rw [← e]; exact q j hj)
      clear hT hk hR h
      generalize hN : L.length = N at *
      have HN := Lib.hid hN
      clear hN
      have hl6 : ¬ (5 < (N : Int)) := by omega
      go_enter Try.func45, Try.ntmps45
      go_wp2_with fail
      refine (l10Rule_yes r _ HR.out).mono ?_
      rintro e w1 ⟨rfl, rfl⟩
      go_wp2_with fail
      go_loopg [6] N (fun q s6 wr => ∃ k : Nat, k + q = N ∧ s6 = .int .i64 (k : Int) ∧ Hid (∀ j, j < k → TlOk (L.getD j 0)) ∧ w = wr)
      case atStart => exact ⟨0, by omega, rfl, fun j hj => absurd hj (by omega), rfl⟩
      case round =>
        obtain ⟨k, hkg, rfl, HS, rfl⟩ := hrel
        cases gk with
        | zero => exact absurd (fun j hj => HS.out j (by omega)) HT.out
        | succ q =>
          have hk : (k : Int) < (N : Int) := by omega
          have hk0 : (0 : Int) ≤ (k : Int) := by omega
          have c1 := HI.out.at (j := k) (by have := HN.out; omega)
          by_cases hq : TlOk (L.getD k 0)
          · have HQ := Lib.hid hq
            have HT2 : Hid (∀ j, j < k + 1 → TlOk (L.getD j 0)) := fun j hj => by
              by_cases e : j = k
              · subst e; exact HQ.out
              · exact HS.out j (by omega)
            generalize L.getD k 0 = t at c1 HQ
            clear hq
            go_wp2_with fail
            refine (l2Tile_yes t _ HQ.out.1 HQ.out.2).mono ?_
            rintro e w2 ⟨rfl, rfl⟩
            go_wp2_with fail
            go_roundg q
            case rel => exact ⟨k + 1, by omega, by go_num, HT2, rfl⟩
            case measure => omega
          · have HQ := Lib.hid hq
            generalize L.getD k 0 = t at c1 HQ
            clear hq
            go_wp2_with fail
            refine (l2Tile_no t _ (tl_out HQ.out)).mono ?_
            rintro e w2 ⟨rfl, rfl⟩
            go_wp2_with fail
            have ho1 : (w.alloc (.cells #[] 3)).ownsRow w.heap.size 3 1 (.slice (some ⟨w.heap.size, 0, none⟩) 0 0) 0 (([] : List Int).map (Value.int .i64)) := World.ownsRow_made (base := w.heap.size) (e := 3) (size := 1) w #[] 0 (Nat.le_refl _) (by decide) rfl
            go_ret2
            exact ⟨_, _, rfl, IL.of_own (L := []) ho1, (Below.refl _ _).alloc (Nat.le_refl _) _⟩
    · clear hk hR
      generalize L.length = N at *
      have hl6 : 5 < (N : Int) := by omega
      go_enter Try.func45, Try.ntmps45
      go_wp2_with fail
      refine (l10Rule_yes r _ HR.out).mono ?_
      rintro e w1 ⟨rfl, rfl⟩
      go_wp2_with fail
      have ho1 : (w.alloc (.cells #[] 3)).ownsRow w.heap.size 3 1 (.slice (some ⟨w.heap.size, 0, none⟩) 0 0) 0 (([] : List Int).map (Value.int .i64)) := World.ownsRow_made (base := w.heap.size) (e := 3) (size := 1) w #[] 0 (Nat.le_refl _) (by decide) rfl
      go_ret2
      exact ⟨_, _, rfl, IL.of_own (L := []) ho1, (Below.refl _ _).alloc (Nat.le_refl _) _⟩
  · have HR := Lib.hid hR
    clear hk hR
    go_enter Try.func45, Try.ntmps45
    go_wp2_with fail
    refine (l10Rule_no r _ HR.out).mono ?_
    rintro e w1 ⟨rfl, rfl⟩
    go_wp2_with fail
    have ho1 : (w.alloc (.cells #[] 3)).ownsRow w.heap.size 3 1 (.slice (some ⟨w.heap.size, 0, none⟩) 0 0) 0 (([] : List Int).map (Value.int .i64)) := World.ownsRow_made (base := w.heap.size) (e := 3) (size := 1) w #[] 0 (Nat.le_refl _) (by decide) rfl
    go_ret2
    exact ⟨_, _, rfl, IL.of_own (L := []) ho1, (Below.refl _ _).alloc (Nat.le_refl _) _⟩
set_option maxRecDepth 20000 in
set_option maxHeartbeats 1000000 in
theorem specRch_yes (r : Int) (L : List Int) (g cap : Nat) (w : World) (h : IL w (.slice (some ⟨g, 0, none⟩) L.length cap) L) (hk : rchOk r L) :
    Calls Try.prog 45 #[.int .i64 r, .slice (some ⟨g, 0, none⟩) L.length cap] w fun e w' => ∃ g2 cap2, e = .returned (.tuple #[.slice (some ⟨g2, 0, none⟩) (rchV r L).length cap2, .bool true]) ∧ IL w' (.slice (some ⟨g2, 0, none⟩) (rchV r L).length cap2) (rchV r L) ∧ Below w.heap.size w w' := by
  have HR := Lib.hid hk.1
  have HI := Lib.hid h
  have hgl := il_len h
  have h5 := hk.2.1
  have HT : Hid (∀ j, j < L.length → TlOk (L.getD j 0)) := fun i hi => hk.2.2 _ (by rw [List.getD_eq_getElem?_getD, List.getElem?_eq_getElem hi]; exact List.getElem_mem hi)
  have ho1 : (w.alloc (.cells #[] 3)).ownsRow w.heap.size 3 1 (.slice (some ⟨w.heap.size, 0, none⟩) 0 0) 0 (([] : List Int).map (Value.int .i64)) := World.ownsRow_made (base := w.heap.size) (e := 3) (size := 1) w #[] 0 (Nat.le_refl _) (by decide) rfl
  have HB1 : Hid (Below w.heap.size w (w.alloc (.cells #[] 3))) := Lib.hid ((Below.refl _ _).alloc (Nat.le_refl _) _)
  have HC := Lib.hid (l10Reach_any r hk.1 5 (by omega) L [] g cap w.heap.size 0 _ (HI.out.below HB1.out) hk.2.1 hk.2.2 (IL.of_own (L := []) ho1) (by decide))
  have HV : Hid (rsL (mgF r) 5 L [] = rchV r L) := by
    show _ = _
    unfold rchV; rw [if_pos hk]
  rw [HV.out] at HC
  clear hk h ho1 HV
  generalize rchV r L = V at *
  generalize hN : L.length = N at *
  have HN := Lib.hid hN
  clear hN
  have hl6 : ¬ (5 < (N : Int)) := by omega
  go_enter Try.func45, Try.ntmps45
  go_wp2_with fail
  refine (l10Rule_yes r _ HR.out).mono ?_
  rintro e w1 ⟨rfl, rfl⟩
  go_wp2_with fail
  go_loopg [6] N (fun q s6 wr => ∃ k : Nat, k + q = N ∧ s6 = .int .i64 (k : Int) ∧ w = wr)
  case atStart => exact ⟨0, by omega, rfl, rfl⟩
  case round =>
    obtain ⟨k, hkg, rfl, rfl⟩ := hrel
    cases gk with
    | zero =>
      have hk : ¬ ((k : Int) < (N : Int)) := by omega
      go_wp2_with fail
      refine HC.out.mono ?_
      rintro e w8 ⟨b8, c8, rfl, hO8, hb⟩
      have HO8 := Lib.hid hO8
      have HB8 : Hid (Below w.heap.size w w8) := HB1.out.trans (hb.mono HB1.out.size)
      clear hO8 hb HC
      go_wp2_with fail
      go_ret2
      exact ⟨b8, c8, rfl, HO8.out, HB8.out⟩
    | succ q =>
      have hk : (k : Int) < (N : Int) := by omega
      have hk0 : (0 : Int) ≤ (k : Int) := by omega
      have c1 := HI.out.at (j := k) (by have := HN.out; omega)
      have HQ := Lib.hid (HT.out k (by omega))
      generalize L.getD k 0 = t at c1 HQ
      go_wp2_with fail
      refine (l2Tile_yes t _ HQ.out.1 HQ.out.2).mono ?_
      rintro e w2 ⟨rfl, rfl⟩
      go_wp2_with fail
      go_roundg q
      case rel => exact ⟨k + 1, by omega, by go_num, rfl⟩
      case measure => omega
theorem specRch_any (r : Int) (L : List Int) (g cap : Nat) (w : World) (h : IL w (.slice (some ⟨g, 0, none⟩) L.length cap) L) (hl : L.length ≤ 1048576) :
    Calls Try.prog 45 #[.int .i64 r, .slice (some ⟨g, 0, none⟩) L.length cap] w fun e w' => ∃ g2 cap2, e = .returned (.tuple #[.slice (some ⟨g2, 0, none⟩) (rchV r L).length cap2, .bool (decide (rchOk r L))]) ∧ IL w' (.slice (some ⟨g2, 0, none⟩) (rchV r L).length cap2) (rchV r L) ∧ Below w.heap.size w w' := by
  by_cases hk : rchOk r L
  · rw [rb_ok hk]
    exact specRch_yes r L g cap w h hk
  · have hv : rchV r L = [] := by unfold rchV; rw [if_neg hk]
    rw [show decide (rchOk r L) = false by simpa using hk, hv]
    exact specRch_no r L g cap w h hl hk
end Go.Proofs.Ytblcojacmjbjcaa
