/-
  The contracts of PairsBy, in the reference and in the program, for every number.
-/
import Derived.Test.YtblcojacmjbjcaaRuleTops
import Derived.Test.YtblcojacmjbjcaaRowsKit
namespace Go.Proofs.Ytblcojacmjbjcaa
open Go.RowKit Plain
attribute [local go_sem] store_new
set_option linter.unusedVariables false
set_option linter.unusedSimpArgs false
set_option maxHeartbeats 2000000 in
set_option maxRecDepth 20000 in
theorem specPairsBy_any (r : Int) (w : World) :
    Calls Try.prog 19 #[.int .i64 r] w fun e w' => ∃ g cap, e = .returned (.tuple #[.slice (some ⟨g, 0, none⟩) (prC r) cap, .bool (decide (RlOk r))]) ∧
      OwnsCells w' w.heap.size (.slice (some ⟨g, 0, none⟩) (prC r) cap) (prC r) (prR r) ∧ Below w.heap.size w w' := by
  obtain ⟨i0, hi, hz0, hz1, hz2⟩ := info_parts infoCell
  have HB := Lib.hid ((Below.refl w.heap.size w).alloc (Nat.le_refl _) (.cells #[] 66))
  have HO : Hid (OwnsCells (w.alloc (.cells #[] 66)) w.heap.size (.slice (some ⟨w.heap.size, 0, none⟩) 0 0) 0 []) := World.ownsRow_made (base := w.heap.size) (e := 66) (size := 2) w #[] 0 (Nat.le_refl _) (by decide) rfl
  by_cases hR : RlOk r
  · have HR := Lib.hid hR
    rw [(pr_yes hR).1, (pr_yes hR).2, show decide (RlOk r) = true by simpa using hR]
    clear hR
    go_enter Try.func19, Try.ntmps19
    go_wp2_with fail
    refine (l10Rule_yes r _ HR.out).mono ?_
    rintro e w5 ⟨rfl, h5⟩
    subst h5
    go_wp2_with fail
    generalize w.alloc (.cells #[] 66) = w6 at *
    go_loopg [4, 5] 17 (fun g s4 s5 wr => ∃ (n : Nat) (v : Value), n + g = 17 ∧ s5 = .int .i64 ((n : Int) + 1) ∧ v = s4 ∧ Hid (∃ gg cap, v = .slice (some ⟨gg, 0, none⟩) (prM r n) cap) ∧ Hid (OwnsCells wr w.heap.size v (prM r n) (prO r n)) ∧ Hid (Below w.heap.size w wr))
    case atStart => exact ⟨0, _, by omega, rfl, rfl, ⟨_, _, rfl⟩, HO, HB⟩
    case round =>
      clear HO HB
      obtain ⟨n, v, hng, rfl, rfl, HVv, HO, HB⟩ := hrel
      cases gk with
      | zero =>
        have hn : ¬ ((n : Int) + 1 ≤ 17) := by omega
        obtain rfl : n = 17 := by omega
        clear hng
        obtain ⟨gg, cap, hv⟩ := HVv.out
        subst hv
        go_wp2_with fail
        go_ret2
        exact ⟨gg, cap, rfl, HO.out, HB.out⟩
      | succ g =>
        have hn : (n : Int) + 1 ≤ 17 := by omega
        have hm := prM_le r n
        go_wp2_with fail
        have HN0 : Hid (prM r (n + 1) = prM r n + prN r ((n : Int) + 1) (17 - n)) := rfl
        have HN1 : Hid (prO r (n + 1) = prO r n ++ prI r ((n : Int) + 1) (17 - n)) := rfl
        have HO1 : Hid (OwnsCells wr w.heap.size v (prM r n + prN r ((n : Int) + 1) 0) (prO r n ++ prI r ((n : Int) + 1) 0)) := by
          show OwnsCells _ _ _ _ _
          have e1 : prI r ((n : Int) + 1) 0 = [] := rfl
          have e2 : prN r ((n : Int) + 1) 0 = 0 := rfl
          rw [e1, e2, List.append_nil]; exact HO.out
        go_loopg [4, 6] (17 - n) (fun h s4 s6 wx => ∃ (k : Nat) (v : Value), k + h = 17 - n ∧ s6 = .int .i64 ((n : Int) + 1 + (k : Int)) ∧ v = s4 ∧ Hid (∃ gg cap, v = .slice (some ⟨gg, 0, none⟩) (prM r n + prN r ((n : Int) + 1) k) cap) ∧ Hid (OwnsCells wx w.heap.size v (prM r n + prN r ((n : Int) + 1) k) (prO r n ++ prI r ((n : Int) + 1) k)) ∧ Hid (Below w.heap.size w wx))
        case atStart => exact ⟨0, _, by omega, by simp, rfl, HVv, HO1, HB⟩
        case round =>
          clear HO1 HO HVv HB
          obtain ⟨k, v, hkh, rfl, rfl, HVv, HO, HB⟩ := hrel
          cases gk with
          | zero =>
            have hk : ¬ ((n : Int) + 1 + (k : Int) ≤ 17) := by omega
            have HK : Hid (k = 17 - n) := by show k = _; omega
            go_wp2_with fail
            go_roundg g
            case rel => exact ⟨n + 1, _, by omega, by go_num, rfl, by rw [HN0.out, ← HK.out]; exact HVv, by rw [HN0.out, HN1.out, ← HK.out]; exact HO, HB⟩
            case measure => omega
          | succ h =>
            have hk : (n : Int) + 1 + (k : Int) ≤ 17 := by omega
            have hk0 : (1 : Int) ≤ (n : Int) + 1 + (k : Int) := by omega
            have hp := prN_le r ((n : Int) + 1) k
            have hpm : prM r n + prN r ((n : Int) + 1) k ≤ 306 := by omega
            have T1 : Hid (TlOk ((n : Int) + 1)) := by show TlOk _; unfold TlOk; omega
            have T2 : Hid (TlOk ((n : Int) + 1 + (k : Int))) := by show TlOk _; unfold TlOk; omega
            have HY := Lib.hid (prI_yes (r := r) (s := (n : Int) + 1) (k := k))
            have HNo := Lib.hid (prI_no (r := r) (s := (n : Int) + 1) (k := k))
            go_wp2_with fail
            refine (l10Merge_any r _ _ _ HR.out T1.out T2.out).mono ?_
            rintro e wc ⟨rfl, hwc⟩
            subst hwc
            have ho0 : wr.ownsRow w.heap.size 66 2 v (prM r n + prN r ((n : Int) + 1) k) ((prO r n ++ prI r ((n : Int) + 1) k).map (Value.int .i64)) := HO.out
            have HB3 := HB
            clear HO
            generalize hu : mgF r ((n : Int) + 1) ((n : Int) + 1 + (k : Int)) = u at *
            have hsz := HB3.out.size
            by_cases hq : 0 < u
            · have Y := Lib.hid (HY.out hq)
              have du : decide (0 < u) = true := by simpa using hq
              have du2 : decide (u > 0) = true := by simpa using hq
              clear hq hu HY HNo
              go_wp2_with (at_builtin; refine wpList_append_own _ rfl _ _ 27 rfl w.heap.size 66 i0 (.agg #[.int .i64 0, .int .i64 0]) 2 16 Try.underlying27 hi hz0 hz1 hz2 rfl (by decide) _ _ _ rfl (ho0.alloc _) ⟨wr.heap.size, 0, none⟩ 1 1 [.int .i64 ((n : Int) + 1), .int .i64 ((n : Int) + 1 + (k : Int))] rfl rfl ?c1 ?c2 ?c3 ?c4 ?c5 ?_)
              try (case c1 => exact cell_two_new _ _ _ _)
              case c2 => simp [Value.oneCell']
              case c3 => unfold maxLen; omega
              case c4 => omega
              case c5 => first | (simp; omega) | omega
              intro v' w2 hown' hgrow' _
              obtain ⟨gg, cap, hv'⟩ := ownsRow_succ hown'
              have HV' : Hid (∃ gg cap, v' = .slice (some ⟨gg, 0, none⟩) (prM r n + prN r ((n : Int) + 1) k + 1) cap) := ⟨gg, cap, hv'⟩
              have HB2 : Hid (Below w.heap.size w w2) := ((HB3.out).alloc hsz _).grown hgrow' (by simp; omega) (fun j hj => by have := (ho0.lt j hj).1; omega)
              have HO : Hid (OwnsCells w2 w.heap.size v' (prM r n + prN r ((n : Int) + 1) k + 1) ((prO r n ++ prI r ((n : Int) + 1) k) ++ [(n : Int) + 1, (n : Int) + 1 + (k : Int)])) := by
                show OwnsCells _ _ _ _ _
                unfold OwnsCells
                simpa only [List.map_append, List.append_assoc, List.map_cons, List.map_nil] using hown'
              clear hown' hgrow' ho0 hv'
              go_wp2_with fail
              go_roundg h
              case rel => exact ⟨k + 1, _, by omega, by go_num, rfl, by rw [Y.out.2, ← Nat.add_assoc]; exact HV', by rw [Y.out.1, Y.out.2, ← Nat.add_assoc, ← List.append_assoc]; exact HO, HB2⟩
              case measure => omega
            · have Y := Lib.hid (HNo.out (by omega))
              have du : decide (0 < u) = false := by simpa using hq
              have du2 : decide (u > 0) = false := by simpa using hq
              clear hq hu HY HNo
              go_wp2_with fail
              go_roundg h
              case rel => exact ⟨k + 1, _, by omega, by go_num, rfl, by rw [Y.out.2]; exact HVv, by rw [Y.out.1, Y.out.2]; exact ho0, HB3⟩
              case measure => omega
  · have HR := Lib.hid hR
    rw [(pr_no hR).1, (pr_no hR).2, show decide (RlOk r) = false by simpa using hR]
    clear hR
    go_enter Try.func19, Try.ntmps19
    go_wp2_with fail
    refine (l10Rule_no r _ HR.out).mono ?_
    rintro e w5 ⟨rfl, h5⟩
    subst h5
    go_wp2_with fail
    go_ret2
    exact ⟨_, _, rfl, HO.out, HB.out⟩
set_option maxHeartbeats 2000000 in
set_option maxRecDepth 20000 in
theorem implPairsBy_any (r : Int) (w : World) :
    Calls Try.prog 20 #[.int .i64 r] w fun e w' => ∃ g cap, e = .returned (.tuple #[.slice (some ⟨g, 0, none⟩) (prC r) cap, .bool (decide (RlOk r))]) ∧
      OwnsCells w' w.heap.size (.slice (some ⟨g, 0, none⟩) (prC r) cap) (prC r) (prR r) ∧ Below w.heap.size w w' := by
  obtain ⟨i0, hi, hz0, hz1, hz2⟩ := info_parts infoCell
  by_cases hR : RlOk r
  · have HX := Lib.hid (merges_any r hR)
    have CL : Hid (∀ W, Calls Try.prog 51 #[.int .i64 r] W fun e w' => e = .returned (.tuple #[.iface 112 (.agg #[inR r]), .bool true]) ∧ Below W.heap.size W w') := fun W => lawOf_at r W hR
    rw [(pr_yes hR).1, (pr_yes hR).2, show decide (RlOk r) = true by simpa using hR]
    generalize inR r = x at *
    clear hR
    go_enter Try.func20, Try.ntmps20
    go_wp2_with fail
    refine (CL.out _).mono ?_
    rintro e w5 ⟨rfl, hb⟩
    have HO : Hid (OwnsCells (w5.alloc (.cells #[] 66)) w.heap.size (.slice (some ⟨w5.heap.size, 0, none⟩) 0 0) 0 []) := World.ownsRow_made (base := w.heap.size) (e := 66) (size := 2) w5 #[] 0 hb.size (by decide) rfl
    have HB : Hid (Below w.heap.size w (w5.alloc (.cells #[] 66))) := hb.alloc hb.size _
    clear hb
    go_wp2_with fail
    generalize w5.alloc (.cells #[] 66) = w6 at *
    go_loopg [6, 7] 17 (fun g s6 s7 wr => ∃ (n : Nat) (v : Value), n + g = 17 ∧ s7 = .int .i64 ((n : Int) + 1) ∧ v = s6 ∧ Hid (∃ gg cap, v = .slice (some ⟨gg, 0, none⟩) (prM r n) cap) ∧ Hid (OwnsCells wr w.heap.size v (prM r n) (prO r n)) ∧ Hid (Below w.heap.size w wr))
    case atStart => exact ⟨0, _, by omega, rfl, rfl, ⟨_, _, rfl⟩, HO, HB⟩
    case round =>
      clear HO HB
      obtain ⟨n, v, hng, rfl, rfl, HVv, HO, HB⟩ := hrel
      cases gk with
      | zero =>
        have hn : ¬ ((n : Int) + 1 ≤ 17) := by omega
        obtain rfl : n = 17 := by omega
        clear hng
        obtain ⟨gg, cap, hv⟩ := HVv.out
        subst hv
        go_wp2_with fail
        go_ret2
        exact ⟨gg, cap, rfl, HO.out, HB.out⟩
      | succ g =>
        have hn : (n : Int) + 1 ≤ 17 := by omega
        have hm := prM_le r n
        go_wp2_with fail
        have HN0 : Hid (prM r (n + 1) = prM r n + prN r ((n : Int) + 1) (17 - n)) := rfl
        have HN1 : Hid (prO r (n + 1) = prO r n ++ prI r ((n : Int) + 1) (17 - n)) := rfl
        have HO1 : Hid (OwnsCells wr w.heap.size v (prM r n + prN r ((n : Int) + 1) 0) (prO r n ++ prI r ((n : Int) + 1) 0)) := by
          show OwnsCells _ _ _ _ _
          have e1 : prI r ((n : Int) + 1) 0 = [] := rfl
          have e2 : prN r ((n : Int) + 1) 0 = 0 := rfl
          rw [e1, e2, List.append_nil]; exact HO.out
        go_loopg [6, 8] (17 - n) (fun h s6 s8 wx => ∃ (k : Nat) (v : Value), k + h = 17 - n ∧ s8 = .int .i64 ((n : Int) + 1 + (k : Int)) ∧ v = s6 ∧ Hid (∃ gg cap, v = .slice (some ⟨gg, 0, none⟩) (prM r n + prN r ((n : Int) + 1) k) cap) ∧ Hid (OwnsCells wx w.heap.size v (prM r n + prN r ((n : Int) + 1) k) (prO r n ++ prI r ((n : Int) + 1) k)) ∧ Hid (Below w.heap.size w wx))
        case atStart => exact ⟨0, _, by omega, by simp, rfl, HVv, HO1, HB⟩
        case round =>
          clear HO1 HO HVv HB
          obtain ⟨k, v, hkh, rfl, rfl, HVv, HO, HB⟩ := hrel
          cases gk with
          | zero =>
            have hk : ¬ ((n : Int) + 1 + (k : Int) ≤ 17) := by omega
            have HK : Hid (k = 17 - n) := by show k = _; omega
            go_wp2_with fail
            go_roundg g
            case rel => exact ⟨n + 1, _, by omega, by go_num, rfl, by rw [HN0.out, ← HK.out]; exact HVv, by rw [HN0.out, HN1.out, ← HK.out]; exact HO, HB⟩
            case measure => omega
          | succ h =>
            have hk : (n : Int) + 1 + (k : Int) ≤ 17 := by omega
            have hk0 : (1 : Int) ≤ (n : Int) + 1 + (k : Int) := by omega
            have hp := prN_le r ((n : Int) + 1) k
            have hpm : prM r n + prN r ((n : Int) + 1) k ≤ 306 := by omega
            have T1 : Hid (TlOk ((n : Int) + 1)) := by show TlOk _; unfold TlOk; omega
            have T2 : Hid (TlOk ((n : Int) + 1 + (k : Int))) := by show TlOk _; unfold TlOk; omega
            have HY := Lib.hid (prI_yes (r := r) (s := (n : Int) + 1) (k := k))
            have HNo := Lib.hid (prI_no (r := r) (s := (n : Int) + 1) (k := k))
            go_wp2_with fail
            refine (HX.out.2 _ _ _ T1.out T2.out).mono ?_
            rintro e wc ⟨rfl, hb⟩
            have HO : Hid (OwnsCells wc w.heap.size v (prM r n + prN r ((n : Int) + 1) k) (prO r n ++ prI r ((n : Int) + 1) k)) := owns_below HO.out hb
            have ho0 : wc.ownsRow w.heap.size 66 2 v (prM r n + prN r ((n : Int) + 1) k) ((prO r n ++ prI r ((n : Int) + 1) k).map (Value.int .i64)) := HO.out
            have HB3 : Hid (Below w.heap.size w wc) := HB.out.trans (hb.mono HB.out.size)
            clear hb HO
            generalize hu : mgF r ((n : Int) + 1) ((n : Int) + 1 + (k : Int)) = u at *
            have hsz := HB3.out.size
            by_cases hq : 0 < u
            · have Y := Lib.hid (HY.out hq)
              have du : decide (0 < u) = true := by simpa using hq
              have du2 : decide (u > 0) = true := by simpa using hq
              clear hq hu HY HNo
              go_wp2_with (at_builtin; refine wpList_append_own _ rfl _ _ 27 rfl w.heap.size 66 i0 (.agg #[.int .i64 0, .int .i64 0]) 2 16 Try.underlying27 hi hz0 hz1 hz2 rfl (by decide) _ _ _ rfl (ho0.alloc _) ⟨wc.heap.size, 0, none⟩ 1 1 [.int .i64 ((n : Int) + 1), .int .i64 ((n : Int) + 1 + (k : Int))] rfl rfl ?c1 ?c2 ?c3 ?c4 ?c5 ?_)
              try (case c1 => exact cell_two_new _ _ _ _)
              case c2 => simp [Value.oneCell']
              case c3 => unfold maxLen; omega
              case c4 => omega
              case c5 => first | (simp; omega) | omega
              intro v' w2 hown' hgrow' _
              obtain ⟨gg, cap, hv'⟩ := ownsRow_succ hown'
              have HV' : Hid (∃ gg cap, v' = .slice (some ⟨gg, 0, none⟩) (prM r n + prN r ((n : Int) + 1) k + 1) cap) := ⟨gg, cap, hv'⟩
              have HB2 : Hid (Below w.heap.size w w2) := ((HB3.out).alloc hsz _).grown hgrow' (by simp; omega) (fun j hj => by have := (ho0.lt j hj).1; omega)
              have HO : Hid (OwnsCells w2 w.heap.size v' (prM r n + prN r ((n : Int) + 1) k + 1) ((prO r n ++ prI r ((n : Int) + 1) k) ++ [(n : Int) + 1, (n : Int) + 1 + (k : Int)])) := by
                show OwnsCells _ _ _ _ _
                unfold OwnsCells
                simpa only [List.map_append, List.append_assoc, List.map_cons, List.map_nil] using hown'
              clear hown' hgrow' ho0 hv'
              go_wp2_with fail
              go_roundg h
              case rel => exact ⟨k + 1, _, by omega, by go_num, rfl, by rw [Y.out.2, ← Nat.add_assoc]; exact HV', by rw [Y.out.1, Y.out.2, ← Nat.add_assoc, ← List.append_assoc]; exact HO, HB2⟩
              case measure => omega
            · have Y := Lib.hid (HNo.out (by omega))
              have du : decide (0 < u) = false := by simpa using hq
              have du2 : decide (u > 0) = false := by simpa using hq
              clear hq hu HY HNo
              go_wp2_with fail
              go_roundg h
              case rel => exact ⟨k + 1, _, by omega, by go_num, rfl, by rw [Y.out.2]; exact HVv, by rw [Y.out.1, Y.out.2]; exact ho0, HB3⟩
              case measure => omega
  · have HR := Lib.hid hR
    rw [(pr_no hR).1, (pr_no hR).2, show decide (RlOk r) = false by simpa using hR]
    clear hR
    go_enter Try.func20, Try.ntmps20
    go_wp2_with fail
    refine (lawOf_no r _ HR.out).mono ?_
    rintro e w5 ⟨rfl, hb⟩
    have HO : Hid (OwnsCells (w5.alloc (.cells #[] 66)) w.heap.size (.slice (some ⟨w5.heap.size, 0, none⟩) 0 0) 0 []) := World.ownsRow_made (base := w.heap.size) (e := 66) (size := 2) w5 #[] 0 hb.size (by decide) rfl
    have HB : Hid (Below w.heap.size w (w5.alloc (.cells #[] 66))) := hb.alloc hb.size _
    clear hb
    go_wp2_with fail
    go_ret2
    exact ⟨_, _, rfl, HO.out, HB.out⟩
theorem prR_len (r : Int) : (prR r).length = prC r * 2 := by
  by_cases h : RlOk r
  · rw [(pr_yes h).1, (pr_yes h).2]; exact prM_len r 17
  · rw [(pr_no h).1, (pr_no h).2]; rfl
theorem prC_le (r : Int) : prC r ≤ 289 := by
  by_cases h : RlOk r
  · rw [(pr_yes h).2]; exact prM_le r 17
  · rw [(pr_no h).2]; omega
end Go.Proofs.Ytblcojacmjbjcaa
