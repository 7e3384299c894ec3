/-
  The contracts of spec.l2Board and impl.IsBoard: whether all numbers of a board are those of cells. No condition.
-/
import Derived.Test.YtpiegllffkjneaaBase
namespace Go.Proofs.Ytpiegllffkjneaa
open Go.RowKit Plain
attribute [local go_sem] store_new

/-- How a test of a board ends. -/
def VdPost (f : Nat → Int) (w : World) (e : Ending) (w' : World) : Prop :=
  ((Vd f ∧ e = .returned (.bool true)) ∨ (¬ Vd f ∧ e = .returned (.bool false))) ∧ Below w.heap.size w w'

set_option maxHeartbeats 400000 in
theorem l2Board_any (f : Nat → Int) (w : World) :
    Calls Try.prog 90 #[.agg (mk 16 f)] w (VdPost f w) := by
  go_enter Try.func90, Try.ntmps90
  go_wp2_with fail
  have K := Blk.new w 16 f 27
  have HB := Lib.hid ((Below.refl w.heap.size w).alloc (Nat.le_refl _) (.cells (mk 16 f) 27))
  generalize w.alloc (.cells (mk 16 f) 27) = w1 at *
  go_loopg [3] 4 (fun g s3 wx => ∃ r : Nat, r + g = 4 ∧ s3 = .int .i64 r ∧ Hid (∀ j, j < r * 4 → 0 ≤ f j ∧ f j ≤ 17) ∧ w1 = wx)
  case atStart => exact ⟨0, by omega, rfl, fun j hj => by omega, rfl⟩
  case round =>
    obtain ⟨r, hrg, rfl, HV, rfl⟩ := hrel
    cases gk with
    | zero =>
      have hr : ¬ ((r : Int) < 4) := by omega
      have HR : Hid (r = 4) := by show r = 4; omega
      clear hrg
      go_wp2_with fail
      go_ret
      exact ⟨.inl ⟨fun j hj => HV.out j (by rw [HR.out]; omega), rfl⟩, HB.out⟩
    | succ g =>
      have hr4 : (r : Int) < 4 := by omega
      go_wp2_with fail
      go_loopg [4] 4 (fun h s4 wx => ∃ c : Nat, c + h = 4 ∧ s4 = .int .i64 c ∧ Hid (∀ j, j < r * 4 + c → 0 ≤ f j ∧ f j ≤ 17) ∧ w1 = wx)
      case atStart => exact ⟨0, by omega, rfl, HV, rfl⟩
      case round =>
        obtain ⟨c, hch, rfl, HW, rfl⟩ := hrel
        cases gk with
        | zero =>
          have hc : ¬ ((c : Int) < 4) := by omega
          go_wp2_with fail
          go_roundg g
          case rel => exact ⟨r + 1, by omega, by go_num, fun j hj => HW.out j (by omega), rfl⟩
          case measure => omega
        | succ h =>
          have hc : (c : Int) < 4 := by omega
          have k1 := K.cell (i := r * 4 + c) (by omega)
          have hi : r * 4 + c < 16 := by omega
          by_cases hx : 0 ≤ f (r * 4 + c) ∧ f (r * 4 + c) ≤ 17
          · have HX : Hid (∀ j, j < r * 4 + (c + 1) → 0 ≤ f j ∧ f j ≤ 17) := by
              intro j hj
              by_cases e : j = r * 4 + c
              · rw [e]; exact hx
              · exact HW.out j (by omega)
            obtain ⟨x0, x1⟩ := hx
            generalize f (r * 4 + c) = x at k1 x0 x1
            go_wp2_with fail
            refine (l1In_yes x 0 17 _ x0 x1).mono ?_
            rintro e w' ⟨rfl, rfl⟩
            go_wp2_with fail
            go_roundg h
            case rel => exact ⟨c + 1, by omega, by go_num, HX, rfl⟩
            case measure => omega
          · have HN : Hid (¬ Vd f) := fun h => hx (h _ hi)
            have H := Lib.hid (show f (r * 4 + c) < 0 ∨ 17 < f (r * 4 + c) by omega)
            clear hx
            generalize f (r * 4 + c) = x at k1 H
            go_wp2_with fail
            refine (l1In_no x 0 17 _ H.out).mono ?_
            rintro e w' ⟨rfl, rfl⟩
            go_wp2_with fail
            try rw [Exit.noGoto_ret]
            go_ret
            exact ⟨.inr ⟨HN.out, rfl⟩, HB.out⟩

set_option maxHeartbeats 400000 in
theorem implBoard_any (f : Nat → Int) (w : World) :
    Calls Try.prog 88 #[.agg (mk 16 f)] w (VdPost f w) := by
  have z4 := zero4
  have iG := idxG
  have iR := idxR
  go_enter Try.func88, Try.ntmps88
  go_wp2_with ((with_reducible show wpList _ _ _ (Oper.mk _ (Op.load 25 _) _ _ _ _ :: _) _ _); refine loadG (Blk.new _ _ _ _) rfl rfl rfl ?_)
  have HB := Lib.hid ((Below.refl w.heap.size w).alloc (Nat.le_refl _) (.cells (mk 16 f) 27))
  generalize w.alloc (.cells (mk 16 f) 27) = w1 at *
  go_loopg [9] 4 (fun g s9 wx => ∃ r : Nat, r + g = 4 ∧ s9 = .int .i64 r ∧ Hid (∀ j, j < r * 4 → 0 ≤ f j ∧ f j ≤ 17) ∧ Hid (Below w.heap.size w wx))
  case atStart => exact ⟨0, by omega, rfl, fun j hj => by omega, HB⟩
  case round =>
    obtain ⟨r, hrg, rfl, HV, hb⟩ := hrel
    cases gk with
    | zero =>
      have hr : ¬ ((r : Int) < 4) := by omega
      have HR : Hid (r = 4) := by show r = 4; omega
      clear hrg
      go_wp2_with fail
      go_ret
      exact ⟨.inl ⟨fun j hj => HV.out j (by rw [HR.out]; omega), rfl⟩, hb.out⟩
    | succ g =>
      have hr4 : (r : Int) < 4 := by omega
      have hr5 : r < 4 := by omega
      go_wp2_with ((with_reducible show wpList _ _ _ (Oper.mk _ (Op.load 24 _) _ _ _ _ :: _) _ _); refine loadR (Blk.new _ _ _ _) rfl rfl rfl ?_)
      have HB2 : Hid (Below w.heap.size w (wr.alloc (.cells (mk 4 fun c => f (r * 4 + c)) 24))) := hb.out.alloc hb.out.size _
      generalize wr.alloc (.cells (mk 4 fun c => f (r * 4 + c)) 24) = w2 at *
      go_loopg [13] 4 (fun h s13 wx => ∃ c : Nat, c + h = 4 ∧ s13 = .int .i64 c ∧ Hid (∀ j, j < r * 4 + c → 0 ≤ f j ∧ f j ≤ 17) ∧ w2 = wx)
      case atStart => exact ⟨0, by omega, rfl, HV, rfl⟩
      case round =>
        obtain ⟨c, hch, rfl, HW, rfl⟩ := hrel
        cases gk with
        | zero =>
          have hc : ¬ ((c : Int) < 4) := by omega
          go_wp2_with fail
          go_roundg g
          case rel => exact ⟨r + 1, by omega, by go_num, fun j hj => HW.out j (by omega), HB2⟩
          case measure => omega
        | succ h =>
          have hc : (c : Int) < 4 := by omega
          have hc5 : c < 4 := by omega
          have hi : r * 4 + c < 16 := by omega
          by_cases hx : 0 ≤ f (r * 4 + c) ∧ f (r * 4 + c) ≤ 17
          · have HX : Hid (∀ j, j < r * 4 + (c + 1) → 0 ≤ f j ∧ f j ≤ 17) := by
              intro j hj
              by_cases e : j = r * 4 + c
              · rw [e]; exact hx
              · exact HW.out j (by omega)
            obtain ⟨x0, x1⟩ := hx
            by_cases h0 : f (r * 4 + c) = 0
            · have d0 : (f (r * 4 + c) != 0) = false := by simpa using h0
              clear h0
              go_wp2_with fail
              go_roundg h
              case rel => exact ⟨c + 1, by omega, by go_num, HX, rfl⟩
              case measure => omega
            · have d0 : (f (r * 4 + c) != 0) = true := by simpa using h0
              have x2 : 1 ≤ f (r * 4 + c) := by omega
              clear h0
              go_wp2_with fail
              refine (isTile_yes _ _ x2 x1).mono ?_
              rintro e w' ⟨rfl, rfl⟩
              go_wp2_with fail
              go_roundg h
              case rel => exact ⟨c + 1, by omega, by go_num, HX, rfl⟩
              case measure => omega
          · have HN : Hid (¬ Vd f) := fun h => hx (h _ hi)
            have H := Lib.hid (show f (r * 4 + c) < 1 ∨ 17 < f (r * 4 + c) by omega)
            have d0 : (f (r * 4 + c) != 0) = true := by simp; omega
            clear hx
            go_wp2_with fail
            refine (isTile_no _ _ H.out).mono ?_
            rintro e w' ⟨rfl, rfl⟩
            go_wp2_with fail
            try rw [Exit.noGoto_ret]
            go_ret
            exact ⟨.inr ⟨HN.out, rfl⟩, HB2.out⟩

theorem l2Board_yes (f : Nat → Int) (w : World) (h : Vd f) :
    Calls Try.prog 90 #[.agg (mk 16 f)] w fun e w' => e = .returned (.bool true) ∧ Below w.heap.size w w' :=
  (l2Board_any f w).mono fun _ _ ⟨h1, h2⟩ => ⟨h1.elim (·.2) (fun k => absurd h k.1), h2⟩
theorem l2Board_no (f : Nat → Int) (w : World) (h : ¬ Vd f) :
    Calls Try.prog 90 #[.agg (mk 16 f)] w fun e w' => e = .returned (.bool false) ∧ Below w.heap.size w w' :=
  (l2Board_any f w).mono fun _ _ ⟨h1, h2⟩ => ⟨h1.elim (fun k => absurd k.1 h) (·.2), h2⟩
theorem implBoard_yes (f : Nat → Int) (w : World) (h : Vd f) :
    Calls Try.prog 88 #[.agg (mk 16 f)] w fun e w' => e = .returned (.bool true) ∧ Below w.heap.size w w' :=
  (implBoard_any f w).mono fun _ _ ⟨h1, h2⟩ => ⟨h1.elim (·.2) (fun k => absurd h k.1), h2⟩
theorem implBoard_no (f : Nat → Int) (w : World) (h : ¬ Vd f) :
    Calls Try.prog 88 #[.agg (mk 16 f)] w fun e w' => e = .returned (.bool false) ∧ Below w.heap.size w w' :=
  (implBoard_any f w).mono fun _ _ ⟨h1, h2⟩ => ⟨h1.elim (fun k => absurd k.1 h) (·.2), h2⟩
end Go.Proofs.Ytpiegllffkjneaa
