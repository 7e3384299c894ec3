/-
  The contract of the reference's l4Spread: all rows that have some tiles, in order.
-/
import Derived.Test.YtphkidkkcknnmaaSpecPut4
import Derived.Test.YtphkidkkcknnmaaPlainA
import Derived.Test.YtphkidkkcknnmaaRowsKit
namespace Go.Proofs.Ytphkidkkcknnmaa
open Go.RowKit Plain
attribute [local go_sem] store_new
set_option linter.unusedVariables false
set_option linter.unusedSimpArgs false

theorem bitF {c k : Nat} (hc : c < 16) (hk : k < 4) : (bits BinOp.and IntKind.i64 ((c : Int) / 2 ^ k) 1 == 1) = c.testBit k := by
  have key : ∀ c : Fin 16, ∀ k : Fin 4, (bits BinOp.and IntKind.i64 ((c.val : Int) / 2 ^ k.val) 1 == 1) = c.val.testBit k.val := by decide
  exact key ⟨c, hc⟩ ⟨k, hk⟩
theorem grownBy_setCell (w : World) (p : Addr) (u : Value) : w.grownBy (w.setCell p u) (some p.block) := by
  refine ⟨rfl, rfl, rfl, ?_, fun j hj hne => ?_⟩
  · simp [World.setCell]
  · exact Below.heap_setCell w p u j (fun e => hne (by rw [e]))

set_option maxHeartbeats 2000000 in
set_option maxRecDepth 20000 in
theorem l4Spread_any (g cap : Nat) (ts : List Int) (w : World) (hts : ts.length ≤ 8) (hc : CAt w g ts.length (fn ts)) :
    Calls Try.prog 120 #[.slice (some ⟨g, 0, none⟩) ts.length cap] w fun e w' => ∃ g' cap', e = .returned (.slice (some ⟨g', 0, none⟩) (sprL ts 16).length cap') ∧
      OwnsL 22 4 w' w.heap.size (.slice (some ⟨g', 0, none⟩) (sprL ts 16).length cap') (sprL ts 16) ∧ Below w.heap.size w w' := by
  obtain ⟨i0, hi, hz0, hz1, hz2⟩ := info_parts infoR
  have HB := Lib.hid ((Below.refl w.heap.size w).alloc (Nat.le_refl _) (.cells #[] 22))
  have HC := hc.alloc (.cells #[] 22)
  have HO : Hid (OwnsL 22 4 (w.alloc (.cells #[] 22)) w.heap.size (.slice (some ⟨w.heap.size, 0, none⟩) 0 0) []) := OwnsL.made w (Nat.le_refl _)
  have hgw : g < w.heap.size := hc.1
  clear hc
  generalize hN : ts.length = n at *
  go_enter Try.func120, Try.ntmps120
  go_wp2_with fail
  go_loopg [3, 4] 16 (fun gk s3 s4 wr => ∃ (c : Nat) (v : Value), c + gk = 16 ∧ s4 = .int .i64 c ∧ v = s3 ∧ (∃ gg cap, v = .slice (some ⟨gg, 0, none⟩) (sprL ts c).length cap) ∧ Hid (OwnsL 22 4 wr w.heap.size v (sprL ts c)) ∧ CAt wr g n (fn ts) ∧ Hid (Below w.heap.size w wr))
  case atStart => exact ⟨0, _, by omega, rfl, rfl, ⟨_, _, rfl⟩, HO, HC, HB⟩
  case round =>
    obtain ⟨c, v, hcg, rfl, rfl, ⟨gg, cap1, hv⟩, HO, HC, HB⟩ := hrel
    subst hv
    cases gk with
    | zero =>
      have hk : ¬ ((c : Int) < 16) := by omega
      obtain rfl : c = 16 := by omega
      clear hcg hk
      go_wp2_with fail
      go_ret
      exact ⟨gg, cap1, rfl, HO.out, HB.out⟩
    | succ gk2 =>
      have hc16 : (c : Int) < 16 := by omega
      have HNE : Hid (gg < wr.heap.size ∧ g < wr.heap.size ∧ w.heap.size ≤ wr.heap.size) := ⟨(HO.out.lt gg rfl).2, HC.1, HB.out.size⟩
      have z4 := zero4
      have sr := World.setRow_alloc_new
      go_wp2_with fail
      clear z4 sr
      have K5 := Blk.new wr 4 (fun _ => 0) 22
      have HO : Hid (OwnsL 22 4 (wr.alloc (.cells (mk 4 fun _ => 0) 22)) w.heap.size (.slice (some ⟨gg, 0, none⟩) (sprL ts c).length cap1) (sprL ts c)) := HO.out.alloc _
      have HC := HC.alloc (.cells (mk 4 fun _ => 0) 22)
      have HB : Hid (Below w.heap.size w (wr.alloc (.cells (mk 4 fun _ => 0) 22))) := HB.out.alloc HB.out.size _
      generalize hb5 : wr.heap.size = b5 at *
      generalize wr.alloc (.cells (mk 4 fun _ => 0) 22) = x0 at *
      go_loopg [6, 7] 4 (fun gj s6 s7 wx => ∃ (k : Nat), k + gj = 4 ∧ s7 = .int .i64 k ∧ s6 = .int .i64 ((spr ts c k).2 : Nat) ∧ Blk wx b5 4 (spr ts c k).1 22 ∧ Hid (OwnsL 22 4 wx w.heap.size (.slice (some ⟨gg, 0, none⟩) (sprL ts c).length cap1) (sprL ts c)) ∧ CAt wx g n (fn ts) ∧ Hid (Below w.heap.size w wx))
      case atStart => exact ⟨0, by omega, rfl, rfl, K5, HO, HC, HB⟩
      case round =>
        obtain ⟨k, hkg, rfl, rfl, K5, HO, HC, HB⟩ := hrel
        cases gk with
        | zero =>
          have hk : ¬ ((k : Int) < 4) := by omega
          obtain rfl : k = 4 := by omega
          clear hkg hk
          have hle := sprL_len ts c
          have hle2 : (sprL ts c).length ≤ 16 := by omega
          have hx9 := K5.lt
          by_cases hq : (spr ts c 4).2 = n
          · have Y : Hid (sprL ts (c + 1) = sprL ts c ++ [cl 4 (spr ts c 4).1]) := by show _ = _; rw [sprL, if_pos (by rw [hN]; exact hq)]
            have hq1 : (((spr ts c 4).2 : Nat) : Int) = (n : Int) := by omega
            clear hq hle
            generalize (spr ts c 4).2 = m4 at *
            generalize (spr ts c 4).1 = G at *
            go_wp2_with (first | ((with_reducible show wpList _ _ _ (Oper.mk _ (Op.load 22 _) _ _ _ _ :: _) _ _); refine loadR (K5) rfl rfl rfl ?_) | ((with_reducible show wpList _ _ _ (Oper.mk _ (Op.buildSlice _ 1 _) _ _ _ _ :: _) _ _); refine wpl_buildR _ rfl rfl (f := G) rfl ?_) | (at_builtin; refine wpl_app (v := .slice (some ⟨gg, 0, none⟩) (sprL ts c).length cap1) rfl _ _ 68 rfl w.heap.size 22 i0 _ 4 32 Try.underlying68 hi hz0 hz1 hz2 rfl (by decide) rfl (World.ownsRow.alloc HO.out _) wr.heap.size 0 1 1 G 4 rfl (Blk.new _ _ _ _).at (by omega) (by unfold maxLen; omega) (by omega) (by simp; have := HB.out.size; omega) ?_))
            intro v' w8 R hbl hgr hloc
            obtain ⟨g', cap', hv'⟩ := ownsRow_succ R
            have HVv : Hid (∃ gg cap, v' = .slice (some ⟨gg, 0, none⟩) (sprL ts (c + 1)).length cap) := ⟨g', cap', by rw [Y.out, List.length_append]; exact hv'⟩
            have HR : Hid (OwnsL 22 4 w8 w.heap.size v' (sprL ts (c + 1))) := by
              rw [snoc_walk (m := 4) _ G] at R
              show OwnsL _ _ _ _ _ _
              rw [Y.out]
              unfold OwnsL
              rw [List.length_append]
              exact R
            have HC := (HC.alloc (.cells (mk 4 G) 22)).low hbl hgw
            have HB : Hid (Below w.heap.size w w8) := (HB.out.alloc HB.out.size _).trans hbl
            clear hbl hgr R hv' HO hloc
            go_wp2_with fail
            go_roundg gk2
            case rel => exact ⟨c + 1, _, by omega, by go_num, rfl, HVv.out, HR, HC, HB⟩
            case measure => omega
          · have Y : Hid (sprL ts (c + 1) = sprL ts c) := by show _ = _; rw [sprL, if_neg (by rw [hN]; exact hq)]
            have hq1 : ¬ ((((spr ts c 4).2 : Nat) : Int) = (n : Int)) := by omega
            clear hq hle
            go_wp2_with fail
            go_roundg gk2
            case rel => exact ⟨c + 1, _, by omega, by go_num, rfl, ⟨gg, cap1, by rw [Y.out]⟩, by rw [Y.out]; exact HO, HC, HB⟩
            case measure => omega
        | succ gj2 =>
          have hk4 : (k : Int) < 4 := by omega
          have hk0 : (0 : Int) ≤ (k : Int) := by omega
          have hbit := bitF (c := c) (k := k) (by omega) (by omega)
          by_cases hb : c.testBit k = true
          · rw [hb] at hbit
            by_cases hm : (spr ts c k).2 < n
            · have Y1 : Hid ((spr ts c (k + 1)).1 = upd (spr ts c k).1 k (fn ts (spr ts c k).2)) := by show _ = _; rw [spr, if_pos hb, if_pos (by rw [hN]; exact hm)]
              have Y2 : Hid ((spr ts c (k + 1)).2 = (spr ts c k).2 + 1) := by show _ = _; rw [spr, if_pos hb]
              have hm1 : (((spr ts c k).2 : Nat) : Int) < (n : Int) := by omega
              have c1 := HC.2 (spr ts c k).2 hm
              have c5 := K5.cell (i := k) (by omega)
              have f5 := K5.free k
              have hm8 : (spr ts c k).2 ≤ 8 := by omega
              clear hb hm
              generalize (spr ts c k).2 = m at *
              generalize fn ts m = tv at *
              generalize hold : (spr ts c k).1 k = old at c5
              go_wp2_with fail
              have hgr := grownBy_setCell wr ⟨b5, k, none⟩ (.int .i64 tv)
              have HO : Hid (OwnsL 22 4 (wr.setCell ⟨b5, k, none⟩ (.int .i64 tv)) w.heap.size (.slice (some ⟨gg, 0, none⟩) (sprL ts c).length cap1) (sprL ts c)) := World.ownsRow.kept HO.out hgr (Or.inr (by simp only [Value.ownBlock]; intro e; cases e; exact absurd HNE.out.1 (Nat.lt_irrefl _)))
              have HC := HC.grown hgr (fun e => by cases e; exact absurd HNE.out.2.1 (Nat.lt_irrefl _))
              have K5 := K5.set (i := k) (by omega) tv
              have HB : Hid (Below w.heap.size w (wr.setCell ⟨b5, k, none⟩ (.int .i64 tv))) := HB.out.setCell (by exact HNE.out.2.2) _
              go_roundg gj2
              case rel => exact ⟨k + 1, by omega, by go_num, by rw [Y2.out]; go_num, by rw [Y1.out]; exact K5, HO, HC, HB⟩
              case measure => omega
            · have Y1 : Hid ((spr ts c (k + 1)).1 = (spr ts c k).1) := by show _ = _; rw [spr, if_pos hb, if_neg (by rw [hN]; exact hm)]
              have Y2 : Hid ((spr ts c (k + 1)).2 = (spr ts c k).2 + 1) := by show _ = _; rw [spr, if_pos hb]
              have hm1 : ¬ ((((spr ts c k).2 : Nat) : Int) < (n : Int)) := by omega
              have hm8 := spr_le ts c k
              clear hb hm
              generalize (spr ts c k).2 = m at *
              go_wp2_with fail
              go_roundg gj2
              case rel => exact ⟨k + 1, by omega, by go_num, by rw [Y2.out]; go_num, by rw [Y1.out]; exact K5, HO, HC, HB⟩
              case measure => omega
          · have hb2 : c.testBit k = false := by simpa using hb
            have Y : Hid (spr ts c (k + 1) = spr ts c k) := by show _ = _; rw [spr, if_neg hb]
            rw [hb2] at hbit
            clear hb hb2
            go_wp2_with fail
            go_roundg gj2
            case rel => exact ⟨k + 1, by omega, by go_num, by rw [Y.out], by rw [Y.out]; exact K5, HO, HC, HB⟩
            case measure => omega
end Go.Proofs.Ytphkidkkcknnmaa
