/-
  slices.Concat of a row of steps and one more step. The condition: the row has at most 1048576 steps.
-/
import Derived.Test.YtekdodlkimgbhaaLays2
import Derived.Test.YtekdodlkimgbhaaRepOwn
namespace Go.Proofs.Ytekdodlkimgbhaa
open Go.RowKit Plain
attribute [local go_sem] store_new
set_option linter.unusedVariables false
set_option linter.unusedSimpArgs false

theorem growT_any (n : Nat) (w : World) (hn : 1 ≤ n) (hn2 : n ≤ 1048577) :
    Calls Try.prog 91 #[.slice none 0 0, .int .i64 n] w fun e w' => ∃ cap, e = .returned (.slice (some ⟨w.heap.size, 0, none⟩) 0 cap) ∧
      OwnT w' w.heap.size (.slice (some ⟨w.heap.size, 0, none⟩) 0 cap) 0 (fun _ => 0) ∧ Below w.heap.size w w' := by
  obtain ⟨i0, hi, hz0, hz1, hz2⟩ := info_parts infoT
  have h := Any8.slices_Grow_grow Try.growT i0 (.agg (mk 4 fun _ => 0)) hi hz0 (by rw [hz1]; decide) none 0 0 n [] w (Nat.le_refl _) (by omega) (by rw [hz2]; omega) (by omega) (by simp) (fun _ => rfl) (fun a ha => by cases ha)
  refine h.mono fun e w' ⟨h1, h2⟩ => ⟨_, h1, ?_, ?_⟩
  · have hge := grownCap_ge w (0 + n) 0 49
    have hcm : grownCap w (0 + n) 0 49 ≤ maxLen := grownCap_le_maxLen w (0 + n) 0 49 (by unfold maxLen; omega)
    rw [h2]
    refine World.ownsRow_made (base := w.heap.size) (e := 49) (size := 4) w.drew _ _ (Nat.le_refl _) hcm ?_
    have hz : ∀ m, (Builtin.zeroCells (Value.agg (mk 4 fun _ => 0)).cells m).size = m * 4 := fun m => by
      have : (Value.agg (mk 4 fun _ => 0)).cells = mk 4 fun _ => 0 := rfl
      simp [Builtin.zeroCells, this, mk_size]
    have e25 : grownCap w (0 + n) 0 (Try.growT_ren.t 25) = grownCap w (0 + n) 0 49 := rfl
    simp only [Array.size_append, hz, List.size_toArray, List.length_nil, e25]
    omega
  · rw [h2]; exact ((Below.refl w.heap.size w).drew).alloc (Nat.le_refl _) _
theorem addH_lit (h t : Nat → Int) (n : Nat) : (mk (n * 4) h).toList ++ (mk (1 * 4) fun j => t (0 + j)).toList = (mk ((n + 1) * 4) (addH h n t)).toList := by
  have e : (mk (n * 4) h ++ mk (1 * 4) fun j => t (0 + j)) = mk ((n + 1) * 4) (addH h n t) := by
    refine mk_ext (by simp [mk_size]; omega) fun i hi => ?_
    rw [Array.getElem?_append, mk_size]
    unfold addH
    split
    · rename_i q; rw [mk_get h q]
    · rename_i q; rw [mk_get _ (by omega), Nat.zero_add]
  rw [← e, Array.toList_append]
theorem row0_lit (h : Nat → Int) (n : Nat) : (mk (0 * 4) fun _ => 0).toList ++ (mk (n * 4) fun j => h (0 + j)).toList = (mk (n * 4) h).toList := by
  have e : (mk (0 * 4) fun _ => 0).toList = [] := rfl
  rw [e, List.nil_append]
  exact congrArg Array.toList (mk_congr fun j _ => by rw [Nat.zero_add])
set_option maxHeartbeats 4000000 in
set_option maxRecDepth 20000 in
theorem concatT_any (B g1 c1 g2 c2 n : Nat) (h t : Nat → Int) (w : World) (d1 : w.cell? ⟨B, 0, none⟩ = some (.slice (some ⟨g1, 0, none⟩) n c1)) (d2 : w.cell? ⟨B, 1, none⟩ = some (.slice (some ⟨g2, 0, none⟩) 1 c2))
    (h1 : CAt w g1 (n * 4) h) (h2 : CAt w g2 4 t) (hn : n ≤ 1048576) :
    Calls Try.prog 58 #[.slice (some ⟨B, 0, none⟩) 2 2] w fun e w' => ∃ g cap, e = .returned (.slice (some ⟨g, 0, none⟩) (n + 1) cap) ∧
      OwnT w' w.heap.size (.slice (some ⟨g, 0, none⟩) (n + 1) cap) (n + 1) (addH h n t) ∧ Below w.heap.size w w' := by
  obtain ⟨i0, hi, hz0, hz1, hz2⟩ := info_parts infoT
  have hB : B < w.heap.size := World.block_lt_of_cell? w _ d1
  go_enter Try.func58, Try.ntmps58
  go_wp2_with fail
  go_loopg [3, 11] 2 (fun gk s3 s11 wr => ∃ i : Nat, i + gk = 2 ∧ s11 = .int .i64 i ∧ s3 = .int .i64 ((if i = 0 then 0 else if i = 1 then n else n + 1 : Nat) : Int) ∧ w = wr)
  case atStart => exact ⟨0, by omega, rfl, rfl, rfl⟩
  case round =>
    obtain ⟨i, hig, rfl, rfl, rfl⟩ := hrel
    rcases (by omega : i = 0 ∨ i = 1 ∨ i = 2) with rfl | rfl | rfl
    · obtain rfl : gk = 1 + 1 := by omega
      have q0 : ¬ ((n : Int) < 0) := by omega
      have q1 : IntKind.i64.wrap (n : Int) = (n : Int) := IntWalk.i64_in _ (by omega)
      go_wp2_with fail
      go_roundg 1
      case rel => exact ⟨1, by omega, by go_num, by simp, rfl⟩
      case measure => omega
    · obtain rfl : gk = 0 + 1 := by omega
      have q0 : ¬ ((n : Int) + 1 < 0) := by omega
      have q1 : IntKind.i64.wrap ((n : Int) + 1) = (n : Int) + 1 := IntWalk.i64_in _ (by omega)
      go_wp2_with fail
      go_roundg 0
      case rel => exact ⟨2, by omega, by go_num, by simp, rfl⟩
      case measure => omega
    · obtain rfl : gk = 0 := by omega
      have hcon := growT_any (n + 1) w (by omega) (by omega)
      simp only [Int.natCast_add, Int.natCast_one] at hcon
      go_wp2_with fail
      refine hcon.mono ?_
      clear hcon
      rintro e w2 ⟨cap, rfl, ho, hb⟩
      have HO := Lib.hid ho
      have HB := Lib.hid hb
      have hw2 := hb.size
      clear ho hb
      go_wp2_with fail
      go_loopg [6, 27] 2 (fun gj s6 s27 wr => ∃ (i : Nat) (v : Value), i + gj = 2 ∧ s27 = .int .i64 i ∧ v = s6 ∧ (∃ g c, v = .slice (some ⟨g, 0, none⟩) (if i = 0 then 0 else if i = 1 then n else n + 1) c) ∧ Hid (OwnT wr w.heap.size v (if i = 0 then 0 else if i = 1 then n else n + 1) (if i = 0 then fun _ => 0 else if i = 1 then h else addH h n t)) ∧ Hid (Below w.heap.size w wr))
      case atStart => exact ⟨0, _, by omega, rfl, rfl, ⟨_, _, rfl⟩, HO.out, HB⟩
      case round =>
        clear HO HB
        obtain ⟨i, v, hig, rfl, rfl, ⟨g, c, hv⟩, HO, HB⟩ := hrel
        subst hv
        rcases (by omega : i = 0 ∨ i = 1 ∨ i = 2) with rfl | rfl | rfl
        · obtain rfl : gk = 1 + 1 := by omega
          have e1 : wr.cell? ⟨B, 0, none⟩ = some (.slice (some ⟨g1, 0, none⟩) n c1) := (HB.out.cell (p := ⟨B, 0, none⟩) hB).trans d1
          have k1 := h1.below HB.out
          have ho0 : wr.ownsRow w.heap.size 49 4 (.slice (some ⟨g, 0, none⟩) 0 c) 0 (mk (0 * 4) fun _ => 0).toList := HO.out
          go_wp2_with (first | (at_builtin; refine wpl_app (v := .slice (some ⟨g, 0, none⟩) 0 c) rfl _ _ 32 rfl w.heap.size 49 i0 _ 4 32 Try.underlying32 hi hz0 hz1 hz2 rfl (by decide) rfl ho0 g1 0 n c1 h (n * 4) rfl k1 (by omega) (by unfold maxLen; omega) (by omega) HB.out.size ?_))
          intro v' w8 R hbl hgr hloc
          have HR : Hid (OwnT w8 w.heap.size v' n h) := by
            show World.ownsRow _ _ _ _ _ _ _
            have e := row0_lit h n
            simp only [Nat.zero_mul, Nat.zero_add] at e R
            rw [e] at R
            exact R
          have HB : Hid (Below w.heap.size w w8) := HB.out.trans hbl
          have HVv : Hid (∃ g c, v' = .slice (some ⟨g, 0, none⟩) n c) := by
            rcases HR.out.2 with ⟨h0, _⟩ | ⟨g, cap, _, h0, _⟩
            · exfalso
              rcases hloc with q | q <;> rw [h0] at q <;> simp [Value.ownBlock] at q
            · exact ⟨g, cap, h0⟩
          clear R hbl hgr hloc HO ho0
          go_wp2_with fail
          go_roundg 1
          case rel => exact ⟨1, _, by omega, by go_num, rfl, HVv.out, HR, HB⟩
          case measure => omega
        · obtain rfl : gk = 0 + 1 := by omega
          have e1 : wr.cell? ⟨B, 1, none⟩ = some (.slice (some ⟨g2, 0, none⟩) 1 c2) := (HB.out.cell (p := ⟨B, 1, none⟩) hB).trans d2
          have k1 := h2.below HB.out
          have ho0 : wr.ownsRow w.heap.size 49 4 (.slice (some ⟨g, 0, none⟩) n c) n (mk (n * 4) h).toList := HO.out
          clear HO
          go_wp2_with (first | (at_builtin; refine wpl_app (v := .slice (some ⟨g, 0, none⟩) n c) rfl _ _ 32 rfl w.heap.size 49 i0 _ 4 32 Try.underlying32 hi hz0 hz1 hz2 rfl (by decide) rfl ho0 g2 0 1 c2 t 4 rfl k1 (by omega) (by unfold maxLen; omega) (by omega) HB.out.size ?_))
          intro v' w8 R hbl hgr hloc
          have HR : Hid (OwnT w8 w.heap.size v' (n + 1) (addH h n t)) := by
            show World.ownsRow _ _ _ _ _ _ _
            have e := addH_lit h t n
            simp only [Nat.one_mul, Nat.zero_add] at e R
            rw [e] at R
            exact R
          have HB : Hid (Below w.heap.size w w8) := HB.out.trans hbl
          obtain ⟨g', cap', hv'⟩ := ownsRow_succ HR.out
          have HVv : Hid (∃ g c, v' = .slice (some ⟨g, 0, none⟩) (n + 1) c) := ⟨g', cap', hv'⟩
          clear R hbl hgr hloc ho0 hv'
          go_wp2_with fail
          go_roundg 0
          case rel => exact ⟨2, _, by omega, by go_num, rfl, HVv.out, HR, HB⟩
          case measure => omega
        · obtain rfl : gk = 0 := by omega
          have HO2 : Hid (OwnT wr w.heap.size (.slice (some ⟨g, 0, none⟩) (n + 1) c) (n + 1) (addH h n t)) := HO.out
          clear HO
          go_wp2_with fail
          go_ret
          exact ⟨g, c, rfl, HO2.out, HB.out⟩
end Go.Proofs.Ytekdodlkimgbhaa
