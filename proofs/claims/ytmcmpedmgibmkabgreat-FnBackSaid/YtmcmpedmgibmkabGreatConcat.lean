/-
  slices.Concat of two rows of integers, and lists of such rows that one call owns. The condition: the second one is not empty, both are short.
-/
import Derived.Test.YtmcmpedmgibmkabGreatLays2
import Derived.Test.YtmcmpedmgibmkabGreatMapDist
namespace Go.Proofs.YtmcmpedmgibmkabGreat
open Go.RowKit Plain
attribute [local go_sem] store_new
set_option linter.unusedVariables false
set_option linter.unusedSimpArgs false

theorem grow_any (n : Nat) (w : World) (hn : 1 ≤ n) (hn2 : n ≤ 1048576) :
    Calls Tryz.prog 110 #[.slice none 0 0, .int .i64 n] w fun e w' => ∃ cap, e = .returned (.slice (some ⟨w.heap.size, 0, none⟩) 0 cap) ∧
      OwnsInts w' w.heap.size (.slice (some ⟨w.heap.size, 0, none⟩) 0 cap) [] ∧ Below w.heap.size w w' := by
  obtain ⟨i0, hi, hz0, hz1, hz2⟩ := info_parts infoInt
  have h := Any8.slices_Grow_grow Tryz.growI i0 (.int .i64 0) hi hz0 (by rw [hz1]; decide) none 0 0 n [] w (Nat.le_refl _) (by omega) (by rw [hz2]; omega) (by omega) (by simp) (fun _ => rfl) (fun a ha => by cases ha)
  refine h.mono fun e w' ⟨h1, h2⟩ => ⟨_, h1, ?_, ?_⟩
  · have hge := grownCap_ge w (0 + n) 0 3
    have hcm : grownCap w (0 + n) 0 3 ≤ maxLen := grownCap_le_maxLen w (0 + n) 0 3 (by unfold maxLen; omega)
    rw [h2]
    refine World.ownsRow_made (base := w.heap.size) (e := 3) (size := 1) w.drew _ _ (Nat.le_refl _) hcm ?_
    have hz : ∀ m, (Builtin.zeroCells (Value.int IntKind.i64 0).cells m).size = m := fun m => by simp [Builtin.zeroCells, Value.cells]
    have e25 : grownCap w (0 + n) 0 (Tryz.growI_ren.t 25) = grownCap w (0 + n) 0 3 := rfl
    simp only [Array.size_append, hz, List.size_toArray, List.length_nil, e25]
    omega
  · rw [h2]; exact ((Below.refl w.heap.size w).drew).alloc (Nat.le_refl _) _
theorem concat_lit (xs : List Int) (m : Nat) (f : Nat → Int) : xs.map (Value.int .i64) ++ (mk (m * 1) fun j => f (0 + j)).toList = (xs ++ cl m f).map (Value.int .i64) := by
  rw [List.map_append, mk_cl, Nat.mul_one, mk_congr (g := f) fun j _ => by rw [Nat.zero_add]]
set_option maxHeartbeats 4000000 in
set_option maxRecDepth 20000 in
theorem concat_any (B g1 c1 g2 c2 : Nat) (xs ys : List Int) (w : World) (d1 : w.cell? ⟨B, 0, none⟩ = some (.slice (some ⟨g1, 0, none⟩) xs.length c1)) (d2 : w.cell? ⟨B, 1, none⟩ = some (.slice (some ⟨g2, 0, none⟩) ys.length c2))
    (h1 : CAt w g1 xs.length (fn xs)) (h2 : CAt w g2 ys.length (fn ys)) (hx : xs.length ≤ 64) (hy0 : 1 ≤ ys.length) (hy : ys.length ≤ 64) :
    Calls Tryz.prog 98 #[.slice (some ⟨B, 0, none⟩) 2 2] w fun e w' => ∃ g cap, e = .returned (.slice (some ⟨g, 0, none⟩) (xs ++ ys).length cap) ∧
      OwnsInts w' w.heap.size (.slice (some ⟨g, 0, none⟩) (xs ++ ys).length cap) (xs ++ ys) ∧ Below w.heap.size w w' := by
  obtain ⟨i0, hi, hz0, hz1, hz2⟩ := info_parts infoInt
  have HXY : Hid ((xs ++ ys).length = xs.length + ys.length) := List.length_append
  have HCX : Hid (cl xs.length (fn xs) = xs) := cl_fn rfl
  have HCY : Hid (cl ys.length (fn ys) = ys) := cl_fn rfl
  have hB : B < w.heap.size := World.block_lt_of_cell? w _ d1
  generalize hN : xs.length = n at *
  generalize hM : ys.length = m at *
  go_enter Tryz.func98, Tryz.ntmps98
  go_wp2_with fail
  go_loopg [3, 11] 2 (fun gk s3 s11 wr => ∃ i : Nat, i + gk = 2 ∧ s11 = .int .i64 i ∧ s3 = .int .i64 ((if i = 0 then 0 else if i = 1 then n else n + m : Nat) : Int) ∧ w = wr)
  case atStart => exact ⟨0, by omega, rfl, rfl, rfl⟩
  case round =>
    obtain ⟨i, hig, rfl, rfl, rfl⟩ := hrel
    rcases (by omega : i = 0 ∨ i = 1 ∨ i = 2) with rfl | rfl | rfl
    · obtain rfl : gk = 1 + 1 := by omega
      have q0 : ¬ ((n : Int) < 0) := by omega
      have q1 : IntKind.i64.wrap (n : Int) = (n : Int) := IntWalk.i64_in _ (by omega)
      go_wp2_with fail
      go_roundg 1
      case rel => exact ⟨1, by omega, by go_num, by simp, rfl⟩
      case measure => omega
    · obtain rfl : gk = 0 + 1 := by omega
      have q0 : ¬ ((n : Int) + (m : Int) < 0) := by omega
      have q1 : IntKind.i64.wrap ((n : Int) + (m : Int)) = (n : Int) + (m : Int) := IntWalk.i64_in _ (by omega)
      go_wp2_with fail
      go_roundg 0
      case rel => exact ⟨2, by omega, by go_num, by simp, rfl⟩
      case measure => omega
    · obtain rfl : gk = 0 := by omega
      have hcon := grow_any (n + m) w (by omega) (by omega)
      simp only [Int.natCast_add] at hcon
      go_wp2_with fail
      refine hcon.mono ?_
      clear hcon
      rintro e w2 ⟨cap, rfl, ho, hb⟩
      have HO := Lib.hid ho
      have HB := Lib.hid hb
      have hw2 := hb.size
      clear ho hb
      go_wp2_with fail
      go_loopg [6, 27] 2 (fun gj s6 s27 wr => ∃ (i : Nat) (v : Value), i + gj = 2 ∧ s27 = .int .i64 i ∧ v = s6 ∧ (∃ g c, v = .slice (some ⟨g, 0, none⟩) (if i = 0 then 0 else if i = 1 then n else n + m) c) ∧ Hid (wr.ownsRow w.heap.size 3 1 v (if i = 0 then 0 else if i = 1 then n else n + m) ((if i = 0 then [] else if i = 1 then xs else xs ++ ys).map (Value.int .i64))) ∧ Hid (Below w.heap.size w wr))
      case atStart => exact ⟨0, _, by omega, rfl, rfl, ⟨_, _, rfl⟩, HO.out, HB⟩
      case round =>
        clear HO HB
        obtain ⟨i, v, hig, rfl, rfl, ⟨g, c, hv⟩, HO, HB⟩ := hrel
        subst hv
        rcases (by omega : i = 0 ∨ i = 1 ∨ i = 2) with rfl | rfl | rfl
        · obtain rfl : gk = 1 + 1 := by omega
          have e1 : wr.cell? ⟨B, 0, none⟩ = some (.slice (some ⟨g1, 0, none⟩) n c1) := (HB.out.cell (p := ⟨B, 0, none⟩) hB).trans d1
          have k1 := h1.below HB.out
          simp only [if_true] at HO
          have ho0 := HO.out
          go_wp2_with (first | (at_builtin; refine wpl_app (v := .slice (some ⟨g, 0, none⟩) 0 c) rfl _ _ 35 rfl w.heap.size 3 i0 _ 1 8 Tryz.underlying35 hi hz0 hz1 hz2 rfl (by decide) rfl ho0 g1 0 n c1 (fn xs) n rfl k1 (by omega) (by unfold maxLen; omega) (by omega) HB.out.size ?_))
          intro v' w8 R hbl hgr hloc
          have HR : Hid (w8.ownsRow w.heap.size 3 1 v' n (xs.map (Value.int .i64))) := by
            have e : ([] : List Value) ++ (mk (n * 1) fun j => fn xs (0 + j)).toList = xs.map (Value.int .i64) := (concat_lit [] n (fn xs)).trans (by rw [HCX.out]; rfl)
            show World.ownsRow _ _ _ _ _ _ _
            rw [← e]
            simpa using R
          have HB : Hid (Below w.heap.size w w8) := HB.out.trans hbl
          have HVv : Hid (∃ g c, v' = .slice (some ⟨g, 0, none⟩) n c) := by
            rcases HR.out.2 with ⟨h0, _⟩ | ⟨g, cap, _, h0, _⟩
            · exfalso
              rcases hloc with q | q <;> rw [h0] at q <;> simp [Value.ownBlock] at q
            · exact ⟨g, cap, h0⟩
          clear R hbl hgr hloc HO ho0
          go_wp2_with fail
          go_roundg 1
          case rel => exact ⟨1, _, by omega, by go_num, rfl, HVv.out, HR, HB⟩
          case measure => omega
        · obtain rfl : gk = 0 + 1 := by omega
          have e1 : wr.cell? ⟨B, 1, none⟩ = some (.slice (some ⟨g2, 0, none⟩) m c2) := (HB.out.cell (p := ⟨B, 1, none⟩) hB).trans d2
          have k1 := h2.below HB.out
          have HO2 : Hid (wr.ownsRow w.heap.size 3 1 (.slice (some ⟨g, 0, none⟩) n c) n (xs.map (Value.int .i64))) := HO.out
          have ho0 := HO2.out
          clear HO HO2
          go_wp2_with (first | (at_builtin; refine wpl_app (v := .slice (some ⟨g, 0, none⟩) n c) rfl _ _ 35 rfl w.heap.size 3 i0 _ 1 8 Tryz.underlying35 hi hz0 hz1 hz2 rfl (by decide) rfl ho0 g2 0 m c2 (fn ys) m rfl k1 (by omega) (by unfold maxLen; omega) (by omega) HB.out.size ?_))
          intro v' w8 R hbl hgr hloc
          have HR : Hid (w8.ownsRow w.heap.size 3 1 v' (n + m) ((xs ++ ys).map (Value.int .i64))) := by
            have e := concat_lit xs m (fn ys)
            rw [HCY.out] at e
            show World.ownsRow _ _ _ _ _ _ _
            rw [← e]
            simpa using R
          have HB : Hid (Below w.heap.size w w8) := HB.out.trans hbl
          have HVv : Hid (∃ g c, v' = .slice (some ⟨g, 0, none⟩) (n + m) c) := by
            rcases HR.out.2 with ⟨h0, _⟩ | ⟨g, cap, _, h0, _⟩
            · exfalso
              rcases hloc with q | q <;> rw [h0] at q <;> simp [Value.ownBlock] at q
            · exact ⟨g, cap, h0⟩
          clear R hbl hgr hloc ho0
          go_wp2_with fail
          go_roundg 0
          case rel => exact ⟨2, _, by omega, by go_num, rfl, HVv.out, HR, HB⟩
          case measure => omega
        · obtain rfl : gk = 0 := by omega
          have HO2 : Hid (wr.ownsRow w.heap.size 3 1 (.slice (some ⟨g, 0, none⟩) (n + m) c) (n + m) ((xs ++ ys).map (Value.int .i64))) := HO.out
          clear HO
          go_wp2_with fail
          go_ret
          refine ⟨g, c, ?_, ?_, HB.out⟩
          · simp only [List.length_append, hN, hM]; rfl
          · unfold OwnsInts
            simp only [List.length_append, hN, hM]
            exact HO2.out
end Go.Proofs.YtmcmpedmgibmkabGreat
