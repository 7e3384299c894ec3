/-
  The contracts of the reference's l5All, StepsOf, CountNext and IsTrapped.
-/
import Derived.Test.YtmcmpedmgibmkaaSpecSteps
import Derived.Test.YtmcmpedmgibmkaaSpecDo
import Derived.Test.YtmcmpedmgibmkaaSpecAdd
import Derived.Test.YtmcmpedmgibmkaaOver
import Derived.Test.YtmcmpedmgibmkaaNextPlain
namespace Go.Proofs.Ytmcmpedmgibmkaa
open Go.RowKit Plain
attribute [local go_sem] store_new
set_option linter.unusedVariables false
set_option linter.unusedSimpArgs false

theorem app_flat {m : Nat} {L M : List (List Int)} (h : AllL m M) : L.flatten.map (Value.int .i64) ++ (mk (M.length * m) fun j => flatF M (0 + j)).toList = (L ++ M).flatten.map (Value.int .i64) := by
  rw [List.flatten_append, List.map_append, flat_mk h]
  congr 2
  exact mk_congr fun j _ => by rw [Nat.zero_add]
theorem app_walk {m : Nat} {L M : List (List Int)} (h : AllL m M) : (List.map (List.map (Value.int .i64)) L).flatten ++ (mk (M.length * m) fun j => flatF M j).toList = (L ++ M).flatten.map (Value.int .i64) := by
  rw [List.flatten_append, List.map_append, flat_mk h, List.map_flatten]
theorem step_all (f : Nat → Int) (d : Nat) (hd : d < 4) : AllL 4 (stepL f d) := fun l hl => (step_fn hd hl).1
theorem all_all (f : Nat → Int) {k : Nat} (hk : k ≤ 4) : AllL 4 (allL f k) := fun l hl => (all_fn hk hl).1
set_option maxHeartbeats 1000000 in
theorem l5All_any (f : Nat → Int) (w : World) (hV : Vd f) :
    Calls Try.prog 87 #[.agg (mk 16 f)] w fun e w' => ∃ g cap, e = .returned (.slice (some ⟨g, 0, none⟩) (allL f 4).length cap) ∧
      OwnsL 90 4 w' w.heap.size (.slice (some ⟨g, 0, none⟩) (allL f 4).length cap) (allL f 4) ∧ Below w.heap.size w w' := by
  obtain ⟨i0, hi, hz0, hz1, hz2⟩ := info_parts infoT
  have K1 := (Blk.new w 16 f 28).alloc (.cells #[] 90)
  have HB := Lib.hid (((Below.refl w.heap.size w).alloc (Nat.le_refl _) (.cells (mk 16 f) 28)).alloc (by simp) (.cells #[] 90))
  have HO : Hid (OwnsL 90 4 ((w.alloc (.cells (mk 16 f) 28)).alloc (.cells #[] 90)) w.heap.size (.slice (some ⟨w.heap.size + 1, 0, none⟩) 0 0) []) := by
    have := OwnsL.made (t := 90) (m := 4) (b := w.heap.size) (w.alloc (.cells (mk 16 f) 28)) (by simp)
    simp only [World.size_alloc] at this
    exact this
  have HV := Lib.hid hV
  clear hV
  go_enter Try.func87, Try.ntmps87
  go_wp2_with fail
  go_loopg [3, 4] 4 (fun g s3 s4 wr => ∃ (d : Nat) (v : Value), d + g = 4 ∧ s4 = .int .i64 d ∧ v = s3 ∧ (∃ gg cap, v = .slice (some ⟨gg, 0, none⟩) (allL f d).length cap) ∧ Hid (OwnsL 90 4 wr w.heap.size v (allL f d)) ∧ Blk wr w.heap.size 16 f 28 ∧ Hid (Below w.heap.size w wr))
  case atStart => exact ⟨0, _, by omega, rfl, rfl, ⟨_, _, rfl⟩, HO, K1, HB⟩
  case round =>
    obtain ⟨d, v, hdg, rfl, rfl, ⟨gg, cap, hv⟩, HO, K1, HB⟩ := hrel
    subst hv
    cases gk with
    | zero =>
      have hr : ¬ ((d : Int) < 4) := by omega
      obtain rfl : d = 4 := by omega
      clear hdg
      go_wp2_with fail
      go_ret
      exact ⟨gg, cap, rfl, HO.out, HB.out⟩
    | succ g =>
      have hr : (d : Int) < 4 := by omega
      have hd4 : d < 4 := by omega
      go_wp2_with ((with_reducible show wpList _ _ _ (Oper.mk _ (Op.load 28 _) _ _ _ _ :: _) _ _); refine loadB (K1) rfl rfl rfl ?_)
      refine (l5Steps_any f d _ HV.out hd4).mono ?_
      rintro e w2 ⟨gs, cs, rfl, hs, hb⟩
      have K1 := K1.below hb K1.lt
      have HO : Hid (OwnsL 90 4 w2 w.heap.size (.slice (some ⟨gg, 0, none⟩) (allL f d).length cap) (allL f d)) := HO.out.below hb
      have HB : Hid (Below w.heap.size w w2) := HB.out.trans (hb.mono HB.out.size)
      obtain ⟨_, _, e1, _, hc⟩ := KRow.of_list (step_all f d hd4) hs
      cases e1
      have HC := Lib.hid hc
      clear hs hb hc
      have l1 := all_le f d
      have l2 := step_le f d
      have HF := Lib.hid (app_walk (L := allL f d) (step_all f d hd4))
      have HL : Hid ((allL f (d + 1)).length = (allL f d).length + (stepL f d).length) := by show _ = _; simp [allL]
      have hsz := HB.out.size
      go_wp2_with (at_builtin; refine wpl_app rfl _ _ 92 rfl w.heap.size 90 i0 _ 4 32 Try.underlying92 hi hz0 hz1 hz2 rfl (by decide) rfl HO.out gs 0 (stepL f d).length cs (flatF (stepL f d)) ((stepL f d).length * 4) rfl HC.out (by omega) (by unfold maxLen; omega) (by omega) (by omega) ?_)
      intro v' w3 R3 hbl hgr hloc
      have HO3 : Hid (OwnsL 90 4 w3 w.heap.size v' (allL f (d + 1))) := by
        show w3.ownsRow _ _ _ _ _ _
        rw [HL.out]
        have := HF.out
        rw [this] at R3
        exact R3
      have HVv : Hid (∃ gg cap, v' = .slice (some ⟨gg, 0, none⟩) (allL f (d + 1)).length cap) := own_slice HO3.out hloc
      have K1 := K1.grown hgr (fun e => own_ne_blk HO.out K1 (by decide) e.symm)
      have HB : Hid (Below w.heap.size w w3) := HB.out.trans hbl
      clear R3 hbl hgr hloc HO
      go_wp2_with fail
      go_roundg g
      case rel => exact ⟨d + 1, _, by omega, by go_num, rfl, HVv.out, HO3, K1, HB⟩
      case measure => omega

end Go.Proofs.Ytmcmpedmgibmkaa
