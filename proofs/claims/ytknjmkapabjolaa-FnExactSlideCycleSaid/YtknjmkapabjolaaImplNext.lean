/-
  The contract of the program's nextBoards: all steps of a valid board, with the boards behind them.
-/
import Derived.Test.YtknjmkapabjolaaImplSteps
import Derived.Test.YtknjmkapabjolaaNextPlain
namespace Go.Proofs.Ytknjmkapabjolaa
open Go.RowKit Plain
attribute [local go_sem] store_new
set_option linter.unusedVariables false
set_option linter.unusedSimpArgs false

namespace Plain
/-- A step and the board behind it. -/
def nxt (f : Nat → Int) (x : List Int) : List Int := cl 20 (nextF (fn x) (doB f (fn x)))
def nxts (f : Nat → Int) (L : List (List Int)) : List (List Int) := L.map (nxt f)
theorem nxts_len (f : Nat → Int) (L : List (List Int)) : (nxts f L).length = L.length := by simp [nxts]
theorem nxts_all (f : Nat → Int) (L : List (List Int)) : AllL 20 (nxts f L) := fun l hl => by
  obtain ⟨x, _, rfl⟩ := List.mem_map.1 hl
  exact cl_len _ _
theorem nxts_at {f : Nat → Int} {L : List (List Int)} {k : Nat} {x : List Int} (h : L[k]? = some x) : (nxts f L)[k]? = some (nxt f x) := by simp [nxts, h]
theorem nxts_snoc (f : Nat → Int) (L : List (List Int)) (x : List Int) : nxts f (L ++ [x]) = nxts f L ++ [nxt f x] := by simp [nxts]
/-- The steps with the first d directions, and the first k of the next one. -/
def allK (f : Nat → Int) (d k : Nat) : List (List Int) := allL f d ++ (stepL f d).take k
theorem allK_zero (f : Nat → Int) (d : Nat) : allK f d 0 = allL f d := by simp [allK]
theorem allK_all (f : Nat → Int) (d k : Nat) (h : k = (stepL f d).length) : allK f d k = allL f (d + 1) := by subst h; simp [allK, allL]
theorem allK_succ {f : Nat → Int} {d k : Nat} {x : List Int} (h : (stepL f d)[k]? = some x) : allK f d (k + 1) = allK f d k ++ [x] := by
  unfold allK
  rw [List.take_add_one, h, List.append_assoc]; rfl
theorem allK_le (f : Nat → Int) {d k : Nat} (hd : d < 4) (hk : k ≤ (stepL f d).length) : (allK f d k).length ≤ 128 := by
  have h1 := all_le f d
  have h2 := step_le f d
  unfold allK
  rw [List.length_append, List.length_take]; omega
end Plain
set_option maxHeartbeats 4000000 in
set_option maxRecDepth 20000 in
theorem implNext_any (f : Nat → Int) (w : World) (hV : Vd f) :
    Calls Try.prog 71 #[.agg (mk 16 f)] w fun e w' => ∃ g cap, e = .returned (.slice (some ⟨g, 0, none⟩) (allL f 4).length cap) ∧
      OwnsN 98 20 w' w.heap.size (.slice (some ⟨g, 0, none⟩) (allL f 4).length cap) (allL f 4).length (nxts f (allL f 4)) ∧ Below w.heap.size w w' := by
  obtain ⟨i0, hi, hz0, hz1, hz2⟩ := info_parts infoX
  have K1 := (Blk.new w 16 f 29).alloc (.cells #[] 98)
  have HB := Lib.hid (((Below.refl w.heap.size w).alloc (Nat.le_refl _) (.cells (mk 16 f) 29)).alloc (by simp) (.cells #[] 98))
  have HO : Hid (OwnsN 98 20 ((w.alloc (.cells (mk 16 f) 29)).alloc (.cells #[] 98)) w.heap.size (.slice (some ⟨w.heap.size + 1, 0, none⟩) 0 0) 0 (nxts f (allL f 0))) := by
    have := OwnsL.made (t := 98) (m := 20) (b := w.heap.size) (w.alloc (.cells (mk 16 f) 29)) (by simp)
    simp only [World.size_alloc] at this
    exact this
  have HV := Lib.hid hV
  have z4 := zero4
  have z16 := zero16
  clear hV
  go_enter Try.func71, Try.ntmps71
  go_wp2_with fail
  go_loopg [3, 13] 4 (fun g s3 s13 wr => ∃ (d : Nat) (v : Value), d + g = 4 ∧ s13 = .int .i64 d ∧ v = s3 ∧ (∃ gg cap, v = .slice (some ⟨gg, 0, none⟩) (allL f d).length cap) ∧ Hid (OwnsN 98 20 wr w.heap.size v (allL f d).length (nxts f (allL f d))) ∧ Blk wr w.heap.size 16 f 29 ∧ Hid (Below w.heap.size w wr))
  case atStart => exact ⟨0, _, by omega, rfl, rfl, ⟨_, _, rfl⟩, HO, K1, HB⟩
  case round =>
    obtain ⟨d, v, hdg, rfl, rfl, ⟨gg, cap, hv⟩, HO, K1, HB⟩ := hrel
    subst hv
    cases gk with
    | zero =>
      have hr : ¬ ((d : Int) < 4) := by omega
      obtain rfl : d = 4 := by omega
      clear hdg
      go_wp2_with fail
      go_ret
      exact ⟨gg, cap, rfl, HO.out, HB.out⟩
    | succ g =>
      have hr : (d : Int) < 4 := by omega
      have hd4 : d < 4 := by omega
      have HST := Lib.hid (implSteps_any f d)
      rw [stpR_yes (d := (d : Int)) ⟨HV.out, by omega, by omega⟩, Int.toNat_natCast] at HST
      have HLE := Lib.hid (fun k (hk : k ≤ (stepL f d).length) => allK_le f hd4 hk)
      have HALL := Lib.hid (fun l (hl : l ∈ stepL f d) => (step_fn hd4 hl).1)
      have HGE := Lib.hid (fun k (hk : k < (stepL f d).length) => (show ∃ l, (stepL f d)[k]? = some l from ⟨(stepL f d)[k], List.getElem?_eq_getElem hk⟩))
      have HFN := Lib.hid (fun k l (e : (stepL f d)[k]? = some l) => (fun i (hi : i < 4) => flatF_at (m := 4) (fun l hl => (step_fn hd4 hl).1) e hi : ∀ i, i < 4 → flatF (stepL f d) (k * 4 + i) = fn l i))
      have HAK := Lib.hid (fun k l (e : (stepL f d)[k]? = some l) => allK_succ e)
      have HAE := Lib.hid (allK_all f d)
      have hle := step_le f d
      have HW : Hid (w.heap.size ≤ wr.heap.size) := HB.out.size
      go_wp2_with ((with_reducible show wpList _ _ _ (Oper.mk _ (Op.load 29 _) _ _ _ _ :: _) _ _); refine loadB (K1) rfl rfl rfl ?_)
      refine (HST.out _).mono ?_
      clear HST
      rintro e w2 ⟨gs, cs, rfl, hs, hb⟩
      have K1 := K1.below hb K1.lt
      have HO : Hid (OwnsN 98 20 w2 w.heap.size (.slice (some ⟨gg, 0, none⟩) (allL f d).length cap) (allK f d 0).length (nxts f (allK f d 0))) := by rw [allK_zero]; exact owns_below HO.out hb
      have HLL : Hid ((allL f d).length = (allK f d 0).length) := by show _ = _; rw [allK_zero]
      have HB : Hid (Below w.heap.size w w2) := HB.out.trans (hb.mono HB.out.size)
      have HRC : Hid (∀ (w : World) (base : Nat), OwnsN 33 4 w base (.slice (some ⟨gs, 0, none⟩) (stepL f d).length cs) (stepL f d).length (stepL f d) → CAt w gs ((stepL f d).length * 4) (flatF (stepL f d))) := by
        intro w base ho
        obtain ⟨_, _, e1, _, hc⟩ := KRow.of_list HALL.out ho
        cases e1
        exact hc
      have HR : Hid (OwnsN 33 4 w2 w.heap.size (.slice (some ⟨gs, 0, none⟩) (stepL f d).length cs) (stepL f d).length (stepL f d)) := ownsRow_wide hs HW.out
      clear hs hb
      generalize stepL f d = L at *
      generalize hN : L.length = n at *
      generalize flatF L = h at *
      go_wp2_with fail
      go_loopg [3, 24] n (fun gk s3 s24 wx => ∃ (k : Nat) (v : Value), k + gk = n ∧ s24 = .int .i64 k ∧ v = s3 ∧ (∃ gg cap, v = .slice (some ⟨gg, 0, none⟩) (allK f d k).length cap) ∧ Hid (OwnsN 98 20 wx w.heap.size v (allK f d k).length (nxts f (allK f d k))) ∧ Hid (OwnsN 33 4 wx w.heap.size (.slice (some ⟨gs, 0, none⟩) n cs) n L) ∧ Blk wx w.heap.size 16 f 29 ∧ Hid (Below w.heap.size w wx))
      case atStart => exact ⟨0, _, by omega, rfl, rfl, ⟨gg, cap, by rw [HLL.out]⟩, HO, HR, K1, HB⟩
      case round =>
        obtain ⟨k, v, hkg, rfl, rfl, ⟨gg, cap, hv⟩, HO, HR, K1, HB⟩ := hrel
        subst hv
        cases gk with
        | zero =>
          have hk : ¬ ((k : Int) < (n : Int)) := by omega
          obtain rfl : k = n := by omega
          clear hkg
          have HO : Hid (OwnsN 98 20 wr w.heap.size (.slice (some ⟨gg, 0, none⟩) (allK f d k).length cap) (allL f (d + 1)).length (nxts f (allL f (d + 1)))) := by rw [← HAE.out k rfl]; exact HO.out
          go_wp2_with fail
          go_roundg g
          case rel => exact ⟨d + 1, _, by omega, by go_num, rfl, ⟨gg, cap, by rw [HAE.out k rfl]⟩, HO, K1, HB⟩
          case measure => omega
        | succ gk2 =>
          have hk8 : (k : Int) < (n : Int) := by omega
          have hk9 : k < n := by omega
          have hk0 : (0 : Int) ≤ (k : Int) := by omega
          have CM := HRC.out _ _ HR.out
          obtain ⟨l, hkl⟩ := HGE.out k hk9
          have hsl := HFN.out k l hkl
          have HSL := Lib.hid hsl
          have HD : Hid (doRB f (fun i => h (k * 4 + i)) = doB f (fn l)) := (doR_yes HV.out).1.trans (do_congr hsl).1
          have HX : Hid (cl 20 (nextF (fun i => h (k * 4 + i)) (doB f (fn l))) = nxt f l) := cl_inj.2 fun j hj => by
            unfold nextF
            split
            · exact hsl j (by assumption)
            · rfl
          have HKL := Lib.hid (HAK.out k l hkl)
          have HLE2 := Lib.hid (HLE.out k (by omega))
          clear hkl hsl
          have K1a := K1.alloc (.cells (mk 4 fun i => h (k * 4 + i)) 33)
          have K8 := Blk.new wr 4 (fun i => h (k * 4 + i)) 33
          go_wp2_with (first | ((with_reducible show wpList _ _ _ (Oper.mk _ (Op.load 33 _) _ _ _ _ :: _) _ _); refine loadAT (CM) (by omega) rfl rfl rfl ?_) | ((with_reducible show wpList _ _ _ (Oper.mk _ (Op.load 29 _) _ _ _ _ :: _) _ _); refine loadB (K1a) rfl rfl rfl ?_) | ((with_reducible show wpList _ _ _ (Oper.mk _ (Op.load 33 _) _ _ _ _ :: _) _ _); refine loadT (K8) rfl rfl rfl ?_))
          have HR : Hid (OwnsN 33 4 (wr.alloc (.cells (mk 4 fun i => h (k * 4 + i)) 33)) w.heap.size (.slice (some ⟨gs, 0, none⟩) n cs) n L) := World.ownsRow.alloc HR.out _
          clear CM
          have HO : Hid (OwnsN 98 20 (wr.alloc (.cells (mk 4 fun i => h (k * 4 + i)) 33)) w.heap.size (.slice (some ⟨gg, 0, none⟩) (allK f d k).length cap) (allK f d k).length (nxts f (allK f d k))) := World.ownsRow.alloc HO.out _
          have HB : Hid (Below w.heap.size w (wr.alloc (.cells (mk 4 fun i => h (k * 4 + i)) 33))) := HB.out.alloc HB.out.size _
          clear K1
          generalize wr.alloc (.cells (mk 4 fun i => h (k * 4 + i)) 33) = x0 at *
          refine (implDo_any f _ _).mono ?_
          rw [HD.out]
          rintro e w5 ⟨rfl, hb⟩
          have K8 := (K8.below hb K8.lt).alloc (.cells (mk 16 (doB f (fn l))) 29)
          have K1 := (K1a.below hb K1a.lt).alloc (.cells (mk 16 (doB f (fn l))) 29)
          have HR : Hid (OwnsN 33 4 (w5.alloc (.cells (mk 16 (doB f (fn l))) 29)) w.heap.size (.slice (some ⟨gs, 0, none⟩) n cs) n L) := World.ownsRow.alloc (owns_below HR.out hb) _
          have K9 := Blk.new w5 16 (doB f (fn l)) 29
          have HO : Hid (OwnsN 98 20 (w5.alloc (.cells (mk 16 (doB f (fn l))) 29)) w.heap.size (.slice (some ⟨gg, 0, none⟩) (allK f d k).length cap) (allK f d k).length (nxts f (allK f d k))) := World.ownsRow.alloc (owns_below HO.out hb) _
          have HB := HB.out.trans (hb.mono HB.out.size)
          have hsz := HB.size
          have HB : Hid (Below w.heap.size w (w5.alloc (.cells (mk 16 (doB f (fn l))) 29))) := HB.alloc HB.size _
          clear hb K1a
          generalize hD : doB f (fn l) = DD at *
          have hle3 := HLE2.out
          have hcat : CAt ((w5.alloc (.cells (mk 16 DD) 29)).alloc (.cells (mk 20 (nextF (fun i => h (k * 4 + i)) DD)) 98)) (w5.heap.size + 1) 20 (nextF (fun i => h (k * 4 + i)) DD) := by
            have := (Blk.new (w5.alloc (.cells (mk 16 DD) 29)) 20 (nextF (fun i => h (k * 4 + i)) DD) 98).at
            simpa only [World.size_alloc] using this
          go_wp2_with (first | ((with_reducible show wpList _ _ _ (Oper.mk _ (Op.load 33 _) _ _ _ _ :: _) _ _); refine loadT (K8) rfl rfl rfl ?_) | ((with_reducible show wpList _ _ _ (Oper.mk _ (Op.load 29 _) _ _ _ _ :: _) _ _); refine loadB (K9) rfl rfl rfl ?_) | ((with_reducible show wpList _ _ _ (Oper.mk _ (Op.build _ _) _ _ _ _ :: _) _ _); refine wpl_nextX _ _ rfl rfl rfl rfl ?_) | ((with_reducible show wpList _ _ _ (Oper.mk _ (Op.buildSlice _ 1 _) _ _ _ _ :: _) _ _); refine wpl_buildX _ rfl rfl rfl ?_) | (at_builtin; refine wpl_app (v := .slice (some ⟨gg, 0, none⟩) (allK f d k).length cap) rfl _ _ 95 rfl w.heap.size 98 i0 _ 20 160 Try.underlying95 hi hz0 hz1 hz2 rfl (by decide) rfl (World.ownsRow.alloc HO.out _) _ 0 1 1 (nextF (fun i => h (k * 4 + i)) DD) 20 rfl (by first | exact hcat | exact (Blk.new _ _ _ _).at) (by omega) (by unfold maxLen; omega) (by omega) (by simp; omega) ?_))
          intro v' w7 R hbl hgr hloc
          obtain ⟨g', cap', hv'⟩ := ownsRow_succ R
          have HVv : Hid (∃ gg cap, v' = .slice (some ⟨gg, 0, none⟩) (allK f d (k + 1)).length cap) := ⟨g', cap', by rw [HKL.out, List.length_append]; exact hv'⟩
          rw [snoc_walk (m := 20), HX.out, ← nxts_snoc, ← HKL.out] at R
          have HO7 : Hid (OwnsN 98 20 w7 w.heap.size v' (allK f d (k + 1)).length (nxts f (allK f d (k + 1)))) := by
            show w7.ownsRow _ _ _ _ _ _
            rw [show (allK f d (k + 1)).length = (allK f d k).length + 1 by rw [HKL.out, List.length_append]; rfl]
            exact R
          have HB7 : Hid (Below w.heap.size w w7) := (HB.out.alloc HB.out.size _).trans hbl
          have HR : Hid (OwnsN 33 4 w7 w.heap.size (.slice (some ⟨gs, 0, none⟩) n cs) n L) := World.ownsRow.kept (World.ownsRow.alloc HR.out _) hgr (own_ne_own HR.out HO.out (by decide))
          have K1 := (K1.alloc _).grown hgr (fun e => own_ne_blk HO.out K1 (by decide) e.symm)
          clear hbl hgr R hv' HO hloc K8 K9 hcat
          go_wp2_with fail
          go_roundg gk2
          case rel => exact ⟨k + 1, _, by omega, by go_num, rfl, HVv.out, HO7, HR, K1, HB7⟩
          case measure => omega
end Go.Proofs.Ytknjmkapabjolaa
