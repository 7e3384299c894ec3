/-
  The contracts of the program's StepBetween, CountNext and IsTrapped.
-/
import Derived.Test.YtknjmkapabjolaaImplNext
import Derived.Test.YtknjmkapabjolaaOver
import Derived.Test.YtknjmkapabjolaaDistKit
namespace Go.Proofs.Ytknjmkapabjolaa
open Go.RowKit Plain
attribute [local go_sem] store_new
set_option linter.unusedVariables false
set_option linter.unusedSimpArgs false

namespace Plain
theorem next_fn (f : Nat → Int) (L : List (List Int)) {k : Nat} {l : List Int} (h : L[k]? = some l) : ∀ j, j < 20 → flatF (nxts f L) (k * 20 + j) = nextF (fn l) (doB f (fn l)) j := fun j hj => by
  rw [flatF_at (nxts_all f L) (nxts_at h) hj]
  exact fn_cl _ j hj
/-- What has been seen behind the first k steps. -/
def nextS (f : Nat → Int) (L : List (List Int)) : Nat → List (List Int)
  | 0 => []
  | k + 1 => match L[k]? with
    | none => nextS f L k
    | some x => addS (nextS f L k) (cl 16 (doB f (fn x)))
theorem nextS_step {f : Nat → Int} {L : List (List Int)} {k : Nat} {x : List Int} (h : L[k]? = some x) : nextS f L (k + 1) = addS (nextS f L k) (cl 16 (doB f (fn x))) := by simp only [nextS, h]
theorem nextS_mem (f : Nat → Int) (L : List (List Int)) : ∀ k x, x ∈ nextS f L k ↔ x ∈ nextI f L k
  | 0, x => Iff.rfl
  | k + 1, x => by
    have ih := nextS_mem f L k x
    rcases h : L[k]? with _ | y
    · have e1 : nextS f L (k + 1) = nextS f L k := by simp [nextS, h]
      have e2 : nextI f L (k + 1) = nextI f L k := by simp [nextI, h]
      rw [e1, e2]; exact ih
    · rw [nextS_step h, nextI_step h, addS_mem, ins_mem, ih]
theorem nextS_len (f : Nat → Int) (L : List (List Int)) : ∀ k, (nextS f L k).length = (nextI f L k).length
  | 0 => rfl
  | k + 1 => by
    have ih := nextS_len f L k
    rcases h : L[k]? with _ | y
    · have e1 : nextS f L (k + 1) = nextS f L k := by simp [nextS, h]
      have e2 : nextI f L (k + 1) = nextI f L k := by simp [nextI, h]
      rw [e1, e2]; exact ih
    · rw [nextS_step h, nextI_step h, ins_len]
      have hmem := nextS_mem f L k (cl 16 (doB f (fn y)))
      unfold addS
      by_cases hd : cl 16 (doB f (fn y)) ∈ nextS f L k
      · rw [if_pos hd, if_pos (ins_found (lt 16) (lt_irrefl 16) _ _ (nextI_ss f L k) (hmem.1 hd)), ih]
      · rw [if_neg hd, if_neg (fun e => hd (hmem.2 (List.mem_of_getElem? e))), List.length_append, ih]; rfl
end Plain
theorem loadXas {ops : Array Oper} {rest : List Oper} {o : Oper} {a : Act} {w : World} {Q : Exit → Act → World → Prop} {x : Operand} {b n off : Nat} {f g : Nat → Int} (hg : CAt w b n f) (he : mk 20 (fun i => f (off + i)) = mk 20 g) (hm : off + 20 ≤ n)
    (hgd : o.guard = none) (ho : o.op = .load 98 x) (hx : a.eval x = .pointer (some ⟨b, off, none⟩))
    (h : wpList Try.prog ops Q rest (a.put o.dst (.agg (mk 20 g))) w) : wpList Try.prog ops Q (o :: rest) a w :=
  loadAX hg hm hgd ho hx (by rw [he]; exact h)
theorem loadNB {ops : Array Oper} {rest : List Oper} {o : Oper} {a : Act} {w : World} {Q : Exit → Act → World → Prop} {x : Operand} {b : Nat} {s g : Nat → Int} {t : TypeId} (hg : Blk w b 20 (nextF s g) t)
    (hgd : o.guard = none) (ho : o.op = .load 29 x) (hx : a.eval x = .pointer (some ⟨b, 4, none⟩))
    (h : wpList Try.prog ops Q rest (a.put o.dst (.agg (mk 16 g))) w) : wpList Try.prog ops Q (o :: rest) a w :=
  loadPB hg (by omega) hgd ho hx (by
    have e : mk 16 (fun i => nextF s g (4 + i)) = mk 16 g := mk_congr fun i _ => by unfold nextF; rw [if_neg (by omega)]; congr 1; omega
    rw [e]; exact h)
theorem loadNT {ops : Array Oper} {rest : List Oper} {o : Oper} {a : Act} {w : World} {Q : Exit → Act → World → Prop} {x : Operand} {b : Nat} {s g : Nat → Int} {t : TypeId} (hg : Blk w b 20 (nextF s g) t)
    (hgd : o.guard = none) (ho : o.op = .load 33 x) (hx : a.eval x = .pointer (some ⟨b, 0, none⟩))
    (h : wpList Try.prog ops Q rest (a.put o.dst (.agg (mk 4 s))) w) : wpList Try.prog ops Q (o :: rest) a w :=
  loadPT hg (by omega) hgd ho hx (by
    have e : mk 4 (fun i => nextF s g (0 + i)) = mk 4 s := mk_congr fun i hi => by unfold nextF; rw [if_pos (by omega)]; congr 1; omega
    rw [e]; exact h)
theorem keyB5 {f : Nat → Int} (hf : Wf 16 f) : ∃ kl, keyOf Try.prog 29 (.agg (mk 16 f)) = some kl := by
  obtain ⟨d, hd⟩ := many_types
  refine key_struct Try.underlying29 (by kernel_rfl) (by kernel_rfl) ?_
  rw [hd]
  refine keyLits_struct (d := d + 3) (g := 23) Try.underlying29 rfl rfl (by decide) (by kernel_rfl) (by kernel_rfl) ?_
  exact keyLits_rows (n := 4) (m := 4) Try.underlying23 Try.underlying22 Try.underlying3 (by kernel_rfl) (by kernel_rfl) (by kernel_rfl) hf
theorem keyedB5 : Go.Maps.Keyed Try.prog 29 := Go.Maps.Keyed.of_law (deep_law_laid laidOut (m := 5) (by decide) (of_decide_eq_true (by kernel_rfl)) (by kernel_rfl) (by kernel_rfl))
theorem zero20 : (#[.int .i64 0, .int .i64 0, .int .i64 0, .int .i64 0, .int .i64 0, .int .i64 0, .int .i64 0, .int .i64 0, .int .i64 0, .int .i64 0, .int .i64 0, .int .i64 0, .int .i64 0, .int .i64 0, .int .i64 0, .int .i64 0, .int .i64 0, .int .i64 0, .int .i64 0, .int .i64 0] : Array Value) = mk 20 (fun _ => 0) := rfl
set_option maxHeartbeats 4000000 in
set_option maxRecDepth 20000 in
theorem implBetween_any (f g : Nat → Int) (w : World) :
    Calls Try.prog 32 #[.agg (mk 16 f), .agg (mk 16 g)] w fun e w' => ∃ gg cap, e = .returned (.tuple #[.slice (some ⟨gg, 0, none⟩) (btR f g).length cap, .bool (vdO f && vdO g)]) ∧
      OwnsL 33 4 w' w.heap.size (.slice (some ⟨gg, 0, none⟩) (btR f g).length cap) (btR f g) ∧ Below w.heap.size w w' := by
  obtain ⟨i0, hi, hz0, hz1, hz2⟩ := info_parts infoT
  have K1 := (Blk.new w 16 f 29).alloc (.cells (mk 16 g) 29)
  have K2 := Blk.new (w.alloc (.cells (mk 16 f) 29)) 16 g 29
  have HB := Lib.hid (((Below.refl w.heap.size w).alloc (Nat.le_refl _) (.cells (mk 16 f) 29)).alloc (by simp) (.cells (mk 16 g) 29))
  simp only [World.size_alloc] at K2
  have z20 := zero20
  by_cases hV : Vd f
  · by_cases hG : Vd g
    · rw [vdO_yes hV, vdO_yes hG, btR_yes hV hG]
      have HV := Lib.hid hV
      have HG := Lib.hid hG
      clear hV hG
      unfold btL
      go_enter Try.func32, Try.ntmps32
      go_wp2_with ((with_reducible show wpList _ _ _ (Oper.mk _ (Op.load 29 _) _ _ _ _ :: _) _ _); refine loadB (K1) rfl rfl rfl ?_)
      refine (implBoard_yes _ _ HV.out).mono ?_
      rintro e w1 ⟨rfl, hb⟩
      have K1 := K1.below hb K1.lt
      have K2 := K2.below hb K2.lt
      have HB : Hid (Below w.heap.size w w1) := HB.out.trans (hb.mono HB.out.size)
      clear hb
      go_wp2_with ((with_reducible show wpList _ _ _ (Oper.mk _ (Op.load 29 _) _ _ _ (some _) :: _) _ _); refine loadgB (K2) rfl rfl rfl ?_)
      refine (implBoard_yes _ _ HG.out).mono ?_
      rintro e w1a ⟨rfl, hb⟩
      have K1 := (K1.below hb K1.lt).alloc (.cells #[] 33)
      have K2 := (K2.below hb K2.lt).alloc (.cells #[] 33)
      have HB := HB.out.trans (hb.mono HB.out.size)
      have HO := Lib.hid (OwnsL.made (t := 33) (m := 4) (b := w.heap.size) w1a HB.size)
      have HB : Hid (Below w.heap.size w (w1a.alloc (.cells #[] 33))) := HB.alloc HB.size _
      clear hb
      go_wp2_with ((with_reducible show wpList _ _ _ (Oper.mk _ (Op.load 29 _) _ _ _ _ :: _) _ _); refine loadB (K1) rfl rfl rfl ?_)
      refine (implNext_any f _ HV.out).mono ?_
      rintro e w2 ⟨ga, ca, rfl, ho, hb⟩
      have K1 := K1.below hb K1.lt
      have HRC : Hid (∀ (w : World) (base : Nat), OwnsN 98 20 w base (.slice (some ⟨ga, 0, none⟩) (allL f 4).length ca) (allL f 4).length (nxts f (allL f 4)) → CAt w ga ((allL f 4).length * 20) (flatF (nxts f (allL f 4)))) := by
        intro w base ho
        have hl := nxts_len f (allL f 4)
        rw [← hl] at ho ⊢
        obtain ⟨_, _, e1, _, hc⟩ := KRow.of_list (nxts_all f (allL f 4)) ho
        cases e1
        exact hc
      have HR : Hid (OwnsN 98 20 w2 w.heap.size (.slice (some ⟨ga, 0, none⟩) (allL f 4).length ca) (allL f 4).length (nxts f (allL f 4))) := ownsRow_wide ho HB.out.size
      have hle := all_le f 4
      have HGE := Lib.hid (fun k (hk : k < (allL f 4).length) => (show ∃ l, (allL f 4)[k]? = some l from ⟨(allL f 4)[k], List.getElem?_eq_getElem hk⟩))
      have HFN := Lib.hid (fun k l (e : (allL f 4)[k]? = some l) => next_fn f (allL f 4) e)
      have HL4 := Lib.hid (fun l (hl : l ∈ allL f 4) => cl_fn (all_fn (f := f) (Nat.le_refl 4) hl).1)
      have K2 := K2.below hb K2.lt
      have HO : Hid (OwnsL 33 4 w2 w.heap.size (.slice (some ⟨w1a.heap.size, 0, none⟩) 0 0) []) := HO.out.below hb
      have HB : Hid (Below w.heap.size w w2) := HB.out.trans (hb.mono HB.out.size)
      clear hb ho
      generalize hLL : allL f 4 = L at *
      generalize hN : L.length = n at *
      generalize hH : flatF (nxts f L) = h at *
      go_wp2_with fail
      go_loopg [6, 22] n (fun gk s6 s22 wr => ∃ (k : Nat) (v : Value), k + gk = n ∧ s22 = .int .i64 k ∧ v = s6 ∧ (∃ gg cap, v = .slice (some ⟨gg, 0, none⟩) (keepN (btP f g) L k).length cap) ∧ Hid (OwnsL 33 4 wr w.heap.size v (keepN (btP f g) L k)) ∧ Hid (OwnsN 98 20 wr w.heap.size (.slice (some ⟨ga, 0, none⟩) n ca) n (nxts f L)) ∧ Blk wr (w.heap.size + 1) 16 g 29 ∧ Hid (Below w.heap.size w wr))
      case atStart => exact ⟨0, _, by omega, rfl, rfl, ⟨_, _, rfl⟩, HO, HR, K2, HB⟩
      case round =>
        obtain ⟨k, v, hkg, rfl, rfl, ⟨gg, cap, hv⟩, HO, HR, K2, HB⟩ := hrel
        subst hv
        cases gk with
        | zero =>
          have hk : ¬ ((k : Int) < (n : Int)) := by omega
          obtain rfl : k = n := by omega
          clear hkg
          go_wp2_with fail
          go_ret2
          exact ⟨gg, cap, rfl, HO.out, HB.out⟩
        | succ gk2 =>
          have hk8 : (k : Int) < (n : Int) := by omega
          have hk9 : k < n := by omega
          have hk0 : (0 : Int) ≤ (k : Int) := by omega
          obtain ⟨l, hkl⟩ := HGE.out k hk9
          have HX : Hid (mk 20 (fun i => h (k * 20 + i)) = mk 20 (nextF (fn l) (doB f (fn l)))) := mk_congr (HFN.out k l hkl)
          have HKL := Lib.hid hkl
          have CM := HRC.out _ _ HR.out
          have HVD := Lib.hid (do_vd (f := f) (s := fn l) HV.out)
          clear hkl
          have K8 := Blk.new wr 20 (nextF (fn l) (doB f (fn l))) 98
          have hszw := HB.out.size
          have HR : Hid (OwnsN 98 20 (wr.alloc (.cells (mk 20 (nextF (fn l) (doB f (fn l)))) 98)) w.heap.size (.slice (some ⟨ga, 0, none⟩) n ca) n (nxts f L)) := World.ownsRow.alloc HR.out _
          have HB : Hid (Below w.heap.size w (wr.alloc (.cells (mk 20 (nextF (fn l) (doB f (fn l)))) 98))) := HB.out.alloc HB.out.size _
          have K2 := K2.alloc (.cells (mk 20 (nextF (fn l) (doB f (fn l)))) 98)
          have HO : Hid (OwnsL 33 4 (wr.alloc (.cells (mk 20 (nextF (fn l) (doB f (fn l)))) 98)) w.heap.size (.slice (some ⟨gg, 0, none⟩) (keepN (btP f g) L k).length cap) (keepN (btP f g) L k)) := HO.out.alloc _
          cases hp : sameB (doB f (fn l)) g with
          | true =>
            have iE : ∀ (w : World), (Op.equalIn 10000 29 (.agg (mk 16 (doB f (fn l)))) (.agg (mk 16 g))).run Try.prog w = .ok true w := fun w => by rw [eqB 9996, hp]
            have Y : Hid (keepN (btP f g) L (k + 1) = keepN (btP f g) L k ++ [l]) := keep_yes HKL.out hp
            have HCL : Hid (cl 4 (fn l) = l) := HL4.out l (List.mem_of_getElem? HKL.out)
            have hle2 := keep_le (btP f g) L k
            have hsz := HB.out.size
            have hcat : CAt ((wr.alloc (.cells (mk 20 (nextF (fn l) (doB f (fn l)))) 98)).alloc (.cells (mk 4 (fn l)) 33)) (wr.heap.size + 1) 4 (fn l) := by
              have := (Blk.new (wr.alloc (.cells (mk 20 (nextF (fn l) (doB f (fn l)))) 98)) 4 (fn l) 33).at
              simpa only [World.size_alloc] using this
            go_wp2_with (first | ((with_reducible show wpList _ _ _ (Oper.mk _ (Op.load 98 _) _ _ _ _ :: _) _ _); refine loadXas CM HX.out (by omega) rfl rfl rfl ?_) | (refine loadNB K8 rfl rfl rfl ?_) | ((with_reducible show wpList _ _ _ (Oper.mk _ (Op.load 29 _) _ _ _ _ :: _) _ _); refine loadB (K2) rfl rfl rfl ?_) | (refine loadNT K8 rfl rfl rfl ?_) | ((with_reducible show wpList _ _ _ (Oper.mk _ (Op.buildSlice _ 1 _) _ _ _ _ :: _) _ _); refine wpl_buildT _ rfl rfl (f := fn l) rfl ?_) | (at_builtin; refine wpl_app (v := .slice (some ⟨gg, 0, none⟩) (keepN (btP f g) L k).length cap) rfl _ _ 37 rfl w.heap.size 33 i0 _ 4 32 Try.underlying37 hi hz0 hz1 hz2 rfl (by decide) rfl (World.ownsRow.alloc HO.out _) _ 0 1 1 (fn l) 4 rfl (by first | exact hcat | exact (Blk.new _ _ _ _).at) (by omega) (by unfold maxLen; omega) (by omega) (by simp; omega) ?_))
            intro v' w7 R hbl hgr hloc
            obtain ⟨g', cap', hv'⟩ := ownsRow_succ R
            have HVv : Hid (∃ gg cap, v' = .slice (some ⟨gg, 0, none⟩) (keepN (btP f g) L (k + 1)).length cap) := ⟨g', cap', by rw [Y.out, List.length_append]; exact hv'⟩
            have HO7 : Hid (OwnsL 33 4 w7 w.heap.size v' (keepN (btP f g) L (k + 1))) := by
              rw [snoc_walk (m := 4) _ (fn l), HCL.out] at R
              show OwnsL _ _ _ _ _ _
              rw [Y.out]
              unfold OwnsL
              rw [List.length_append]
              exact R
            have HR : Hid (OwnsN 98 20 w7 w.heap.size (.slice (some ⟨ga, 0, none⟩) n ca) n (nxts f L)) := World.ownsRow.kept (World.ownsRow.alloc HR.out _) hgr (own_ne_own HR.out HO.out (by decide))
            have HB7 : Hid (Below w.heap.size w w7) := (HB.out.alloc hsz _).trans hbl
            have K2 := (K2.alloc _).grown hgr (fun e => own_ne_blk HO.out K2 (by decide) e.symm)
            clear hbl hgr R hv' HO hloc K8 iE HB hcat
            go_wp2_with fail
            go_roundg gk2
            case rel => exact ⟨k + 1, _, by omega, by go_num, rfl, HVv.out, HO7, HR, K2, HB7⟩
            case measure => omega
          | false =>
            have iE : ∀ (w : World), (Op.equalIn 10000 29 (.agg (mk 16 (doB f (fn l)))) (.agg (mk 16 g))).run Try.prog w = .ok false w := fun w => by rw [eqB 9996, hp]
            have Y : Hid (keepN (btP f g) L (k + 1) = keepN (btP f g) L k) := keep_no HKL.out hp
            go_wp2_with (first | ((with_reducible show wpList _ _ _ (Oper.mk _ (Op.load 98 _) _ _ _ _ :: _) _ _); refine loadXas CM HX.out (by omega) rfl rfl rfl ?_) | (refine loadNB K8 rfl rfl rfl ?_) | ((with_reducible show wpList _ _ _ (Oper.mk _ (Op.load 29 _) _ _ _ _ :: _) _ _); refine loadB (K2) rfl rfl rfl ?_))
            go_roundg gk2
            case rel => exact ⟨k + 1, _, by omega, by go_num, rfl, ⟨gg, cap, by rw [Y.out]⟩, by rw [Y.out]; exact HO, HR, K2, HB⟩
            case measure => omega
    · rw [vdO_yes hV, vdO_no hG, btR_no (fun q => hG q.2)]
      have HV := Lib.hid hV
      have HG := Lib.hid hG
      clear hV hG
      go_enter Try.func32, Try.ntmps32
      go_wp2_with ((with_reducible show wpList _ _ _ (Oper.mk _ (Op.load 29 _) _ _ _ _ :: _) _ _); refine loadB (K1) rfl rfl rfl ?_)
      refine (implBoard_yes _ _ HV.out).mono ?_
      rintro e w1 ⟨rfl, hb⟩
      have K2 := K2.below hb K2.lt
      have HB : Hid (Below w.heap.size w w1) := HB.out.trans (hb.mono HB.out.size)
      clear hb
      go_wp2_with ((with_reducible show wpList _ _ _ (Oper.mk _ (Op.load 29 _) _ _ _ (some _) :: _) _ _); refine loadgB (K2) rfl rfl rfl ?_)
      refine (implBoard_no _ _ HG.out).mono ?_
      rintro e w1a ⟨rfl, hb⟩
      have HB := HB.out.trans (hb.mono HB.out.size)
      have HO := Lib.hid (OwnsL.made (t := 33) (m := 4) (b := w.heap.size) w1a HB.size)
      have HB : Hid (Below w.heap.size w (w1a.alloc (.cells #[] 33))) := HB.alloc HB.size _
      clear hb
      go_wp2_with fail
      go_ret2
      exact ⟨_, _, rfl, HO.out, HB.out⟩
  · rw [vdO_no hV, btR_no (fun q => hV q.1)]
    have HV := Lib.hid hV
    clear hV
    go_enter Try.func32, Try.ntmps32
    go_wp2_with ((with_reducible show wpList _ _ _ (Oper.mk _ (Op.load 29 _) _ _ _ _ :: _) _ _); refine loadB (K1) rfl rfl rfl ?_)
    refine (implBoard_no _ _ HV.out).mono ?_
    rintro e w1 ⟨rfl, hb⟩
    have HB := HB.out.trans (hb.mono HB.out.size)
    have HO := Lib.hid (OwnsL.made (t := 33) (m := 4) (b := w.heap.size) w1 HB.size)
    have HB : Hid (Below w.heap.size w (w1.alloc (.cells #[] 33))) := HB.alloc HB.size _
    clear hb
    go_wp2_with fail
    go_ret2
    exact ⟨_, _, rfl, HO.out, HB.out⟩

set_option maxHeartbeats 4000000 in
set_option maxRecDepth 20000 in
theorem implTrap_any (f : Nat → Int) (w : World) :
    Calls Try.prog 36 #[.agg (mk 16 f)] w fun e w' => e = .returned (.tuple #[.bool (trapR f), .bool (vdO f)]) ∧ Below w.heap.size w w' := by
  have K1 := Blk.new w 16 f 29
  have HB := Lib.hid ((Below.refl w.heap.size w).alloc (Nat.le_refl _) (.cells (mk 16 f) 29))
  have HOV := Lib.hid (implOver_any f)
  have z20 := zero20
  by_cases hV : Vd f
  · rw [vdO_yes hV] at HOV ⊢
    by_cases h0 : (movL f 4).length = 0
    · rw [over_yes hV h0] at HOV
      rw [trap_over hV h0]
      clear hV h0
      go_enter Try.func36, Try.ntmps36
      go_wp2_with ((with_reducible show wpList _ _ _ (Oper.mk _ (Op.load 29 _) _ _ _ _ :: _) _ _); refine loadB (K1) rfl rfl rfl ?_)
      refine (HOV.out _).mono ?_
      rintro e w1 ⟨rfl, hb⟩
      have HB : Hid (Below w.heap.size w w1) := HB.out.trans (hb.mono HB.out.size)
      clear hb
      go_wp2_with fail
      go_ret2
      exact ⟨rfl, HB.out⟩
    · rw [over_not h0] at HOV
      have HTN := Lib.hid (fun k l (e : (allL f 4)[k]? = some l) h0 => trap_not (f := f) e h0)
      have HTY := Lib.hid (trap_more (f := f) hV h0)
      have HV := Lib.hid hV
      clear hV h0
      go_enter Try.func36, Try.ntmps36
      go_wp2_with ((with_reducible show wpList _ _ _ (Oper.mk _ (Op.load 29 _) _ _ _ _ :: _) _ _); refine loadB (K1) rfl rfl rfl ?_)
      refine (HOV.out _).mono ?_
      clear HOV
      rintro e w1 ⟨rfl, hb⟩
      have K1 := K1.below hb K1.lt
      have HB : Hid (Below w.heap.size w w1) := HB.out.trans (hb.mono HB.out.size)
      clear hb
      go_wp2_with ((with_reducible show wpList _ _ _ (Oper.mk _ (Op.load 29 _) _ _ _ _ :: _) _ _); refine loadB (K1) rfl rfl rfl ?_)
      refine (implNext_any f _ HV.out).mono ?_
      rintro e w2 ⟨ga, ca, rfl, ho, hb⟩
      have K1 := K1.below hb K1.lt
      have HRC : Hid (∀ (w : World) (base : Nat), OwnsN 98 20 w base (.slice (some ⟨ga, 0, none⟩) (allL f 4).length ca) (allL f 4).length (nxts f (allL f 4)) → CAt w ga ((allL f 4).length * 20) (flatF (nxts f (allL f 4)))) := by
        intro w base ho
        have hl := nxts_len f (allL f 4)
        rw [← hl] at ho ⊢
        obtain ⟨_, _, e1, _, hc⟩ := KRow.of_list (nxts_all f (allL f 4)) ho
        cases e1
        exact hc
      have HR : Hid (OwnsN 98 20 w2 w.heap.size (.slice (some ⟨ga, 0, none⟩) (allL f 4).length ca) (allL f 4).length (nxts f (allL f 4))) := ownsRow_wide ho HB.out.size
      have hle := all_le f 4
      have HGE := Lib.hid (fun k (hk : k < (allL f 4).length) => (show ∃ l, (allL f 4)[k]? = some l from ⟨(allL f 4)[k], List.getElem?_eq_getElem hk⟩))
      have HFN := Lib.hid (fun k l (e : (allL f 4)[k]? = some l) => next_fn f (allL f 4) e)
      have HL4 := Lib.hid (fun l (hl : l ∈ allL f 4) => cl_fn (all_fn (f := f) (Nat.le_refl 4) hl).1)
      have HB : Hid (Below w.heap.size w w2) := HB.out.trans (hb.mono HB.out.size)
      clear hb ho
      generalize hLL : allL f 4 = L at *
      generalize hN : L.length = n at *
      generalize hH : flatF (nxts f L) = h at *
      go_wp2_with fail
      go_loopg [24] n (fun gk s24 wr => ∃ (k : Nat), k + gk = n ∧ s24 = .int .i64 k ∧ Hid (∀ j x, j < k → L[j]? = some x → (movL (doB f (fn x)) 4).length = 0) ∧ Hid (OwnsN 98 20 wr w.heap.size (.slice (some ⟨ga, 0, none⟩) n ca) n (nxts f L)) ∧ Hid (Below w.heap.size w wr))
      case atStart => exact ⟨0, by omega, rfl, fun j x hj => by omega, HR, HB⟩
      case round =>
        obtain ⟨k, hkg, rfl, HP, HR, HB⟩ := hrel
        cases gk with
        | zero =>
          have hk : ¬ ((k : Int) < (n : Int)) := by omega
          obtain rfl : k = n := by omega
          clear hkg
          have HT : Hid (trapR f = true) := HTY.out (fun j x hx => HP.out j x (by rw [← hN]; exact (List.getElem?_eq_some_iff.1 hx).1) hx)
          go_wp2_with fail
          go_ret2
          rw [HT.out]
          exact ⟨rfl, HB.out⟩
        | succ gk2 =>
          have hk8 : (k : Int) < (n : Int) := by omega
          have hk9 : k < n := by omega
          have hk0 : (0 : Int) ≤ (k : Int) := by omega
          obtain ⟨l, hkl⟩ := HGE.out k hk9
          have HX : Hid (mk 20 (fun i => h (k * 20 + i)) = mk 20 (nextF (fn l) (doB f (fn l)))) := mk_congr (HFN.out k l hkl)
          have HKL := Lib.hid hkl
          have CM := HRC.out _ _ HR.out
          have HVD := Lib.hid (do_vd (f := f) (s := fn l) HV.out)
          clear hkl
          have K8 := Blk.new wr 20 (nextF (fn l) (doB f (fn l))) 98
          have hszw := HB.out.size
          have HR : Hid (OwnsN 98 20 (wr.alloc (.cells (mk 20 (nextF (fn l) (doB f (fn l)))) 98)) w.heap.size (.slice (some ⟨ga, 0, none⟩) n ca) n (nxts f L)) := World.ownsRow.alloc HR.out _
          have HB : Hid (Below w.heap.size w (wr.alloc (.cells (mk 20 (nextF (fn l) (doB f (fn l)))) 98))) := HB.out.alloc HB.out.size _
          go_wp2_with (first | ((with_reducible show wpList _ _ _ (Oper.mk _ (Op.load 98 _) _ _ _ _ :: _) _ _); refine loadXas CM HX.out (by omega) rfl rfl rfl ?_) | (refine loadNB K8 rfl rfl rfl ?_))
          refine (implOver_any (doB f (fn l)) _).mono ?_
          by_cases h0 : (movL (doB f (fn l)) 4).length = 0
          · rw [over_yes HVD.out h0]
            have HP : Hid (∀ j x, j < k + 1 → L[j]? = some x → (movL (doB f (fn x)) 4).length = 0) := fun j x hj hx => by
              rcases (by omega : j < k ∨ j = k) with r | rfl
              · exact HP.out j x r hx
              · rw [HKL.out] at hx; cases hx; exact h0
            clear h0
            rintro e w7 ⟨rfl, hb⟩
            have HR : Hid (OwnsN 98 20 w7 w.heap.size (.slice (some ⟨ga, 0, none⟩) n ca) n (nxts f L)) := owns_below HR.out hb
            have HB : Hid (Below w.heap.size w w7) := HB.out.trans (hb.mono HB.out.size)
            clear hb K8
            go_wp2_with fail
            go_roundg gk2
            case rel => exact ⟨k + 1, by omega, by go_num, HP, HR, HB⟩
            case measure => omega
          · rw [over_not h0]
            have HT : Hid (trapR f = false) := HTN.out k l HKL.out h0
            clear h0
            rintro e w7 ⟨rfl, hb⟩
            have HB : Hid (Below w.heap.size w w7) := HB.out.trans (hb.mono HB.out.size)
            clear hb K8
            go_wp2_with fail
            go_ret2
            rw [HT.out]
            exact ⟨rfl, HB.out⟩
  · rw [vdO_no hV, over_no hV] at HOV
    rw [vdO_no hV, trapR_no hV]
    clear hV
    go_enter Try.func36, Try.ntmps36
    go_wp2_with ((with_reducible show wpList _ _ _ (Oper.mk _ (Op.load 29 _) _ _ _ _ :: _) _ _); refine loadB (K1) rfl rfl rfl ?_)
    refine (HOV.out _).mono ?_
    rintro e w1 ⟨rfl, hb⟩
    have HB : Hid (Below w.heap.size w w1) := HB.out.trans (hb.mono HB.out.size)
    clear hb
    go_wp2_with fail
    go_ret2
    exact ⟨rfl, HB.out⟩

set_option maxHeartbeats 4000000 in
set_option maxRecDepth 20000 in
theorem implNextC_any (f : Nat → Int) (w : World) :
    Calls Try.prog 34 #[.agg (mk 16 f)] w fun e w' => e = .returned (.tuple #[.int .i64 (cnxR f), .bool (vdO f)]) ∧ Below w.heap.size w w' := by
  have K1 := Blk.new w 16 f 29
  have HB := Lib.hid ((Below.refl w.heap.size w).alloc (Nat.le_refl _) (.cells (mk 16 f) 29))
  have z20 := zero20
  by_cases hV : Vd f
  · rw [cnxR_yes hV, vdO_yes hV]
    rw [← nextS_len]
    have HV := Lib.hid hV
    clear hV
    have hmm := @run_makeMap Try.prog
    go_enter Try.func34, Try.ntmps34
    go_wp2_with ((with_reducible show wpList _ _ _ (Oper.mk _ (Op.load 29 _) _ _ _ _ :: _) _ _); refine loadB (K1) rfl rfl rfl ?_)
    refine (implBoard_yes _ _ HV.out).mono ?_
    rintro e w1 ⟨rfl, hb⟩
    have K1 := (K1.below hb K1.lt).alloc (.map #[] 0)
    have HB := HB.out.trans (hb.mono HB.out.size)
    have HMB : Hid (w.heap.size ≤ w1.heap.size) := HB.size
    have HSn : Hid (Seen Try.prog 29 4 16 (w1.alloc (.map #[] 0)) w1.heap.size 0 []) := Seen.made _ _ _ _ _
    have HB : Hid (Below w.heap.size w (w1.alloc (.map #[] 0))) := HB.alloc HB.size _
    clear hb
    go_wp2_with ((with_reducible show wpList _ _ _ (Oper.mk _ (Op.load 29 _) _ _ _ _ :: _) _ _); refine loadB (K1) rfl rfl rfl ?_)
    clear hmm
    refine (implNext_any f _ HV.out).mono ?_
    rintro e w2 ⟨ga, ca, rfl, ho, hb⟩
    have K1 := K1.below hb K1.lt
    have HRC : Hid (∀ (w : World) (base : Nat), OwnsN 98 20 w base (.slice (some ⟨ga, 0, none⟩) (allL f 4).length ca) (allL f 4).length (nxts f (allL f 4)) → CAt w ga ((allL f 4).length * 20) (flatF (nxts f (allL f 4)))) := by
      intro w base ho
      have hl := nxts_len f (allL f 4)
      rw [← hl] at ho ⊢
      obtain ⟨_, _, e1, _, hc⟩ := KRow.of_list (nxts_all f (allL f 4)) ho
      cases e1
      exact hc
    have HR : Hid (OwnsN 98 20 w2 w.heap.size (.slice (some ⟨ga, 0, none⟩) (allL f 4).length ca) (allL f 4).length (nxts f (allL f 4))) := ownsRow_wide ho HB.out.size
    have hle := all_le f 4
    have HGE := Lib.hid (fun k (hk : k < (allL f 4).length) => (show ∃ l, (allL f 4)[k]? = some l from ⟨(allL f 4)[k], List.getElem?_eq_getElem hk⟩))
    have HFN := Lib.hid (fun k l (e : (allL f 4)[k]? = some l) => next_fn f (allL f 4) e)
    have HL4 := Lib.hid (fun l (hl : l ∈ allL f 4) => cl_fn (all_fn (f := f) (Nat.le_refl 4) hl).1)
    have HSn : Hid (Seen Try.prog 29 4 16 w2 w1.heap.size 0 []) := HSn.out.below hb HSn.out.lt
    have HB : Hid (Below w.heap.size w w2) := HB.out.trans (hb.mono HB.out.size)
    clear hb ho
    generalize hLL : allL f 4 = L at *
    generalize hN : L.length = n at *
    generalize hH : flatF (nxts f L) = h at *
    generalize hmb : w1.heap.size = mb at *
    go_wp2_with fail
    go_loopg [14] n (fun gk s14 wr => ∃ (k : Nat), k + gk = n ∧ s14 = .int .i64 k ∧ Hid (Seen Try.prog 29 4 16 wr mb k (nextS f L k)) ∧ Hid (OwnsN 98 20 wr w.heap.size (.slice (some ⟨ga, 0, none⟩) n ca) n (nxts f L)) ∧ Hid (Below w.heap.size w wr))
    case atStart => exact ⟨0, by omega, rfl, HSn, HR, HB⟩
    case round =>
      obtain ⟨k, hkg, rfl, HSn, HR, HB⟩ := hrel
      cases gk with
      | zero =>
        have hk : ¬ ((k : Int) < (n : Int)) := by omega
        obtain rfl : k = n := by omega
        clear hkg
        have hL := fun ty => HSn.out.len (t := 101) Try.underlying101 ty
        go_wp2_with fail
        go_ret2
        exact ⟨rfl, HB.out⟩
      | succ gk2 =>
        have hk8 : (k : Int) < (n : Int) := by omega
        have hk9 : k < n := by omega
        have hk0 : (0 : Int) ≤ (k : Int) := by omega
        obtain ⟨l, hkl⟩ := HGE.out k hk9
        have HX : Hid (mk 20 (fun i => h (k * 20 + i)) = mk 20 (nextF (fn l) (doB f (fn l)))) := mk_congr (HFN.out k l hkl)
        have HKL := Lib.hid hkl
        have CM := HRC.out _ _ HR.out
        have HVD := Lib.hid (do_vd (f := f) (s := fn l) HV.out)
        clear hkl
        have K8 := Blk.new wr 20 (nextF (fn l) (doB f (fn l))) 98
        have hszw := HB.out.size
        have HR : Hid (OwnsN 98 20 (wr.alloc (.cells (mk 20 (nextF (fn l) (doB f (fn l)))) 98)) w.heap.size (.slice (some ⟨ga, 0, none⟩) n ca) n (nxts f L)) := World.ownsRow.alloc HR.out _
        have HB : Hid (Below w.heap.size w (wr.alloc (.cells (mk 20 (nextF (fn l) (doB f (fn l)))) 98))) := HB.out.alloc HB.out.size _
        have HSn : Hid (Seen Try.prog 29 4 16 (wr.alloc (.cells (mk 20 (nextF (fn l) (doB f (fn l)))) 98)) mb k (nextS f L k)) := HSn.out.alloc _
        have HKY := Lib.hid (keyB5 (wf_vd HVD.out))
        go_wp2_with (first | ((with_reducible show wpList _ _ _ (Oper.mk _ (Op.load 98 _) _ _ _ _ :: _) _ _); refine loadXas CM HX.out (by omega) rfl rfl rfl ?_) | (refine loadNB K8 rfl rfl rfl ?_) | (at_mapUpdate; refine wpList_put_seen _ rfl _ _ _ 101 rfl 29 4 keyedB5 Try.underlying101 Try.underlying4 mb k 16 (nextS f L k) (doB f (fn l)) rfl HSn.out (by unfold maxLen; omega) rfl rfl HKY.out ?_))
        intro w6 HS6 hg6
        obtain ⟨es, ec, hmap⟩ := HSn.out.map
        have HR : Hid (OwnsN 98 20 w6 w.heap.size (.slice (some ⟨ga, 0, none⟩) n ca) n (nxts f L)) := World.ownsRow.kept HR.out hg6 (Or.inr (own_ne_map HR.out hmap))
        have HB : Hid (Below w.heap.size w w6) := HB.out.grown hg6 HB.out.size (fun j hj => by cases hj; exact HMB.out)
        rw [← nextS_step HKL.out] at HS6
        have HS6 := Lib.hid HS6
        clear hmap hg6 K8
        go_wp2_with fail
        go_roundg gk2
        case rel => exact ⟨k + 1, by omega, by go_num, HS6, HR, HB⟩
        case measure => omega
  · rw [cnxR_no hV, vdO_no hV]
    have HV := Lib.hid hV
    clear hV
    go_enter Try.func34, Try.ntmps34
    go_wp2_with ((with_reducible show wpList _ _ _ (Oper.mk _ (Op.load 29 _) _ _ _ _ :: _) _ _); refine loadB (K1) rfl rfl rfl ?_)
    refine (implBoard_no _ _ HV.out).mono ?_
    rintro e w1 ⟨rfl, hb⟩
    have HB : Hid (Below w.heap.size w w1) := HB.out.trans (hb.mono HB.out.size)
    clear hb
    go_wp2_with fail
    go_ret2
    exact ⟨rfl, HB.out⟩
end Go.Proofs.Ytknjmkapabjolaa
