/-
  The contract of the reference's SlideCycle: what the plain text CycleFirst tells. No condition.
-/
import Derived.Test.YtknjmkapabjolaaCycleFirst
import Derived.Test.YtknjmkapabjolaaDoSlides
import Derived.Test.YtknjmkapabjolaaSpecSteps
import Derived.Test.YtknjmkapabjolaaVHelp
namespace Go.Proofs.Ytknjmkapabjolaa
open Go.RowKit Plain
attribute [local go_sem] store_new
set_option linter.unusedVariables false
set_option linter.unusedSimpArgs false

namespace Plain
/-- The first m boards. -/
def cyT (f h : Nat → Int) (n : Nat) : Nat → List (List Int)
  | 0 => []
  | m + 1 => cyT f h n m ++ [cl 16 (cyB f h n m)]
theorem cyT_len (f h : Nat → Int) (n : Nat) : ∀ m, (cyT f h n m).length = m
  | 0 => rfl
  | m + 1 => by simp [cyT, cyT_len f h n m]
theorem cyT_all (f h : Nat → Int) (n : Nat) : ∀ m, AllL 16 (cyT f h n m)
  | 0 => fun l hl => by cases hl
  | m + 1 => fun l hl => by
    rcases List.mem_append.1 hl with hl | hl
    · exact cyT_all f h n m l hl
    · rw [List.mem_singleton.1 hl]; exact cl_len _ _
theorem cyT_at (f h : Nat → Int) (n : Nat) : ∀ m i, i < m → (cyT f h n m)[i]? = some (cl 16 (cyB f h n i))
  | 0, i, hi => by omega
  | m + 1, i, hi => by
    have hl := cyT_len f h n m
    by_cases e : i = m
    · subst e; show (cyT f h n i ++ _)[i]? = _; rw [List.getElem?_append_right (by omega), hl]; simp
    · show (cyT f h n m ++ _)[i]? = _; rw [List.getElem?_append_left (by omega)]; exact cyT_at f h n m i (by omega)
theorem cyT_mk (f h : Nat → Int) (n m i : Nat) (hi : i < m) : mk 16 (fun j => flatF (cyT f h n m) (i * 16 + j)) = mk 16 (cyB f h n i) := by
  rw [flatF_mk (cyT_all f h n m) (cyT_at f h n m i hi)]
  exact mk_congr (fn_cl _)
end Plain
theorem lit_own {w : World} {f : Nat → Int} {base : Nat} (hb : base ≤ w.heap.size) : OwnsN 29 16 (w.alloc (.cells (mk 16 f) 29)) base (.slice (some ⟨w.heap.size, 0, none⟩) 1 1) 1 [cl 16 f] := by
  unfold OwnsN
  have e : ([cl 16 f].flatten.map (Value.int .i64)) = (mk 16 f).toList := (snoc_walk [] f).symm
  rw [e]
  exact ⟨by rw [Array.length_toList, mk_size], .inr ⟨w.heap.size, 1, mk 16 f, rfl, hb, heap_alloc_new w _, Nat.le_refl _, by decide, by rw [mk_size], by rw [List.take_of_length_le (by rw [Array.length_toList, mk_size]; omega)]⟩⟩
theorem loadBas {ops : Array Oper} {rest : List Oper} {o : Oper} {a : Act} {w : World} {Q : Exit → Act → World → Prop} {x : Operand} {b n off : Nat} {f g : Nat → Int} (hg : CAt w b n f) (he : mk 16 (fun i => f (off + i)) = mk 16 g) (hm : off + 16 ≤ n)
    (hgd : o.guard = none) (ho : o.op = .load 29 x) (hx : a.eval x = .pointer (some ⟨b, off, none⟩))
    (h : wpList Try.prog ops Q rest (a.put o.dst (.agg (mk 16 g))) w) : wpList Try.prog ops Q (o :: rest) a w :=
  loadAB hg hm hgd ho hx (by rw [he]; exact h)
theorem infoBd : (Try.prog.info? 29).map (fun i => (i.zero, i.size, i.bytes)) = some (some (.agg (mk 16 fun _ => 0)), 16, 128) := by kernel_rfl
set_option maxHeartbeats 8000000 in
set_option maxRecDepth 100000 in
theorem specCycle_yes (f : Nat → Int) (g cap n : Nat) (h : Nat → Int) (w : World) (hc : CAt w g n h) (hV : Vd f) (hn1 : 1 ≤ n) (hn4 : n ≤ 4) (hS : Sides h n) :
    Calls Try.prog 37 #[.agg (mk 16 f), .slice (some ⟨g, 0, none⟩) n cap] w fun e w' => e = .returned (.tuple #[.int .i64 (cyI f h n : Nat), .int .i64 ((cyJ f h n - cyI f h n : Nat) : Int), .bool true]) ∧ Below w.heap.size w w' := by
  obtain ⟨i0, hi, hz0, hz1, hz2⟩ := info_parts infoBd
  have z16 := zero16
  obtain ⟨hJ, _, _⟩ := cyJ_is hV hS
  obtain ⟨hI, hIJ⟩ := cyI_is hV hS
  have HAP := Lib.hid (fun i j (hij : i < j) (hj : j < cyJ f h n) => cy_apart hV hS hij hj)
  have HON := Lib.hid (fun i (hi : i < cyJ f h n) e => cy_only hV hS hi e)
  have HIJ := Lib.hid hIJ
  have HVV := Lib.hid (fun k => cyB_vd hV h n k)
  have HSD : Hid (decide (Sides h n) = true) := decide_eq_true hS
  have HSS := Lib.hid hS
  have K2 := Blk.new w 16 f 29
  have CM := Lib.hid (hc.alloc (.cells (mk 16 f) 29))
  have HB := Lib.hid ((Below.refl w.heap.size w).alloc (Nat.le_refl _) (.cells (mk 16 f) 29))
  have hg0' := hc.1
  have HJ := Lib.hid hJ
  clear hc hIJ hS hJ
  have hn20 : n ≤ 1048576 := by omega
  have hg0 : g < w.heap.size := hg0'
  generalize hJJ : cyJ f h n = J at *
  generalize hII : cyI f h n = I at *
  go_enter Try.func37, Try.ntmps37
  go_wp2_with ((with_reducible show wpList _ _ _ (Oper.mk _ (Op.load 29 _) _ _ _ _ :: _) _ _); refine loadB (K2) rfl rfl rfl ?_)
  refine (l2Board_yes _ _ hV).mono ?_
  rintro e w1 ⟨rfl, hb⟩
  have K2 := K2.below hb K2.lt
  have CM := Lib.hid (CM.out.below hb)
  have HB : Hid (Below w.heap.size w w1) := HB.out.trans (hb.mono HB.out.size)
  clear hb
  go_wp2_with fail
  refine (l1In_yes (n : Int) 1 4 _ (by omega) (by omega)).mono ?_
  rintro e w2 ⟨rfl, rfl⟩
  go_wp2_with fail
  refine (l5Sides_any g cap n h _ CM.out hn20).mono ?_
  rw [HSD.out]
  rintro e w2 ⟨rfl, hb⟩
  have K2 := K2.below hb K2.lt
  have CM := Lib.hid (CM.out.below hb)
  have HB : Hid (Below w.heap.size w w2) := HB.out.trans (hb.mono HB.out.size)
  clear hb
  have HO : Hid (OwnsN 29 16 (w2.alloc (.cells (mk 16 f) 29)) w.heap.size (.slice (some ⟨w2.heap.size, 0, none⟩) 1 1) 1 (cyT f h n 1)) := lit_own HB.out.size
  have CM2 := Lib.hid (CM.out.alloc (.cells (mk 16 f) 29))
  have HB2 : Hid (Below w.heap.size w (w2.alloc (.cells (mk 16 f) 29))) := HB.out.alloc HB.out.size _
  go_wp2_with (first | ((with_reducible show wpList _ _ _ (Oper.mk _ (Op.load 29 _) _ _ _ _ :: _) _ _); refine loadB (K2) rfl rfl rfl ?_) | ((with_reducible show wpList _ _ _ (Oper.mk _ (Op.buildSlice _ 1 _) _ _ _ _ :: _) _ _); refine wpl_buildB _ rfl rfl rfl ?_))
  clear K2 CM HB
  generalize w2.alloc (.cells (mk 16 f) 29) = w3 at *
  generalize w2.heap.size = g3 at *
  go_loopg [7] (J - 1) (fun gk s7 wr => ∃ (k gg cp : Nat), k + 1 + gk = J ∧ s7 = .slice (some ⟨gg, 0, none⟩) (k + 1) cp ∧ Hid (OwnsN 29 16 wr w.heap.size (.slice (some ⟨gg, 0, none⟩) (k + 1) cp) (k + 1) (cyT f h n (k + 1))) ∧ Hid (CAt wr g n h) ∧ Hid (Below w.heap.size w wr))
  case atStart => exact ⟨0, g3, 1, by omega, rfl, HO, CM2, HB2⟩
  case round =>
    clear HO CM2 HB2
    obtain ⟨k, gg, cp, hkg, rfl, HO, CM, HB⟩ := hrel
    have HO2 : OwnsL 29 16 wr w.heap.size (.slice (some ⟨gg, 0, none⟩) (cyT f h n (k + 1)).length cp) (cyT f h n (k + 1)) := by unfold OwnsL; rw [cyT_len]; exact HO.out
    obtain ⟨_, _, e1, hcp, hch⟩ := KRow.of_list (cyT_all f h n (k + 1)) HO2
    cases e1
    rw [cyT_len] at hcp hch
    have HHT := Lib.hid (cyT_mk f h n (k + 1))
    have CH : CAt wr gg ((k + 1) * 16) (flatF (cyT f h n (k + 1))) := hch
    clear HO2 hch
    generalize flatF (cyT f h n (k + 1)) = H at *
    generalize hgo : gk = go at *
    clear hgo
    have hk0 : (0 : Int) ≤ (k : Int) := by omega
    have hkJ : (k : Int) < 802967000000 := by have := HJ.out; omega
    have IM : Calls Try.prog 68 #[.agg (mk 16 (cyB f h n k)), .slice (some ⟨g, 0, none⟩) n cap] wr fun e w' => e = .returned (.tuple #[.agg (mk 16 (cyB f h n (k + 1))), .int .i64 (mdS (cyB f h n k) h n)]) ∧ Below wr.heap.size wr w' := l5Made_any (cyB f h n k) g cap n h _ CM.out hn20 (HVV.out k) HSS.out
    have IM := Lib.hid IM
    go_wp2_with ((with_reducible show wpList _ _ _ (Oper.mk _ (Op.load 29 _) _ _ _ _ :: _) _ _); refine loadBas (off := k * 16) CH (HHT.out k (by omega)) (by omega) rfl rfl rfl ?_)
    refine IM.out.mono ?_
    clear IM hkJ
    rintro e w4 ⟨rfl, hb⟩
    have CH := (CH.below hb).alloc (.cells (mk 16 (cyB f h n (k + 1))) 29)
    have CM := Lib.hid ((CM.out.below hb).alloc (.cells (mk 16 (cyB f h n (k + 1))) 29))
    have HO : Hid (OwnsN 29 16 (w4.alloc (.cells (mk 16 (cyB f h n (k + 1))) 29)) w.heap.size (.slice (some ⟨gg, 0, none⟩) (k + 1) cp) (k + 1) (cyT f h n (k + 1))) := World.ownsRow.alloc (owns_below HO.out hb) _
    have HB := HB.out.trans (hb.mono HB.out.size)
    have HB : Hid (Below w.heap.size w (w4.alloc (.cells (mk 16 (cyB f h n (k + 1))) 29))) := HB.alloc HB.size _
    have K8 := Blk.new w4 16 (cyB f h n (k + 1)) 29
    clear hb
    go_wp2_with fail
    generalize w4.alloc (.cells (mk 16 (cyB f h n (k + 1))) 29) = w5 at *
    generalize w4.heap.size = b8 at *
    generalize hm : k + 1 = m at *
    have hmJ : m ≤ J := by omega
    have hmJ2 : (m : Int) ≤ 802967000000 := by have := HJ.out; omega
    go_loopg [10] m (fun gi s10 wx => ∃ i : Nat, i + gi = m ∧ s10 = .int .i64 i ∧ Hid (∀ l, l < i → sameB (cyB f h n l) (cyB f h n m) = false) ∧ Hid (OwnsN 29 16 wx w.heap.size (.slice (some ⟨gg, 0, none⟩) m cp) m (cyT f h n m)) ∧ CAt wx gg (m * 16) H ∧ Blk wx b8 16 (cyB f h n m) 29 ∧ Hid (CAt wx g n h) ∧ Hid (Below w.heap.size w wx))
    case atStart => exact ⟨0, by omega, rfl, fun l hl => by omega, HO, CH, K8, CM, HB⟩
    case round =>
      clear HO CH K8 CM HB
      obtain ⟨i, hig, rfl, HNO, HO, CH, K8, CM, HB⟩ := hrel
      cases gk with
      | zero =>
        have hi2 : ¬ ((i : Int) < (m : Int)) := by omega
        have hlt : m < J := by
          rcases Nat.lt_or_ge m J with q | q
          · exact q
          · have e : m = J := by omega
            have := HNO.out I (by omega)
            rw [e, HIJ.out] at this
            cases this
        obtain ⟨go2, rfl⟩ : ∃ x, go = x + 1 := ⟨go - 1, by omega⟩
        have hsz := HB.out.size
        clear CH
        go_wp2_with (first | ((with_reducible show wpList _ _ _ (Oper.mk _ (Op.load 29 _) _ _ _ _ :: _) _ _); refine loadB (K8) rfl rfl rfl ?_) | ((with_reducible show wpList _ _ _ (Oper.mk _ (Op.buildSlice _ 1 _) _ _ _ _ :: _) _ _); refine wpl_buildB _ rfl rfl rfl ?_) | (at_builtin; refine wpl_app (v := .slice (some ⟨gg, 0, none⟩) m cp) rfl _ _ 99 rfl w.heap.size 29 i0 _ 16 128 Try.underlying99 hi hz0 hz1 hz2 rfl (by decide) rfl (World.ownsRow.alloc HO.out _) _ 0 1 1 _ 16 rfl (Blk.new _ _ _ _).at (by omega) (by unfold maxLen; omega) (by omega) (by simp; omega) ?_))
        intro v' w7 R hbl hgr hloc
        obtain ⟨g', cap', hv'⟩ := ownsRow_succ R
        rw [snoc_walk (m := 16)] at R
        subst hv'
        have HO7 : Hid (OwnsN 29 16 w7 w.heap.size (.slice (some ⟨g', 0, none⟩) (m + 1) cap') (m + 1) (cyT f h n (m + 1))) := R
        have CM7 := Lib.hid ((CM.out.alloc _).low hbl hg0)
        have HB7 : Hid (Below w.heap.size w w7) := (HB.out.alloc hsz _).trans hbl
        clear hbl hgr R hloc HO CM HB K8 HNO
        go_wp2_with fail
        go_roundg go2
        case rel => exact ⟨m, g', cap', by omega, rfl, HO7, CM7, HB7⟩
        case measure => omega
      | succ gi2 =>
        have hi2 : (i : Int) < (m : Int) := by omega
        have hi3 : i < m := by omega
        have hi0 : (0 : Int) ≤ (i : Int) := by omega
        obtain ⟨r, hr⟩ : ∃ r, sameB (cyB f h n i) (cyB f h n m) = r := ⟨_, rfl⟩
        have HR := Lib.hid hr
        clear hr
        go_wp2_with fail
        refine wp_region_held_drew (S := fun W => CAt W gg (m * 16) H ∧ Blk W b8 16 (cyB f h n m) 29) (by kernel_rfl) (⟨CH.drew, K8.drew⟩) (fun hHeld => ?_)
        refine wpAnyH_take (i := 0) (oi := { dst := some 44, op := _, type := _, pos := _, after := _, guard := _ }) (v := .slice (some ⟨gg, 0, none⟩) m cp) rfl (by kernel_rfl) (by kernel_rfl) (by kernel_rfl) (fun _ _ _ h => h) (Or.inl ⟨by rfl, by intro w hSw; clear hSw; go_simp; (try with_reducible rfl)⟩) (by assumption) ?_
        try simp only [Act.put, List.setIfInBounds_toArray, List.set_cons_zero, List.set_cons_succ]
        refine wpAnyH_take (i := 1) (oi := { dst := some 45, op := _, type := _, pos := _, after := _, guard := _ }) (v := .int .i64 (i : Int)) rfl (by kernel_rfl) (by kernel_rfl) (by kernel_rfl) (fun _ _ _ h => h) (Or.inl ⟨by rfl, by intro w hSw; clear hSw; go_simp; (try with_reducible rfl)⟩) (by assumption) ?_
        try simp only [Act.put, List.setIfInBounds_toArray, List.set_cons_zero, List.set_cons_succ]
        refine wpAnyH_take (i := 2) (oi := { dst := some 46, op := _, type := _, pos := _, after := _, guard := _ }) (v := .pointer (some ⟨gg, i * 16, none⟩)) rfl (by kernel_rfl) (by kernel_rfl) (by kernel_rfl) (fun _ _ _ h => h) (Or.inl ⟨by rfl, by intro w hSw; clear hSw; go_simp; (try with_reducible rfl)⟩) (by assumption) ?_
        try simp only [Act.put, List.setIfInBounds_toArray, List.set_cons_zero, List.set_cons_succ]
        refine wpAnyH_take (i := 3) (oi := { dst := some 47, op := _, type := _, pos := _, after := _, guard := _ }) (v := .agg (mk 16 (cyB f h n i))) rfl (by kernel_rfl) (by kernel_rfl) (by kernel_rfl) (fun _ _ _ h => h) (Or.inl ⟨by rfl, fun _ q => (execAB q.1 (by omega) rfl rfl).trans (by rw [HHT.out i hi3])⟩) (by assumption) ?_
        try simp only [Act.put, List.setIfInBounds_toArray, List.set_cons_zero, List.set_cons_succ]
        refine wpAnyH_take (i := 4) (oi := { dst := some 48, op := _, type := _, pos := _, after := _, guard := _ }) (v := .agg (mk 16 (cyB f h n m))) rfl (by kernel_rfl) (by kernel_rfl) (by kernel_rfl) (fun _ _ _ h => h) (Or.inl ⟨by rfl, fun _ q => execB q.2 rfl rfl⟩) (by assumption) ?_
        try simp only [Act.put, List.setIfInBounds_toArray, List.set_cons_zero, List.set_cons_succ]
        refine wpAnyH_take (i := 5) (oi := { dst := some 49, op := _, type := _, pos := _, after := _, guard := _ }) (v := .bool r) rfl (by kernel_rfl) (by kernel_rfl) (by kernel_rfl) (fun _ _ _ h => h) (Or.inl ⟨by rfl, fun W _ => (execEB (f := cyB f h n i) (g := cyB f h n m) rfl rfl rfl).trans (by rw [HR.out])⟩) (by assumption) ?_
        try simp only [Act.put, List.setIfInBounds_toArray, List.set_cons_zero, List.set_cons_succ]
        refine wpAnyH_done (by kernel_rfl) ?_ _
        clear hHeld
        have CH := CH.drew
        have K8 := K8.drew
        have CM := Lib.hid (CM.out.below ((Below.refl wr.heap.size wr).drew))
        have HO : Hid (OwnsN 29 16 wr.drew w.heap.size (.slice (some ⟨gg, 0, none⟩) m cp) m (cyT f h n m)) := World.ownsRow.drew HO.out
        have HB : Hid (Below w.heap.size w wr.drew) := HB.out.drew
        generalize wr.drew = wy at *
        cases r with
        | true =>
          have e1 : m = J := by
            rcases Nat.lt_or_ge m J with q | q
            · have := HAP.out i m hi3 q
              rw [HR.out] at this
              cases this
            · omega
          have e2 : i = I := HON.out i (by omega) (by rw [← e1]; exact HR.out)
          have hw : IntKind.i64.wrap ((m : Int) - (i : Int)) = ((J - I : Nat) : Int) := by rw [e1, e2]; exact (IntWalk.i64_in _ (by have := HJ.out; omega)).trans (by omega)
          have E2 := Lib.hid e2
          clear e1 e2
          go_wp2_with fail
          go_ret3
          exact ⟨by have e2 := E2.out; subst e2; rfl, HB.out⟩
        | false =>
          go_wp2_with fail
          go_roundg gi2
          case rel => exact ⟨i + 1, by omega, by go_num, fun l hl => by
            by_cases e : l = i
            · subst e; exact HR.out
            · exact HNO.out l (by omega), HO, CH, K8, CM, HB⟩
          case measure => omega
theorem specCycle_any (f : Nat → Int) (v : Value) (n : Nat) (h : Nat → Int) (w : World) (hr : IRow w v n h) (hn : n ≤ 1048576) :
    Calls Try.prog 37 #[.agg (mk 16 f), v] w fun e w' => e = .returned (.tuple #[.int .i64 (cyA f h n), .int .i64 (cyL f h n), .bool (cyO f h n)]) ∧ Below w.heap.size w w' := by
  obtain ⟨g, cap, rfl, _, hc⟩ := hr
  have hc : CAt w g n h := hc
  by_cases hO : CyOk f h n
  · obtain ⟨y1, y2, y3⟩ := cy_yes hO
    rw [y1, y2, y3]
    exact specCycle_yes f g cap n h w hc hO.1 hO.2.1.1 hO.2.1.2 hO.2.2
  · obtain ⟨y1, y2, y3⟩ := cy_no hO
    rw [y1, y2, y3]
    clear y1 y2 y3
    have K2 := Blk.new w 16 f 29
    have CM := Lib.hid (hc.alloc (.cells (mk 16 f) 29))
    have HB := Lib.hid ((Below.refl w.heap.size w).alloc (Nat.le_refl _) (.cells (mk 16 f) 29))
    clear hc
    have HNO := Lib.hid hO
    clear hO
    by_cases hV : Vd f
    · by_cases h14 : 1 ≤ n ∧ n ≤ 4
      · have hS : ¬ Sides h n := fun q => HNO.out ⟨hV, h14, q⟩
        have HSD : Hid (decide (Sides h n) = false) := decide_eq_false hS
        clear hS
        go_enter Try.func37, Try.ntmps37
        go_wp2_with ((with_reducible show wpList _ _ _ (Oper.mk _ (Op.load 29 _) _ _ _ _ :: _) _ _); refine loadB (K2) rfl rfl rfl ?_)
        refine (l2Board_yes _ _ hV).mono ?_
        rintro e w1 ⟨rfl, hb⟩
        have CM := Lib.hid (CM.out.below hb)
        have HB : Hid (Below w.heap.size w w1) := HB.out.trans (hb.mono HB.out.size)
        clear hb K2
        go_wp2_with fail
        refine (l1In_yes (n : Int) 1 4 _ (by omega) (by omega)).mono ?_
        rintro e w2 ⟨rfl, rfl⟩
        go_wp2_with fail
        refine (l5Sides_any g cap n h _ CM.out hn).mono ?_
        rw [HSD.out]
        rintro e w2 ⟨rfl, hb⟩
        have HB : Hid (Below w.heap.size w w2) := HB.out.trans (hb.mono HB.out.size)
        clear hb
        go_wp2_with fail
        go_ret3
        exact ⟨rfl, HB.out⟩
      · go_enter Try.func37, Try.ntmps37
        go_wp2_with ((with_reducible show wpList _ _ _ (Oper.mk _ (Op.load 29 _) _ _ _ _ :: _) _ _); refine loadB (K2) rfl rfl rfl ?_)
        refine (l2Board_yes _ _ hV).mono ?_
        rintro e w1 ⟨rfl, hb⟩
        have HB : Hid (Below w.heap.size w w1) := HB.out.trans (hb.mono HB.out.size)
        clear hb K2
        go_wp2_with fail
        refine (l1In_no (n : Int) 1 4 _ (by omega)).mono ?_
        rintro e w2 ⟨rfl, rfl⟩
        go_wp2_with fail
        go_ret3
        exact ⟨rfl, HB.out⟩
    · go_enter Try.func37, Try.ntmps37
      go_wp2_with ((with_reducible show wpList _ _ _ (Oper.mk _ (Op.load 29 _) _ _ _ _ :: _) _ _); refine loadB (K2) rfl rfl rfl ?_)
      refine (l2Board_no _ _ hV).mono ?_
      rintro e w1 ⟨rfl, hb⟩
      have HB : Hid (Below w.heap.size w w1) := HB.out.trans (hb.mono HB.out.size)
      clear hb K2
      go_wp2_with fail
      go_ret3
      exact ⟨rfl, HB.out⟩
end Go.Proofs.Ytknjmkapabjolaa
