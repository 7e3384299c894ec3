/-
  The contract of BoardsBefore in the program, for every board and every direction.
-/
import Derived.Test.YtmcmpedmgibmkabGreatImplBoardsOf
import Derived.Test.YtmcmpedmgibmkabGreatImplMg
import Derived.Test.YtmcmpedmgibmkabGreatBackA
import Derived.Test.YtmcmpedmgibmkabGreatSortsA
namespace Go.Proofs.YtmcmpedmgibmkabGreat
open Go.RowKit Plain
attribute [local go_sem] store_new
set_option linter.unusedVariables false
set_option linter.unusedSimpArgs false

theorem dfL_vd {f : Nat → Int} (h : Vd f) (d n : Nat) (hn : n = (spV f d 4).length) : VdL 16 (dfL f d n) := fun l hl => by
  rw [hn, dfL_all] at hl
  obtain ⟨h1, h2, _⟩ := (spS_mem h d l).1 (List.mem_filter.1 hl).1
  exact ⟨h1, fun i hi => h2 i hi⟩
theorem bk_same {f X : Nat → Int} {k : Nat} {x : List Int} (h : ∀ c, c < 16 → X c = fn x c) : cl 16 (backF X k) = bkL k x := cl_inj.2 fun j hj => by
  have h1 := lineOf_lt (d := k) hj
  have h2 := placeOf_lt (d := k) hj
  unfold backF; exact h _ (by omega)
theorem bk_eq {f X : Nat → Int} {k : Nat} {x : List Int} (h : ∀ c, c < 16 → X c = fn x c) : sameB (backF X k) f = true ↔ bkL k x = cl 16 f := by
  rw [sameB_iff, ← bk_same (f := f) h, cl_inj]

set_option maxHeartbeats 4000000 in
set_option maxRecDepth 20000 in
theorem implBB_ok (f : Nat → Int) (k : Nat) (w : World) (hV : Vd f) (hk : k < 4) (hc : cbR f (k : Int) ≤ 300) :
    Calls Tryz.prog 6 #[.agg (mk 16 f), .int .i64 (k : Int)] w fun e w' => ∃ g cap, e = .returned (.tuple #[.slice (some ⟨g, 0, none⟩) (bfL f k).length cap, .bool true]) ∧
      OwnsL 27 16 w' w.heap.size (.slice (some ⟨g, 0, none⟩) (bfL f k).length cap) (bfL f k) ∧ Below w.heap.size w w' := by
  obtain ⟨i0, hi, hz0, hz1, hz2⟩ := info_parts infoB
  have z16 := zero16
  have HC := Lib.hid (fun W => implCountB_any f (k : Int) W)
  rw [(slide_yes ⟨hV, by omega, by omega⟩ : slideRO f (k : Int) = true ∧ _).1] at HC
  have HCP : Hid ((spV f k 4).length ≤ 50625) := by show _ ≤ _; rw [spV_len]; exact cntP_bd f k (Nat.le_refl 4)
  have HSRT : Hid (srtL 16 (dfL f k (spV f k 4).length) = bfL f k) := dfL_sort hV k
  have HDV : Hid (VdL 16 (dfL f k (spV f k 4).length)) := dfL_vd hV k _ rfl
  have HV := Lib.hid hV
  have HK := Lib.hid hk
  clear hV hk
  generalize cbR f (k : Int) = cc at *
  have K1 := Blk.new w 16 f 27
  have HB := Lib.hid ((Below.refl w.heap.size w).alloc (Nat.le_refl _) (.cells (mk 16 f) 27))
  go_enter Tryz.func6, Tryz.ntmps6
  go_wp2_with ((with_reducible show wpList _ _ _ (Oper.mk _ (Op.load 27 _) _ _ _ _ :: _) _ _); refine loadB (K1) rfl rfl rfl ?_)
  refine (HC.out _).mono ?_
  rintro e w1 ⟨rfl, hb⟩
  have K1 := K1.below hb K1.lt
  have HB : Hid (Below w.heap.size w w1) := HB.out.trans (hb.mono HB.out.size)
  have hcn : ¬ (300 < cc) := by omega
  clear hb
  go_wp2_with fail
  refine (views_any _).mono ?_
  rintro e w2 ⟨rfl, hb⟩
  have K1 := K1.below hb K1.lt
  have HB : Hid (Below w.heap.size w w2) := HB.out.trans (hb.mono HB.out.size)
  clear hb hcn hc
  have iV := fun W => idxV_nat k HK.out W
  have sr := World.setRow_alloc_new
  have V2 := viewTwo (vwF k) (vwB k)
  have hz : w.heap.size < w2.heap.size := K1.lt
  have K1 := (K1.alloc (.cells #[.func (.func (vwF k)) #[] #[], .func (.func (vwB k)) #[] #[]] 60)).alloc (.cells #[] 27)
  have K8 := (Oth.new w2 #[.func (.func (vwF k)) #[] #[], .func (.func (vwB k)) #[] #[]] 60).alloc (.cells #[] 27)
  have HB : Hid (Below w.heap.size w ((w2.alloc (.cells #[.func (.func (vwF k)) #[] #[], .func (.func (vwB k)) #[] #[]] 60)).alloc (.cells #[] 27))) := (HB.out.alloc HB.out.size _).alloc (by have := HB.out.size; simp; omega) _
  have HO : Hid (OwnsL 27 16 ((w2.alloc (.cells #[.func (.func (vwF k)) #[] #[], .func (.func (vwB k)) #[] #[]] 60)).alloc (.cells #[] 27)) (w2.heap.size + 1) (.slice (some ⟨w2.heap.size + 1, 0, none⟩) 0 0) (dfL f k 0)) := by
    have := OwnsL.made (t := 27) (m := 16) (b := w2.heap.size + 1) (w2.alloc (.cells #[.func (.func (vwF k)) #[] #[], .func (.func (vwB k)) #[] #[]] 60)) (by simp)
    simp only [World.size_alloc] at this
    exact this
  go_wp2_with (first | ((with_reducible show wpList _ _ _ (Oper.mk _ (Op.store 60 _ _) _ _ _ _ :: _) _ _); refine wpList_store_row rfl 60 _ _ rfl _ _ rfl rfl _ _ (heap_alloc_new _ _) sizeVw rfl V2 ?_) | ((with_reducible show wpList _ _ _ (Oper.mk _ (Op.load 27 _) _ _ _ _ :: _) _ _); refine loadB (K1) rfl rfl rfl ?_))
  refine (linesBefore_any f k _ HV.out HK.out).mono ?_
  rintro e w3 ⟨v, rfl, hl, hb⟩
  have K1 := K1.below hb K1.lt
  have K8 := K8.below hb K8.lt
  have HO : Hid (OwnsL 27 16 w3 (w2.heap.size + 1) (.slice (some ⟨w2.heap.size + 1, 0, none⟩) 0 0) (dfL f k 0)) := HO.out.below hb
  have HB : Hid (Below w.heap.size w w3) := HB.out.trans (hb.mono HB.out.size)
  have HL := Lib.hid hl.toT
  clear hb hl iV sr V2
  go_wp2_with fail
  refine (boardsOf_any f k v _ HL.out).mono ?_
  rintro e w4 ⟨gs, cs, rfl, ho, hb⟩
  obtain ⟨_, _, e1, _, CS⟩ := KRow.of_list (spV_all f k 4) ho
  cases e1
  have hgs : w3.heap.size ≤ gs := (ho.lt gs rfl).1
  have h23 : w2.heap.size + 1 < w3.heap.size := (HO.out.lt _ rfl).2
  have K1 := K1.below hb K1.lt
  have K8 := K8.below hb K8.lt
  have HO : Hid (OwnsL 27 16 w4 (w2.heap.size + 1) (.slice (some ⟨w2.heap.size + 1, 0, none⟩) 0 0) (dfL f k 0)) := HO.out.below hb
  have HB : Hid (Below w.heap.size w w4) := HB.out.trans (hb.mono HB.out.size)
  have HXA : Hid (∀ n, n < (spV f k 4).length → ∃ x, (spV f k 4)[n]? = some x ∧ ∀ c, c < 16 → flatF (spV f k 4) (n * 16 + c) = fn x c) := fun n hn => ⟨_, List.getElem?_eq_getElem hn, fun c hc => flatF_at (spV_all f k 4) (List.getElem?_eq_getElem hn) hc⟩
  clear hb ho HL
  generalize w2.heap.size = b8 at *
  generalize hX : spV f k 4 = X at *
  have HXX := Lib.hid hX
  clear hX
  generalize hNX : X.length = nX at *
  generalize hHS : flatF X = hS at *
  go_wp2_with fail
  go_loopg [9, 34] nX (fun gn s9 s34 wr => ∃ (n : Nat) (u : Value), n + gn = nX ∧ s34 = .int .i64 n ∧ u = s9 ∧ (∃ gg cap, u = .slice (some ⟨gg, 0, none⟩) (dfL f k n).length cap ∧ gg ≠ gs) ∧ Hid (OwnsL 27 16 wr (b8 + 1) u (dfL f k n)) ∧ CAt wr gs (nX * 16) hS ∧ Blk wr w.heap.size 16 f 27 ∧ Oth wr b8 #[.func (.func (vwF k)) #[] #[], .func (.func (vwB k)) #[] #[]] 60 ∧ Hid (Below w.heap.size w wr))
  case atStart => exact ⟨0, _, by omega, rfl, rfl, ⟨_, _, rfl, by omega⟩, HO, CS, K1, K8, HB⟩
  case round =>
    clear HO CS K1 K8 HB
    obtain ⟨n, u, hng, rfl, rfl, ⟨gg, cap, hu, hne⟩, HO, CS, K1, K8, HB⟩ := hrel
    subst hu
    have hcp := HCP.out
    have hdl := dfL_len f k n
    cases gk with
    | zero =>
      have hn : ¬ ((n : Int) < (nX : Int)) := by omega
      obtain rfl : n = nX := by omega
      have hdn : (dfL f k n).length ≤ 1048576 := by omega
      go_wp2_with fail
      refine (sortB_any (b8 + 1) gg cap 27 _ _ HDV.out hdn HO.out).mono ?_
      rintro e w9 ⟨rfl, hown, hbl⟩
      have hln := srt_len 16 (dfL f k n)
      rw [HSRT.out] at hown hln
      rw [← hln] at hown ⊢
      have HO : Hid (OwnsL 27 16 w9 (b8 + 1) (.slice (some ⟨gg, 0, none⟩) (bfL f k).length cap) (bfL f k)) := hown
      have HB : Hid (Below w.heap.size w w9) := HB.out.trans (hbl.mono (by omega))
      clear hown hbl hln
      go_wp2_with fail
      go_ret2
      exact ⟨gg, cap, rfl, HO.out.wide (by omega), HB.out⟩
    | succ q1 =>
      have hn : (n : Int) < (nX : Int) := by omega
      have hn0 : (0 : Int) ≤ (n : Int) := by omega
      obtain ⟨x, hx, hxc⟩ := HXA.out n (by omega)
      have hx2 : (spV f k 4)[n]? = some x := by rw [HXX.out]; exact hx
      have HYE := Lib.hid (bk_eq (f := f) (k := k) hxc)
      have HYS := Lib.hid (bk_same (f := f) (k := k) hxc)
      have HYY := Lib.hid (fun (h : bkL k x ≠ cl 16 f) => dfL_yes hx2 h)
      have HYN := Lib.hid (fun (h : bkL k x = cl 16 f) => dfL_no hx2 h)
      have hgg := (HO.out.lt gg rfl).2
      have hsz := HB.out.size
      have h1 := K1.lt
      have h8 := K8.lt
      have K11 := Blk.new wr 16 (fun c => hS (n * 16 + c)) 27
      have K1a := K1.alloc (.cells (mk 16 fun c => hS (n * 16 + c)) 27)
      have K8a := K8.alloc (.cells (mk 16 fun c => hS (n * 16 + c)) 27)
      have CSa := CS.alloc (.cells (mk 16 fun c => hS (n * 16 + c)) 27)
      have HOa : Hid (OwnsL 27 16 (wr.alloc (.cells (mk 16 fun c => hS (n * 16 + c)) 27)) (b8 + 1) (.slice (some ⟨gg, 0, none⟩) (dfL f k n).length cap) (dfL f k n)) := HO.out.alloc _
      have HBa : Hid (Below w.heap.size w (wr.alloc (.cells (mk 16 fun c => hS (n * 16 + c)) 27))) := HB.out.alloc HB.out.size _
      have c8 : (wr.alloc (.cells (mk 16 fun c => hS (n * 16 + c)) 27)).cell? ⟨b8, 1, none⟩ = some (.func (.func (vwB k)) #[] #[]) := K8a.cell 1
      have eB := vwB_enters k HK.out
      have hgs2 := CS.1
      clear hx hx2 hxc
      generalize hXF : (fun c => hS (n * 16 + c)) = F at *
      have hla : ∀ {ops : Array Oper} {rest : List Oper} {o : Oper} {a : Act} {W : World} {Q : Exit → Act → World → Prop} {x : Operand}, CAt W gs (nX * 16) hS → o.guard = none → o.op = .load 27 x → a.eval x = .pointer (some ⟨gs, n * 16, none⟩) →
          wpList Tryz.prog ops Q rest (a.put o.dst (.agg (mk 16 F))) W → wpList Tryz.prog ops Q (o :: rest) a W := fun hg hgd ho hx hh => loadAB hg (by omega) hgd ho hx (by rw [hXF]; exact hh)
      go_wp2_with (first | ((with_reducible show wpList _ _ _ (Oper.mk _ (Op.load 27 _) _ _ _ _ :: _) _ _); refine hla CS rfl rfl rfl ?_) | ((with_reducible show wpList _ _ _ (Oper.mk _ (Op.load 27 _) _ _ _ _ :: _) _ _); refine loadB (K11) rfl rfl rfl ?_))
      refine (back_nat F k _ HK.out).mono ?_
      rintro e w5 ⟨rfl, hb⟩
      have hs5 : wr.heap.size < w5.heap.size := by have := hb.size; simp at this; omega
      have K1 := K1a.below hb K1a.lt
      have K8 := K8a.below hb K8a.lt
      have CS := CSa.below hb
      have K11 := K11.below hb K11.lt
      have HO : Hid (OwnsL 27 16 w5 (b8 + 1) (.slice (some ⟨gg, 0, none⟩) (dfL f k n).length cap) (dfL f k n)) := HOa.out.below hb
      have HB : Hid (Below w.heap.size w w5) := HBa.out.trans (hb.mono HBa.out.size)
      clear hb HOa HBa K1a K8a CSa c8 eB hla
      generalize wr.heap.size = b11 at *
      generalize hG : backF F k = G at *
      have K1s := K1.rowOther b11 (mk 16 G) (by omega)
      have K8s := K8.rowOther b11 (mk 16 G) (by omega)
      have CSs := CS.rowOther b11 (mk 16 G) (by omega)
      have K11s := K11.row 16 G
      have HOs : Hid (OwnsL 27 16 (w5.setRow b11 (mk 16 G)) (b8 + 1) (.slice (some ⟨gg, 0, none⟩) (dfL f k n).length cap) (dfL f k n)) := HO.out.rowOther K11 _ (by simp only [Value.ownBlock]; intro e; cases e; omega)
      have HBs : Hid (Below w.heap.size w (w5.setRow b11 (mk 16 G))) := below_setRow HB.out (by omega) _
      have hs6 : b11 < (w5.setRow b11 (mk 16 G)).heap.size := by simp [World.setRow]; omega
      have iN := neqG
      cases hsm : sameB G f with
      | true =>
        have HS := Lib.hid (HYN.out (HYE.out.1 hsm))
        go_wp2_with (first | ((with_reducible show wpList _ _ _ (Oper.mk _ (Op.store 27 _ _) _ _ _ _ :: _) _ _); refine storeB (K11) rfl rfl rfl rfl ?_) | ((with_reducible show wpList _ _ _ (Oper.mk _ (Op.load 25 _) _ _ _ _ :: _) _ _); refine loadG (K11s) rfl rfl rfl ?_) | ((with_reducible show wpList _ _ _ (Oper.mk _ (Op.load 25 _) _ _ _ _ :: _) _ _); refine loadG (K1s) rfl rfl rfl ?_))
        go_roundg q1
        case rel => exact ⟨n + 1, _, by omega, by go_num, rfl, ⟨gg, cap, by rw [HS.out], hne⟩, by rw [HS.out]; exact HOs, CSs, K1s, K8s, HBs⟩
        case measure => omega
      | false =>
        have HS := Lib.hid (HYY.out (fun e => by have := HYE.out.2 e; rw [hsm] at this; cases this))
        rw [← HYS.out] at HS
        go_wp2_with (first | ((with_reducible show wpList _ _ _ (Oper.mk _ (Op.store 27 _ _) _ _ _ _ :: _) _ _); refine storeB (K11) rfl rfl rfl rfl ?_) | ((with_reducible show wpList _ _ _ (Oper.mk _ (Op.load 25 _) _ _ _ _ :: _) _ _); refine loadG (K11s) rfl rfl rfl ?_) | ((with_reducible show wpList _ _ _ (Oper.mk _ (Op.load 25 _) _ _ _ _ :: _) _ _); refine loadG (K1s) rfl rfl rfl ?_) | ((with_reducible show wpList _ _ _ (Oper.mk _ (Op.load 27 _) _ _ _ _ :: _) _ _); refine loadB (K11s) rfl rfl rfl ?_) | ((with_reducible show wpList _ _ _ (Oper.mk _ (Op.buildSlice _ 1 _) _ _ _ _ :: _) _ _); refine wpl_buildB _ rfl rfl (f := G) rfl ?_) | (at_builtin; refine wpl_app (v := .slice (some ⟨gg, 0, none⟩) (dfL f k n).length cap) rfl _ _ 30 rfl (b8 + 1) 27 i0 _ 16 128 Tryz.underlying30 hi hz0 hz1 hz2 rfl (by decide) rfl (World.ownsRow.alloc HOs.out _) (w5.setRow b11 (mk 16 G)).heap.size 0 1 1 G 16 rfl (Blk.new _ _ _ _).at (by omega) (by unfold maxLen; omega) (by omega) (by simp [World.setRow]; omega) ?_))
        intro v' w8 RR hbl hgr hloc
        obtain ⟨g', cap', hv'⟩ := ownsRow_succ RR
        have HVv : Hid (v' = .slice (some ⟨g', 0, none⟩) (dfL f k (n + 1)).length cap') := by show _ = _; rw [HS.out, List.length_append]; exact hv'
        have HNE : Hid (g' ≠ gs) := by
          rcases hloc with q | q
          · rw [hv'] at q; simp [Value.ownBlock] at q; show _ ≠ _; rw [q]; exact hne
          · rw [hv'] at q; simp [Value.ownBlock, World.setRow] at q; show _ ≠ _; omega
        have HR : Hid (OwnsL 27 16 w8 (b8 + 1) v' (dfL f k (n + 1))) := by
          rw [snoc_walk (m := 16) _ G] at RR
          show OwnsL _ _ _ _ _ _
          rw [HS.out]
          unfold OwnsL
          rw [List.length_append]
          exact RR
        have CS := (CSs.alloc (.cells (mk 16 G) 27)).grown hgr (by simp only [Value.ownBlock]; intro e; cases e; exact hne rfl)
        have K1 := (K1s.alloc (.cells (mk 16 G) 27)).below hbl (by omega)
        have K8 := (K8s.alloc (.cells (mk 16 G) 27)).below hbl (by omega)
        have HB : Hid (Below w.heap.size w w8) := (HBs.out.alloc HBs.out.size _).trans (hbl.mono (by omega))
        clear hbl hgr RR hv' hloc HOs HBs K1s K8s CSs K11s iN
        go_wp2_with fail
        go_roundg q1
        case rel => exact ⟨n + 1, _, by omega, by go_num, rfl, ⟨g', cap', HVv.out, HNE.out⟩, HR, CS, K1, K8, HB⟩
        case measure => omega

set_option maxHeartbeats 1000000 in
theorem implBB_no (f : Nat → Int) (d : Int) (w : World) (h : ¬ BbOk f d) :
    Calls Tryz.prog 6 #[.agg (mk 16 f), .int .i64 d] w fun e w' => ∃ g cap, e = .returned (.tuple #[.slice (some ⟨g, 0, none⟩) 0 cap, .bool false]) ∧
      OwnsL 27 16 w' w.heap.size (.slice (some ⟨g, 0, none⟩) 0 cap) [] ∧ Below w.heap.size w w' := by
  have K1 := Blk.new w 16 f 27
  have HB := Lib.hid ((Below.refl w.heap.size w).alloc (Nat.le_refl _) (.cells (mk 16 f) 27))
  have HC := Lib.hid (fun W => implCountB_any f d W)
  by_cases hS : SlideOk f d
  · have h0 : 300 < cbR f d := by
      by_cases h0 : cbR f d ≤ 300
      · exact absurd ⟨hS, h0⟩ h
      · omega
    rw [(slide_yes hS).1] at HC
    generalize cbR f d = cc at *
    clear hS h
    go_enter Tryz.func6, Tryz.ntmps6
    go_wp2_with ((with_reducible show wpList _ _ _ (Oper.mk _ (Op.load 27 _) _ _ _ _ :: _) _ _); refine loadB (K1) rfl rfl rfl ?_)
    refine (HC.out _).mono ?_
    rintro e w1 ⟨rfl, hb⟩
    have HB : Hid (Below w.heap.size w w1) := HB.out.trans (hb.mono HB.out.size)
    clear hb
    have HO : Hid (OwnsL 27 16 (w1.alloc (.cells #[] 27)) w.heap.size (.slice (some ⟨w1.heap.size, 0, none⟩) 0 0) []) := OwnsL.made w1 HB.out.size
    have HB2 : Hid (Below w.heap.size w (w1.alloc (.cells #[] 27))) := HB.out.alloc HB.out.size _
    go_wp2_with fail
    go_ret2
    exact ⟨_, _, rfl, HO.out, HB2.out⟩
  · rw [cbR_no hS, (slide_no hS).1] at HC
    clear hS h
    go_enter Tryz.func6, Tryz.ntmps6
    go_wp2_with ((with_reducible show wpList _ _ _ (Oper.mk _ (Op.load 27 _) _ _ _ _ :: _) _ _); refine loadB (K1) rfl rfl rfl ?_)
    refine (HC.out _).mono ?_
    rintro e w1 ⟨rfl, hb⟩
    have HB : Hid (Below w.heap.size w w1) := HB.out.trans (hb.mono HB.out.size)
    clear hb
    have HO : Hid (OwnsL 27 16 (w1.alloc (.cells #[] 27)) w.heap.size (.slice (some ⟨w1.heap.size, 0, none⟩) 0 0) []) := OwnsL.made w1 HB.out.size
    have HB2 : Hid (Below w.heap.size w (w1.alloc (.cells #[] 27))) := HB.out.alloc HB.out.size _
    go_wp2_with fail
    go_ret2
    exact ⟨_, _, rfl, HO.out, HB2.out⟩
theorem implBB_any (f : Nat → Int) (d : Int) (w : World) :
    Calls Tryz.prog 6 #[.agg (mk 16 f), .int .i64 d] w fun e w' => ∃ g cap, e = .returned (.tuple #[.slice (some ⟨g, 0, none⟩) (bbR f d).length cap, .bool (bbO f d)]) ∧
      OwnsL 27 16 w' w.heap.size (.slice (some ⟨g, 0, none⟩) (bbR f d).length cap) (bbR f d) ∧ Below w.heap.size w w' := by
  by_cases h : BbOk f d
  · obtain ⟨⟨hV, hd⟩, h0⟩ := id h
    obtain ⟨k, rfl⟩ := Int.eq_ofNat_of_zero_le hd.1
    rw [(bb_yes h).1, (bb_yes h).2, Int.toNat_natCast]
    exact implBB_ok f k w hV (by omega) h0
  · rw [(bb_no h).1, (bb_no h).2]
    exact implBB_no f d w h
end Go.Proofs.YtmcmpedmgibmkabGreat
