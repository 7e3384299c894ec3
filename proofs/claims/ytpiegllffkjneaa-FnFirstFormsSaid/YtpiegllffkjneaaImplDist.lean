/-
  The contract of the program's DistinctMoves, for every board.
-/
import Derived.Test.YtpiegllffkjneaaDistKit
import Derived.Test.YtpiegllffkjneaaFirstForm
import Derived.Test.YtpiegllffkjneaaCommute
import Derived.Test.YtpiegllffkjneaaOver
namespace Go.Proofs.Ytpiegllffkjneaa
open Go.RowKit Plain
attribute [local go_sem] store_new
set_option linter.unusedVariables false
set_option linter.unusedSimpArgs false

set_option maxHeartbeats 4000000 in
set_option maxRecDepth 100000 in
theorem implDist_any (f : Nat → Int) (w : World) :
    Calls Try.prog 21 #[.agg (mk 16 f)] w fun e w' => ∃ g cap, e = .returned (.tuple #[.slice (some ⟨g, 0, none⟩) (dmR f).length cap, .bool (vdO f)]) ∧
      OwnsInts w' w.heap.size (.slice (some ⟨g, 0, none⟩) (dmR f).length cap) (dmR f) ∧ Below w.heap.size w w' := by
  obtain ⟨i0, hi, hz0, hz1, hz2⟩ := info_parts infoInt
  have K1 := Blk.new w 16 f 27
  have HB := Lib.hid ((Below.refl w.heap.size w).alloc (Nat.le_refl _) (.cells (mk 16 f) 27))
  by_cases hV : Vd f
  · have HM := implMoves_any f
    rw [dmR_yes hV, vdO_yes hV]
    rw [movR_yes hV, vdO_yes hV] at HM
    have HV := Lib.hid hV
    have HSV := Lib.hid (fun d => slideB_vd hV d)
    have HFV : Hid (∀ d, Vd (fstF (slideB f d))) := fun d => form_vd (slideB_vd hV d) _
    clear hV
    have HME := Lib.hid (movL_mem f 4)
    have hn := movL_le f 4
    have hmm := @run_makeMap Try.prog
    generalize hMM : movL f 4 = M at *
    generalize hN : M.length = n at *
    clear hMM
    go_enter Try.func21, Try.ntmps21
    go_wp2_with ((with_reducible show wpList _ _ _ (Oper.mk _ (Op.load 27 _) _ _ _ _ :: _) _ _); refine loadB (K1) rfl rfl rfl ?_)
    refine (HM _).mono ?_
    clear HM
    rintro e w1 ⟨gm, cm, rfl, hom, hb⟩
    have K1 := K1.below hb K1.lt
    have HB : Hid (Below w.heap.size w w1) := HB.out.trans (hb.mono HB.out.size)
    have CM : CAt w1 gm n (fun i => M.getD i 0) := by rw [← hN] at hom ⊢; exact CAt.of_ints hom
    have hs1 := K1.lt
    clear hb hom
    have HO : Hid (OwnsInts (w1.alloc (.cells #[] 3)) w.heap.size (.slice (some ⟨w1.heap.size, 0, none⟩) 0 0) []) := World.ownsRow_made (base := w.heap.size) (e := 3) (size := 1) w1 #[] 0 HB.out.size (by decide) rfl
    have HNE : Hid ((Value.slice (some ⟨w1.heap.size, 0, none⟩) 0 0).ownBlock ≠ some gm) := by have := CM.1; show _ ≠ _; simp only [Value.ownBlock]; intro e; cases e; omega
    have K1 := K1.alloc (.cells #[] 3)
    have CM := CM.alloc (.cells #[] 3)
    have HB : Hid (Below w.heap.size w (w1.alloc (.cells #[] 3))) := HB.out.alloc HB.out.size _
    have hw2 : (w1.alloc (.cells #[] 3)).heap.size = w1.heap.size + 1 := by simp
    go_wp2_with fail
    generalize w1.alloc (.cells #[] 3) = w2 at *
    have HSn : Hid (Seen Try.prog 27 4 16 (w2.alloc (.map #[] 0)) w2.heap.size 0 []) := Seen.made _ _ _ _ _
    have HO : Hid (OwnsInts (w2.alloc (.map #[] 0)) w.heap.size (.slice (some ⟨w1.heap.size, 0, none⟩) 0 0) []) := World.ownsRow.alloc HO.out _
    have K1 := K1.alloc (.map #[] 0)
    have CM := CM.alloc (.map #[] 0)
    have HB : Hid (Below w.heap.size w (w2.alloc (.map #[] 0))) := HB.out.alloc HB.out.size _
    generalize w2.alloc (.map #[] 0) = w3 at *
    rw [hw2] at HSn
    have HMB : Hid (w.heap.size ≤ w1.heap.size + 1) := by show _ ≤ _; omega
    generalize hmb : w1.heap.size + 1 = mb at *
    clear hmm
    go_loopg [6, 24] n (fun gk s6 s24 wr => ∃ (k : Nat) (v : Value), k + gk = n ∧ s24 = .int .i64 k ∧ v = s6 ∧ (∃ gg cap, v = .slice (some ⟨gg, 0, none⟩) (dm f M k).2.length cap) ∧ Hid (OwnsInts wr w.heap.size v (dm f M k).2) ∧ Hid (v.ownBlock ≠ some gm) ∧ Hid (Seen Try.prog 27 4 16 wr mb k (dm f M k).1) ∧ CAt wr gm n (fun i => M.getD i 0) ∧ Blk wr w.heap.size 16 f 27 ∧ Hid (Below w.heap.size w wr))
    case atStart => exact ⟨0, _, by omega, rfl, rfl, ⟨_, _, rfl⟩, HO, HNE, HSn, CM, K1, HB⟩
    case round =>
      obtain ⟨k, v, hkg, rfl, rfl, ⟨gg, cap, hv⟩, HO, HNE, HSn, CM, K1, HB⟩ := hrel
      subst hv
      cases gk with
      | zero =>
        have hk : ¬ ((k : Int) < (n : Int)) := by omega
        obtain rfl : k = n := by omega
        clear hkg
        go_wp2_with fail
        go_ret2
        exact ⟨gg, cap, rfl, HO.out, HB.out⟩
      | succ gk2 =>
        have hk8 : (k : Int) < (n : Int) := by omega
        have hk9 : k < n := by omega
        have hk0 : (0 : Int) ≤ (k : Int) := by omega
        obtain ⟨d, hkd⟩ : ∃ d, M[k]? = some d := ⟨M[k]'(by omega), List.getElem?_eq_getElem _⟩
        obtain ⟨q, hq4, rfl⟩ := HME.out d (List.mem_of_getElem? hkd)
        have c1 : wr.cell? ⟨gm, k, none⟩ = some (.int .i64 (q : Int)) := by rw [CM.2 k hk9]; simp [List.getD, hkd]
        have HKD := Lib.hid hkd
        clear hkd
        have q0 : (0 : Int) ≤ (q : Int) := by omega
        have q3 : (q : Int) ≤ 3 := by omega
        have iF := fieldSB
        go_wp2_with ((with_reducible show wpList _ _ _ (Oper.mk _ (Op.load 27 _) _ _ _ _ :: _) _ _); refine loadB (K1) rfl rfl rfl ?_)
        refine (slideTo_nat f q _ HV.out q0 q3).mono ?_
        rintro e w4 ⟨rfl, hb⟩
        have K1 := K1.below hb K1.lt
        have CM := CM.below hb
        have HSn : Hid (Seen Try.prog 27 4 16 w4 mb k (dm f M k).1) := HSn.out.below hb HSn.out.lt
        have HO : Hid (OwnsInts w4 w.heap.size (.slice (some ⟨gg, 0, none⟩) (dm f M k).2.length cap) (dm f M k).2) := owns_below HO.out hb
        have HB : Hid (Below w.heap.size w w4) := HB.out.trans (hb.mono HB.out.size)
        clear hb c1
        go_wp2_with fail
        refine (firstOf_any (slideB f q) _ (HSV.out q)).mono ?_
        rintro e w5 ⟨rfl, hb⟩
        have K1 := K1.below hb K1.lt
        have CM := CM.below hb
        have HSn : Hid (Seen Try.prog 27 4 16 w5 mb k (dm f M k).1) := HSn.out.below hb HSn.out.lt
        have HO : Hid (OwnsInts w5 w.heap.size (.slice (some ⟨gg, 0, none⟩) (dm f M k).2.length cap) (dm f M k).2) := owns_below HO.out hb
        have HB : Hid (Below w.heap.size w w5) := HB.out.trans (hb.mono HB.out.size)
        clear hb iF
        have HFF : Hid (ffs f (q : Int) = cl 16 (fstF (slideB f q))) := by show _ = _; simp [ffs]
        have HKY := Lib.hid (keyB (wf_vd (HFV.out q)))
        generalize fstF (slideB f q) = G at *
        have z16 := zero16
        have K10 := Blk.new w5 16 G 27
        have K1 := K1.alloc (.cells (mk 16 G) 27)
        have CM := CM.alloc (.cells (mk 16 G) 27)
        have HSn : Hid (Seen Try.prog 27 4 16 (w5.alloc (.cells (mk 16 G) 27)) mb k (dm f M k).1) := HSn.out.alloc _
        have HO : Hid (OwnsInts (w5.alloc (.cells (mk 16 G) 27)) w.heap.size (.slice (some ⟨gg, 0, none⟩) (dm f M k).2.length cap) (dm f M k).2) := World.ownsRow.alloc HO.out _
        have HB : Hid (Below w.heap.size w (w5.alloc (.cells (mk 16 G) 27))) := HB.out.alloc HB.out.size _
        by_cases hd : cl 16 G ∈ (dm f M k).1
        · have Y : Hid (dm f M (k + 1) = dm f M k) := dm_yes HKD.out (by rw [HFF.out]; exact hd)
          have HD : Hid (decide (cl 16 G ∈ (dm f M k).1) = true) := decide_eq_true hd
          clear hd
          go_wp2_with (first | ((with_reducible show wpList _ _ _ (Oper.mk _ (Op.load 27 _) _ _ _ _ :: _) _ _); refine loadB (K10) rfl rfl rfl ?_) | (at_lookup; refine wpList_look_is _ rfl _ _ 109 rfl 27 4 keyedB Try.underlying109 Try.underlying4 (zeroBool _) mb k 16 (dm f M k).1 G true HD.out rfl HSn.out rfl HKY.out ?_))
          go_roundg gk2
          case rel => exact ⟨k + 1, _, by omega, by go_num, rfl, ⟨gg, cap, by rw [Y.out]⟩, by rw [Y.out]; exact HO, HNE, by rw [Y.out]; exact HSn.out.mono (by omega), CM, K1, HB⟩
          case measure => omega
        · have Y : Hid (dm f M (k + 1) = ((dm f M k).1 ++ [cl 16 G], (dm f M k).2 ++ [(q : Int)])) := by
            have := dm_no HKD.out (by rw [HFF.out]; exact hd)
            rw [HFF.out] at this; exact this
          have HAS : Hid (addS (dm f M k).1 (cl 16 G) = (dm f M k).1 ++ [cl 16 G]) := by show _ = _; unfold addS; rw [if_neg hd]
          have HD : Hid (decide (cl 16 G ∈ (dm f M k).1) = false) := decide_eq_false hd
          clear hd
          go_wp2_with (first | ((with_reducible show wpList _ _ _ (Oper.mk _ (Op.load 27 _) _ _ _ _ :: _) _ _); refine loadB (K10) rfl rfl rfl ?_) | (at_lookup; refine wpList_look_is _ rfl _ _ 109 rfl 27 4 keyedB Try.underlying109 Try.underlying4 (zeroBool _) mb k 16 (dm f M k).1 G false HD.out rfl HSn.out rfl HKY.out ?_) | (at_mapUpdate; refine wpList_put_seen _ rfl _ _ _ 109 rfl 27 4 keyedB Try.underlying109 Try.underlying4 mb k 16 (dm f M k).1 G rfl HSn.out (by unfold maxLen; omega) rfl rfl HKY.out ?_))
          intro w6 HS6 hg6
          obtain ⟨es, ec, hmap⟩ := HSn.out.map
          have HB : Hid (Below w.heap.size w w6) := HB.out.grown hg6 HB.out.size (fun j hj => by cases hj; exact HMB.out)
          have K1 := K1.grown hg6 (fun e => by cases e; exact blk_ne_map K1 hmap rfl)
          have CM := CM.grown hg6 (fun e => by cases e; exact at_ne_map CM (by omega) hmap rfl)
          have HO : Hid (OwnsInts w6 w.heap.size (.slice (some ⟨gg, 0, none⟩) (dm f M k).2.length cap) (dm f M k).2) := World.ownsRow.kept HO.out hg6 (Or.inr (own_ne_map HO.out hmap))
          have HSn : Hid (Seen Try.prog 27 4 16 w6 mb (k + 1) (dm f M (k + 1)).1) := by show Seen _ _ _ _ _ _ _ _; rw [Y.out]; rw [HAS.out] at HS6; exact HS6
          clear hmap hg6 HS6
          have hle := dm_le f M k
          have hle4 : (dm f M k).2.length ≤ 4 := by omega
          clear hle
          have ho0 : w6.ownsRow w.heap.size 3 1 (.slice (some ⟨gg, 0, none⟩) (dm f M k).2.length cap) (dm f M k).2.length ((dm f M k).2.map (Value.int .i64)) := HO.out
          have hbs := HB.out.size
          go_wp2_with (first | (at_builtin; refine wpList_append_own_at _ rfl _ _ 31 rfl w.heap.size 3 i0 (.int .i64 0) 1 8 Try.underlying31 hi hz0 hz1 hz2 rfl (by decide) _ _ _ rfl (ho0.alloc _) ⟨w6.heap.size, 0, none⟩ 1 1 [.int .i64 q] rfl rfl ?c1 ?c2 ?c3 ?c4 ?c5 ?_))
          case c1 =>
            have := cell_one_new w6 (.int .i64 q) 3
            simpa only [World.size_alloc] using this
          case c2 => simp [Value.oneCell']
          case c3 => unfold maxLen; omega
          case c4 => omega
          case c5 => simp; omega
          intro v' w7 hown' hgr _ hloc
          obtain ⟨g', cap', hv'⟩ := ownsRow_succ hown'
          have HVv : Hid (∃ gg cap, v' = .slice (some ⟨gg, 0, none⟩) (dm f M (k + 1)).2.length cap) := ⟨g', cap', by rw [Y.out, List.length_append]; exact hv'⟩
          obtain ⟨es, ec, hmap⟩ := (HSn.out.alloc (.cells #[.int .i64 q] 3)).map
          have HSn : Hid (Seen Try.prog 27 4 16 w7 mb (k + 1) (dm f M (k + 1)).1) := (HSn.out.alloc (.cells #[.int .i64 q] 3)).kept hgr (fun e => own_ne_map (ho0.alloc (.cells #[.int .i64 q] 3)) hmap e.symm)
          have HB : Hid (Below w.heap.size w w7) := (HB.out.alloc hbs _).grown hgr (by simp; omega) (fun j hj => (ho0.lt j hj).1)
          have hne2 : (Value.slice (some ⟨gg, 0, none⟩) (dm f M k).2.length cap).ownBlock ≠ some gm := HNE.out
          have HNE2 : Hid (v'.ownBlock ≠ some gm) := by
            intro e
            have h9 := CM.1
            rcases hloc with r | r
            · rw [r] at e; exact hne2 e
            · rw [r] at e; simp at e; omega
          have CM := (CM.alloc (.cells #[.int .i64 q] 3)).grown hgr (fun e => hne2 e.symm)
          have K1 := (K1.alloc (.cells #[.int .i64 q] 3)).grown hgr (fun e => own_ne_blk (ho0.alloc (.cells #[.int .i64 q] 3)) (K1.alloc _) (by decide) e.symm)
          have HO : Hid (OwnsInts w7 w.heap.size v' (dm f M (k + 1)).2) := by
            show OwnsInts _ _ _ _
            unfold OwnsInts
            rw [Y.out, List.map_append, List.length_append]
            exact hown'
          clear hown' hgr hloc hv' hmap ho0 hne2 HNE
          go_wp2_with fail
          go_roundg gk2
          case rel => exact ⟨k + 1, _, by omega, by go_num, rfl, HVv.out, HO, HNE2, HSn, CM, K1, HB⟩
          case measure => omega
  · rw [dmR_no hV, vdO_no hV]
    have HM := implMoves_any f
    rw [movR_no hV, vdO_no hV] at HM
    clear hV
    go_enter Try.func21, Try.ntmps21
    go_wp2_with ((with_reducible show wpList _ _ _ (Oper.mk _ (Op.load 27 _) _ _ _ _ :: _) _ _); refine loadB (K1) rfl rfl rfl ?_)
    refine (HM _).mono ?_
    rintro e w1 ⟨gm, cm, rfl, hom, hb⟩
    have HB : Hid (Below w.heap.size w w1) := HB.out.trans (hb.mono HB.out.size)
    have HO : Hid (OwnsInts (w1.alloc (.cells #[] 3)) w.heap.size (.slice (some ⟨w1.heap.size, 0, none⟩) 0 0) []) := World.ownsRow_made (base := w.heap.size) (e := 3) (size := 1) w1 #[] 0 HB.out.size (by decide) rfl
    have HB : Hid (Below w.heap.size w (w1.alloc (.cells #[] 3))) := HB.out.alloc HB.out.size _
    clear hb hom HM
    go_wp2_with fail
    go_ret2
    exact ⟨_, _, rfl, HO.out, HB.out⟩
end Go.Proofs.Ytpiegllffkjneaa
