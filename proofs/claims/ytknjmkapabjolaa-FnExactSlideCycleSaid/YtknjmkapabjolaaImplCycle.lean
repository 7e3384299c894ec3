/-
  The contract of the program's SlideCycle: what the plain text CycleFirst tells. No condition.
-/
import Derived.Test.YtknjmkapabjolaaSpecCycle
import Derived.Test.YtknjmkapabjolaaMapNum
import Derived.Test.YtknjmkapabjolaaImplNexts
namespace Go.Proofs.Ytknjmkapabjolaa
open Go.RowKit Plain
attribute [local go_sem] store_new
set_option linter.unusedVariables false
set_option linter.unusedSimpArgs false

namespace Plain
theorem cyT_mem {f h : Nat → Int} {n : Nat} {x : List Int} : ∀ m, x ∈ cyT f h n m ↔ ∃ i, i < m ∧ x = cl 16 (cyB f h n i)
  | 0 => ⟨fun q => (by cases q), fun ⟨i, hi, _⟩ => by omega⟩
  | m + 1 => by
    show x ∈ cyT f h n m ++ [_] ↔ _
    rw [List.mem_append, cyT_mem m, List.mem_singleton]
    constructor
    · rintro (⟨i, hi, e⟩ | e)
      · exact ⟨i, by omega, e⟩
      · exact ⟨m, by omega, e⟩
    · rintro ⟨i, hi, e⟩
      by_cases q : i = m
      · subst q; exact .inr e
      · exact .inl ⟨i, by omega, e⟩
theorem cy_out {f : Nat → Int} (hf : Vd f) {h : Nat → Int} {n : Nat} (hs : Sides h n) {m : Nat} (hm : m < cyJ f h n) : cl 16 (cyB f h n m) ∉ cyT f h n m := fun q => by
  obtain ⟨i, hi, e⟩ := (cyT_mem m).1 q
  have := cy_apart hf hs hi hm
  rw [sameB_iff.2 fun j hj => (cl_inj.1 e j hj).symm] at this
  cases this
theorem cy_in {f : Nat → Int} (hf : Vd f) {h : Nat → Int} {n : Nat} (hs : Sides h n) : cl 16 (cyB f h n (cyJ f h n)) ∈ cyT f h n (cyJ f h n) := by
  obtain ⟨h1, h2⟩ := cyI_is hf hs
  exact (cyT_mem _).2 ⟨_, h1, cl_inj.2 fun j hj => (sameB_iff.1 h2 j hj).symm⟩
end Plain
theorem ix_cyT {f : Nat → Int} (hf : Vd f) {h : Nat → Int} {n : Nat} (hs : Sides h n) {i : Nat} : ∀ m, m ≤ cyJ f h n → i < m → ixS (cyT f h n m) (cl 16 (cyB f h n i)) = (i : Int)
  | 0, _, hi => by omega
  | m + 1, hm, hi => by
    show ixS (cyT f h n m ++ [_]) _ = _
    rw [ixS_snoc (cy_out hf hs (by omega)), cyT_len]
    by_cases q : i = m
    · subst q; rw [if_pos rfl]
    · rw [if_neg, ix_cyT hf hs m (by omega) (by omega)]
      intro e
      have := cy_apart hf hs (show i < m by omega) (show m < cyJ f h n by omega)
      rw [sameB_iff.2 (cl_inj.1 e)] at this
      cases this
theorem ix_back {f : Nat → Int} (hf : Vd f) {h : Nat → Int} {n : Nat} (hs : Sides h n) : ixS (cyT f h n (cyJ f h n)) (cl 16 (cyB f h n (cyJ f h n))) = (cyI f h n : Nat) := by
  obtain ⟨h1, h2⟩ := cyI_is hf hs
  rw [← cl_inj.2 (sameB_iff.1 h2)]
  exact ix_cyT hf hs _ (Nat.le_refl _) h1
theorem wf_len {m : Nat} (hm : m ≤ 802967000000) : (Lit.int .i64 (m : Int)).wf = true := WalkArith.wf_i64 (by omega)
theorem zeroInt (w : World) : (zeroValue 3).run Try.prog w = .ok (.int .i64 0) w := by kernel_rfl
set_option maxHeartbeats 8000000 in
set_option maxRecDepth 100000 in
theorem implCycle_yes (f : Nat → Int) (v : Value) (n : Nat) (h : Nat → Int) (w : World) (hr : IRow w v n h) (hV : Vd f) (hn1 : 1 ≤ n) (hn4 : n ≤ 4) (hS : Sides h n) :
    Calls Try.prog 38 #[.agg (mk 16 f), v] w fun e w' => e = .returned (.tuple #[.int .i64 (cyI f h n : Nat), .int .i64 ((cyJ f h n - cyI f h n : Nat) : Int), .bool true]) ∧ Below w.heap.size w w' := by
  have z16 := zero16
  obtain ⟨g, cap, rfl, hcap, hc⟩ := hr
  have hc : CAt w g n h := hc
  have hg0 := hc.1
  obtain ⟨hJ, _, _⟩ := cyJ_is hV hS
  obtain ⟨hI, _⟩ := cyI_is hV hS
  have HIX := Lib.hid (ix_back hV hS)
  have HIN := Lib.hid (decide_eq_true (cy_in hV hS))
  have HOUT := Lib.hid (fun m (hm : m < cyJ f h n) => cy_out hV hS hm)
  have HLEN := Lib.hid (fun m => cyT_len f h n m)
  have HVV := Lib.hid (fun k => cyB_vd hV h n k)
  have HDS : Hid (∀ k W, CAt W g n h → Calls Try.prog 25 #[.agg (mk 16 (cyB f h n k)), .slice (some ⟨g, 0, none⟩) n cap] W fun e w' => e = .returned (.tuple #[.agg (mk 16 (cyB f h n (k + 1))), .int .i64 (mdS (cyB f h n k) h n), .bool true]) ∧ Below W.heap.size W w') := fun k W q => by
    have r := implDoS_any (cyB f h n k) (.slice (some ⟨g, 0, none⟩) n cap) n h W ⟨g, cap, rfl, hcap, q⟩ (by omega)
    obtain ⟨y1, y2, y3⟩ := ds_yes (f := cyB f h n k) (h := h) (n := n) ⟨HVV.out k, hS⟩
    rw [y1, y2, y3] at r
    exact r
  have HJ := Lib.hid hJ
  have K2 := Blk.new w 16 f 29
  have R1 := Lib.hid (hc.alloc (.cells (mk 16 f) 29))
  have HB := Lib.hid ((Below.refl w.heap.size w).alloc (Nat.le_refl _) (.cells (mk 16 f) 29))
  have hJ0 : 1 ≤ cyJ f h n := by omega
  clear hS hJ hc
  generalize hJJ : cyJ f h n = J at *
  generalize hII : cyI f h n = I at *
  have hn0 : ¬ (n : Int) = 0 := by omega
  have hn5 : ¬ (n : Int) > 4 := by omega
  have hn6 : ¬ (4 : Int) < (n : Int) := by omega
  have hmm := @run_makeMap Try.prog
  go_enter Try.func38, Try.ntmps38
  go_wp2_with ((with_reducible show wpList _ _ _ (Oper.mk _ (Op.load 29 _) _ _ _ _ :: _) _ _); refine loadB (K2) rfl rfl rfl ?_)
  refine (HDS.out 0 _ R1.out).mono ?_
  rintro e w1 ⟨rfl, hb⟩
  have R1 := Lib.hid ((R1.out.below hb).alloc (.cells (mk 16 (cyB f h n (0 + 1))) 29))
  have K2 := (K2.below hb K2.lt).alloc (.cells (mk 16 (cyB f h n (0 + 1))) 29)
  have K7 := Blk.new w1 16 (cyB f h n (0 + 1)) 29
  have HB := HB.out.trans (hb.mono HB.out.size)
  have hs1 : w.heap.size ≤ w1.heap.size := HB.size
  have HB : Hid (Below w.heap.size w (w1.alloc (.cells (mk 16 (cyB f h n (0 + 1))) 29))) := HB.alloc HB.size _
  clear hb
  have HSn : Hid (Nums Try.prog 29 3 16 ((w1.alloc (.cells (mk 16 (cyB f h n (0 + 1))) 29)).alloc (.map #[] 0)) (w1.heap.size + 1) 0 []) := by
    have q := Nums.made (w1.alloc (.cells (mk 16 (cyB f h n (0 + 1))) 29)) Try.prog 29 3 16
    simp only [World.size_alloc] at q
    exact q
  have hsz := HB.out.size
  simp only [World.size_alloc] at hsz
  have K2 := K2.alloc (.map #[] 0)
  have K7 := K7.alloc (.map #[] 0)
  have R1 := Lib.hid (R1.out.alloc (.map #[] 0))
  have HB : Hid (Below w.heap.size w ((w1.alloc (.cells (mk 16 (cyB f h n (0 + 1))) 29)).alloc (.map #[] 0))) := HB.out.alloc HB.out.size _
  go_wp2_with (first | ((with_reducible show wpList _ _ _ (Oper.mk _ (Op.load 29 _) _ _ _ _ :: _) _ _); refine loadB (K2) rfl rfl rfl ?_) | ((with_reducible show wpList _ _ _ (Oper.mk _ (Op.insert _ _ _ _) _ _ _ _ :: _) _ _); refine wpList_ins_num _ rfl _ _ _ 104 rfl 29 3 keyedB5 Try.underlying104 Try.underlying3 (w1.heap.size + 1) 0 16 [] f rfl HSn.out (by unfold maxLen; omega) (by simp) (wf_len (m := 0) (by omega)) rfl rfl (keyB5 (wf_vd hV)) ?_))
  intro w2 HS2 hg2
  clear hmm K2
  generalize w1.heap.size = b7 at *
  have K7 := K7.grown hg2 (by simp)
  have R1 := Lib.hid (R1.out.grown hg2 (by simp only [ne_eq, Option.some.injEq]; omega))
  have HB : Hid (Below w.heap.size w w2) := HB.out.grown hg2 HB.out.size (fun j hj => by cases hj; omega)
  have HSn : Hid (Nums Try.prog 29 3 16 w2 (b7 + 1) 1 (cyT f h n 1)) := HS2
  clear hg2 HS2
  go_wp2_with (first | ((with_reducible show wpList _ _ _ (Oper.mk _ (Op.load 29 _) _ _ _ _ :: _) _ _); refine loadB (K7) rfl rfl rfl ?_) | ((with_reducible show wpList _ _ _ (Oper.mk _ (Op.lookup _ _ _ true) _ _ _ _ :: _) _ _); refine wpList_look_num _ rfl _ _ 104 rfl 29 3 keyedB5 Try.underlying104 Try.underlying3 (zeroInt _) (b7 + 1) 1 16 (cyT f h n 1) (cyB f h n 1) rfl HSn.out rfl (keyB5 (wf_vd (HVV.out _))) ?_))
  go_loopg [11, 12] (J - 1) (fun gk s11 s12 wr => ∃ m : Nat, m + gk = J ∧ s11 = .int .i64 (ixS (cyT f h n m) (cl 16 (cyB f h n m))) ∧ s12 = .bool (decide (cl 16 (cyB f h n m) ∈ cyT f h n m)) ∧ Hid (Nums Try.prog 29 3 16 wr (b7 + 1) m (cyT f h n m)) ∧ Blk wr b7 16 (cyB f h n m) 29 ∧ Hid (CAt wr g n h) ∧ Hid (Below w.heap.size w wr))
  case atStart => exact ⟨1, by omega, rfl, rfl, HSn, K7, R1, HB⟩
  case round =>
    clear HSn K7 R1 HB
    obtain ⟨m, hmg, rfl, rfl, HSn, K7, R1, HB⟩ := hrel
    have hL := fun ty => HSn.out.len (t := 104) Try.underlying104 ty
    rw [HLEN.out m] at hL
    cases gk with
    | zero =>
      have e : m = J := by omega
      have hd : decide (cl 16 (cyB f h n m) ∈ cyT f h n m) = true := by rw [e]; exact HIN.out
      have hx : ixS (cyT f h n m) (cl 16 (cyB f h n m)) = (I : Int) := by rw [e]; exact HIX.out
      have hw : IntKind.i64.wrap ((m : Int) - (I : Int)) = ((J - I : Nat) : Int) := by rw [e]; exact (IntWalk.i64_in _ (by have := HJ.out; omega)).trans (by omega)
      rw [hd, hx]
      clear e hd hx hmg
      go_wp2_with fail
      go_ret3
      exact ⟨rfl, HB.out⟩
    | succ gk2 =>
      have hm : m < J := by omega
      have hS := HOUT.out m hm
      have HS := Lib.hid hS
      rw [decide_eq_false hS]
      clear hS
      have hJJ := HJ.out
      have hmJ : m ≤ 802967000000 := by omega
      clear hJJ
      have hszB := HB.out.size
      go_wp2_with (first | ((with_reducible show wpList _ _ _ (Oper.mk _ (Op.load 29 _) _ _ _ _ :: _) _ _); refine loadB (K7) rfl rfl rfl ?_) | ((with_reducible show wpList _ _ _ (Oper.mk _ (Op.mapUpdate _ _ _ _) _ _ _ _ :: _) _ _); refine wpList_put_num _ rfl _ _ _ 104 rfl 29 3 keyedB5 Try.underlying104 Try.underlying3 (b7 + 1) m 16 (cyT f h n m) (cyB f h n m) rfl HSn.out (by unfold maxLen; omega) HS.out (by rw [HLEN.out m]; exact wf_len hmJ) rfl (by rw [HLEN.out m]; rfl) (keyB5 (wf_vd (HVV.out m))) ?_))
      intro w6 HS6 hg6
      have K7 := K7.grown hg6 (by simp)
      have R1 := Lib.hid (R1.out.grown hg6 (by simp only [ne_eq, Option.some.injEq]; omega))
      have HB : Hid (Below w.heap.size w w6) := HB.out.grown hg6 HB.out.size (fun j hj => by cases hj; omega)
      have HSn : Hid (Nums Try.prog 29 3 16 w6 (b7 + 1) (m + 1) (cyT f h n (m + 1))) := HS6
      clear hg6 HS6 hL
      go_wp2_with ((with_reducible show wpList _ _ _ (Oper.mk _ (Op.load 29 _) _ _ _ _ :: _) _ _); refine loadB (K7) rfl rfl rfl ?_)
      refine (HDS.out m _ R1.out).mono ?_
      rintro e w7 ⟨rfl, hb⟩
      have HSn : Hid (Nums Try.prog 29 3 16 w7 (b7 + 1) (m + 1) (cyT f h n (m + 1))) := HSn.out.below hb HSn.out.lt
      have K7 := K7.below hb K7.lt
      have hgr : w7.grownBy (w7.setRow b7 (mk 16 (cyB f h n (m + 1)))) (some b7) := grown_row K7 _
      have HSn : Hid (Nums Try.prog 29 3 16 (w7.setRow b7 (mk 16 (cyB f h n (m + 1)))) (b7 + 1) (m + 1) (cyT f h n (m + 1))) := HSn.out.kept hgr (by simp)
      have K7r := K7.row 16 (cyB f h n (m + 1))
      have R1 := Lib.hid ((R1.out.below hb).grown hgr (by simp only [ne_eq, Option.some.injEq]; omega))
      have HB := HB.out.trans (hb.mono HB.out.size)
      have HB : Hid (Below w.heap.size w (w7.setRow b7 (mk 16 (cyB f h n (m + 1))))) := below_setRow HB (by omega) _
      clear hb hgr
      go_wp2_with (first | ((with_reducible show wpList _ _ _ (Oper.mk _ (Op.store 29 _ _) _ _ _ _ :: _) _ _); refine storeB (K7) rfl rfl rfl rfl ?_) | ((with_reducible show wpList _ _ _ (Oper.mk _ (Op.load 29 _) _ _ _ _ :: _) _ _); refine loadB (K7r) rfl rfl rfl ?_) | ((with_reducible show wpList _ _ _ (Oper.mk _ (Op.lookup _ _ _ true) _ _ _ _ :: _) _ _); refine wpList_look_num _ rfl _ _ 104 rfl 29 3 keyedB5 Try.underlying104 Try.underlying3 (zeroInt _) (b7 + 1) (m + 1) 16 (cyT f h n (m + 1)) (cyB f h n (m + 1)) rfl HSn.out rfl (keyB5 (wf_vd (HVV.out _))) ?_))
      go_roundg gk2
      case rel => exact ⟨m + 1, by omega, rfl, rfl, HSn, K7r, R1, HB⟩
      case measure => omega
set_option maxHeartbeats 1000000 in
theorem implCycle_any (f : Nat → Int) (v : Value) (n : Nat) (h : Nat → Int) (w : World) (hr : IRow w v n h) (hn : n ≤ 1048576) :
    Calls Try.prog 38 #[.agg (mk 16 f), v] w fun e w' => e = .returned (.tuple #[.int .i64 (cyA f h n), .int .i64 (cyL f h n), .bool (cyO f h n)]) ∧ Below w.heap.size w w' := by
  by_cases hO : CyOk f h n
  · obtain ⟨y1, y2, y3⟩ := cy_yes hO
    rw [y1, y2, y3]
    exact implCycle_yes f v n h w hr hO.1 hO.2.1.1 hO.2.1.2 hO.2.2
  · obtain ⟨y1, y2, y3⟩ := cy_no hO
    rw [y1, y2, y3]
    clear y1 y2 y3
    have z16 := zero16
    have K2 := Blk.new w 16 f 29
    have R1 := Lib.hid (hr.below ((Below.refl w.heap.size w).alloc (Nat.le_refl _) (.cells (mk 16 f) 29)))
    have HB := Lib.hid ((Below.refl w.heap.size w).alloc (Nat.le_refl _) (.cells (mk 16 f) 29))
    obtain ⟨g, cap, rfl, _⟩ := hr
    by_cases h14 : 1 ≤ n ∧ n ≤ 4
    · have hD : ¬ DsOk f h n := fun q => hO ⟨q.1, h14, q.2⟩
      have r := implDoS_any f (.slice (some ⟨g, 0, none⟩) n cap) n h _ R1.out hn
      obtain ⟨y1, y2, y3⟩ := ds_no hD
      rw [y1, y2, y3] at r
      have IR := Lib.hid r
      clear r y1 y2 y3 hD hO
      have hn0 : ¬ (n : Int) = 0 := by omega
      have hn5 : ¬ (n : Int) > 4 := by omega
      have hn6 : ¬ (4 : Int) < (n : Int) := by omega
      go_enter Try.func38, Try.ntmps38
      go_wp2_with ((with_reducible show wpList _ _ _ (Oper.mk _ (Op.load 29 _) _ _ _ _ :: _) _ _); refine loadB (K2) rfl rfl rfl ?_)
      refine IR.out.mono ?_
      rintro e w1 ⟨rfl, hb⟩
      have HB := HB.out.trans (hb.mono HB.out.size)
      have HB : Hid (Below w.heap.size w (w1.alloc (.cells (mk 16 fun _ => 0) 29))) := HB.alloc HB.size _
      clear hb IR
      go_wp2_with fail
      go_ret3
      exact ⟨rfl, HB.out⟩
    · by_cases h0 : n = 0
      · subst h0
        go_enter Try.func38, Try.ntmps38
        go_wp2_with ((with_reducible show wpList _ _ _ (Oper.mk _ (Op.load 29 _) _ _ _ _ :: _) _ _); refine loadB (K2) rfl rfl rfl ?_)
        go_ret3
        exact ⟨rfl, HB.out⟩
      · have hn0 : ¬ (n : Int) = 0 := by omega
        have hn5 : (n : Int) > 4 := by omega
        have hn6 : (4 : Int) < (n : Int) := by omega
        go_enter Try.func38, Try.ntmps38
        go_wp2_with ((with_reducible show wpList _ _ _ (Oper.mk _ (Op.load 29 _) _ _ _ _ :: _) _ _); refine loadB (K2) rfl rfl rfl ?_)
        go_ret3
        exact ⟨rfl, HB.out⟩
end Go.Proofs.Ytknjmkapabjolaa
