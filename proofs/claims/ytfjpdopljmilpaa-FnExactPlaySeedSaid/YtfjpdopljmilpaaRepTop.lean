/-
  The contracts of the reference's IsReplay, BoardAt and ReplayScore.
-/
import Derived.Test.YtfjpdopljmilpaaRepSpec
namespace Go.Proofs.Ytfjpdopljmilpaa
open Go.RowKit Plain
attribute [local go_sem] store_new
set_option linter.unusedVariables false
set_option linter.unusedSimpArgs false
set_option maxHeartbeats 1000000 in
theorem specIs_any (f : Nat → Int) (v : Value) (n : Nat) (h : Nat → Int) (w : World) (hv : KRow 4 w v n h) (hn : n ≤ 1048576) :
    Calls Try.prog 168 #[.agg (rpl f v)] w fun e w' => e = .returned (.bool (rplO f h n)) ∧ Below w.heap.size w w' := by
  have K1 := Rp.new w f v 29
  have HB0 := Lib.hid ((Below.refl w.heap.size w).alloc (Nat.le_refl _) (.cells (rpl f v) 29))
  have HV := Lib.hid (hv.below ((Below.refl w.heap.size w).alloc (Nat.le_refl _) (.cells (rpl f v) 29)))
  go_enter Try.func168, Try.ntmps168
  go_wp2_with ((with_reducible show wpList _ _ _ (Oper.mk _ (Op.load 29 _) _ _ _ _ :: _) _ _); refine loadRp (K1) rfl rfl rfl ?_)
  refine (l11Boards_any f v n h _ HV.out hn).mono ?_
  rintro e w1 ⟨u, rfl, _, _, hb⟩
  have HB : Hid (Below w.heap.size w w1) := HB0.out.trans (hb.mono HB0.out.size)
  clear hb HB0
  go_wp2_with fail
  go_ret
  exact ⟨rfl, HB.out⟩
set_option maxHeartbeats 1000000 in
theorem specScore_any (f : Nat → Int) (v : Value) (n : Nat) (h : Nat → Int) (w : World) (hv : KRow 4 w v n h) (hn : n ≤ 1048576) :
    Calls Try.prog 30 #[.agg (rpl f v)] w fun e w' => e = .returned (.tuple #[.int .i64 (rscS f h n), .bool (rplO f h n)]) ∧ Below w.heap.size w w' := by
  have K1 := Rp.new w f v 29
  have HB0 := Lib.hid ((Below.refl w.heap.size w).alloc (Nat.le_refl _) (.cells (rpl f v) 29))
  have HV := Lib.hid (hv.below ((Below.refl w.heap.size w).alloc (Nat.le_refl _) (.cells (rpl f v) 29)))
  go_enter Try.func30, Try.ntmps30
  go_wp2_with ((with_reducible show wpList _ _ _ (Oper.mk _ (Op.load 29 _) _ _ _ _ :: _) _ _); refine loadRp (K1) rfl rfl rfl ?_)
  refine (l11Boards_any f v n h _ HV.out hn).mono ?_
  rintro e w1 ⟨u, rfl, _, _, hb⟩
  have HB : Hid (Below w.heap.size w w1) := HB0.out.trans (hb.mono HB0.out.size)
  clear hb HB0
  go_wp2_with fail
  go_ret2
  exact ⟨rfl, HB.out⟩
set_option maxHeartbeats 2000000 in
theorem specAt_any (f : Nat → Int) (v : Value) (n : Nat) (h : Nat → Int) (k : Int) (w : World) (hv : KRow 4 w v n h) (hn : n ≤ 1048576) :
    Calls Try.prog 27 #[.agg (rpl f v), .int .i64 k] w fun e w' => e = .returned (.tuple #[.agg (mk 16 (ratB f h n k)), .bool (ratO f h n k)]) ∧ Below w.heap.size w w' := by
  have z16 := zero16
  have K1 := (Rp.new w f v 29).alloc (.cells (mk 16 fun _ => 0) 26)
  have K3 := Blk.new (w.alloc (.cells (rpl f v) 29)) 16 (fun _ => 0) 26
  have HB0 := Lib.hid (((Below.refl w.heap.size w).alloc (Nat.le_refl _) (.cells (rpl f v) 29)).alloc (by simp) (.cells (mk 16 fun _ => 0) 26))
  have HV := Lib.hid (hv.below (((Below.refl w.heap.size w).alloc (Nat.le_refl _) (.cells (rpl f v) 29)).alloc (by simp) (.cells (mk 16 fun _ => 0) 26)))
  simp only [World.size_alloc] at K3
  by_cases hR : RpOk f h n
  · by_cases hk : 0 ≤ k ∧ k ≤ n
    · obtain ⟨y1, y2⟩ := rat_yes (f := f) (h := h) (n := n) (k := k) ⟨hR, hk⟩
      rw [y1, y2]
      clear y1 y2
      obtain ⟨q, rfl⟩ := Int.eq_ofNat_of_zero_le hk.1
      rw [Int.toNat_natCast]
      have hq : q ≤ n := by omega
      have HR := Lib.hid hR
      have HE : Hid (rbR f h n = rbL f h (n + 1)) := by show _ = _; unfold rbR; rw [if_pos hR]
      have h40 := hR.2.1
      have HCon := l11Boards_any f v n h _ HV.out hn
      rw [rplO_yes hR, HE.out, rbL_len] at HCon
      have HCon := Lib.hid HCon
      clear hR
      go_enter Try.func27, Try.ntmps27
      go_wp2_with ((with_reducible show wpList _ _ _ (Oper.mk _ (Op.load 29 _) _ _ _ _ :: _) _ _); refine loadRp (K1) rfl rfl rfl ?_)
      refine HCon.out.mono ?_
      clear HCon
      rintro e w1 ⟨u, rfl, ⟨g, cap, rfl⟩, ho, hb⟩
      have K3 := K3.below hb K3.lt
      have HB : Hid (Below w.heap.size w w1) := HB0.out.trans (hb.mono HB0.out.size)
      have HLN : Hid ((rbL f h (n + 1)).length = n + 1) := rbL_len f h _
      obtain ⟨_, _, e1, _, CO⟩ := KRow.of_list (rbL_all f h (n + 1)) (OwnsL.len HLN.out ho)
      cases e1
      rw [HLN.out] at CO
      have HFM : Hid (mk 16 (fun i => flatF (rbL f h (n + 1)) (q * 16 + i)) = mk 16 (pyB f h q)) := by
        show _ = _
        rw [flatF_mk (rbL_all f h _) (rbL_get f h (by omega))]
        exact mk_congr fun i hi => fn_cl _ i hi
      clear hb HB0 ho K1 HV
      have d1 : (0 : Int) ≤ (q : Int) := by omega
      have d2 : (q : Int) ≤ (n : Int) := by omega
      have q1 : IntKind.i64.wrap ((n : Int) + 1 - 1) = (n : Int) := by rw [show (n : Int) + 1 - 1 = (n : Int) by omega]; exact IntWalk.i64_in _ (by omega)
      go_wp2_with fail
      refine (l1In_yes (q : Int) 0 (n : Int) _ d1 d2).mono ?_
      rintro e w' ⟨rfl, rfl⟩
      have d3 : ¬ ((n : Int) + 1 ≤ (q : Int)) := by omega
      go_wp2_with (first | ((with_reducible show wpList _ _ _ (Oper.mk _ (Op.load 26 _) _ _ _ _ :: _) _ _); refine loadAB (CO) (by omega) rfl rfl rfl ?_) | ((with_reducible show wpList _ _ _ (Oper.mk _ (Op.store 26 _ _) _ _ _ _ :: _) _ _); refine storeB (K3) rfl rfl rfl rfl ?_))
      try simp only [Exit.inBlock, Exit.then]
      rw [HFM.out]
      exact retctB (K3.row 16 _) rfl rfl rfl ⟨rfl, below_setRow HB.out (by omega) _⟩
    · obtain ⟨y1, y2⟩ := rat_no (f := f) (h := h) (n := n) (k := k) (fun q => hk q.2)
      rw [y1, y2]
      clear y1 y2
      have HE : Hid (rbR f h n = rbL f h (n + 1)) := by show _ = _; unfold rbR; rw [if_pos hR]
      have h40 := hR.2.1
      have HCon := l11Boards_any f v n h _ HV.out hn
      rw [rplO_yes hR, HE.out, rbL_len] at HCon
      have HCon := Lib.hid HCon
      have HK := Lib.hid (show k < 0 ∨ (n : Int) < k by omega)
      clear hR hk
      go_enter Try.func27, Try.ntmps27
      go_wp2_with ((with_reducible show wpList _ _ _ (Oper.mk _ (Op.load 29 _) _ _ _ _ :: _) _ _); refine loadRp (K1) rfl rfl rfl ?_)
      refine HCon.out.mono ?_
      clear HCon
      rintro e w1 ⟨u, rfl, ⟨g, cap, rfl⟩, ho, hb⟩
      have K3 := K3.below hb K3.lt
      have HB : Hid (Below w.heap.size w w1) := HB0.out.trans (hb.mono HB0.out.size)
      clear hb HB0 ho K1 HV
      have q1 : IntKind.i64.wrap ((n : Int) + 1 - 1) = (n : Int) := by rw [show (n : Int) + 1 - 1 = (n : Int) by omega]; exact IntWalk.i64_in _ (by omega)
      go_wp2_with fail
      refine (l1In_no k 0 (n : Int) _ HK.out).mono ?_
      rintro e w' ⟨rfl, rfl⟩
      go_wp2_with ((with_reducible show wpList _ _ _ (Oper.mk _ (Op.store 26 _ _) _ _ _ _ :: _) _ _); refine storeB (K3) rfl rfl rfl rfl ?_)
      try simp only [Exit.inBlock, Exit.then]
      exact retctB (K3.row 16 _) rfl rfl rfl ⟨rfl, below_setRow HB.out (by omega) _⟩
  · obtain ⟨y1, y2⟩ := rat_no (f := f) (h := h) (n := n) (k := k) (fun q => hR q.1)
    rw [y1, y2]
    clear y1 y2
    have HCon := l11Boards_any f v n h _ HV.out hn
    rw [rplO_no hR] at HCon
    have HCon := Lib.hid HCon
    clear hR
    go_enter Try.func27, Try.ntmps27
    go_wp2_with ((with_reducible show wpList _ _ _ (Oper.mk _ (Op.load 29 _) _ _ _ _ :: _) _ _); refine loadRp (K1) rfl rfl rfl ?_)
    refine HCon.out.mono ?_
    clear HCon
    rintro e w1 ⟨u, rfl, ⟨g, cap, rfl⟩, ho, hb⟩
    have K3 := K3.below hb K3.lt
    have HB : Hid (Below w.heap.size w w1) := HB0.out.trans (hb.mono HB0.out.size)
    clear hb HB0 ho K1 HV
    go_wp2_with ((with_reducible show wpList _ _ _ (Oper.mk _ (Op.store 26 _ _) _ _ _ _ :: _) _ _); refine storeB (K3) rfl rfl rfl rfl ?_)
    try simp only [Exit.inBlock, Exit.then]
    exact retctB (K3.row 16 _) rfl rfl rfl ⟨rfl, below_setRow HB.out (by omega) _⟩
end Go.Proofs.Ytfjpdopljmilpaa
