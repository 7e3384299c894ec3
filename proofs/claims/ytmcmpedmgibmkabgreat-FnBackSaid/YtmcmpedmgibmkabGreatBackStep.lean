/-
  The contracts of BackStep, in the reference and in the program, for every board and every two numbers.
-/
import Derived.Test.YtmcmpedmgibmkabGreatSpecSB
import Derived.Test.YtmcmpedmgibmkabGreatImplBB
import Derived.Test.YtmcmpedmgibmkabGreatBackA
namespace Go.Proofs.YtmcmpedmgibmkabGreat
open Go.RowKit Plain
attribute [local go_sem] store_new
set_option linter.unusedVariables false
set_option linter.unusedSimpArgs false

set_option maxHeartbeats 1000000 in
set_option maxRecDepth 20000 in
theorem specBack_any (f : Nat → Int) (d k : Int) (w : World) :
    Calls Tryz.prog 24 #[.agg (mk 16 f), .int .i64 d, .int .i64 k] w fun e w' => e = .returned (.tuple #[.agg (mk 16 (bsB f d k)), .bool (bsO f d k)]) ∧ Below w.heap.size w w' := by
  have z16 := zero16
  have K1 := (Blk.new w 16 f 27).alloc (.cells (mk 16 fun _ => 0) 27)
  have K2 := Blk.new (w.alloc (.cells (mk 16 f) 27)) 16 (fun _ => 0) 27
  have HB := Lib.hid (((Below.refl w.heap.size w).alloc (Nat.le_refl _) (.cells (mk 16 f) 27)).alloc (by simp) (.cells (mk 16 fun _ => 0) 27))
  simp only [World.size_alloc] at K2
  have hle := bbR_le f d
  have HC := Lib.hid (fun W => specBB_any f d W)
  by_cases hB : BbOk f d
  · rw [(bb_yes hB).1] at HC
    by_cases hk : 0 ≤ k ∧ k < ((bbR f d).length : Int)
    · obtain ⟨x, hx, e⟩ := bs_in ⟨hB, hk⟩
      rw [(bs_yes ⟨hB, hk⟩).1, e]
      obtain ⟨k, rfl⟩ := Int.eq_ofNat_of_zero_le hk.1
      rw [Int.toNat_natCast] at hx
      have HX := Lib.hid hx
      have hk0 : (0 : Int) ≤ (k : Int) := by omega
      have hk1 : (k : Int) < ((bbR f d).length : Int) := hk.2
      have hkn : k < (bbR f d).length := by omega
      have hw : IntKind.i64.wrap (((bbR f d).length : Int) - 1) = ((bbR f d).length : Int) - 1 := IntWalk.i64_in _ (by omega)
      clear hx e hk hB
      go_enter Tryz.func24, Tryz.ntmps24
      go_wp2_with ((with_reducible show wpList _ _ _ (Oper.mk _ (Op.load 27 _) _ _ _ _ :: _) _ _); refine loadB (K1) rfl rfl rfl ?_)
      refine (HC.out _).mono ?_
      rintro e w1 ⟨g, cap, rfl, ho, hb⟩
      have K2 := K2.below hb K2.lt
      have HB : Hid (Below w.heap.size w w1) := HB.out.trans (hb.mono HB.out.size)
      obtain ⟨_, _, e1, _, CS⟩ := KRow.of_list (bbR_len f d) ho
      cases e1
      have HF : Hid (mk 16 (fun j => flatF (bbR f d) (k * 16 + j)) = mk 16 (fn x)) := mk_congr fun j hj => flatF_at (bbR_len f d) HX.out hj
      clear hb ho HX
      generalize hN : (bbR f d).length = n at *
      generalize flatF (bbR f d) = h at *
      have hla : ∀ {ops : Array Oper} {rest : List Oper} {o : Oper} {a : Act} {W : World} {Q : Exit → Act → World → Prop} {y : Operand}, CAt W g (n * 16) h → o.guard = none → o.op = .load 27 y → a.eval y = .pointer (some ⟨g, k * 16, none⟩) →
          wpList Tryz.prog ops Q rest (a.put o.dst (.agg (mk 16 (fn x)))) W → wpList Tryz.prog ops Q (o :: rest) a W := fun hg hgd ho hx hh => loadAB hg (by omega) hgd ho hx (by rw [HF.out]; exact hh)
      go_wp2_with fail
      refine (l1In_yes _ _ _ _ hk0 (by omega)).mono ?_
      rintro e w2 ⟨rfl, rfl⟩
      go_wp2_with (first | ((with_reducible show wpList _ _ _ (Oper.mk _ (Op.load 27 _) _ _ _ _ :: _) _ _); refine hla CS rfl rfl rfl ?_) | ((with_reducible show wpList _ _ _ (Oper.mk _ (Op.store 27 _ _) _ _ _ _ :: _) _ _); refine storeB (K2) rfl rfl rfl rfl ?_))
      try simp only [Exit.inBlock, Exit.then]
      exact retctB (K2.row 16 _) rfl rfl rfl ⟨rfl, below_setRow HB.out (by omega) _⟩
    · have hno : ¬ BsOk f d k := fun h => hk h.2
      rw [(bs_no hno).1, (bs_no hno).2]
      have HK : Hid (k < 0 ∨ ((bbR f d).length : Int) - 1 < k) := by show _ ∨ _; omega
      have hw : IntKind.i64.wrap (((bbR f d).length : Int) - 1) = ((bbR f d).length : Int) - 1 := IntWalk.i64_in _ (by omega)
      clear hk hno hB
      go_enter Tryz.func24, Tryz.ntmps24
      go_wp2_with ((with_reducible show wpList _ _ _ (Oper.mk _ (Op.load 27 _) _ _ _ _ :: _) _ _); refine loadB (K1) rfl rfl rfl ?_)
      refine (HC.out _).mono ?_
      rintro e w1 ⟨g, cap, rfl, ho, hb⟩
      have K2 := K2.below hb K2.lt
      have HB : Hid (Below w.heap.size w w1) := HB.out.trans (hb.mono HB.out.size)
      clear hb ho
      generalize (bbR f d).length = n at *
      go_wp2_with fail
      refine (l1In_no _ _ _ _ HK.out).mono ?_
      rintro e w2 ⟨rfl, rfl⟩
      go_wp2_with ((with_reducible show wpList _ _ _ (Oper.mk _ (Op.store 27 _ _) _ _ _ _ :: _) _ _); refine storeB (K2) rfl rfl rfl rfl ?_)
      try simp only [Exit.inBlock, Exit.then]
      exact retctB (K2.row 16 _) rfl rfl rfl ⟨rfl, below_setRow HB.out (by omega) _⟩
  · have hno : ¬ BsOk f d k := fun h => hB h.1
    rw [(bs_no hno).1, (bs_no hno).2]
    rw [(bb_no hB).1] at HC
    clear hno hB
    go_enter Tryz.func24, Tryz.ntmps24
    go_wp2_with ((with_reducible show wpList _ _ _ (Oper.mk _ (Op.load 27 _) _ _ _ _ :: _) _ _); refine loadB (K1) rfl rfl rfl ?_)
    refine (HC.out _).mono ?_
    rintro e w1 ⟨g, cap, rfl, ho, hb⟩
    have K2 := K2.below hb K2.lt
    have HB : Hid (Below w.heap.size w w1) := HB.out.trans (hb.mono HB.out.size)
    clear hb ho
    generalize (bbR f d).length = n at *
    go_wp2_with ((with_reducible show wpList _ _ _ (Oper.mk _ (Op.store 27 _ _) _ _ _ _ :: _) _ _); refine storeB (K2) rfl rfl rfl rfl ?_)
    try simp only [Exit.inBlock, Exit.then]
    exact retctB (K2.row 16 _) rfl rfl rfl ⟨rfl, below_setRow HB.out (by omega) _⟩
set_option maxHeartbeats 1000000 in
set_option maxRecDepth 20000 in
theorem implBack_any (f : Nat → Int) (d k : Int) (w : World) :
    Calls Tryz.prog 23 #[.agg (mk 16 f), .int .i64 d, .int .i64 k] w fun e w' => e = .returned (.tuple #[.agg (mk 16 (bsB f d k)), .bool (bsO f d k)]) ∧ Below w.heap.size w w' := by
  have z16 := zero16
  have K1 := (Blk.new w 16 f 27).alloc (.cells (mk 16 fun _ => 0) 27)
  have K2 := Blk.new (w.alloc (.cells (mk 16 f) 27)) 16 (fun _ => 0) 27
  have HB := Lib.hid (((Below.refl w.heap.size w).alloc (Nat.le_refl _) (.cells (mk 16 f) 27)).alloc (by simp) (.cells (mk 16 fun _ => 0) 27))
  simp only [World.size_alloc] at K2
  have hle := bbR_le f d
  have HC := Lib.hid (fun W => implBB_any f d W)
  by_cases hB : BbOk f d
  · rw [(bb_yes hB).1] at HC
    by_cases hk : 0 ≤ k ∧ k < ((bbR f d).length : Int)
    · obtain ⟨x, hx, e⟩ := bs_in ⟨hB, hk⟩
      rw [(bs_yes ⟨hB, hk⟩).1, e]
      obtain ⟨k, rfl⟩ := Int.eq_ofNat_of_zero_le hk.1
      rw [Int.toNat_natCast] at hx
      have HX := Lib.hid hx
      have hk0 : ¬ ((k : Int) < 0) := by omega
      have hk1 : ¬ (((bbR f d).length : Int) ≤ (k : Int)) := by omega
      have hk2 : (k : Int) < ((bbR f d).length : Int) := hk.2
      have hk3 : (0 : Int) ≤ (k : Int) := by omega
      have hkn : k < (bbR f d).length := by omega
      clear hx e hk hB
      go_enter Tryz.func23, Tryz.ntmps23
      go_wp2_with ((with_reducible show wpList _ _ _ (Oper.mk _ (Op.load 27 _) _ _ _ _ :: _) _ _); refine loadB (K1) rfl rfl rfl ?_)
      refine (HC.out _).mono ?_
      rintro e w1 ⟨g, cap, rfl, ho, hb⟩
      have K2 := K2.below hb K2.lt
      have HB : Hid (Below w.heap.size w w1) := HB.out.trans (hb.mono HB.out.size)
      obtain ⟨_, _, e1, _, CS⟩ := KRow.of_list (bbR_len f d) ho
      cases e1
      have HF : Hid (mk 16 (fun j => flatF (bbR f d) (k * 16 + j)) = mk 16 (fn x)) := mk_congr fun j hj => flatF_at (bbR_len f d) HX.out hj
      clear hb ho HX
      generalize hN : (bbR f d).length = n at *
      generalize flatF (bbR f d) = h at *
      have hla : ∀ {ops : Array Oper} {rest : List Oper} {o : Oper} {a : Act} {W : World} {Q : Exit → Act → World → Prop} {y : Operand}, CAt W g (n * 16) h → o.guard = none → o.op = .load 27 y → a.eval y = .pointer (some ⟨g, k * 16, none⟩) →
          wpList Tryz.prog ops Q rest (a.put o.dst (.agg (mk 16 (fn x)))) W → wpList Tryz.prog ops Q (o :: rest) a W := fun hg hgd ho hx hh => loadAB hg (by omega) hgd ho hx (by rw [HF.out]; exact hh)
      go_wp2_with (first | ((with_reducible show wpList _ _ _ (Oper.mk _ (Op.load 27 _) _ _ _ _ :: _) _ _); refine hla CS rfl rfl rfl ?_) | ((with_reducible show wpList _ _ _ (Oper.mk _ (Op.store 27 _ _) _ _ _ _ :: _) _ _); refine storeB (K2) rfl rfl rfl rfl ?_))
      try simp only [Exit.inBlock, Exit.then]
      exact retctB (K2.row 16 _) rfl rfl rfl ⟨rfl, below_setRow HB.out (by omega) _⟩
    · have hno : ¬ BsOk f d k := fun h => hk h.2
      rw [(bs_no hno).1, (bs_no hno).2]
      by_cases hk0 : k < 0
      · clear hk hno hB
        go_enter Tryz.func23, Tryz.ntmps23
        go_wp2_with ((with_reducible show wpList _ _ _ (Oper.mk _ (Op.load 27 _) _ _ _ _ :: _) _ _); refine loadB (K1) rfl rfl rfl ?_)
        refine (HC.out _).mono ?_
        rintro e w1 ⟨g, cap, rfl, ho, hb⟩
        have K2 := K2.below hb K2.lt
        have HB : Hid (Below w.heap.size w w1) := HB.out.trans (hb.mono HB.out.size)
        clear hb ho
        generalize (bbR f d).length = n at *
        go_wp2_with ((with_reducible show wpList _ _ _ (Oper.mk _ (Op.store 27 _ _) _ _ _ _ :: _) _ _); refine storeB (K2) rfl rfl rfl rfl ?_)
        try simp only [Exit.inBlock, Exit.then]
        exact retctB (K2.row 16 _) rfl rfl rfl ⟨rfl, below_setRow HB.out (by omega) _⟩
      · have hk1 : ((bbR f d).length : Int) ≤ k := by omega
        clear hk hno hB
        go_enter Tryz.func23, Tryz.ntmps23
        go_wp2_with ((with_reducible show wpList _ _ _ (Oper.mk _ (Op.load 27 _) _ _ _ _ :: _) _ _); refine loadB (K1) rfl rfl rfl ?_)
        refine (HC.out _).mono ?_
        rintro e w1 ⟨g, cap, rfl, ho, hb⟩
        have K2 := K2.below hb K2.lt
        have HB : Hid (Below w.heap.size w w1) := HB.out.trans (hb.mono HB.out.size)
        clear hb ho
        generalize (bbR f d).length = n at *
        go_wp2_with ((with_reducible show wpList _ _ _ (Oper.mk _ (Op.store 27 _ _) _ _ _ _ :: _) _ _); refine storeB (K2) rfl rfl rfl rfl ?_)
        try simp only [Exit.inBlock, Exit.then]
        exact retctB (K2.row 16 _) rfl rfl rfl ⟨rfl, below_setRow HB.out (by omega) _⟩
  · have hno : ¬ BsOk f d k := fun h => hB h.1
    rw [(bs_no hno).1, (bs_no hno).2]
    rw [(bb_no hB).1] at HC
    clear hno hB
    go_enter Tryz.func23, Tryz.ntmps23
    go_wp2_with ((with_reducible show wpList _ _ _ (Oper.mk _ (Op.load 27 _) _ _ _ _ :: _) _ _); refine loadB (K1) rfl rfl rfl ?_)
    refine (HC.out _).mono ?_
    rintro e w1 ⟨g, cap, rfl, ho, hb⟩
    have K2 := K2.below hb K2.lt
    have HB : Hid (Below w.heap.size w w1) := HB.out.trans (hb.mono HB.out.size)
    clear hb ho
    generalize (bbR f d).length = n at *
    go_wp2_with ((with_reducible show wpList _ _ _ (Oper.mk _ (Op.store 27 _ _) _ _ _ _ :: _) _ _); refine storeB (K2) rfl rfl rfl rfl ?_)
    try simp only [Exit.inBlock, Exit.then]
    exact retctB (K2.row 16 _) rfl rfl rfl ⟨rfl, below_setRow HB.out (by omega) _⟩
end Go.Proofs.YtmcmpedmgibmkabGreat
