/-
  The contracts of RefuteMove, in the reference and in the program, for every board and two numbers.
-/
import Derived.Test.YtlboglcpbbnbcabLastTop
import Derived.Test.YtlboglcpbbnbcabImplSlideBoard
namespace Go.Proofs.Ytlboglcpbbnbcab
open Go.RowKit Go.Shelf Plain
attribute [local go_sem] store_new Oper.semAt_some
set_option linter.unusedVariables false
set_option linter.unusedSimpArgs false
set_option maxHeartbeats 2000000 in
theorem specRefute_any (f : Nat → Int) (d n : Int) (w : World) :
    Calls Try.prog 57 #[.agg (mk 16 f), .int .i64 d, .int .i64 n] w fun e w' => e = .returned (.tuple #[.agg (mk 3 (plF (rfP (rmR f d n)))), .bool (rmR f d n).isSome]) ∧ Below w.heap.size w w' := by
  have z3 := zero3
  have z16 := zero16
  have iE : ∀ (f g : Nat → Int) (w : World), (Op.equalIn 10000 29 (.agg (mk 16 f)) (.agg (mk 16 g))).run Try.prog w = .ok (sameB f g) w := eqB 9996
  have K1 := (Blk.new w 16 f 29).alloc (.cells (mk 3 fun _ => 0) 70)
  have K2 := Blk.new (w.alloc (.cells (mk 16 f) 29)) 3 (fun _ => 0) 70
  have HB := Lib.hid (((Below.refl w.heap.size w).alloc (Nat.le_refl _) (.cells (mk 16 f) 29)).alloc (by simp) (.cells (mk 3 fun _ => 0) 70))
  simp only [World.size_alloc] at K2
  by_cases hV : Vd f
  · have HV := Lib.hid hV
    clear hV
    by_cases hd : 0 ≤ d ∧ d ≤ 3
    · obtain ⟨d0, d3⟩ := hd
      by_cases hn : 1 ≤ n ∧ n ≤ 3
      · obtain ⟨n0, n1⟩ := hn
        by_cases hm : isMv f d.toNat = true
        · have hrm := rm_yes (f := f) (d := d) (n := n) ⟨⟨HV.out, d0, d3⟩, hm, n0, n1⟩
          obtain ⟨m, hm9⟩ := Int.eq_ofNat_of_zero_le (show 0 ≤ n - 1 by omega)
          have hm8 : n.toNat - 1 = m := by omega
          rw [hm8] at hrm
          rw [hrm]
          clear hrm hm8
          have hq : sameB (slideB f d.toNat) f = false := by simpa [isMv] using hm
          have HC := Lib.hid (fun W => rf_all m (by omega) (slideB f d.toNat) n W (slideB_vd HV.out d.toNat) hm9)
          generalize rfF m (slideB f d.toNat) (plA (slideB f d.toNat)) = R at *
          clear hm hm9
          go_enter Try.func57, Try.ntmps57
          go_wp2_with ((with_reducible show wpList _ _ _ (Oper.mk _ (Op.load 29 _) _ _ _ _ :: _) _ _); refine loadB (K1) rfl rfl rfl ?_)
          refine (l2Board_yes _ _ HV.out).mono ?_
          rintro e w1 ⟨rfl, hb⟩
          have K1 := K1.below hb K1.lt
          have K2 := K2.below hb K2.lt
          have HB : Hid (Below w.heap.size w w1) := HB.out.trans (hb.mono HB.out.size)
          clear hb
          go_wp2_with fail
          refine (l2Side_yes _ _ d0 d3).mono ?_
          rintro e w2 ⟨rfl, rfl⟩
          go_wp2_with fail
          refine (l1In_yes _ 1 3 _ n0 n1).mono ?_
          rintro e w2 ⟨rfl, rfl⟩
          go_wp2_with ((with_reducible show wpList _ _ _ (Oper.mk _ (Op.load 29 _) _ _ _ _ :: _) _ _); refine loadB (K1) rfl rfl rfl ?_)
          refine (l2Slide_any f d _ HV.out d0 d3).mono ?_
          rintro e w3 ⟨rfl, hb⟩
          have K1 := K1.below hb K1.lt
          have K2 := K2.below hb K2.lt
          have HB : Hid (Below w.heap.size w w3) := HB.out.trans (hb.mono HB.out.size)
          clear hb
          have K9 := Blk.new w3 16 (slideB f d.toNat) 29
          have K1 := K1.alloc (.cells (mk 16 (slideB f d.toNat)) 29)
          have K2 := K2.alloc (.cells (mk 16 (slideB f d.toNat)) 29)
          have HB : Hid (Below w.heap.size w (w3.alloc (.cells (mk 16 (slideB f d.toNat)) 29))) := HB.out.alloc HB.out.size _
          go_wp2_with (first | ((with_reducible show wpList _ _ _ (Oper.mk _ (Op.load 29 _) _ _ _ _ :: _) _ _); refine loadB (K9) rfl rfl rfl ?_) | ((with_reducible show wpList _ _ _ (Oper.mk _ (Op.load 29 _) _ _ _ _ :: _) _ _); refine loadB (K1) rfl rfl rfl ?_) | ((with_reducible show wpList _ _ _ (Oper.mk _ (Op.load 29 _) _ _ _ (some _) :: _) _ _); refine loadgB (K9) rfl rfl rfl ?_) | ((with_reducible show wpList _ _ _ (Oper.mk _ (Op.load 29 _) _ _ _ (some _) :: _) _ _); refine loadgB (K1) rfl rfl rfl ?_))
          refine (HC.out _).mono ?_
          rintro e w5 ⟨rfl, hb⟩
          have K2 := K2.below hb K2.lt
          have HB : Hid (Below w.heap.size w w5) := HB.out.trans (hb.mono HB.out.size)
          clear hb
          go_wp2_with ((with_reducible show wpList _ _ _ (Oper.mk _ (Op.store 70 _ _) _ _ _ _ :: _) _ _); refine storeA (K2) rfl rfl rfl rfl ?_)
          try simp only [Exit.inBlock, Exit.then]
          exact retctA (K2.row 3 _) rfl rfl rfl ⟨rfl, below_setRow HB.out (by omega) _⟩
        · have hm : isMv f d.toNat = false := by simpa using hm
          have hno : ¬ RefOk f d n := fun h => by have := h.2.1; rw [hm] at this; cases this
          rw [rm_no hno]
          clear hno
          have hq : sameB (slideB f d.toNat) f = true := by simpa [isMv] using hm
          clear hm
          go_enter Try.func57, Try.ntmps57
          go_wp2_with ((with_reducible show wpList _ _ _ (Oper.mk _ (Op.load 29 _) _ _ _ _ :: _) _ _); refine loadB (K1) rfl rfl rfl ?_)
          refine (l2Board_yes _ _ HV.out).mono ?_
          rintro e w1 ⟨rfl, hb⟩
          have K1 := K1.below hb K1.lt
          have K2 := K2.below hb K2.lt
          have HB : Hid (Below w.heap.size w w1) := HB.out.trans (hb.mono HB.out.size)
          clear hb
          go_wp2_with fail
          refine (l2Side_yes _ _ d0 d3).mono ?_
          rintro e w2 ⟨rfl, rfl⟩
          go_wp2_with fail
          refine (l1In_yes _ 1 3 _ n0 n1).mono ?_
          rintro e w2 ⟨rfl, rfl⟩
          go_wp2_with ((with_reducible show wpList _ _ _ (Oper.mk _ (Op.load 29 _) _ _ _ _ :: _) _ _); refine loadB (K1) rfl rfl rfl ?_)
          refine (l2Slide_any f d _ HV.out d0 d3).mono ?_
          rintro e w3 ⟨rfl, hb⟩
          have K1 := K1.below hb K1.lt
          have K2 := K2.below hb K2.lt
          have HB : Hid (Below w.heap.size w w3) := HB.out.trans (hb.mono HB.out.size)
          clear hb
          have K9 := Blk.new w3 16 (slideB f d.toNat) 29
          have K1 := K1.alloc (.cells (mk 16 (slideB f d.toNat)) 29)
          have K2 := K2.alloc (.cells (mk 16 (slideB f d.toNat)) 29)
          have HB : Hid (Below w.heap.size w (w3.alloc (.cells (mk 16 (slideB f d.toNat)) 29))) := HB.out.alloc HB.out.size _
          go_wp2_with (first | ((with_reducible show wpList _ _ _ (Oper.mk _ (Op.load 29 _) _ _ _ _ :: _) _ _); refine loadB (K9) rfl rfl rfl ?_) | ((with_reducible show wpList _ _ _ (Oper.mk _ (Op.load 29 _) _ _ _ _ :: _) _ _); refine loadB (K1) rfl rfl rfl ?_) | ((with_reducible show wpList _ _ _ (Oper.mk _ (Op.load 29 _) _ _ _ (some _) :: _) _ _); refine loadgB (K9) rfl rfl rfl ?_) | ((with_reducible show wpList _ _ _ (Oper.mk _ (Op.load 29 _) _ _ _ (some _) :: _) _ _); refine loadgB (K1) rfl rfl rfl ?_) | ((with_reducible show wpList _ _ _ (Oper.mk _ (Op.store 70 _ _) _ _ _ _ :: _) _ _); refine storeA (K2) rfl rfl rfl rfl ?_))
          try simp only [Exit.inBlock, Exit.then]
          refine retctA (K2.row 3 _) rfl rfl rfl ⟨?_, below_setRow HB.out (by omega) _⟩
          have hz := mk_plF0
          show _ = Ending.returned (.tuple #[.agg (mk 3 (plF (0, 0))), .bool false])
          rw [hz]
          rfl
      · have hno : ¬ RefOk f d n := fun h => hn h.2.2
        have HN := Lib.hid (show n < 1 ∨ 3 < n by omega)
        rw [rm_no hno]
        clear hno
        clear hn
        go_enter Try.func57, Try.ntmps57
        go_wp2_with ((with_reducible show wpList _ _ _ (Oper.mk _ (Op.load 29 _) _ _ _ _ :: _) _ _); refine loadB (K1) rfl rfl rfl ?_)
        refine (l2Board_yes _ _ HV.out).mono ?_
        rintro e w1 ⟨rfl, hb⟩
        have K1 := K1.below hb K1.lt
        have K2 := K2.below hb K2.lt
        have HB : Hid (Below w.heap.size w w1) := HB.out.trans (hb.mono HB.out.size)
        clear hb
        go_wp2_with fail
        refine (l2Side_yes _ _ d0 d3).mono ?_
        rintro e w2 ⟨rfl, rfl⟩
        go_wp2_with fail
        refine (l1In_no _ 1 3 _ HN.out).mono ?_
        rintro e w2 ⟨rfl, rfl⟩
        go_wp2_with (first | ((with_reducible show wpList _ _ _ (Oper.mk _ (Op.load 29 _) _ _ _ _ :: _) _ _); refine loadB (K1) rfl rfl rfl ?_) | ((with_reducible show wpList _ _ _ (Oper.mk _ (Op.load 29 _) _ _ _ (some _) :: _) _ _); refine loadgB (K1) rfl rfl rfl ?_) | ((with_reducible show wpList _ _ _ (Oper.mk _ (Op.store 70 _ _) _ _ _ _ :: _) _ _); refine storeA (K2) rfl rfl rfl rfl ?_))
        try simp only [Exit.inBlock, Exit.then]
        refine retctA (K2.row 3 _) rfl rfl rfl ⟨?_, below_setRow HB.out (by omega) _⟩
        have hz := mk_plF0
        show _ = Ending.returned (.tuple #[.agg (mk 3 (plF (0, 0))), .bool false])
        rw [hz]
        rfl
    · have hno : ¬ RefOk f d n := fun h => hd h.1.2
      have HD := Lib.hid (show d < 0 ∨ 3 < d by omega)
      rw [rm_no hno]
      clear hno
      clear hd
      go_enter Try.func57, Try.ntmps57
      go_wp2_with ((with_reducible show wpList _ _ _ (Oper.mk _ (Op.load 29 _) _ _ _ _ :: _) _ _); refine loadB (K1) rfl rfl rfl ?_)
      refine (l2Board_yes _ _ HV.out).mono ?_
      rintro e w1 ⟨rfl, hb⟩
      have K1 := K1.below hb K1.lt
      have K2 := K2.below hb K2.lt
      have HB : Hid (Below w.heap.size w w1) := HB.out.trans (hb.mono HB.out.size)
      clear hb
      go_wp2_with fail
      refine (l2Side_no _ _ HD.out).mono ?_
      rintro e w2 ⟨rfl, rfl⟩
      go_wp2_with (first | ((with_reducible show wpList _ _ _ (Oper.mk _ (Op.load 29 _) _ _ _ _ :: _) _ _); refine loadB (K1) rfl rfl rfl ?_) | ((with_reducible show wpList _ _ _ (Oper.mk _ (Op.load 29 _) _ _ _ (some _) :: _) _ _); refine loadgB (K1) rfl rfl rfl ?_) | ((with_reducible show wpList _ _ _ (Oper.mk _ (Op.store 70 _ _) _ _ _ _ :: _) _ _); refine storeA (K2) rfl rfl rfl rfl ?_))
      try simp only [Exit.inBlock, Exit.then]
      refine retctA (K2.row 3 _) rfl rfl rfl ⟨?_, below_setRow HB.out (by omega) _⟩
      have hz := mk_plF0
      show _ = Ending.returned (.tuple #[.agg (mk 3 (plF (0, 0))), .bool false])
      rw [hz]
      rfl
  · have hno : ¬ RefOk f d n := fun h => hV h.1.1
    have HV := Lib.hid hV
    rw [rm_no hno]
    clear hno
    clear hV
    go_enter Try.func57, Try.ntmps57
    go_wp2_with ((with_reducible show wpList _ _ _ (Oper.mk _ (Op.load 29 _) _ _ _ _ :: _) _ _); refine loadB (K1) rfl rfl rfl ?_)
    refine (l2Board_no _ _ HV.out).mono ?_
    rintro e w1 ⟨rfl, hb⟩
    have K1 := K1.below hb K1.lt
    have K2 := K2.below hb K2.lt
    have HB : Hid (Below w.heap.size w w1) := HB.out.trans (hb.mono HB.out.size)
    clear hb
    go_wp2_with (first | ((with_reducible show wpList _ _ _ (Oper.mk _ (Op.load 29 _) _ _ _ _ :: _) _ _); refine loadB (K1) rfl rfl rfl ?_) | ((with_reducible show wpList _ _ _ (Oper.mk _ (Op.load 29 _) _ _ _ (some _) :: _) _ _); refine loadgB (K1) rfl rfl rfl ?_) | ((with_reducible show wpList _ _ _ (Oper.mk _ (Op.store 70 _ _) _ _ _ _ :: _) _ _); refine storeA (K2) rfl rfl rfl rfl ?_))
    try simp only [Exit.inBlock, Exit.then]
    refine retctA (K2.row 3 _) rfl rfl rfl ⟨?_, below_setRow HB.out (by omega) _⟩
    have hz := mk_plF0
    show _ = Ending.returned (.tuple #[.agg (mk 3 (plF (0, 0))), .bool false])
    rw [hz]
    rfl
theorem loadgIn {F : Fence} {n : Nat} {P : Program} {w : World} {ops : Array Oper} {rest : List Oper} {o : Oper} {a : Act} {Q : Exit → Act → World → Prop} {x : Operand} {b m : Nat} {f : Nat → Int} {t ty : TypeId} {d : TypeDesc}
    (hg : Blk w b m f t) (hw : Region.wanted o (yielded ops a.tmps) = true) (ho : o.op = .load ty x) (hx : a.eval x = .pointer (some ⟨b, 0, none⟩)) (hu : P.underlying ty = some d) (hr : d.isRow = true) (hi : (P.info? ty).map (·.size) = some m)
    (h : wpListIn F n P ops Q rest (a.put o.dst (.agg (mk m f))) w) : wpListIn F n P ops Q (o :: rest) a w := by
  refine wpListIn_step fun K hK => ?_
  simp only [hw, if_true]
  unfold Oper.wpIn
  refine ⟨fun f hf => (by simp [Oper.about, ho] at hf), ?_⟩
  rw [Oper.semAt_plain F _ _ (fun c e => by rw [ho] at e; cases e), exec_load_blk ty x ho hx hg hu hr hi]
  exact hK _ _ h
theorem results_cc {fn : Func} {tmps : Array Value} {w : World} {p q : Tmp} {t : TypeId} {b c : Nat} {f : Nat → Int} {v : Bool}
    (hg : Blk w b 3 f t) (hb : Boxed w c 4 (.bool v))
    (h : fn.results = #[.cell p 70, .cell q 4]) (hp : tmps.getD p undef = .pointer (some ⟨b, 0, none⟩)) (hq : tmps.getD q undef = .pointer (some ⟨c, 0, none⟩)) :
    (results fn tmps).run Try.prog w = .ok (.tuple #[.agg (mk 3 f), .bool v]) w := by
  have hp' : tmps[p]?.getD undef = .pointer (some ⟨b, 0, none⟩) := by simpa using hp
  have hq' : tmps[q]?.getD undef = .pointer (some ⟨c, 0, none⟩) := by simpa using hq
  have h1 := run_load_blk (P := Try.prog) hg Try.underlying70 rfl sizeA
  have c0 := hb.cell
  have h2 : (loadVar 4 ⟨c, 0, none⟩).run Try.prog w = .ok (.bool v) w := by clear h1 hp hq hp' hq' h; go_simp
  simp [results, h, hp', hq', asAddr, h1, h2, Result.andThen]
set_option maxHeartbeats 4000000 in
set_option maxRecDepth 100000 in
theorem implRefute_any (f : Nat → Int) (d n : Int) (w : World) :
    Calls Try.prog 56 #[.agg (mk 16 f), .int .i64 d, .int .i64 n] w fun e w' => e = .returned (.tuple #[.agg (mk 3 (plF (rfP (rmR f d n)))), .bool (rmR f d n).isSome]) ∧ Below w.heap.size w w' := by
  have hmm := @run_makeMap Try.prog
  have z3 := zero3
  have z16 := zero16
  have iE : ∀ (f g : Nat → Int) (w : World), (Op.equalIn 10000 29 (.agg (mk 16 f)) (.agg (mk 16 g))).run Try.prog w = .ok (sameB f g) w := eqB 9996
  have K3 := (((Blk.new w 16 f 29).alloc (.cells #[.int .i64 n] 3)).alloc (.cells (mk 3 fun _ => 0) 70)).alloc (.cells #[.bool false] 4)
  have K5 := ((Boxed.new (w.alloc (.cells (mk 16 f) 29)) 3 (.int .i64 n)).alloc (.cells (mk 3 fun _ => 0) 70)).alloc (.cells #[.bool false] 4)
  have K6 := (Blk.new ((w.alloc (.cells (mk 16 f) 29)).alloc (.cells #[.int .i64 n] 3)) 3 (fun _ => 0) 70).alloc (.cells #[.bool false] 4)
  have K7 := Boxed.new (((w.alloc (.cells (mk 16 f) 29)).alloc (.cells #[.int .i64 n] 3)).alloc (.cells (mk 3 fun _ => 0) 70)) 4 (.bool false)
  have HB : Hid (Below w.heap.size w ((((w.alloc (.cells (mk 16 f) 29)).alloc (.cells #[.int .i64 n] 3)).alloc (.cells (mk 3 fun _ => 0) 70)).alloc (.cells #[.bool false] 4))) :=
    ((((Below.refl w.heap.size w).alloc (Nat.le_refl _) _).alloc (by simp) _).alloc (by simp; omega) _).alloc (by simp; omega) _
  simp only [World.size_alloc] at K5 K6 K7
  by_cases hs : SlideOk f d
  · have HSL := Lib.hid (implSlide_any f d)
    obtain ⟨s1, s2, s3, _⟩ := slide_yes hs
    rw [s1, s2, s3] at HSL
    clear s1 s2 s3
    by_cases hm : isMv f d.toNat = true
    · by_cases hn : 1 ≤ n ∧ n ≤ 3
      · obtain ⟨n0, n1⟩ := hn
        have hrm := rm_yes (f := f) (d := d) (n := n) ⟨hs, hm, n0, n1⟩
        obtain ⟨m, hm9⟩ := Int.eq_ofNat_of_zero_le (show 0 ≤ n - 1 by omega)
        have hm8 : n.toNat - 1 = m := by omega
        rw [hm8] at hrm
        rw [hrm]
        have hm2 : m ≤ 2 := by omega
        have hq : sameB (slideB f d.toNat) f = false := by simpa [isMv] using hm
        have HVS := Lib.hid (slideB_vd hs.1 d.toNat)
        have HNM := Lib.hid hm9
        have h3 : ¬ n < 1 := by omega
        have h4 : ¬ n > 3 := by omega
        clear hrm hm8 hm hs hm9
        obtain ⟨g, hg9⟩ : ∃ g, g = slideB f d.toNat := ⟨_, rfl⟩
        rw [← hg9] at HVS hq HSL ⊢
        clear hg9
        refine (callsIn_wide (n := 8)).1 ?_
        refine callsIn_of_wp_marks Try.func56 rfl trivial ?_ rfl
        simp only [Try.ntmps56, List.size_toArray, List.length_cons, List.length_nil, Nat.reduceAdd, Nat.reduceSub, Array.replicate_succ, Array.replicate_zero, List.push_toArray, List.append_toArray, List.nil_append, List.cons_append]
        gi_wp2_with ((with_reducible show wpListIn _ _ _ _ _ (Oper.mk _ (Op.load 29 _) _ _ _ _ :: _) _ _); refine loadIn (K3) rfl rfl rfl Try.underlying29 rfl sizeB ?_)
        first | refine ⟨trivial, fun _ => by omega, ?_⟩ | refine ⟨trivial, ?_⟩
        refine (callsIn_wide.2 (HSL.out _)).mono ?_
        rintro e w3 ⟨rfl, hb⟩
        have K3 := (K3.below hb K3.lt).alloc (.cells (mk 16 (g)) 29)
        have K5 := (box_low K5 hb).alloc (.cells (mk 16 (g)) 29)
        have K6 := (K6.below hb K6.lt).alloc (.cells (mk 16 (g)) 29)
        have K7 := (box_low K7 hb).alloc (.cells (mk 16 (g)) 29)
        have K8 := Blk.new w3 16 (g) 29
        have HB3 : Hid (Below w.heap.size w w3) := HB.out.trans (hb.mono HB.out.size)
        have HB : Hid (Below w.heap.size w (w3.alloc (.cells (mk 16 (g)) 29))) := HB3.out.alloc HB3.out.size _
        have hlt8 : w.heap.size + 1 + 1 + 1 < w3.heap.size := by have := hb.size; have := K7.lt; have := HB3.out.size; simp at *; omega
        clear hb HB3
        have c5 := K5.cell
        have K8c := (K8.alloc (.map #[] 0)).alloc (.cells #[.map (some (w3.alloc (.cells (mk 16 g) 29)).heap.size)] 122)
        simp only [World.size_alloc] at K8c
        gi_wp2_with (first | ((with_reducible show wpListIn _ _ _ _ _ (Oper.mk _ (Op.load 29 _) _ _ _ _ :: _) _ _); refine loadIn (K8c) rfl rfl rfl Try.underlying29 rfl sizeB ?_) | ((with_reducible show wpListIn _ _ _ _ _ (Oper.mk _ (Op.load 29 _) _ _ _ _ :: _) _ _); refine loadIn (K8) rfl rfl rfl Try.underlying29 rfl sizeB ?_) | ((with_reducible show wpListIn _ _ _ _ _ (Oper.mk _ (Op.load 29 _) _ _ _ _ :: _) _ _); refine loadIn (K3) rfl rfl rfl Try.underlying29 rfl sizeB ?_) | ((with_reducible show wpListIn _ _ _ _ _ (Oper.mk _ (Op.load 29 _) _ _ _ (some _) :: _) _ _); refine loadgIn (K8) rfl rfl rfl Try.underlying29 rfl sizeB ?_) | ((with_reducible show wpListIn _ _ _ _ _ (Oper.mk _ (Op.load 29 _) _ _ _ (some _) :: _) _ _); refine loadgIn (K3) rfl rfl rfl Try.underlying29 rfl sizeB ?_))
        first | refine ⟨trivial, fun _ => by omega, ?_⟩ | refine ⟨trivial, ?_⟩
        refine (callsIn_wide.2 (replies_in _ _)).mono ?_
        rintro e w6 ⟨rfl, hw6⟩
        obtain ⟨KM, hKM⟩ : ∃ KM, KM = w3.heap.size + 1 := ⟨_, rfl⟩
        have HG : Hid (Good (((w3.alloc (.cells (mk 16 g) 29)).alloc (.map #[] 0)).alloc (.cells #[.map (some KM)] 122)) KM 0) := by
          have := (Good.made (w3.alloc (.cells (mk 16 g) 29))).alloc (.cells #[.map (some KM)] 122)
          simp only [World.size_alloc] at this
          rw [← hKM] at this
          exact this
        have K11 := Boxed.new ((w3.alloc (.cells (mk 16 g) 29)).alloc (.map #[] 0)) 122 (.map (some KM))
        have K5 := (K5.alloc (.map #[] 0)).alloc (.cells #[.map (some KM)] 122)
        have K6 := (K6.alloc (.map #[] 0)).alloc (.cells #[.map (some KM)] 122)
        have K7 := (K7.alloc (.map #[] 0)).alloc (.cells #[.map (some KM)] 122)
        have HB : Hid (Below w.heap.size w (((w3.alloc (.cells (mk 16 g) 29)).alloc (.map #[] 0)).alloc (.cells #[.map (some KM)] 122))) := (HB.out.alloc HB.out.size _).alloc (by have := HB.out.size; simp at *; omega) _
        simp only [World.size_alloc] at K11
        rw [← hKM] at hw6 K11 ⊢
        have hs5 : (((w3.alloc (.cells (mk 16 g) 29)).alloc (.map #[] 0)).alloc (.cells #[.map (some KM)] 122)).heap.size = KM + 2 := by rw [hKM]; simp
        have hwK : w.heap.size + 1 + 1 + 1 < KM := by omega
        clear c5 K8 K8c K3 hKM
        generalize ((w3.alloc (.cells (mk 16 g) 29)).alloc (.map #[] 0)).alloc (.cells #[.map (some KM)] 122) = w5 at *
        have KR := Blk.new w5 16 g 29
        rw [← hw6] at KR
        have hvia : Via KM w5 w6 := by rw [hw6]; exact Via.low ((Below.refl _ w5).alloc (Nat.le_refl _) _) HG.out.map
        have K5 := hvia.box K5
        have K6 := hvia.blk K6
        have K7 := hvia.box K7
        have K11 := hvia.box K11
        have HB : Hid (Below w.heap.size w w6) := Via.under HB.out hvia (by omega)
        have HG : Hid (Good w6 KM 0) := by show Good _ _ _; rw [hw6]; exact HG.out.alloc _
        have hs6 : w6.heap.size = KM + 3 := by rw [hw6]; simp; omega
        have HKM : Hid (KM < w6.heap.size) := by show _ < _; omega
        clear hw6 hvia
        rw [hs5] at KR ⊢
        clear hs5
        generalize w3.heap.size = q8 at *
        obtain ⟨t6, ht6⟩ : ∃ t, t = w.heap.size + 1 + 1 := ⟨_, rfl⟩
        obtain ⟨t7, ht7⟩ : ∃ t, t = w.heap.size + 1 + 1 + 1 := ⟨_, rfl⟩
        rw [← ht7] at K7
        rw [← ht6] at K6
        have hwN : IntKind.i64.wrap (n - 1) = n - 1 := IntWalk.i64_in _ (by omega)
        clear HSL hq
        gi_wp2
        refine over_repliesP (n := 8) (by omega) HVS.out rfl rfl KR
          (fun pre Wx => Via KM w6 Wx ∧ Good Wx KM (pre.length * cst m) ∧ ∀ p, p ∈ vals pre → lastF m (plB g p) = true)
          (fun c pre Wx => c = .ret ∧ (∃ L x, vals pre = L ++ [x] ∧ (∀ p, p ∈ L → lastF m (plB g p) = true) ∧ lastF m (plB g x) = false ∧ Blk Wx t6 3 (plF x) 70) ∧ Boxed Wx t7 4 (.bool true) ∧ Below w.heap.size w Wx)
          (OwnFrom.and (ownFrom_via (Nat.le_refl _)) (OwnFrom.and (good_own _ HKM.out) (ownFrom_pure _ _)))
          (fun c => OwnFrom.and (ownFrom_pure _ _) (OwnFrom.and (fun s X Y row hs hg hr => by
              obtain ⟨L, x, e1, e2, e3, e4⟩ := hs
              exact ⟨L, x, e1, e2, e3, (Own.from (blk_own (β := Unit) _ _ _ _) _) () X Y row e4 hg hr⟩) (OwnFrom.and (Own.from (boxed_own _ _ (fun _ => _)) _) (ownFrom_below (by omega) (by omega)))))
          ⟨Via.refl HG.out.map, by simpa using HG.out, fun p hp => by cases hp⟩
          (fun x b c W => Blk W b 3 (plF x.1) 70 ∧ Blk W c 16 (plB g x.1) 29) (fun x b c => OwnFrom.and (Own.from (blk_own _ _ _ _) _) (Own.from (blk_own _ _ _ _) _)) ?A ?assign ?body ?done ?stop
        case assign =>
          rintro l pre x W C ⟨hv, hg, ha⟩ hC
          have hx := (Blk.new W 3 (plF x.1) 70).alloc (.cells (mk 16 (plB g x.1)) 29)
          have hy := Blk.new (W.alloc (.cells (mk 3 (plF x.1)) 70)) 16 (plB g x.1) 29
          have KRx := hv.blk KR
          have hvl := Via.low ((((Below.refl W.heap.size W).alloc (Nat.le_refl _) (.cells (mk 3 (plF x.1)) 70))).alloc (by simp) (.cells (mk 16 (plB g x.1)) 29)) hg.map
          have hgr : W.grownBy ((W.alloc (.cells (mk 3 (plF x.1)) 70)).alloc (.cells (mk 16 (plB g x.1)) 29)) none := below_grown ((((Below.refl W.heap.size W).alloc (Nat.le_refl _) _)).alloc (by simp) _)
          have hq := hC W.heap.size (W.heap.size + 1) ((W.alloc (.cells (mk 3 (plF x.1)) 70)).alloc (.cells (mk 16 (plB g x.1)) 29)) (KeepsFrom.of_grownBy hgr (fun j e => by cases e)) (Keeps2.grown KRx.lt hgr (fun r e => by cases e))
            ⟨hv.trans hvl, (hg.alloc _).alloc _, ha⟩ ⟨hx, by simpa using hy⟩
          have HQ := Lib.hid hq
          clear hC hv hg ha hx hy KRx hvl hgr hq
          gi_wp2
          have hq := HQ.out
          clear HQ
          generalize (W.alloc (.cells (mk 3 (plF x.1)) 70)).alloc (.cells (mk 16 (plB g x.1)) 29) = W2 at *
          generalize hc2 : W.heap.size + 1 = cq at *
          clear hc2
          generalize W.heap.size = bq at *
          exact hq
        case body =>
          rintro l pre x b c Wx hl hr ⟨hv, hg, ha⟩ ⟨hx, hy⟩ hlt
          have K5x := hv.box K5
          have K11x := hv.box K11
          have KRx := hv.blk KR
          have c5 := K5x.cell
          have c11 := K11x.cell
          have hp32 : pre.length + 1 ≤ 32 := by have := empN_le g 16; omega
          have e2 : (pre.length + 1) * cst m ≤ 32 * cst m := Nat.mul_le_mul_right _ hp32
          have e3 : (pre.length + 1) * cst m = pre.length * cst m + cst m := by rw [Nat.add_mul, Nat.one_mul]
          have hc129 : cst m ≤ 129 := by rcases (by omega : m = 0 ∨ m = 1 ∨ m = 2) with rfl | rfl | rfl <;> decide
          have HLX := last_all8 m (by omega) (plB g x.1) KM _ Wx (plB_vd HVS.out x.2) hg (by omega)
          rw [← HNM.out] at HLX
          have HLY := Lib.hid HLX
          have HHV := Lib.hid hv
          have HHG := Lib.hid hg
          have HHA := Lib.hid ha
          have HE := Lib.hid e3
          have HR9 := Lib.hid hr
          have HXX := Lib.hid hx
          clear HLX hv hg ha e2 e3 hp32 hr K5x K11x hc129
          gi_wp2_with ((with_reducible show wpListIn _ _ _ _ _ (Oper.mk _ (Op.load 29 _) _ _ _ _ :: _) _ _); refine loadIn (hy) rfl rfl rfl Try.underlying29 rfl sizeB ?_)
          first | refine ⟨trivial, fun _ => by omega, ?_⟩ | refine ⟨trivial, ?_⟩
          refine (CallsIn.inRound l (callsIn_wide.2 HLY.out)).mono ?_
          rintro e w7 ⟨rfl, hv7, hg7⟩
          have hkf := hv7.from HKM.out
          have hk2 := hv7.keeps2 KRx
          have hvt := HHV.out.trans hv7
          have hGN : Good w7 KM ((pre ++ [x]).length * cst m) := by
            refine hg7.more ?_
            rw [List.length_append]
            show _ ≤ (pre.length + 1) * cst m
            rw [HE.out]
            exact Nat.le_refl _
          have K6y := hvt.blk K6
          have K7y := hvt.box K7
          have hx7 := hv7.blk HXX.out
          have HQ := Lib.hid (And.intro hkf (And.intro hk2 (And.intro hvt hGN)))
          clear hkf hk2 hvt hGN hv7 hg7 c5 c11
          cases hq2 : lastF m (plB g x.1) with
          | true =>
            have HA2 : Hid (∀ p, p ∈ vals (pre ++ [x]) → lastF m (plB g p) = true) := by
              intro p hp
              rw [vals_snoc, List.mem_append, List.mem_singleton] at hp
              rcases hp with hp | rfl
              · exact HHA.out p hp
              · exact hq2
            clear hq2
            gi_wp2
            exact ⟨HQ.out.1, HQ.out.2.1, HQ.out.2.2.1, HQ.out.2.2.2, HA2.out⟩
          | false =>
            have HF2 := Lib.hid hq2
            have hne67 : t7 ≠ t6 := by omega
            have K7z := K7y.kept (grown_rowP K6y (mk 3 (plF x.1))) (sne hne67)
            have c7 := K7z.cell
            have f7 := K7z.frozen
            have hB7 : Below w.heap.size w w7 := Via.under HB.out HQ.out.2.2.1 (by omega)
            have HFIN : Hid (KeepsFrom w6.heap.size Wx ((w7.setRow t6 (mk 3 (plF x.1))).setCell ⟨t7, 0, none⟩ (.bool true)) ∧ Blk ((w7.setRow t6 (mk 3 (plF x.1))).setCell ⟨t7, 0, none⟩ (.bool true)) t6 3 (plF x.1) 70 ∧ Boxed ((w7.setRow t6 (mk 3 (plF x.1))).setCell ⟨t7, 0, none⟩ (.bool true)) t7 4 (.bool true) ∧ Below w.heap.size w ((w7.setRow t6 (mk 3 (plF x.1))).setCell ⟨t7, 0, none⟩ (.bool true))) :=
              ⟨(HQ.out.1.trans (KeepsFrom.of_grownBy (grown_rowP K6y _) (fun j e => by cases e; omega))).trans ((KeepsOthers.setCell _ _ _).from _), (K6y.row 3 (plF x.1)).grown (grownBy_setCell' _ _ _) (sne (fun e => hne67 e.symm)), K7z.set _,
               (below_setRow hB7 (by omega) _).setCell (p := ⟨t7, 0, none⟩) (by dsimp only; omega) _⟩
            rw [ht6] at K6y HFIN
            rw [ht7] at c7 f7 HFIN
            rw [ht6] at c7 f7
            clear hq2 K7z hB7 hne67
            gi_wp2_with (first | ((with_reducible show wpListIn _ _ _ _ _ (Oper.mk _ (Op.load 70 _) _ _ _ _ :: _) _ _); refine loadIn (hx7) rfl rfl rfl Try.underlying70 rfl sizeA ?_) | ((with_reducible show wpListIn _ _ _ _ _ (Oper.mk _ (Op.store 70 _ _) _ _ _ _ :: _) _ _); refine storeIn (K6y) rfl rfl rfl rfl sizeA ?_))
            refine ⟨HFIN.out.1, rfl, ⟨vals pre, x.1, vals_snoc _ _, HHA.out, HF2.out, ?_⟩, ?_, HFIN.out.2.2.2⟩
            · rw [ht6]; exact HFIN.out.2.1
            · rw [ht7]; exact HFIN.out.2.2.1
        case done =>
          rintro D ys Wx hD hys ⟨hv, hg, ha⟩ hK
          have HRN : Hid (rfF m g (plA g) = none) := by
            show _ = _
            unfold rfF
            rw [List.find?_eq_none]
            intro p hp
            rw [ha p (by unfold vals; rw [hys]; exact hp)]
            simp
          have K6x := hv.blk K6
          have K7x := hv.box K7
          have hB := Via.under HB.out hv (by omega)
          have hne67 : t7 ≠ t6 := by omega
          have K7z := K7x.kept (grown_rowP K6x (mk 3 fun _ => 0)) (sne hne67)
          have c7 := K7z.cell
          have f7 := K7z.frozen
          have hK2 : ((Wx.setRow t6 (mk 3 fun _ => 0)).setCell ⟨t7, 0, none⟩ (.bool false)).heap[D]? = some (.deferred (some [])) :=
            (Below.heap_setCell _ _ _ D (by dsimp only; omega)).trans ((setRow_other Wx t6 D _ (by omega)).trans hK)
          have gp := grownBy_putObj' ((Wx.setRow t6 (mk 3 fun _ => 0)).setCell ⟨t7, 0, none⟩ (.bool false)) D (.deferred none)
          have HFIN : Hid (Blk (((Wx.setRow t6 (mk 3 fun _ => 0)).setCell ⟨t7, 0, none⟩ (.bool false)).putObj D (.deferred none)) t6 3 (fun _ => 0) 70 ∧ Boxed (((Wx.setRow t6 (mk 3 fun _ => 0)).setCell ⟨t7, 0, none⟩ (.bool false)).putObj D (.deferred none)) t7 4 (.bool false) ∧ Below w.heap.size w (((Wx.setRow t6 (mk 3 fun _ => 0)).setCell ⟨t7, 0, none⟩ (.bool false)).putObj D (.deferred none))) :=
            ⟨((K6x.row 3 fun _ => 0).grown (grownBy_setCell' _ _ _) (sne (fun e => hne67 e.symm))).grown gp (sne (by omega)), (K7z.set _).kept gp (sne (by omega)),
             ((below_setRow hB (by omega) _).setCell (p := ⟨t7, 0, none⟩) (by dsimp only; omega) _).grown gp (by have := ((below_setRow hB (b := t6) (by omega) (mk 3 fun _ => 0)).setCell (p := ⟨t7, 0, none⟩) (by dsimp only; omega) (.bool false)).size; exact this) (fun j e => by cases e; omega)⟩
          have HK2 := Lib.hid hK2
          rw [ht6] at K6x HFIN c7 f7 HK2
          rw [ht7] at c7 f7 HFIN HK2
          clear hv hg ha hK hys hB hne67 K7z hK2 gp
          gi_wp2_with ((with_reducible show wpListIn _ _ _ _ _ (Oper.mk _ (Op.store 70 _ _) _ _ _ _ :: _) _ _); refine storeIn (K6x) rfl rfl rfl rfl sizeA ?_)
          show LeavesInM _ _ _ _ _ _ _ _ _
          refine ⟨by simp, .inl ⟨D, _, rfl, run_takeDeferred HK2.out, ?_⟩⟩
          refine ⟨_, results_cc HFIN.out.1 HFIN.out.2.1 rfl rfl rfl, ?_, HFIN.out.2.2⟩
          rw [HRN.out]
          show _ = Ending.returned (.tuple #[.agg (mk 3 (plF (0, 0))), .bool false])
          rw [mk_plF0]
        case stop =>
          rintro D c pre Wx hD ⟨M, hM⟩ ⟨rfl, ⟨L, x, hL, hall, hxf, hb6⟩, hb7, hbl⟩ hK
          have HRN : Hid (rfF m g (plA g) = some x) := by
            show _ = _
            rw [hM, show pre.map (fun x => x.1) = vals pre from rfl, hL, List.append_assoc]
            refine rfF_some ?_ hxf _
            unfold rfF
            rw [List.find?_eq_none]
            intro p hp
            rw [hall p hp]
            simp
          have gp := grownBy_putObj' Wx D (.deferred none)
          have HFIN : Hid (Blk (Wx.putObj D (.deferred none)) t6 3 (plF x) 70 ∧ Boxed (Wx.putObj D (.deferred none)) t7 4 (.bool true) ∧ Below w.heap.size w (Wx.putObj D (.deferred none))) :=
            ⟨hb6.grown gp (sne (by omega)), hb7.kept gp (sne (by omega)), hbl.grown gp hbl.size (fun j e => by cases e; omega)⟩
          have HK := Lib.hid hK
          rw [ht6, ht7] at HFIN
          clear hM hL hall hxf hb6 hb7 hbl hK gp
          gi_wp2
          show LeavesInM _ _ _ _ _ _ _ _ _
          refine ⟨by simp, .inl ⟨D, _, rfl, run_takeDeferred HK.out, ?_⟩⟩
          refine ⟨_, results_cc HFIN.out.1 HFIN.out.2.1 rfl rfl rfl, ?_, HFIN.out.2.2⟩
          rw [HRN.out]
          rfl
      · have hq : sameB (slideB f d.toNat) f = false := by simpa [isMv] using hm
        have hno : ¬ RefOk f d n := fun h => hn h.2.2
        rw [rm_no hno]
        clear hno
        clear hs hm
        by_cases hl : n < 1
        · clear hn
          refine (callsIn_wide (n := 8)).1 ?_
          refine callsIn_of_wp_marks Try.func56 rfl trivial ?_ rfl
          simp only [Try.ntmps56, List.size_toArray, List.length_cons, List.length_nil, Nat.reduceAdd, Nat.reduceSub, Array.replicate_succ, Array.replicate_zero, List.push_toArray, List.append_toArray, List.nil_append, List.cons_append]
          refine wpIn_wide.2 ?_
          go_wp2_with ((with_reducible show wpList _ _ _ (Oper.mk _ (Op.load 29 _) _ _ _ _ :: _) _ _); refine loadB (K3) rfl rfl rfl ?_)
          refine (HSL.out _).mono ?_
          rintro e w3 ⟨rfl, hb⟩
          have K3 := (K3.below hb K3.lt).alloc (.cells (mk 16 (slideB f d.toNat)) 29)
          have K5 := (box_low K5 hb).alloc (.cells (mk 16 (slideB f d.toNat)) 29)
          have K6 := (K6.below hb K6.lt).alloc (.cells (mk 16 (slideB f d.toNat)) 29)
          have K7 := (box_low K7 hb).alloc (.cells (mk 16 (slideB f d.toNat)) 29)
          have K8 := Blk.new w3 16 (slideB f d.toNat) 29
          have HB3 : Hid (Below w.heap.size w w3) := HB.out.trans (hb.mono HB.out.size)
          have HB : Hid (Below w.heap.size w (w3.alloc (.cells (mk 16 (slideB f d.toNat)) 29))) := HB3.out.alloc HB3.out.size _
          have hlt8 : w.heap.size + 1 + 1 + 1 < w3.heap.size := by have := hb.size; have := K7.lt; have := HB3.out.size; simp at *; omega
          clear hb HB3
          have c5 := K5.cell
          have K7r := K7.kept (grown_rowP K6 (mk 3 fun _ => 0)) (sne (by omega))
          have c7 := K7r.cell
          have f7 := K7r.frozen
          go_wp2_with (first | ((with_reducible show wpList _ _ _ (Oper.mk _ (Op.load 29 _) _ _ _ _ :: _) _ _); refine loadB (K8) rfl rfl rfl ?_) | ((with_reducible show wpList _ _ _ (Oper.mk _ (Op.load 29 _) _ _ _ _ :: _) _ _); refine loadB (K3) rfl rfl rfl ?_) | ((with_reducible show wpList _ _ _ (Oper.mk _ (Op.load 29 _) _ _ _ (some _) :: _) _ _); refine loadgB (K8) rfl rfl rfl ?_) | ((with_reducible show wpList _ _ _ (Oper.mk _ (Op.load 29 _) _ _ _ (some _) :: _) _ _); refine loadgB (K3) rfl rfl rfl ?_) | ((with_reducible show wpList _ _ _ (Oper.mk _ (Op.store 70 _ _) _ _ _ _ :: _) _ _); refine storeA (K6) rfl rfl rfl rfl ?_))
          show LeavesInM _ _ _ _ _ _ _ _ _
          refine ⟨_, results_cc ((K6.row 3 fun _ => 0).grown (grownBy_setCell' _ _ _) (sne (by omega))) (K7r.set (.bool false)) rfl rfl rfl, ?_, (below_setRow HB.out (by omega) _).setCell (p := ⟨_, 0, none⟩) (by dsimp only; omega) _⟩
          have hz := mk_plF0
          show _ = Ending.returned (.tuple #[.agg (mk 3 (plF (0, 0))), .bool false])
          rw [hz]
        · have hg : n > 3 := by omega
          clear hn
          refine (callsIn_wide (n := 8)).1 ?_
          refine callsIn_of_wp_marks Try.func56 rfl trivial ?_ rfl
          simp only [Try.ntmps56, List.size_toArray, List.length_cons, List.length_nil, Nat.reduceAdd, Nat.reduceSub, Array.replicate_succ, Array.replicate_zero, List.push_toArray, List.append_toArray, List.nil_append, List.cons_append]
          refine wpIn_wide.2 ?_
          go_wp2_with ((with_reducible show wpList _ _ _ (Oper.mk _ (Op.load 29 _) _ _ _ _ :: _) _ _); refine loadB (K3) rfl rfl rfl ?_)
          refine (HSL.out _).mono ?_
          rintro e w3 ⟨rfl, hb⟩
          have K3 := (K3.below hb K3.lt).alloc (.cells (mk 16 (slideB f d.toNat)) 29)
          have K5 := (box_low K5 hb).alloc (.cells (mk 16 (slideB f d.toNat)) 29)
          have K6 := (K6.below hb K6.lt).alloc (.cells (mk 16 (slideB f d.toNat)) 29)
          have K7 := (box_low K7 hb).alloc (.cells (mk 16 (slideB f d.toNat)) 29)
          have K8 := Blk.new w3 16 (slideB f d.toNat) 29
          have HB3 : Hid (Below w.heap.size w w3) := HB.out.trans (hb.mono HB.out.size)
          have HB : Hid (Below w.heap.size w (w3.alloc (.cells (mk 16 (slideB f d.toNat)) 29))) := HB3.out.alloc HB3.out.size _
          have hlt8 : w.heap.size + 1 + 1 + 1 < w3.heap.size := by have := hb.size; have := K7.lt; have := HB3.out.size; simp at *; omega
          clear hb HB3
          have c5 := K5.cell
          have K7r := K7.kept (grown_rowP K6 (mk 3 fun _ => 0)) (sne (by omega))
          have c7 := K7r.cell
          have f7 := K7r.frozen
          go_wp2_with (first | ((with_reducible show wpList _ _ _ (Oper.mk _ (Op.load 29 _) _ _ _ _ :: _) _ _); refine loadB (K8) rfl rfl rfl ?_) | ((with_reducible show wpList _ _ _ (Oper.mk _ (Op.load 29 _) _ _ _ _ :: _) _ _); refine loadB (K3) rfl rfl rfl ?_) | ((with_reducible show wpList _ _ _ (Oper.mk _ (Op.load 29 _) _ _ _ (some _) :: _) _ _); refine loadgB (K8) rfl rfl rfl ?_) | ((with_reducible show wpList _ _ _ (Oper.mk _ (Op.load 29 _) _ _ _ (some _) :: _) _ _); refine loadgB (K3) rfl rfl rfl ?_) | ((with_reducible show wpList _ _ _ (Oper.mk _ (Op.store 70 _ _) _ _ _ _ :: _) _ _); refine storeA (K6) rfl rfl rfl rfl ?_))
          show LeavesInM _ _ _ _ _ _ _ _ _
          refine ⟨_, results_cc ((K6.row 3 fun _ => 0).grown (grownBy_setCell' _ _ _) (sne (by omega))) (K7r.set (.bool false)) rfl rfl rfl, ?_, (below_setRow HB.out (by omega) _).setCell (p := ⟨_, 0, none⟩) (by dsimp only; omega) _⟩
          have hz := mk_plF0
          show _ = Ending.returned (.tuple #[.agg (mk 3 (plF (0, 0))), .bool false])
          rw [hz]
    · have hm : isMv f d.toNat = false := by simpa using hm
      have hno : ¬ RefOk f d n := fun h => by have := h.2.1; rw [hm] at this; cases this
      rw [rm_no hno]
      clear hno
      have hq : sameB (slideB f d.toNat) f = true := by simpa [isMv] using hm
      clear hm hs
      refine (callsIn_wide (n := 8)).1 ?_
      refine callsIn_of_wp_marks Try.func56 rfl trivial ?_ rfl
      simp only [Try.ntmps56, List.size_toArray, List.length_cons, List.length_nil, Nat.reduceAdd, Nat.reduceSub, Array.replicate_succ, Array.replicate_zero, List.push_toArray, List.append_toArray, List.nil_append, List.cons_append]
      refine wpIn_wide.2 ?_
      go_wp2_with ((with_reducible show wpList _ _ _ (Oper.mk _ (Op.load 29 _) _ _ _ _ :: _) _ _); refine loadB (K3) rfl rfl rfl ?_)
      refine (HSL.out _).mono ?_
      rintro e w3 ⟨rfl, hb⟩
      have K3 := (K3.below hb K3.lt).alloc (.cells (mk 16 (slideB f d.toNat)) 29)
      have K5 := (box_low K5 hb).alloc (.cells (mk 16 (slideB f d.toNat)) 29)
      have K6 := (K6.below hb K6.lt).alloc (.cells (mk 16 (slideB f d.toNat)) 29)
      have K7 := (box_low K7 hb).alloc (.cells (mk 16 (slideB f d.toNat)) 29)
      have K8 := Blk.new w3 16 (slideB f d.toNat) 29
      have HB3 : Hid (Below w.heap.size w w3) := HB.out.trans (hb.mono HB.out.size)
      have HB : Hid (Below w.heap.size w (w3.alloc (.cells (mk 16 (slideB f d.toNat)) 29))) := HB3.out.alloc HB3.out.size _
      have hlt8 : w.heap.size + 1 + 1 + 1 < w3.heap.size := by have := hb.size; have := K7.lt; have := HB3.out.size; simp at *; omega
      clear hb HB3
      have c5 := K5.cell
      have K7r := K7.kept (grown_rowP K6 (mk 3 fun _ => 0)) (sne (by omega))
      have c7 := K7r.cell
      have f7 := K7r.frozen
      go_wp2_with (first | ((with_reducible show wpList _ _ _ (Oper.mk _ (Op.load 29 _) _ _ _ _ :: _) _ _); refine loadB (K8) rfl rfl rfl ?_) | ((with_reducible show wpList _ _ _ (Oper.mk _ (Op.load 29 _) _ _ _ _ :: _) _ _); refine loadB (K3) rfl rfl rfl ?_) | ((with_reducible show wpList _ _ _ (Oper.mk _ (Op.load 29 _) _ _ _ (some _) :: _) _ _); refine loadgB (K8) rfl rfl rfl ?_) | ((with_reducible show wpList _ _ _ (Oper.mk _ (Op.load 29 _) _ _ _ (some _) :: _) _ _); refine loadgB (K3) rfl rfl rfl ?_) | ((with_reducible show wpList _ _ _ (Oper.mk _ (Op.store 70 _ _) _ _ _ _ :: _) _ _); refine storeA (K6) rfl rfl rfl rfl ?_))
      show LeavesInM _ _ _ _ _ _ _ _ _
      refine ⟨_, results_cc ((K6.row 3 fun _ => 0).grown (grownBy_setCell' _ _ _) (sne (by omega))) (K7r.set (.bool false)) rfl rfl rfl, ?_, (below_setRow HB.out (by omega) _).setCell (p := ⟨_, 0, none⟩) (by dsimp only; omega) _⟩
      have hz := mk_plF0
      show _ = Ending.returned (.tuple #[.agg (mk 3 (plF (0, 0))), .bool false])
      rw [hz]
  · have hno : ¬ RefOk f d n := fun h => hs h.1
    rw [rm_no hno]
    clear hno
    have HSL := Lib.hid (implSlide_any f d)
    obtain ⟨s1, s2, s3, _⟩ := slide_no hs
    rw [s1, s2, s3] at HSL
    clear s1 s2 s3 hs
    refine (callsIn_wide (n := 8)).1 ?_
    refine callsIn_of_wp_marks Try.func56 rfl trivial ?_ rfl
    simp only [Try.ntmps56, List.size_toArray, List.length_cons, List.length_nil, Nat.reduceAdd, Nat.reduceSub, Array.replicate_succ, Array.replicate_zero, List.push_toArray, List.append_toArray, List.nil_append, List.cons_append]
    refine wpIn_wide.2 ?_
    go_wp2_with ((with_reducible show wpList _ _ _ (Oper.mk _ (Op.load 29 _) _ _ _ _ :: _) _ _); refine loadB (K3) rfl rfl rfl ?_)
    refine (HSL.out _).mono ?_
    rintro e w3 ⟨rfl, hb⟩
    have K3 := (K3.below hb K3.lt).alloc (.cells (mk 16 (fun _ => 0)) 29)
    have K5 := (box_low K5 hb).alloc (.cells (mk 16 (fun _ => 0)) 29)
    have K6 := (K6.below hb K6.lt).alloc (.cells (mk 16 (fun _ => 0)) 29)
    have K7 := (box_low K7 hb).alloc (.cells (mk 16 (fun _ => 0)) 29)
    have K8 := Blk.new w3 16 (fun _ => 0) 29
    have HB3 : Hid (Below w.heap.size w w3) := HB.out.trans (hb.mono HB.out.size)
    have HB : Hid (Below w.heap.size w (w3.alloc (.cells (mk 16 (fun _ => 0)) 29))) := HB3.out.alloc HB3.out.size _
    have hlt8 : w.heap.size + 1 + 1 + 1 < w3.heap.size := by have := hb.size; have := K7.lt; have := HB3.out.size; simp at *; omega
    clear hb HB3
    have c5 := K5.cell
    have K7r := K7.kept (grown_rowP K6 (mk 3 fun _ => 0)) (sne (by omega))
    have c7 := K7r.cell
    have f7 := K7r.frozen
    go_wp2_with (first | ((with_reducible show wpList _ _ _ (Oper.mk _ (Op.load 29 _) _ _ _ _ :: _) _ _); refine loadB (K8) rfl rfl rfl ?_) | ((with_reducible show wpList _ _ _ (Oper.mk _ (Op.load 29 _) _ _ _ _ :: _) _ _); refine loadB (K3) rfl rfl rfl ?_) | ((with_reducible show wpList _ _ _ (Oper.mk _ (Op.load 29 _) _ _ _ (some _) :: _) _ _); refine loadgB (K8) rfl rfl rfl ?_) | ((with_reducible show wpList _ _ _ (Oper.mk _ (Op.load 29 _) _ _ _ (some _) :: _) _ _); refine loadgB (K3) rfl rfl rfl ?_) | ((with_reducible show wpList _ _ _ (Oper.mk _ (Op.store 70 _ _) _ _ _ _ :: _) _ _); refine storeA (K6) rfl rfl rfl rfl ?_))
    show LeavesInM _ _ _ _ _ _ _ _ _
    refine ⟨_, results_cc ((K6.row 3 fun _ => 0).grown (grownBy_setCell' _ _ _) (sne (by omega))) (K7r.set (.bool false)) rfl rfl rfl, ?_, (below_setRow HB.out (by omega) _).setCell (p := ⟨_, 0, none⟩) (by dsimp only; omega) _⟩
    have hz := mk_plF0
    show _ = Ending.returned (.tuple #[.agg (mk 3 (plF (0, 0))), .bool false])
    rw [hz]
end Go.Proofs.Ytlboglcpbbnbcab
