/-
  The contracts of the least list of tiles in the reference, and of LeastTiles, PackedBoard, IsPossible and HighestFor there, for every number.
-/
import Derived.Test.YtmcmpedmgibmkaaRowsKit
import Derived.Test.YtmcmpedmgibmkaaSpecLine
import Derived.Test.YtmcmpedmgibmkaaBoundA
namespace Go.Proofs.Ytmcmpedmgibmkaa
open Go.RowKit Plain
attribute [local go_sem] store_new
set_option linter.unusedVariables false
set_option linter.unusedSimpArgs false

theorem wp_ldB7 {o : Oper} {a : Act} {w : World} {K : Act → World → Prop} {Q : Exit → Act → World → Prop} {x : Operand} {b : Nat} {f : Nat → Int} {t : TypeId} (hg : Blk w b 16 f t) (ho : o.op = .load 28 x) (hx : a.eval x = .pointer (some ⟨b, 0, none⟩))
    (h : K (a.put o.dst (.agg (mk 16 f))) w) : o.wp Try.prog a w K Q :=
  wp_load_row _ x ho b hx t _ _ _ hg Try.underlying28 rfl (by rw [mk_size]; exact sizeB) h
theorem grown_rowL {w : World} {b n : Nat} {f : Nat → Int} {t : TypeId} (k : Blk w b n f t) (cs : Array Value) : w.grownBy (w.setRow b cs) (some b) := by
  refine ⟨rfl, rfl, rfl, ?_, fun j hj hne => ?_⟩
  · simp [World.setRow]
  · exact setRow_other w b j cs (fun e => hne (by rw [e]))
theorem grown_atL {w w' : World} {g n : Nat} {h : Nat → Int} {row : Option Nat} (r : CAt w g n h) (hg : w.grownBy w' row) (hne : some g ≠ row) : CAt w' g n h := by
  have hb := hg.block g r.1 hne
  exact ⟨Nat.lt_of_lt_of_le r.1 hg.size, fun j hj => (World.cell?_of_block (w := w) hb).trans (r.2 j hj)⟩
theorem ls_at {w : World} {b g cap S : Nat} (ho : OwnsInts w b (.slice (some ⟨g, 0, none⟩) (lsL 17 S).length cap) (lsL 17 S)) : CAt w g (lsL 17 S).length (pkF S) ∧ b ≤ g := by
  unfold OwnsInts at ho
  refine ⟨⟨(ho.lt g rfl).2, fun j hj => ?_⟩, (ho.lt g rfl).1⟩
  rw [ho.cellAt j (by omega), List.getElem?_map, List.getElem?_eq_getElem hj]
  simp [pkF, List.getD, List.getElem?_eq_getElem hj]
theorem pk_over {S j : Nat} (h : (lsL 17 S).length ≤ j) : pkF S j = 0 := by
  simp [pkF, List.getD, List.getElem?_eq_none h]
theorem lsO_sum {s : Int} (h0 : 0 ≤ s) (h1 : s ≤ 2097152) (h2 : s % 2 = 0) : lsO s = decide (lsN s.toNat ≤ 16) := by
  unfold lsO SumOk
  simp [h0, h1, h2]
/-- What the loops keep: the tiles that are taken, and what is left of the sum. -/
def LsAt (wr : World) (base : Nat) (v : Value) (X : List Int) (S T s : Nat) : Prop :=
  ∃ L : List Int, (∃ gg cap, v = .slice (some ⟨gg, 0, none⟩) L.length cap) ∧ OwnsInts wr base v L ∧ L ++ lsL T s = X ∧ s ≤ S
theorem ls_len {S : Nat} {X L : List Int} {T s : Nat} (hX : X.length ≤ S) (h : L ++ lsL T s = X) : L.length + (lsL T s).length ≤ S := by
  rw [← h, List.length_append] at hX
  exact hX
theorem ls_pass {X L : List Int} {T t s : Nat} (hT : T = t + 1) (h : L ++ lsL T s = X) (hs : s < 2 ^ T) : L ++ lsL t s = X := by subst hT; rw [← lsL_pass hs]; exact h
theorem ls_take {X L : List Int} {T t s : Nat} (hT : T = t + 1) (h : L ++ lsL T s = X) (hs : 2 ^ T ≤ s) : (L ++ [(T : Int)]) ++ lsL T (s - 2 ^ T) = X := by
  subst hT
  rw [← h, lsL_take hs, List.append_assoc]
  rfl

set_option maxHeartbeats 1000000 in
set_option maxRecDepth 20000 in
theorem l7Least_any (S : Nat) (w : World) (hS : S ≤ 2097152) :
    Calls Try.prog 54 #[.int .i64 (S : Int)] w fun e w' => ∃ g cap, e = .returned (.slice (some ⟨g, 0, none⟩) (lsL 17 S).length cap) ∧
      OwnsInts w' w.heap.size (.slice (some ⟨g, 0, none⟩) (lsL 17 S).length cap) (lsL 17 S) ∧ Below w.heap.size w w' := by
  obtain ⟨i0, hi, hz0, hz1, hz2⟩ := info_parts infoInt
  have HX : Hid ((lsL 17 S).length ≤ S) := by
    show _ ≤ _
    rw [lsN_len]
    have := lsN_half S
    omega
  have HB := Lib.hid ((Below.refl w.heap.size w).alloc (Nat.le_refl _) (.cells #[] 3))
  have HO : OwnsInts (w.alloc (.cells #[] 3)) w.heap.size (.slice (some ⟨w.heap.size, 0, none⟩) 0 0) [] :=
    World.ownsRow_made (base := w.heap.size) (e := 3) (size := 1) w #[] 0 (by simp) (by decide) rfl
  go_enter Try.func54, Try.ntmps54
  go_wp2_with fail
  go_loopg [0, 3, 4] 17 (fun g s0 sl st wr => ∃ T s : Nat, T = g ∧ T ≤ 17 ∧ st = .int .i64 (T : Int) ∧ s0 = .int .i64 (s : Int) ∧ Hid (LsAt wr w.heap.size sl (lsL 17 S) S T s) ∧ Hid (Below w.heap.size w wr))
  case atStart => exact ⟨17, S, rfl, Nat.le_refl _, rfl, rfl, ⟨[], ⟨_, _, rfl⟩, HO, rfl, Nat.le_refl _⟩, HB⟩
  case round =>
    obtain ⟨T, s, hT, hT17, rfl, rfl, HL, hb⟩ := hrel
    cases gk with
    | zero =>
      obtain rfl : T = 0 := hT
      have hd : ¬ (((0 : Nat) : Int) > 0) := by omega
      obtain ⟨L, ⟨gg, cap, rfl⟩, ho, hX, hsS⟩ := HL.out
      have hX : L = lsL 17 S := by rw [← hX]; simp [lsL]
      subst hX
      clear HL hT17
      go_wp2_with fail
      go_ret
      exact ⟨gg, cap, rfl, ho, hb.out⟩
    | succ g =>
      have hd0 : ((T : Int) > 0) := by omega
      have hd1 : decide ((T : Int) > 0) = true := decide_eq_true hd0
      have hd2 : decide (0 < T) = true := decide_eq_true (by omega)
      have hp := worth_nat T
      have hpb := worth_bd (t := (T : Int)) (by omega) (by omega)
      have hT0 : (0 : Int) ≤ (T : Int) ∧ (T : Int) ≤ 17 := by omega
      have HTE := Lib.hid hT
      rw [hp] at hpb
      clear hT
      go_wp2_with fail
      go_loopg [0, 3] s (fun h s0 sl wx => ∃ (s : Nat) (v : Value), s ≤ h ∧ s0 = .int .i64 (s : Int) ∧ v = sl ∧ Hid (LsAt wx w.heap.size v (lsL 17 S) S T s) ∧ Hid (Below w.heap.size w wx))
      case atStart => exact ⟨s, _, Nat.le_refl _, rfl, rfl, HL, hb⟩
      case round =>
        clear HL hb
        obtain ⟨s, v, hsh, rfl, rfl, HL, hb⟩ := hrel
        obtain ⟨L, hv, ho, hX, hsS⟩ := HL.out
        clear HL
        by_cases hs : 2 ^ T ≤ s
        · obtain ⟨h, rfl⟩ : ∃ h, gk = h + 1 := ⟨gk - 1, by have := Nat.two_pow_pos T; omega⟩
          have hsz : ((2 ^ T : Nat) : Int) ≤ (s : Int) := by omega
          have HN := Lib.hid (ls_take HTE.out hX hs)
          have hlen := ls_len HX.out hX
          have hout := hb.out.size
          have HP : Hid (0 < 2 ^ T ∧ 2 ^ T ≤ s) := ⟨Nat.two_pow_pos _, hs⟩
          clear hX hs
          have hww : ∀ w : World, Calls Try.prog 79 #[.int .i64 (T : Int)] w fun e w' => e = .returned (.int .i64 ((2 ^ T : Nat) : Int)) ∧ w = w' := fun w => by
            rw [← hp]; exact l2Worth_any (T : Int) w (by omega) (by omega)
          have HW := Lib.hid hww
          clear hww hp
          have ho0 : wr.ownsRow w.heap.size 3 1 v L.length (L.map (Value.int .i64)) := ho
          generalize hPE : 2 ^ T = P at *
          have HPE := Lib.hid hPE
          clear hPE
          go_wp2_with fail
          refine (HW.out _).mono ?_
          rintro e w' ⟨rfl, rfl⟩
          go_wp2_with (first | (at_builtin; refine wpList_append_own _ rfl _ _ 72 rfl w.heap.size 3 i0 (.int .i64 0) 1 8 Try.underlying72 hi hz0 hz1 hz2 rfl (by decide) _ _ _ rfl (ho0.alloc _) ⟨wr.heap.size, 0, none⟩ 1 1 [.int .i64 (T : Int)] rfl rfl ?c1 ?c2 ?c3 ?c4 ?c5 ?_))
          case c1 =>
            exact cell_one_new wr (.int .i64 (T : Int)) 3
          case c2 => simp [Value.oneCell']
          case c3 => unfold maxLen; omega
          case c4 => omega
          case c5 => simp; omega
          intro v' w2 hown' hgrow' _
          have HV' : Hid (∃ gg cap, v' = .slice (some ⟨gg, 0, none⟩) (L.length + 1) cap) := ownsRow_succ hown'
          have HB2 : Hid (Below w.heap.size w w2) := ((hb.out).alloc hb.out.size _).grown hgrow' (by simp; omega) (fun j hj => by have := (ho.lt j hj).1; omega)
          have HO : Hid (OwnsInts w2 w.heap.size v' (L ++ [(T : Int)])) := by
            show OwnsInts _ _ _ _
            unfold OwnsInts
            rw [List.map_append, List.length_append]
            exact hown'
          clear hown' hgrow' ho hb
          go_wp2_with fail
          refine (HW.out _).mono ?_
          rintro e w3 ⟨rfl, rfl⟩
          go_wp2_with fail
          have hP := HP.out
          go_roundg h
          case rel => exact ⟨s - P, _, by omega, by rw [show ((s - P : Nat) : Int) = (s : Int) - (P : Int) by omega], rfl, ⟨_, by rw [List.length_append]; exact HV'.out, HO.out, by have := HPE.out; subst this; exact HN.out, by omega⟩, HB2⟩
          case measure => omega
        · have hsz : ¬ ((2 ^ T : Nat) : Int) ≤ (s : Int) := by omega
          have HN := Lib.hid (ls_pass HTE.out hX (by omega))
          have hww : ∀ w : World, Calls Try.prog 79 #[.int .i64 (T : Int)] w fun e w' => e = .returned (.int .i64 ((2 ^ T : Nat) : Int)) ∧ w = w' := fun w => by
            rw [← hp]; exact l2Worth_any (T : Int) w (by omega) (by omega)
          have HW := Lib.hid hww
          clear hww hp hX hs
          generalize 2 ^ T = P at *
          go_wp2_with fail
          refine (HW.out _).mono ?_
          rintro e w' ⟨rfl, rfl⟩
          go_wp2_with fail
          go_roundg g
          case rel => exact ⟨g, s, rfl, by have := HTE.out; omega, by have := HTE.out; congr 1; omega, rfl, ⟨L, hv, ho, HN.out, hsS⟩, hb⟩
          case measure => omega
set_option maxHeartbeats 1000000 in
theorem l7Sum_any (s : Int) (w : World) :
    Calls Try.prog 53 #[.int .i64 s] w fun e w' => e = .returned (.bool (lsO s)) ∧ Below w.heap.size w w' := by
  by_cases hr : 0 ≤ s ∧ s ≤ 2097152
  · obtain ⟨S, rfl⟩ := Int.eq_ofNat_of_zero_le hr.1
    have hS : S ≤ 2097152 := by omega
    have HIN := Lib.hid (fun w => l1In_yes (S : Int) 0 2097152 w hr.1 hr.2)
    have HL := Lib.hid (fun w => l7Least_any S w hS)
    by_cases he : (S : Int) % 2 = 0
    · have HE : Hid (lsO (S : Int) = decide ((lsL 17 S).length ≤ 16)) := by
        show _ = _
        rw [lsO_sum hr.1 hr.2 he, lsN_len]; rfl
      have hm : (S : Int).tmod 2 = 0 := by rw [Int.tmod_eq_emod_of_nonneg hr.1]; exact he
      rw [HE.out]
      clear he hr hS HE
      generalize (lsL 17 S).length = n at *
      go_enter Try.func53, Try.ntmps53
      go_wp2_with fail
      refine (HIN.out _).mono ?_
      rintro e w' ⟨rfl, rfl⟩
      go_wp2_with fail
      refine (HL.out _).mono ?_
      rintro e w1 ⟨g, cap, rfl, ho, hb⟩
      have HB := Lib.hid hb
      have hd : decide (((n : Nat) : Int) ≤ 16) = decide (n ≤ 16) := by congr 1; apply propext; omega
      clear ho hb
      go_wp2_with fail
      go_ret
      exact ⟨rfl, HB.out⟩
    · have HE : Hid (lsO (S : Int) = false) := by
        show _ = _
        unfold lsO SumOk
        exact decide_eq_false (fun h => he h.2.2.1)
      have hm : (S : Int).tmod 2 = 1 := by rw [Int.tmod_eq_emod_of_nonneg hr.1]; omega
      rw [HE.out]
      clear he hr hS HE HL
      go_enter Try.func53, Try.ntmps53
      go_wp2_with fail
      refine (HIN.out _).mono ?_
      rintro e w' ⟨rfl, rfl⟩
      go_wp2_with fail
      go_ret
      exact ⟨rfl, Below.refl _ _⟩
  · have HE : Hid (lsO s = false) := by
      show _ = _
      unfold lsO SumOk
      exact decide_eq_false (fun h => hr ⟨h.1, h.2.1⟩)
    have HIN := Lib.hid (fun w => l1In_no s 0 2097152 w (by omega))
    rw [HE.out]
    clear hr HE
    go_enter Try.func53, Try.ntmps53
    go_wp2_with fail
    refine (HIN.out _).mono ?_
    rintro e w' ⟨rfl, rfl⟩
    go_wp2_with fail
    go_ret
    exact ⟨rfl, Below.refl _ _⟩
set_option maxHeartbeats 1000000 in
theorem specLeast_any (s : Int) (w : World) :
    Calls Try.prog 17 #[.int .i64 s] w fun e w' => e = .returned (.tuple #[.int .i64 (lsR s), .bool (lsO s)]) ∧ Below w.heap.size w w' := by
  by_cases hS : SumOk s
  · rw [(ls_yes hS).1, (ls_yes hS).2.1]
    have HSM := Lib.hid (fun w => l7Sum_any s w)
    rw [(ls_yes hS).1] at HSM
    obtain ⟨S, rfl⟩ := Int.eq_ofNat_of_zero_le hS.1
    have hS2 : S ≤ 2097152 := by have := hS.2.1; omega
    have HL := Lib.hid (fun w => l7Least_any S w hS2)
    have HLN : Hid ((lsL 17 S).length ≤ 16) := by show _ ≤ _; rw [lsN_len]; exact hS.2.2.2
    rw [Int.toNat_natCast]
    have HE : Hid (((lsL 17 S).length : Int) = (lsN S : Int)) := by show _ = _; rw [lsN_len]
    rw [← HE.out]
    clear hS hS2 HLN HE
    generalize (lsL 17 S).length = n at *
    go_enter Try.func17, Try.ntmps17
    go_wp2_with fail
    refine (HSM.out _).mono ?_
    rintro e w1 ⟨rfl, hb⟩
    have HB := Lib.hid hb
    clear hb
    go_wp2_with fail
    refine (HL.out _).mono ?_
    rintro e w2 ⟨g, cap, rfl, ho, hb⟩
    have HB : Hid (Below w.heap.size w w2) := HB.out.trans (hb.mono HB.out.size)
    clear ho hb
    go_wp2_with fail
    go_ret2
    exact ⟨rfl, HB.out⟩
  · rw [(ls_no hS).1, (ls_no hS).2.1]
    have HSM := Lib.hid (fun w => l7Sum_any s w)
    rw [(ls_no hS).1] at HSM
    clear hS
    go_enter Try.func17, Try.ntmps17
    go_wp2_with fail
    refine (HSM.out _).mono ?_
    rintro e w1 ⟨rfl, hb⟩
    have HB := Lib.hid hb
    clear hb
    go_wp2_with fail
    go_ret2
    exact ⟨rfl, HB.out⟩
set_option maxHeartbeats 1000000 in
theorem specHighFor_any (s : Int) (w : World) :
    Calls Try.prog 28 #[.int .i64 s] w fun e w' => e = .returned (.tuple #[.int .i64 (hfR s), .bool (lsO s)]) ∧ Below w.heap.size w w' := by
  by_cases hS : SumOk s
  · rw [(ls_yes hS).1, (ls_yes hS).2.2.2]
    have HSM := Lib.hid (fun w => l7Sum_any s w)
    rw [(ls_yes hS).1] at HSM
    obtain ⟨S, rfl⟩ := Int.eq_ofNat_of_zero_le hS.1
    have hS2 : S ≤ 2097152 := by have := hS.2.1; omega
    have HL := Lib.hid (fun w => l7Least_any S w hS2)
    have HLN : Hid ((lsL 17 S).length ≤ 16) := by show _ ≤ _; rw [lsN_len]; exact hS.2.2.2
    rw [Int.toNat_natCast]
    by_cases hn : 0 < (lsL 17 S).length
    · have hn2 : (0 : Int) < ((lsL 17 S).length : Int) := by omega
      have HT : Hid (topN S = pkF S 0) := rfl
      rw [HT.out]
      clear hS hS2 HT
      go_enter Try.func28, Try.ntmps28
      go_wp2_with fail
      refine (HSM.out _).mono ?_
      rintro e w1 ⟨rfl, hb⟩
      have HB := Lib.hid hb
      clear hb
      go_wp2_with fail
      refine (HL.out _).mono ?_
      rintro e w2 ⟨g, cap, rfl, ho, hb⟩
      have HB : Hid (Below w.heap.size w w2) := HB.out.trans (hb.mono HB.out.size)
      have CM := (ls_at ho).1
      have c0 := CM.2 0 hn
      clear ho hb CM
      generalize (lsL 17 S).length = n at *
      go_wp2_with fail
      go_ret2
      exact ⟨rfl, HB.out⟩
    · have hn2 : (lsL 17 S).length = 0 := by omega
      have HT : Hid (topN S = 0) := pk_over (j := 0) (by omega)
      rw [HT.out]
      rw [hn2] at HL
      clear hS hS2 HT hn hn2
      go_enter Try.func28, Try.ntmps28
      go_wp2_with fail
      refine (HSM.out _).mono ?_
      rintro e w1 ⟨rfl, hb⟩
      have HB := Lib.hid hb
      clear hb
      go_wp2_with fail
      refine (HL.out _).mono ?_
      rintro e w2 ⟨g, cap, rfl, ho, hb⟩
      have HB : Hid (Below w.heap.size w w2) := HB.out.trans (hb.mono HB.out.size)
      clear ho hb
      go_wp2_with fail
      go_ret2
      exact ⟨rfl, HB.out⟩
  · rw [(ls_no hS).1, (ls_no hS).2.2.2]
    have HSM := Lib.hid (fun w => l7Sum_any s w)
    rw [(ls_no hS).1] at HSM
    clear hS
    go_enter Try.func28, Try.ntmps28
    go_wp2_with fail
    refine (HSM.out _).mono ?_
    rintro e w1 ⟨rfl, hb⟩
    have HB := Lib.hid hb
    clear hb
    go_wp2_with fail
    go_ret2
    exact ⟨rfl, HB.out⟩
set_option maxHeartbeats 1000000 in
theorem specPossible_any (s m : Int) (w : World) :
    Calls Try.prog 22 #[.int .i64 s, .int .i64 m] w fun e w' => e = .returned (.tuple #[.bool (poR s m), .bool (poO s m)]) ∧ Below w.heap.size w w' := by
  by_cases hP : PoOk s m
  · rw [(po_yes hP).1, (po_yes hP).2]
    obtain ⟨S, rfl⟩ := Int.eq_ofNat_of_zero_le hP.1
    have hS2 : S ≤ 2097152 := by have := hP.2.1; omega
    have HL := Lib.hid (fun w => l7Least_any S w hS2)
    have HI1 := Lib.hid (fun w => l1In_yes (S : Int) 0 2097152 w hP.1 hP.2.1)
    have HI2 := Lib.hid (fun w => l1In_yes m 0 16 w hP.2.2.1 hP.2.2.2)
    have hq : (S : Int).tdiv 2 = (S : Int) / 2 := Int.tdiv_eq_ediv_of_nonneg hP.1
    have hqw : IntKind.i64.wrap ((S : Int) / 2) = (S : Int) / 2 := IntWalk.i64_in _ (by omega)
    by_cases he : (S : Int) % 2 = 0
    · have hm : (S : Int).tmod 2 = 0 := by rw [Int.tmod_eq_emod_of_nonneg hP.1]; exact he
      by_cases hl : ((lsL 17 S).length : Int) ≤ m
      · have HE : Hid (decide (PoB (S : Int) m) = decide (m ≤ (S : Int) / 2)) := by
          exact decide_eq_decide.2 ⟨fun h => h.2.2, fun h => ⟨he, by rw [Int.toNat_natCast, ← lsN_len]; exact hl, h⟩⟩
        rw [HE.out]
        clear hP hS2 HE he
        generalize (lsL 17 S).length = n at *
        generalize (S : Int) / 2 = q at *
        go_enter Try.func22, Try.ntmps22
        go_wp2_with fail
        refine (HI1.out _).mono ?_
        rintro e w' ⟨rfl, rfl⟩
        go_wp2_with fail
        refine (HI2.out _).mono ?_
        rintro e w' ⟨rfl, rfl⟩
        go_wp2_with fail
        refine (HL.out _).mono ?_
        rintro e w1 ⟨g, cap, rfl, ho, hb⟩
        have HB := Lib.hid hb
        clear ho hb
        go_wp2_with fail
        go_ret2
        exact ⟨rfl, HB.out⟩
      · have HE : Hid (decide (PoB (S : Int) m) = false) := by
          exact decide_eq_false (fun h => hl (by have := h.2.1; rw [Int.toNat_natCast, ← lsN_len] at this; exact this))
        rw [HE.out]
        clear hP hS2 HE he
        generalize (lsL 17 S).length = n at *
        generalize (S : Int) / 2 = q at *
        go_enter Try.func22, Try.ntmps22
        go_wp2_with fail
        refine (HI1.out _).mono ?_
        rintro e w' ⟨rfl, rfl⟩
        go_wp2_with fail
        refine (HI2.out _).mono ?_
        rintro e w' ⟨rfl, rfl⟩
        go_wp2_with fail
        refine (HL.out _).mono ?_
        rintro e w1 ⟨g, cap, rfl, ho, hb⟩
        have HB := Lib.hid hb
        clear ho hb
        go_wp2_with fail
        go_ret2
        exact ⟨rfl, HB.out⟩
    · have hm : (S : Int).tmod 2 = 1 := by rw [Int.tmod_eq_emod_of_nonneg hP.1]; omega
      have HE : Hid (decide (PoB (S : Int) m) = false) := decide_eq_false (fun h => he h.1)
      rw [HE.out]
      clear hP hS2 HE he HL
      generalize (S : Int) / 2 = q at *
      go_enter Try.func22, Try.ntmps22
      go_wp2_with fail
      refine (HI1.out _).mono ?_
      rintro e w' ⟨rfl, rfl⟩
      go_wp2_with fail
      refine (HI2.out _).mono ?_
      rintro e w' ⟨rfl, rfl⟩
      go_wp2_with fail
      go_ret2
      exact ⟨rfl, Below.refl _ _⟩
  · rw [(po_no hP).1, (po_no hP).2]
    by_cases hs : 0 ≤ s ∧ s ≤ 2097152
    · have HI1 := Lib.hid (fun w => l1In_yes s 0 2097152 w hs.1 hs.2)
      have HI2 := Lib.hid (fun w => l1In_no m 0 16 w (by unfold PoOk at hP; omega))
      clear hP hs
      go_enter Try.func22, Try.ntmps22
      go_wp2_with fail
      refine (HI1.out _).mono ?_
      rintro e w' ⟨rfl, rfl⟩
      go_wp2_with fail
      refine (HI2.out _).mono ?_
      rintro e w' ⟨rfl, rfl⟩
      go_wp2_with fail
      go_ret2
      exact ⟨rfl, Below.refl _ _⟩
    · have HI1 := Lib.hid (fun w => l1In_no s 0 2097152 w (by omega))
      clear hP hs
      go_enter Try.func22, Try.ntmps22
      go_wp2_with fail
      refine (HI1.out _).mono ?_
      rintro e w' ⟨rfl, rfl⟩
      go_wp2_with fail
      go_ret2
      exact ⟨rfl, Below.refl _ _⟩
-- PACKED
set_option maxHeartbeats 4000000 in
set_option maxRecDepth 20000 in
theorem specPacked_any (s : Int) (w : World) :
    Calls Try.prog 19 #[.int .i64 s] w fun e w' => e = .returned (.tuple #[.agg (mk 16 (pkR s)), .bool (lsO s)]) ∧ Below w.heap.size w w' := by
  have z16 := zero16
  have K2 := Blk.new w 16 (fun _ => 0) 28
  have HB := Lib.hid ((Below.refl w.heap.size w).alloc (Nat.le_refl _) (.cells (mk 16 fun _ => 0) 28))
  by_cases hS : SumOk s
  · rw [(ls_yes hS).1, (ls_yes hS).2.2.1]
    have HSM := Lib.hid (fun w => l7Sum_any s w)
    rw [(ls_yes hS).1] at HSM
    obtain ⟨S, rfl⟩ := Int.eq_ofNat_of_zero_le hS.1
    have hS2 : S ≤ 2097152 := by have := hS.2.1; omega
    have HL := Lib.hid (fun w => l7Least_any S w hS2)
    have HLN : Hid ((lsL 17 S).length ≤ 16) := by show _ ≤ _; rw [lsN_len]; exact hS.2.2.2
    rw [Int.toNat_natCast]
    clear hS
    have HPK : Hid (∀ j, (lsL 17 S).length ≤ j → pkF S j = 0) := fun j hj => pk_over hj
    have HLA := Lib.hid (fun (w : World) (b g cap : Nat) (ho : OwnsInts w b (.slice (some ⟨g, 0, none⟩) (lsL 17 S).length cap) (lsL 17 S)) => ls_at ho)
    go_enter Try.func19, Try.ntmps19
    go_wp2_with fail
    refine (HSM.out _).mono ?_
    rintro e w1 ⟨rfl, hb⟩
    have K2 := K2.below hb K2.lt
    have HB : Hid (Below w.heap.size w w1) := HB.out.trans (hb.mono HB.out.size)
    clear hb
    go_wp2_with fail
    refine (HL.out _).mono ?_
    rintro e w2 ⟨g, cap, rfl, ho, hb⟩
    have hlt1 := K2.lt
    have K2 := K2.below hb K2.lt
    have hlt2 := K2.lt
    have HB : Hid (Below w.heap.size w w2) := HB.out.trans (hb.mono HB.out.size)
    have CM := ls_at ho
    have HG : Hid (w.heap.size < g) := by
      have h1 := CM.2
      show _ < _
      omega
    have CM := CM.1
    have K2 := K2.alloc (.cells (mk 16 fun _ => 0) 28)
    have CM := CM.alloc (.cells (mk 16 fun _ => 0) 28)
    have K4 := Blk.new w2 16 (fun _ => 0) 28
    have HB8 : Hid (w.heap.size < w2.heap.size) := hlt2
    have HB9 : Hid (g < w2.heap.size) := (ho.lt g rfl).2
    have HB : Hid (Below w.heap.size w (w2.alloc (.cells (mk 16 fun _ => 0) 28))) := HB.out.alloc HB.out.size _
    clear ho hb hlt1 hlt2 HLA HL HSM
    generalize (lsL 17 S).length = n at *
    go_wp2_with ((with_reducible show wpList _ _ _ (Oper.mk _ (Op.store 28 _ _) _ _ _ _ :: _) _ _); refine storeB (K4) rfl rfl rfl rfl ?_)
    generalize w2.heap.size = b4 at *
    go_loopg [6] n (fun h s6 wr => ∃ i : Nat, i + h = n ∧ s6 = .int .i64 i ∧ Blk wr b4 16 (upto (pkF S) i) 28 ∧ CAt wr g n (pkF S) ∧ Blk wr w.heap.size 16 (fun _ => 0) 28 ∧ Hid (Below w.heap.size w wr))
    case atStart =>
      have hgr := grown_rowL K4 (mk 16 fun _ => 0)
      exact ⟨0, by omega, rfl, (K4.row 16 _).congr (fun j _ => by simp [upto]), grown_atL CM hgr (fun e => by cases e; exact absurd HB9.out (Nat.lt_irrefl _)), K2.rowOther _ _ (fun e => absurd (e ▸ HB8.out) (Nat.lt_irrefl _)), below_setRow HB.out (Nat.le_of_lt HB8.out) _⟩
    case round =>
      clear K2 K4 CM HB
      obtain ⟨i, hig, rfl, K4, CM, K2, HB⟩ := hrel
      cases gk with
      | zero =>
        have hd : ¬ ((i : Int) < (n : Int)) := by omega
        have HF : Hid (mk 16 (upto (pkF S) i) = mk 16 (pkF S)) := mk_congr fun j hj => by
          by_cases h : j < i
          · simp [upto, h]
          · simp [upto, h, HPK.out j (by omega)]
        clear hig
        go_wp2_with (first | ((with_reducible show wpList _ _ _ (Oper.mk _ (Op.load 28 _) _ _ _ _ :: _) _ _); refine loadB (K4) rfl rfl rfl ?_) | ((with_reducible show wpList _ _ _ (Oper.mk _ (Op.store 28 _ _) _ _ _ _ :: _) _ _); refine storeB (K2) rfl rfl rfl rfl ?_))
        try simp only [Exit.inBlock, Exit.then]
        rw [← HF.out]
        exact retctB (K2.row 16 _) rfl rfl rfl ⟨rfl, below_setRow HB.out (Nat.le_refl _) _⟩
      | succ gk =>
        have hd : (i : Int) < (n : Int) := by omega
        have hn16 := HLN.out
        have HI : Hid (i < n) := by show _ < _; omega
        have HQ : Hid (i / 4 < 4 ∧ i % 4 < 4) := by constructor <;> omega
        have HQ4 : Hid (i / 4 * 4 + i % 4 = i) := by show _ = _; omega
        have hq : (i : Int).tdiv 4 = ((i / 4 : Nat) : Int) := by rw [Int.tdiv_eq_ediv_of_nonneg (by omega)]; omega
        have hqw : IntKind.i64.wrap ((i : Int) / 4) = (i : Int) / 4 := IntWalk.i64_in _ (by omega)
        have hm : (i : Int).tmod 4 = ((i % 4 : Nat) : Int) := by rw [Int.tmod_eq_emod_of_nonneg (by omega)]; omega
        have HU : Hid (∀ j, upd (upto (pkF S) i) i (pkF S i) j = upto (pkF S) (i + 1) j) := fun j => upto_step (pkF S) i j
        have hi16 : (i : Int) < 16 := by omega
        clear hn16
        go_wp2_with fail
        refine wp_region_held_drew (S := fun W => CAt W g n (pkF S)) (by kernel_rfl) (CM.drew) (fun hHeld => ?_)
        have K4 : Blk wr.drew b4 16 (upto (pkF S) i) 28 := K4.drew
        have CM : CAt wr.drew g n (pkF S) := CM.drew
        have BX : Hid (Below wr.heap.size wr wr.drew) := (Below.refl _ wr).drew
        generalize wr.drew = x0 at *
        refine wpAnyH_take (i := 1) (oi := { dst := some 21, op := _, type := _, pos := _, after := _, guard := _ }) (v := .int .i64 (i : Int)) rfl (by kernel_rfl) (by kernel_rfl) (by kernel_rfl) (fun _ _ _ h => h) (Or.inl ⟨by rfl, by intro w hSw; clear hSw; go_simp; (try with_reducible rfl)⟩) (by assumption) ?_
        try simp only [Act.put, List.setIfInBounds_toArray, List.set_cons_zero, List.set_cons_succ]
        refine wpAnyH_take (i := 2) (oi := { dst := some 22, op := _, type := _, pos := _, after := _, guard := _ }) (v := .int .i64 ((i / 4 : Nat) : Int)) rfl (by kernel_rfl) (by kernel_rfl) (by kernel_rfl) (fun _ _ _ h => h) (Or.inl ⟨by rfl, by intro w hSw; clear hSw; go_simp; (try with_reducible rfl)⟩) (by assumption) ?_
        try simp only [Act.put, List.setIfInBounds_toArray, List.set_cons_zero, List.set_cons_succ]
        refine wpAnyH_take (i := 3) (oi := { dst := some 23, op := _, type := _, pos := _, after := _, guard := _ }) (v := .int .i64 (i : Int)) rfl (by kernel_rfl) (by kernel_rfl) (by kernel_rfl) (fun _ _ _ h => h) (Or.inl ⟨by rfl, by intro w hSw; clear hSw; go_simp; (try with_reducible rfl)⟩) (by assumption) ?_
        try simp only [Act.put, List.setIfInBounds_toArray, List.set_cons_zero, List.set_cons_succ]
        refine wpAnyH_take (i := 4) (oi := { dst := some 24, op := _, type := _, pos := _, after := _, guard := _ }) (v := .int .i64 ((i % 4 : Nat) : Int)) rfl (by kernel_rfl) (by kernel_rfl) (by kernel_rfl) (fun _ _ _ h => h) (Or.inl ⟨by rfl, by intro w hSw; clear hSw; go_simp; (try with_reducible rfl)⟩) (by assumption) ?_
        try simp only [Act.put, List.setIfInBounds_toArray, List.set_cons_zero, List.set_cons_succ]
        refine wpAnyH_take (i := 5) (oi := { dst := some 25, op := _, type := _, pos := _, after := _, guard := _ }) (v := .agg (mk 2 (two ((i / 4 : Nat) : Int) ((i % 4 : Nat) : Int)))) rfl (by kernel_rfl) (by kernel_rfl) (by kernel_rfl) (fun _ _ _ h => h) (Or.inl ⟨by rfl, by intro w hSw; clear hSw; go_simp; rfl⟩) (by assumption) ?_
        try simp only [Act.put, List.setIfInBounds_toArray, List.set_cons_zero, List.set_cons_succ]
        refine wpAnyH_take (i := 6) (oi := { dst := some 26, op := _, type := _, pos := _, after := _, guard := _ }) (v := .slice (some ⟨g, 0, none⟩) n cap) rfl (by kernel_rfl) (by kernel_rfl) (by kernel_rfl) (fun _ _ _ h => h) (Or.inl ⟨by rfl, by intro w hSw; clear hSw; go_simp; (try with_reducible rfl)⟩) (by assumption) ?_
        try simp only [Act.put, List.setIfInBounds_toArray, List.set_cons_zero, List.set_cons_succ]
        refine wpAnyH_take (i := 7) (oi := { dst := some 27, op := _, type := _, pos := _, after := _, guard := _ }) (v := .int .i64 (i : Int)) rfl (by kernel_rfl) (by kernel_rfl) (by kernel_rfl) (fun _ _ _ h => h) (Or.inl ⟨by rfl, by intro w hSw; clear hSw; go_simp; (try with_reducible rfl)⟩) (by assumption) ?_
        try simp only [Act.put, List.setIfInBounds_toArray, List.set_cons_zero, List.set_cons_succ]
        refine wpAnyH_take (i := 8) (oi := { dst := some 28, op := _, type := _, pos := _, after := _, guard := _ }) (v := .pointer (some ⟨g, i, none⟩)) rfl (by kernel_rfl) (by kernel_rfl) (by kernel_rfl) (fun _ _ _ h => h) (Or.inl ⟨by rfl, by intro w hSw; clear hSw; go_simp; (try with_reducible rfl)⟩) (by assumption) ?_
        try simp only [Act.put, List.setIfInBounds_toArray, List.set_cons_zero, List.set_cons_succ]
        refine wpAnyH_take (i := 9) (oi := { dst := some 29, op := _, type := _, pos := _, after := _, guard := _ }) (v := .int .i64 (pkF S i)) rfl (by kernel_rfl) (by kernel_rfl) (by kernel_rfl) (fun _ _ _ h => h) (Or.inl ⟨by rfl, by intro W hSw; have c1 := hSw.2 i HI.out; clear hSw; go_simp⟩) (by assumption) ?_
        try simp only [Act.put, List.setIfInBounds_toArray, List.set_cons_zero, List.set_cons_succ]
        clear hq hqw hm
        refine wpAnyH_ready (rs := [0]) (by kernel_rfl) (by simp) ?_
        refine AllReadyH.cons rfl (fun K hK => ?_) AllReadyH.nil
        rw [if_pos (by rfl)]
        refine wp_ldB7 K4 rfl rfl ?_
        clear hHeld
        refine hK.out _ _ CM (fun hHeld => ?_)
        clear hK K
        try simp only [Act.put, List.setIfInBounds_toArray, List.set_cons_zero, List.set_cons_succ]
        refine wpAnyH_ready (rs := [10]) (by kernel_rfl) (by simp) ?_
        refine AllReadyH.cons rfl (fun K hK => ?_) AllReadyH.nil
        go_simp
        refine (l2Put_any (upto (pkF S) i) (two ((i / 4 : Nat) : Int) ((i % 4 : Nat) : Int)) (i / 4) (i % 4) (pkF S i) _ rfl rfl HQ.out.1 HQ.out.2).mono ?_
        rintro e x1 ⟨rfl, hb⟩
        have CM := CM.below hb
        have K4 := K4.below hb K4.lt
        have BX : Hid (Below wr.heap.size wr x1) := BX.out.trans (hb.mono BX.out.size)
        clear hb hHeld
        rw [HQ4.out]
        go_wp2_with fail
        refine hK.out _ _ CM (fun hHeld => ?_)
        clear hK K
        try simp only [Act.put, List.setIfInBounds_toArray, List.set_cons_zero, List.set_cons_succ]
        refine wpAnyH_ready (rs := [11]) (by kernel_rfl) (by simp) ?_
        refine AllReadyH.cons rfl (fun K hK => ?_) AllReadyH.nil
        have st1 := run_store_blk (P := Try.prog) (g := (upd (upto (pkF S) i) i (pkF S i))) K4
        have ms1 : (mk 16 (upd (upto (pkF S) i) i (pkF S i))).size = 16 := mk_size 16 _
        go_simp
        clear st1 ms1
        have hgr : x1.grownBy (x1.setRow b4 (mk 16 (upd (upto (pkF S) i) i (pkF S i)))) (some b4) := grown_rowL K4 _
        have CM := grown_atL CM hgr (fun e => by cases e; exact absurd HB9.out (Nat.lt_irrefl _))
        have K2 := (K2.below BX.out K2.lt).rowOther b4 (mk 16 (upd (upto (pkF S) i) i (pkF S i))) (fun e => absurd (e ▸ HB8.out) (Nat.lt_irrefl _))
        have HX : Hid (Below w.heap.size w (x1.setRow b4 (mk 16 (upd (upto (pkF S) i) i (pkF S i))))) := below_setRow (HB.out.trans (BX.out.mono HB.out.size)) (Nat.le_of_lt HB8.out) _
        have K4 := K4.row 16 (upd (upto (pkF S) i) i (pkF S i))
        clear hgr hHeld
        generalize x1.setRow b4 (mk 16 (upd (upto (pkF S) i) i (pkF S i))) = x2 at *
        refine hK.out _ _ CM (fun hHeld => ?_)
        clear hK K
        try simp only [Act.put, List.setIfInBounds_toArray, List.set_cons_zero, List.set_cons_succ]
        refine wpAnyH_done (by kernel_rfl) ?_ _
        clear hHeld
        go_wp2_with fail
        go_roundg gk
        case rel => exact ⟨i + 1, by omega, by go_num, K4.congr (fun j hj => HU.out j), CM, K2, HX⟩
        case measure => omega
  · rw [(ls_no hS).1, (ls_no hS).2.2.1]
    have HSM := Lib.hid (fun w => l7Sum_any s w)
    rw [(ls_no hS).1] at HSM
    clear hS
    go_enter Try.func19, Try.ntmps19
    go_wp2_with fail
    refine (HSM.out _).mono ?_
    rintro e w1 ⟨rfl, hb⟩
    have K2 := K2.below hb K2.lt
    have HB : Hid (Below w.heap.size w w1) := HB.out.trans (hb.mono HB.out.size)
    clear hb
    go_wp2_with ((with_reducible show wpList _ _ _ (Oper.mk _ (Op.store 28 _ _) _ _ _ _ :: _) _ _); refine storeB (K2) rfl rfl rfl rfl ?_)
    try simp only [Exit.inBlock, Exit.then]
    exact retctB (K2.row 16 _) rfl rfl rfl ⟨rfl, below_setRow HB.out (Nat.le_refl _) _⟩
end Go.Proofs.Ytmcmpedmgibmkaa
