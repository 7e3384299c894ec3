/-
  The contracts of BestRoom, in the reference and in the program, for every board.
-/
import Derived.Test.YtkocfpldgjfpeaaTellTops
import Derived.Test.YtkocfpldgjfpeaaBestR
import Derived.Test.YtkocfpldgjfpeaaMovesPlain
namespace Go.Proofs.Ytkocfpldgjfpeaa
open Go.RowKit Plain
attribute [local go_sem] store_new
set_option linter.unusedVariables false
set_option linter.unusedSimpArgs false
def brV (f : Nat → Int) (d : Nat) : Fc := mnF (numT uRoom) (slideB f d)
def bmN : Bm := ⟨0, (0, 0), false⟩
def brB (f : Nat → Int) : Bm := if Vd f ∧ (bmF f (brV f) 4).ok = true then bmF f (brV f) 4 else bmN
theorem br_ok {f : Nat → Int} (hV : Vd f) {d : Nat} (hm : isMv f d = true) : FcOk (brV f d) ∧ (brV f d).1 ≤ 160000 ∧ (brV f d).2 ≤ 160 := by
  have hE := mv_room hV hm
  have hd : Den 1 1000 (numT uRoom) (slideB f d) := den_num (by decide) (by decide) uRoom_le
  obtain ⟨a, b, c⟩ := mnF_ok hd hE
  have h1 := empN_le (slideB f d) 16
  have h2 := Nat.le_of_dvd (by omega) b
  refine ⟨a, ?_, ?_⟩
  · show (mnF _ _).1 ≤ _; omega
  · show (mnF _ _).2 ≤ _; omega
/-- The mean so far, as the reference keeps it: none is told by two zeros. -/
def mrF (S : Bm) : Fc := if S.ok = true then S.v else (0, 0)
theorem mr_yes {S : Bm} (h : S.ok = true) : mrF S = S.v := if_pos h
theorem mr_no {S : Bm} (h : S.ok = false) : mrF S = (0, 0) := by unfold mrF; rw [h]; rfl
theorem bmL_all {f : Nat → Int} {V : Nat → Fc} {P : Bm → Prop} (h0 : P bm0) (h : ∀ d, d < 4 → isMv f d = true → P ⟨d, V d, true⟩) (i : Nat) : P (bmL V ((movL f 4).take i)) := by
  have key : ∀ L : List Int, (∀ x, x ∈ L → ∃ d : Nat, d < 4 ∧ x = (d : Int) ∧ isMv f d = true) → P (bmL V L) := fun L => by
    refine list_snoc (fun L => (∀ x, x ∈ L → ∃ d : Nat, d < 4 ∧ x = (d : Int) ∧ isMv f d = true) → P (bmL V L)) (fun _ => h0) (fun L x ih hL => ?_) L
    rw [bmL_snoc]
    unfold bmS
    split
    · obtain ⟨d, hd, e, hm⟩ := hL x (by simp)
      have e2 : x.toNat = d := by omega
      rw [e2]; exact h d hd hm
    · exact ih fun y hy => hL y (by simp [hy])
  exact key _ fun x hx => mov_is f 4 x (List.mem_of_mem_take hx)
theorem mov_mem5 {w : World} {b g c : Nat} {L : List Int} (h : OwnsInts w b (.slice (some ⟨g, 0, none⟩) L.length c) L) : CAt w g L.length (fun i => L.getD i 0) := by
  unfold OwnsInts at h
  rw [ints_mk] at h
  obtain ⟨_, _, e1, _, hl, hc⟩ := IRow.of_own h
  cases e1
  exact ⟨hl, hc⟩
theorem execC5 {o : Oper} {ev : Operand → Value} {w : World} {b : Nat} {f : Nat → Int} {t : TypeId} {x : Operand} (hg : Blk w b 2 f t) (ho : o.op = .load 26 x) (hx : ev x = .pointer (some ⟨b, 0, none⟩)) :
    (execOp ev o).run Try.prog w = .ok (.value (.agg (mk 2 f))) w := exec_load_blk _ x ho hx hg Try.underlying26 rfl sizeC
theorem fc_mul5 {a b : Nat} (ha : a ≤ 160000) (hb : b ≤ 160000) : a * b ≤ 4611686018427387904 := by
  have := Nat.mul_le_mul ha hb
  omega
theorem slideRoom_any (f : Nat → Int) (d : Nat) (w : World) (hV : Vd f) (hm : isMv f d = true) : Calls Try.prog 52 #[.agg (mk 18 (slideV f d))] w fun e w' => e = .returned (.agg (mk 2 (fcF (brV f d)))) ∧ Below w.heap.size w w' := by
  have z2 := zero2
  have z18 := zero18
  have K3 := (Blk.new w 18 (slideV f d) 64).alloc (.cells (mk 2 fun _ => 0) 53)
  have K4 := Blk.new (w.alloc (.cells (mk 18 (slideV f d)) 64)) 2 (fun _ => 0) 53
  have HB := Lib.hid (((Below.refl w.heap.size w).alloc (Nat.le_refl _) (.cells (mk 18 (slideV f d)) 64)).alloc (by simp) (.cells (mk 2 fun _ => 0) 53))
  simp only [World.size_alloc] at K4
  have HM := Lib.hid (fun W => meanBehind_any (slideB f d) (numT uRoom) 1 1000 49 #[] #[] W (slideB_vd hV d) (den_num (by decide) (by decide) uRoom_le) (mv_room hV hm) (Go.Proofs.enters_of Try.func49 (by kernel_rfl) rfl) (fun p W' hp _ => room_any (plB (slideB f d) p) W' (plB_vd (slideB_vd hV d) hp)))
  show Calls _ _ _ _ fun e w' => e = .returned (.agg (mk 2 (fcF (mnF (numT uRoom) (slideB f d))))) ∧ _
  go_enter Try.func52, Try.ntmps52
  go_wp2_with ((with_reducible show wpList _ _ _ (Oper.mk _ (Op.load 29 _) _ _ _ _ :: _) _ _); refine loadSB9 K3 rfl rfl rfl ?_)
  refine (HM.out _).mono ?_
  rintro _ w2 ⟨rfl, hb⟩
  have K4 := K4.below hb K4.lt
  have HB : Hid (Below w.heap.size w w2) := HB.out.trans (hb.mono HB.out.size)
  clear hb
  go_wp2_with ((with_reducible show wpList _ _ _ (Oper.mk _ (Op.store 53 _ _) _ _ _ _ :: _) _ _); refine storeF (K4) rfl rfl rfl rfl ?_)
  try simp only [Exit.inBlock, Exit.then]
  exact retcF (K4.row 2 _) rfl rfl rfl ⟨rfl, below_setRow HB.out (by omega) _⟩
theorem execBr {o : Oper} {ev : Operand → Value} {w : World} {b : Nat} {f : Nat → Int} {t : TypeId} {x : Operand} (hg : Blk w b 16 f t) (ho : o.op = .load 29 x) (hx : ev x = .pointer (some ⟨b, 0, none⟩)) :
    (execOp ev o).run Try.prog w = .ok (.value (.agg (mk 16 f))) w := exec_load_blk _ x ho hx hg Try.underlying29 rfl sizeB
set_option maxHeartbeats 4000000 in
set_option maxRecDepth 20000 in
theorem implBestRoom_any (f : Nat → Int) (w : World) :
    Calls Try.prog 22 #[.agg (mk 16 f)] w fun e w' => e = .returned (.tuple #[.int .i64 ((brB f).d : Int), .agg (mk 2 (fcF (brB f).v)), .bool (brB f).ok]) ∧ Below w.heap.size w w' := by
  have z2 := zero2
  have z16 := zero16
  have z18 := zero18
  have K3 := (Blk.new w 16 f 29).alloc (.cells (mk 2 fun _ => 0) 26)
  have KR := Blk.new (w.alloc (.cells (mk 16 f) 29)) 2 (fun _ => 0) 26
  have HB := Lib.hid (((Below.refl w.heap.size w).alloc (Nat.le_refl _) (.cells (mk 16 f) 29)).alloc (by simp) (.cells (mk 2 fun _ => 0) 26))
  simp only [World.size_alloc] at KR
  by_cases hV : Vd f
  · have HV := Lib.hid hV
    have HM := Lib.hid (fun W => bestMove_any f (brV f) (1, 0) 52 #[] #[] W hV (fun d hd hm => ⟨(br_ok hV hm).1, by have := br_ok hV hm; omega, by have := br_ok hV hm; omega⟩) (fun d hd hm => ltF_end _) (Go.Proofs.enters_of Try.func52 (by kernel_rfl) rfl) (fun d W' hd hm _ => slideRoom_any f d W' hV hm))
    have HBE : Hid (brB f = if (bmF f (brV f) 4).ok = true then bmF f (brV f) 4 else bmN) := by
      show _ = _
      unfold brB
      by_cases h : (bmF f (brV f) 4).ok = true
      · rw [if_pos ⟨hV, h⟩, if_pos h]
      · rw [if_neg (fun q => h q.2), if_neg h]
    generalize bmF f (brV f) 4 = R at *
    clear hV
    go_enter Try.func22, Try.ntmps22
    go_wp2_with ((with_reducible show wpList _ _ _ (Oper.mk _ (Op.load 29 _) _ _ _ _ :: _) _ _); refine loadB (K3) rfl rfl rfl ?_)
    refine (implBoard_yes _ _ HV.out).mono ?_
    rintro _ w1 ⟨rfl, hb⟩
    have K3 := K3.below hb K3.lt
    have KR := KR.below hb KR.lt
    have HB : Hid (Below w.heap.size w w1) := HB.out.trans (hb.mono HB.out.size)
    clear hb
    go_wp2_with fail
    refine wp_region_held_drew (S := fun W => Blk W w.heap.size 16 f 29) (by kernel_rfl) (K3.drew) (fun hHeld => ?_)
    have K3 := K3.drew
    have KR := KR.drew
    have HB : Hid (Below w.heap.size w w1.drew) := HB.out.drew
    clear hHeld
    generalize w1.drew = xw at *
    have hHeld : Blk xw w.heap.size 16 f 29 := K3
    refine wpAnyH_take (i := 0) (oi := { dst := some 13, op := _, type := _, pos := _, after := _, guard := _ }) (v := .agg (mk 16 f)) rfl (by kernel_rfl) (by kernel_rfl) (by kernel_rfl) (fun _ _ _ h => h) (Or.inl ⟨by rfl, fun _ q => execBr q rfl rfl⟩) (by assumption) ?_
    try simp only [Act.put, List.setIfInBounds_toArray, List.set_cons_zero, List.set_cons_succ]
    refine wpAnyH_ready (rs := [1, 7]) (by kernel_rfl) (by simp) ?_
    refine AllReadyH.cons rfl (fun K hK => ?_) ?_
    · go_simp
      refine (endless_any _).mono ?_
      rintro _ x1 ⟨rfl, hb⟩
      have K3 := K3.below hb K3.lt
      have KR := KR.below hb KR.lt
      have HB : Hid (Below w.heap.size w x1) := HB.out.trans (hb.mono HB.out.size)
      clear hb hHeld
      go_wp2_with fail
      refine hK.out _ _ (K3) (fun hHeld => ?_)
      clear hK K
      try simp only [Act.put, List.setIfInBounds_toArray, List.set_cons_zero, List.set_cons_succ]
      refine wpAnyH_ready (rs := [2, 7]) (by kernel_rfl) (by simp) ?_
      refine AllReadyH.cons rfl (fun K hK => ?_) ?_
      · go_simp
        refine (HM.out _).mono ?_
        rintro _ x2 ⟨rfl, hb⟩
        have K3 := K3.below hb K3.lt
        have KR := KR.below hb KR.lt
        have HB : Hid (Below w.heap.size w x2) := HB.out.trans (hb.mono HB.out.size)
        clear hb hHeld
        go_wp2_with fail
        refine hK.out _ _ (K3) (fun hHeld => ?_)
        clear hK K
        try simp only [Act.put, List.setIfInBounds_toArray, List.set_cons_zero, List.set_cons_succ]
        refine wpAnyH_take (i := 3) (oi := { dst := some 12, op := _, type := _, pos := _, after := _, guard := _ }) (v := .tuple #[.int .i64 ((R).d : Int), .agg (mk 2 (fcF (R).v)), .bool (R).ok]) rfl (by kernel_rfl) (by kernel_rfl) (by kernel_rfl) (fun _ _ _ h => h) (Or.inl ⟨by rfl, by intro w hSw; clear hSw; go_simp; (try with_reducible rfl)⟩) (by assumption) ?_
        try simp only [Act.put, List.setIfInBounds_toArray, List.set_cons_zero, List.set_cons_succ]
        refine wpAnyH_take (i := 4) (oi := { dst := some 16, op := _, type := _, pos := _, after := _, guard := _ }) (v := .int .i64 ((R).d : Int)) rfl (by kernel_rfl) (by kernel_rfl) (by kernel_rfl) (fun _ _ _ h => h) (Or.inl ⟨by rfl, by intro w hSw; clear hSw; go_simp; (try with_reducible rfl)⟩) (by assumption) ?_
        try simp only [Act.put, List.setIfInBounds_toArray, List.set_cons_zero, List.set_cons_succ]
        refine wpAnyH_take (i := 5) (oi := { dst := some 17, op := _, type := _, pos := _, after := _, guard := _ }) (v := .agg (mk 2 (fcF (R).v))) rfl (by kernel_rfl) (by kernel_rfl) (by kernel_rfl) (fun _ _ _ h => h) (Or.inl ⟨by rfl, by intro w hSw; clear hSw; go_simp; (try with_reducible rfl)⟩) (by assumption) ?_
        try simp only [Act.put, List.setIfInBounds_toArray, List.set_cons_zero, List.set_cons_succ]
        refine wpAnyH_take (i := 6) (oi := { dst := some 18, op := _, type := _, pos := _, after := _, guard := _ }) (v := .bool (R).ok) rfl (by kernel_rfl) (by kernel_rfl) (by kernel_rfl) (fun _ _ _ h => h) (Or.inl ⟨by rfl, by intro w hSw; clear hSw; go_simp; (try with_reducible rfl)⟩) (by assumption) ?_
        try simp only [Act.put, List.setIfInBounds_toArray, List.set_cons_zero, List.set_cons_succ]
        refine wpAnyH_ready (rs := [7]) (by kernel_rfl) (by simp) ?_
        refine AllReadyH.cons rfl (fun K hK => ?_) AllReadyH.nil
        go_simp
        clear hHeld
        have hl0 := K3.lt
        have hl1 := KR.lt
        have KN := Blk.new x2 2 (fun _ => 0) 53
        have K3 := K3.alloc (.cells (mk 2 fun _ => 0) 53)
        have KR := KR.alloc (.cells (mk 2 fun _ => 0) 53)
        have HB : Hid (Below w.heap.size w (x2.alloc (.cells (mk 2 fun _ => 0) 53))) := HB.out.alloc HB.out.size _
        generalize x2.alloc (.cells (mk 2 fun _ => 0) 53) = xn3 at *
        generalize x2.heap.size = bN at *
        refine hK.out _ _ (K3) (fun hHeld => ?_)
        clear hK K
        try simp only [Act.put, List.setIfInBounds_toArray, List.set_cons_zero, List.set_cons_succ]
        refine wpAnyH_take (i := 8) (oi := { dst := some 5, op := _, type := _, pos := _, after := _, guard := _ }) (v := .int .i64 ((R).d : Int)) rfl (by kernel_rfl) (by kernel_rfl) (by kernel_rfl) (fun _ _ _ h => h) (Or.inl ⟨by rfl, by intro w hSw; clear hSw; go_simp; (try with_reducible rfl)⟩) (by assumption) ?_
        try simp only [Act.put, List.setIfInBounds_toArray, List.set_cons_zero, List.set_cons_succ]
        refine wpAnyH_ready (rs := [9]) (by kernel_rfl) (by simp) ?_
        refine AllReadyH.cons rfl (fun K hK => ?_) AllReadyH.nil
        have st1 := run_store_blk (P := Try.prog) (g := fcF (R).v) KN
        have ms1 : (mk 2 (fcF (R).v)).size = 2 := mk_size 2 _
        go_simp
        clear st1 ms1 hHeld
        have K3 := K3.rowOther bN (mk 2 (fcF (R).v)) (by omega)
        have KR := KR.rowOther bN (mk 2 (fcF (R).v)) (by omega)
        have HB : Hid (Below w.heap.size w (xn3.setRow bN (mk 2 (fcF (R).v)))) := below_setRow HB.out (by omega) _
        have KN := KN.row 2 (fcF (R).v)
        generalize xn3.setRow bN (mk 2 (fcF (R).v)) = xs4 at *
        refine hK.out _ _ (K3) (fun hHeld => ?_)
        clear hK K
        try simp only [Act.put, List.setIfInBounds_toArray, List.set_cons_zero, List.set_cons_succ]
        refine wpAnyH_take (i := 10) (oi := { dst := some 7, op := _, type := _, pos := _, after := _, guard := _ }) (v := .bool (R).ok) rfl (by kernel_rfl) (by kernel_rfl) (by kernel_rfl) (fun _ _ _ h => h) (Or.inl ⟨by rfl, by intro w hSw; clear hSw; go_simp; (try with_reducible rfl)⟩) (by assumption) ?_
        try simp only [Act.put, List.setIfInBounds_toArray, List.set_cons_zero, List.set_cons_succ]
        refine wpAnyH_done (by kernel_rfl) ?_ _
        clear hHeld
        cases hok : R.ok with
        | true =>
          have HBR : Hid (brB f = ⟨R.d, R.v, true⟩) := by show _ = _; rw [HBE.out, if_pos hok, ← hok]
          rw [hok] at *
          clear hok
          go_wp2_with fail
          refine wp_region_held_drew (S := fun W => (∃ g, Blk W (w.heap.size + 1) 2 g 26) ∧ Blk W bN 2 (fcF R.v) 53) (by kernel_rfl) (⟨⟨_, KR.drew⟩, KN.drew⟩) (fun hHeld => ?_)
          have KR := KR.drew
          have KN := KN.drew
          have HB : Hid (Below w.heap.size w xs4.drew) := HB.out.drew
          generalize xs4.drew = z0 at *
          refine wpAnyH_take (i := 0) (oi := { dst := some 22, op := _, type := _, pos := _, after := _, guard := _ }) (v := .int .i64 (R.d : Int)) rfl (by kernel_rfl) (by kernel_rfl) (by kernel_rfl) (fun _ _ _ h => h) (Or.inl ⟨by rfl, by intro w hSw; clear hSw; go_simp; (try with_reducible rfl)⟩) (by assumption) ?_
          try simp only [Act.put, List.setIfInBounds_toArray, List.set_cons_zero, List.set_cons_succ]
          refine wpAnyH_take (i := 1) (oi := { dst := some 23, op := _, type := _, pos := _, after := _, guard := _ }) (v := .agg (mk 2 (fcF R.v))) rfl (by kernel_rfl) (by kernel_rfl) (by kernel_rfl) (fun _ _ _ h => h) (Or.inl ⟨by rfl, fun _ q => execF9 q.2 rfl rfl⟩) (by assumption) ?_
          try simp only [Act.put, List.setIfInBounds_toArray, List.set_cons_zero, List.set_cons_succ]
          refine wpAnyH_take (i := 2) (oi := { dst := some 2, op := _, type := _, pos := _, after := _, guard := _ }) (v := .int .i64 (R.d : Int)) rfl (by kernel_rfl) (by kernel_rfl) (by kernel_rfl) (fun _ _ _ h => h) (Or.inl ⟨by rfl, by intro w hSw; clear hSw; go_simp; (try with_reducible rfl)⟩) (by assumption) ?_
          try simp only [Act.put, List.setIfInBounds_toArray, List.set_cons_zero, List.set_cons_succ]
          refine wpAnyH_ready (rs := [3]) (by kernel_rfl) (by simp) ?_
          refine AllReadyH.cons rfl (fun K hK => ?_) AllReadyH.nil
          have st1 := run_store_blk (P := Try.prog) (g := fcF R.v) KR
          have ms1 : (mk 2 (fcF R.v)).size = 2 := mk_size 2 _
          go_simp
          clear st1 ms1 hHeld
          have hne : w.heap.size + 1 ≠ bN := by omega
          have KN := KN.rowOther (w.heap.size + 1) (mk 2 (fcF R.v)) (by omega)
          have HB : Hid (Below w.heap.size w (z0.setRow (w.heap.size + 1) (mk 2 (fcF R.v)))) := below_setRow HB.out (by omega) _
          have KR := KR.row 2 (fcF R.v)
          generalize z0.setRow (w.heap.size + 1) (mk 2 (fcF R.v)) = z1 at *
          refine hK.out _ _ ⟨⟨_, KR⟩, KN⟩ (fun hHeld => ?_)
          clear hK K
          try simp only [Act.put, List.setIfInBounds_toArray, List.set_cons_zero, List.set_cons_succ]
          refine wpAnyH_take (i := 4) (oi := { dst := some 4, op := _, type := _, pos := _, after := _, guard := _ }) (v := .bool true) rfl (by kernel_rfl) (by kernel_rfl) (by kernel_rfl) (fun _ _ _ h => h) (Or.inl ⟨by rfl, by intro w hSw; clear hSw; go_simp; (try with_reducible rfl)⟩) (by assumption) ?_
          try simp only [Act.put, List.setIfInBounds_toArray, List.set_cons_zero, List.set_cons_succ]
          refine wpAnyH_done (by kernel_rfl) ?_ _
          clear hHeld
          go_wp2_with fail
          try simp only [Exit.inBlock, Exit.then]
          exact ret_tct Try.underlying26 rfl sizeC rfl rfl rfl KR ⟨by rw [HBR.out] <;> rfl, HB.out⟩
        | false =>
          have HBR : Hid (brB f = bmN) := by show _ = _; rw [HBE.out, hok]; rfl
          clear hok
          go_wp2_with (first | ((with_reducible show wpList _ _ _ (Oper.mk _ (Op.store 26 _ _) _ _ _ _ :: _) _ _); refine storeC (KR) rfl rfl rfl rfl ?_))
          try simp only [Exit.inBlock, Exit.then]
          exact ret_tct Try.underlying26 rfl sizeC rfl rfl rfl (KR.row 2 _) ⟨by rw [HBR.out] <;> rfl, below_setRow HB.out (by omega) _⟩
      refine AllReadyH.cons rfl (fun K hK => ?_) AllReadyH.nil
      go_simp
      clear hHeld
      have hl0 := K3.lt
      have hl1 := KR.lt
      have KN := Blk.new x1 2 (fun _ => 0) 53
      have K3 := K3.alloc (.cells (mk 2 fun _ => 0) 53)
      have KR := KR.alloc (.cells (mk 2 fun _ => 0) 53)
      have HB : Hid (Below w.heap.size w (x1.alloc (.cells (mk 2 fun _ => 0) 53))) := HB.out.alloc HB.out.size _
      generalize x1.alloc (.cells (mk 2 fun _ => 0) 53) = xn5 at *
      generalize x1.heap.size = bN at *
      refine hK.out _ _ (K3) (fun hHeld => ?_)
      clear hK K
      try simp only [Act.put, List.setIfInBounds_toArray, List.set_cons_zero, List.set_cons_succ]
      refine wpAnyH_ready (rs := [2]) (by kernel_rfl) (by simp) ?_
      refine AllReadyH.cons rfl (fun K hK => ?_) AllReadyH.nil
      go_simp
      refine (HM.out _).mono ?_
      rintro _ x6 ⟨rfl, hb⟩
      have K3 := K3.below hb K3.lt
      have KR := KR.below hb KR.lt
      have KN := KN.below hb KN.lt
      have HB : Hid (Below w.heap.size w x6) := HB.out.trans (hb.mono HB.out.size)
      clear hb hHeld
      go_wp2_with fail
      refine hK.out _ _ (K3) (fun hHeld => ?_)
      clear hK K
      try simp only [Act.put, List.setIfInBounds_toArray, List.set_cons_zero, List.set_cons_succ]
      refine wpAnyH_take (i := 3) (oi := { dst := some 12, op := _, type := _, pos := _, after := _, guard := _ }) (v := .tuple #[.int .i64 ((R).d : Int), .agg (mk 2 (fcF (R).v)), .bool (R).ok]) rfl (by kernel_rfl) (by kernel_rfl) (by kernel_rfl) (fun _ _ _ h => h) (Or.inl ⟨by rfl, by intro w hSw; clear hSw; go_simp; (try with_reducible rfl)⟩) (by assumption) ?_
      try simp only [Act.put, List.setIfInBounds_toArray, List.set_cons_zero, List.set_cons_succ]
      refine wpAnyH_take (i := 4) (oi := { dst := some 16, op := _, type := _, pos := _, after := _, guard := _ }) (v := .int .i64 ((R).d : Int)) rfl (by kernel_rfl) (by kernel_rfl) (by kernel_rfl) (fun _ _ _ h => h) (Or.inl ⟨by rfl, by intro w hSw; clear hSw; go_simp; (try with_reducible rfl)⟩) (by assumption) ?_
      try simp only [Act.put, List.setIfInBounds_toArray, List.set_cons_zero, List.set_cons_succ]
      refine wpAnyH_take (i := 5) (oi := { dst := some 17, op := _, type := _, pos := _, after := _, guard := _ }) (v := .agg (mk 2 (fcF (R).v))) rfl (by kernel_rfl) (by kernel_rfl) (by kernel_rfl) (fun _ _ _ h => h) (Or.inl ⟨by rfl, by intro w hSw; clear hSw; go_simp; (try with_reducible rfl)⟩) (by assumption) ?_
      try simp only [Act.put, List.setIfInBounds_toArray, List.set_cons_zero, List.set_cons_succ]
      refine wpAnyH_take (i := 6) (oi := { dst := some 18, op := _, type := _, pos := _, after := _, guard := _ }) (v := .bool (R).ok) rfl (by kernel_rfl) (by kernel_rfl) (by kernel_rfl) (fun _ _ _ h => h) (Or.inl ⟨by rfl, by intro w hSw; clear hSw; go_simp; (try with_reducible rfl)⟩) (by assumption) ?_
      try simp only [Act.put, List.setIfInBounds_toArray, List.set_cons_zero, List.set_cons_succ]
      refine wpAnyH_take (i := 8) (oi := { dst := some 5, op := _, type := _, pos := _, after := _, guard := _ }) (v := .int .i64 ((R).d : Int)) rfl (by kernel_rfl) (by kernel_rfl) (by kernel_rfl) (fun _ _ _ h => h) (Or.inl ⟨by rfl, by intro w hSw; clear hSw; go_simp; (try with_reducible rfl)⟩) (by assumption) ?_
      try simp only [Act.put, List.setIfInBounds_toArray, List.set_cons_zero, List.set_cons_succ]
      refine wpAnyH_ready (rs := [9]) (by kernel_rfl) (by simp) ?_
      refine AllReadyH.cons rfl (fun K hK => ?_) AllReadyH.nil
      have st1 := run_store_blk (P := Try.prog) (g := fcF (R).v) KN
      have ms1 : (mk 2 (fcF (R).v)).size = 2 := mk_size 2 _
      go_simp
      clear st1 ms1 hHeld
      have K3 := K3.rowOther bN (mk 2 (fcF (R).v)) (by omega)
      have KR := KR.rowOther bN (mk 2 (fcF (R).v)) (by omega)
      have HB : Hid (Below w.heap.size w (x6.setRow bN (mk 2 (fcF (R).v)))) := below_setRow HB.out (by omega) _
      have KN := KN.row 2 (fcF (R).v)
      generalize x6.setRow bN (mk 2 (fcF (R).v)) = xs7 at *
      refine hK.out _ _ (K3) (fun hHeld => ?_)
      clear hK K
      try simp only [Act.put, List.setIfInBounds_toArray, List.set_cons_zero, List.set_cons_succ]
      refine wpAnyH_take (i := 10) (oi := { dst := some 7, op := _, type := _, pos := _, after := _, guard := _ }) (v := .bool (R).ok) rfl (by kernel_rfl) (by kernel_rfl) (by kernel_rfl) (fun _ _ _ h => h) (Or.inl ⟨by rfl, by intro w hSw; clear hSw; go_simp; (try with_reducible rfl)⟩) (by assumption) ?_
      try simp only [Act.put, List.setIfInBounds_toArray, List.set_cons_zero, List.set_cons_succ]
      refine wpAnyH_done (by kernel_rfl) ?_ _
      clear hHeld
      cases hok : R.ok with
      | true =>
        have HBR : Hid (brB f = ⟨R.d, R.v, true⟩) := by show _ = _; rw [HBE.out, if_pos hok, ← hok]
        rw [hok] at *
        clear hok
        go_wp2_with fail
        refine wp_region_held_drew (S := fun W => (∃ g, Blk W (w.heap.size + 1) 2 g 26) ∧ Blk W bN 2 (fcF R.v) 53) (by kernel_rfl) (⟨⟨_, KR.drew⟩, KN.drew⟩) (fun hHeld => ?_)
        have KR := KR.drew
        have KN := KN.drew
        have HB : Hid (Below w.heap.size w xs7.drew) := HB.out.drew
        generalize xs7.drew = z0 at *
        refine wpAnyH_take (i := 0) (oi := { dst := some 22, op := _, type := _, pos := _, after := _, guard := _ }) (v := .int .i64 (R.d : Int)) rfl (by kernel_rfl) (by kernel_rfl) (by kernel_rfl) (fun _ _ _ h => h) (Or.inl ⟨by rfl, by intro w hSw; clear hSw; go_simp; (try with_reducible rfl)⟩) (by assumption) ?_
        try simp only [Act.put, List.setIfInBounds_toArray, List.set_cons_zero, List.set_cons_succ]
        refine wpAnyH_take (i := 1) (oi := { dst := some 23, op := _, type := _, pos := _, after := _, guard := _ }) (v := .agg (mk 2 (fcF R.v))) rfl (by kernel_rfl) (by kernel_rfl) (by kernel_rfl) (fun _ _ _ h => h) (Or.inl ⟨by rfl, fun _ q => execF9 q.2 rfl rfl⟩) (by assumption) ?_
        try simp only [Act.put, List.setIfInBounds_toArray, List.set_cons_zero, List.set_cons_succ]
        refine wpAnyH_take (i := 2) (oi := { dst := some 2, op := _, type := _, pos := _, after := _, guard := _ }) (v := .int .i64 (R.d : Int)) rfl (by kernel_rfl) (by kernel_rfl) (by kernel_rfl) (fun _ _ _ h => h) (Or.inl ⟨by rfl, by intro w hSw; clear hSw; go_simp; (try with_reducible rfl)⟩) (by assumption) ?_
        try simp only [Act.put, List.setIfInBounds_toArray, List.set_cons_zero, List.set_cons_succ]
        refine wpAnyH_ready (rs := [3]) (by kernel_rfl) (by simp) ?_
        refine AllReadyH.cons rfl (fun K hK => ?_) AllReadyH.nil
        have st1 := run_store_blk (P := Try.prog) (g := fcF R.v) KR
        have ms1 : (mk 2 (fcF R.v)).size = 2 := mk_size 2 _
        go_simp
        clear st1 ms1 hHeld
        have hne : w.heap.size + 1 ≠ bN := by omega
        have KN := KN.rowOther (w.heap.size + 1) (mk 2 (fcF R.v)) (by omega)
        have HB : Hid (Below w.heap.size w (z0.setRow (w.heap.size + 1) (mk 2 (fcF R.v)))) := below_setRow HB.out (by omega) _
        have KR := KR.row 2 (fcF R.v)
        generalize z0.setRow (w.heap.size + 1) (mk 2 (fcF R.v)) = z1 at *
        refine hK.out _ _ ⟨⟨_, KR⟩, KN⟩ (fun hHeld => ?_)
        clear hK K
        try simp only [Act.put, List.setIfInBounds_toArray, List.set_cons_zero, List.set_cons_succ]
        refine wpAnyH_take (i := 4) (oi := { dst := some 4, op := _, type := _, pos := _, after := _, guard := _ }) (v := .bool true) rfl (by kernel_rfl) (by kernel_rfl) (by kernel_rfl) (fun _ _ _ h => h) (Or.inl ⟨by rfl, by intro w hSw; clear hSw; go_simp; (try with_reducible rfl)⟩) (by assumption) ?_
        try simp only [Act.put, List.setIfInBounds_toArray, List.set_cons_zero, List.set_cons_succ]
        refine wpAnyH_done (by kernel_rfl) ?_ _
        clear hHeld
        go_wp2_with fail
        try simp only [Exit.inBlock, Exit.then]
        exact ret_tct Try.underlying26 rfl sizeC rfl rfl rfl KR ⟨by rw [HBR.out] <;> rfl, HB.out⟩
      | false =>
        have HBR : Hid (brB f = bmN) := by show _ = _; rw [HBE.out, hok]; rfl
        clear hok
        go_wp2_with (first | ((with_reducible show wpList _ _ _ (Oper.mk _ (Op.store 26 _ _) _ _ _ _ :: _) _ _); refine storeC (KR) rfl rfl rfl rfl ?_))
        try simp only [Exit.inBlock, Exit.then]
        exact ret_tct Try.underlying26 rfl sizeC rfl rfl rfl (KR.row 2 _) ⟨by rw [HBR.out] <;> rfl, below_setRow HB.out (by omega) _⟩
    refine AllReadyH.cons rfl (fun K hK => ?_) AllReadyH.nil
    go_simp
    clear hHeld
    have hl0 := K3.lt
    have hl1 := KR.lt
    have KN := Blk.new xw 2 (fun _ => 0) 53
    have K3 := K3.alloc (.cells (mk 2 fun _ => 0) 53)
    have KR := KR.alloc (.cells (mk 2 fun _ => 0) 53)
    have HB : Hid (Below w.heap.size w (xw.alloc (.cells (mk 2 fun _ => 0) 53))) := HB.out.alloc HB.out.size _
    generalize xw.alloc (.cells (mk 2 fun _ => 0) 53) = xn8 at *
    generalize xw.heap.size = bN at *
    refine hK.out _ _ (K3) (fun hHeld => ?_)
    clear hK K
    try simp only [Act.put, List.setIfInBounds_toArray, List.set_cons_zero, List.set_cons_succ]
    refine wpAnyH_ready (rs := [1]) (by kernel_rfl) (by simp) ?_
    refine AllReadyH.cons rfl (fun K hK => ?_) AllReadyH.nil
    go_simp
    refine (endless_any _).mono ?_
    rintro _ x9 ⟨rfl, hb⟩
    have K3 := K3.below hb K3.lt
    have KR := KR.below hb KR.lt
    have KN := KN.below hb KN.lt
    have HB : Hid (Below w.heap.size w x9) := HB.out.trans (hb.mono HB.out.size)
    clear hb hHeld
    go_wp2_with fail
    refine hK.out _ _ (K3) (fun hHeld => ?_)
    clear hK K
    try simp only [Act.put, List.setIfInBounds_toArray, List.set_cons_zero, List.set_cons_succ]
    refine wpAnyH_ready (rs := [2]) (by kernel_rfl) (by simp) ?_
    refine AllReadyH.cons rfl (fun K hK => ?_) AllReadyH.nil
    go_simp
    refine (HM.out _).mono ?_
    rintro _ x10 ⟨rfl, hb⟩
    have K3 := K3.below hb K3.lt
    have KR := KR.below hb KR.lt
    have KN := KN.below hb KN.lt
    have HB : Hid (Below w.heap.size w x10) := HB.out.trans (hb.mono HB.out.size)
    clear hb hHeld
    go_wp2_with fail
    refine hK.out _ _ (K3) (fun hHeld => ?_)
    clear hK K
    try simp only [Act.put, List.setIfInBounds_toArray, List.set_cons_zero, List.set_cons_succ]
    refine wpAnyH_take (i := 3) (oi := { dst := some 12, op := _, type := _, pos := _, after := _, guard := _ }) (v := .tuple #[.int .i64 ((R).d : Int), .agg (mk 2 (fcF (R).v)), .bool (R).ok]) rfl (by kernel_rfl) (by kernel_rfl) (by kernel_rfl) (fun _ _ _ h => h) (Or.inl ⟨by rfl, by intro w hSw; clear hSw; go_simp; (try with_reducible rfl)⟩) (by assumption) ?_
    try simp only [Act.put, List.setIfInBounds_toArray, List.set_cons_zero, List.set_cons_succ]
    refine wpAnyH_take (i := 4) (oi := { dst := some 16, op := _, type := _, pos := _, after := _, guard := _ }) (v := .int .i64 ((R).d : Int)) rfl (by kernel_rfl) (by kernel_rfl) (by kernel_rfl) (fun _ _ _ h => h) (Or.inl ⟨by rfl, by intro w hSw; clear hSw; go_simp; (try with_reducible rfl)⟩) (by assumption) ?_
    try simp only [Act.put, List.setIfInBounds_toArray, List.set_cons_zero, List.set_cons_succ]
    refine wpAnyH_take (i := 5) (oi := { dst := some 17, op := _, type := _, pos := _, after := _, guard := _ }) (v := .agg (mk 2 (fcF (R).v))) rfl (by kernel_rfl) (by kernel_rfl) (by kernel_rfl) (fun _ _ _ h => h) (Or.inl ⟨by rfl, by intro w hSw; clear hSw; go_simp; (try with_reducible rfl)⟩) (by assumption) ?_
    try simp only [Act.put, List.setIfInBounds_toArray, List.set_cons_zero, List.set_cons_succ]
    refine wpAnyH_take (i := 6) (oi := { dst := some 18, op := _, type := _, pos := _, after := _, guard := _ }) (v := .bool (R).ok) rfl (by kernel_rfl) (by kernel_rfl) (by kernel_rfl) (fun _ _ _ h => h) (Or.inl ⟨by rfl, by intro w hSw; clear hSw; go_simp; (try with_reducible rfl)⟩) (by assumption) ?_
    try simp only [Act.put, List.setIfInBounds_toArray, List.set_cons_zero, List.set_cons_succ]
    refine wpAnyH_take (i := 8) (oi := { dst := some 5, op := _, type := _, pos := _, after := _, guard := _ }) (v := .int .i64 ((R).d : Int)) rfl (by kernel_rfl) (by kernel_rfl) (by kernel_rfl) (fun _ _ _ h => h) (Or.inl ⟨by rfl, by intro w hSw; clear hSw; go_simp; (try with_reducible rfl)⟩) (by assumption) ?_
    try simp only [Act.put, List.setIfInBounds_toArray, List.set_cons_zero, List.set_cons_succ]
    refine wpAnyH_ready (rs := [9]) (by kernel_rfl) (by simp) ?_
    refine AllReadyH.cons rfl (fun K hK => ?_) AllReadyH.nil
    have st1 := run_store_blk (P := Try.prog) (g := fcF (R).v) KN
    have ms1 : (mk 2 (fcF (R).v)).size = 2 := mk_size 2 _
    go_simp
    clear st1 ms1 hHeld
    have K3 := K3.rowOther bN (mk 2 (fcF (R).v)) (by omega)
    have KR := KR.rowOther bN (mk 2 (fcF (R).v)) (by omega)
    have HB : Hid (Below w.heap.size w (x10.setRow bN (mk 2 (fcF (R).v)))) := below_setRow HB.out (by omega) _
    have KN := KN.row 2 (fcF (R).v)
    generalize x10.setRow bN (mk 2 (fcF (R).v)) = xs11 at *
    refine hK.out _ _ (K3) (fun hHeld => ?_)
    clear hK K
    try simp only [Act.put, List.setIfInBounds_toArray, List.set_cons_zero, List.set_cons_succ]
    refine wpAnyH_take (i := 10) (oi := { dst := some 7, op := _, type := _, pos := _, after := _, guard := _ }) (v := .bool (R).ok) rfl (by kernel_rfl) (by kernel_rfl) (by kernel_rfl) (fun _ _ _ h => h) (Or.inl ⟨by rfl, by intro w hSw; clear hSw; go_simp; (try with_reducible rfl)⟩) (by assumption) ?_
    try simp only [Act.put, List.setIfInBounds_toArray, List.set_cons_zero, List.set_cons_succ]
    refine wpAnyH_done (by kernel_rfl) ?_ _
    clear hHeld
    cases hok : R.ok with
    | true =>
      have HBR : Hid (brB f = ⟨R.d, R.v, true⟩) := by show _ = _; rw [HBE.out, if_pos hok, ← hok]
      rw [hok] at *
      clear hok
      go_wp2_with fail
      refine wp_region_held_drew (S := fun W => (∃ g, Blk W (w.heap.size + 1) 2 g 26) ∧ Blk W bN 2 (fcF R.v) 53) (by kernel_rfl) (⟨⟨_, KR.drew⟩, KN.drew⟩) (fun hHeld => ?_)
      have KR := KR.drew
      have KN := KN.drew
      have HB : Hid (Below w.heap.size w xs11.drew) := HB.out.drew
      generalize xs11.drew = z0 at *
      refine wpAnyH_take (i := 0) (oi := { dst := some 22, op := _, type := _, pos := _, after := _, guard := _ }) (v := .int .i64 (R.d : Int)) rfl (by kernel_rfl) (by kernel_rfl) (by kernel_rfl) (fun _ _ _ h => h) (Or.inl ⟨by rfl, by intro w hSw; clear hSw; go_simp; (try with_reducible rfl)⟩) (by assumption) ?_
      try simp only [Act.put, List.setIfInBounds_toArray, List.set_cons_zero, List.set_cons_succ]
      refine wpAnyH_take (i := 1) (oi := { dst := some 23, op := _, type := _, pos := _, after := _, guard := _ }) (v := .agg (mk 2 (fcF R.v))) rfl (by kernel_rfl) (by kernel_rfl) (by kernel_rfl) (fun _ _ _ h => h) (Or.inl ⟨by rfl, fun _ q => execF9 q.2 rfl rfl⟩) (by assumption) ?_
      try simp only [Act.put, List.setIfInBounds_toArray, List.set_cons_zero, List.set_cons_succ]
      refine wpAnyH_take (i := 2) (oi := { dst := some 2, op := _, type := _, pos := _, after := _, guard := _ }) (v := .int .i64 (R.d : Int)) rfl (by kernel_rfl) (by kernel_rfl) (by kernel_rfl) (fun _ _ _ h => h) (Or.inl ⟨by rfl, by intro w hSw; clear hSw; go_simp; (try with_reducible rfl)⟩) (by assumption) ?_
      try simp only [Act.put, List.setIfInBounds_toArray, List.set_cons_zero, List.set_cons_succ]
      refine wpAnyH_ready (rs := [3]) (by kernel_rfl) (by simp) ?_
      refine AllReadyH.cons rfl (fun K hK => ?_) AllReadyH.nil
      have st1 := run_store_blk (P := Try.prog) (g := fcF R.v) KR
      have ms1 : (mk 2 (fcF R.v)).size = 2 := mk_size 2 _
      go_simp
      clear st1 ms1 hHeld
      have hne : w.heap.size + 1 ≠ bN := by omega
      have KN := KN.rowOther (w.heap.size + 1) (mk 2 (fcF R.v)) (by omega)
      have HB : Hid (Below w.heap.size w (z0.setRow (w.heap.size + 1) (mk 2 (fcF R.v)))) := below_setRow HB.out (by omega) _
      have KR := KR.row 2 (fcF R.v)
      generalize z0.setRow (w.heap.size + 1) (mk 2 (fcF R.v)) = z1 at *
      refine hK.out _ _ ⟨⟨_, KR⟩, KN⟩ (fun hHeld => ?_)
      clear hK K
      try simp only [Act.put, List.setIfInBounds_toArray, List.set_cons_zero, List.set_cons_succ]
      refine wpAnyH_take (i := 4) (oi := { dst := some 4, op := _, type := _, pos := _, after := _, guard := _ }) (v := .bool true) rfl (by kernel_rfl) (by kernel_rfl) (by kernel_rfl) (fun _ _ _ h => h) (Or.inl ⟨by rfl, by intro w hSw; clear hSw; go_simp; (try with_reducible rfl)⟩) (by assumption) ?_
      try simp only [Act.put, List.setIfInBounds_toArray, List.set_cons_zero, List.set_cons_succ]
      refine wpAnyH_done (by kernel_rfl) ?_ _
      clear hHeld
      go_wp2_with fail
      try simp only [Exit.inBlock, Exit.then]
      exact ret_tct Try.underlying26 rfl sizeC rfl rfl rfl KR ⟨by rw [HBR.out] <;> rfl, HB.out⟩
    | false =>
      have HBR : Hid (brB f = bmN) := by show _ = _; rw [HBE.out, hok]; rfl
      clear hok
      go_wp2_with (first | ((with_reducible show wpList _ _ _ (Oper.mk _ (Op.store 26 _ _) _ _ _ _ :: _) _ _); refine storeC (KR) rfl rfl rfl rfl ?_))
      try simp only [Exit.inBlock, Exit.then]
      exact ret_tct Try.underlying26 rfl sizeC rfl rfl rfl (KR.row 2 _) ⟨by rw [HBR.out] <;> rfl, below_setRow HB.out (by omega) _⟩
  · have e0 : brB f = bmN := if_neg fun h => hV h.1
    rw [e0]
    show Calls _ _ _ _ fun e w' => e = .returned (.tuple #[.int .i64 0, .agg (mk 2 fun _ => 0), .bool false]) ∧ _
    have HV := Lib.hid hV
    clear hV e0
    go_enter Try.func22, Try.ntmps22
    go_wp2_with ((with_reducible show wpList _ _ _ (Oper.mk _ (Op.load 29 _) _ _ _ _ :: _) _ _); refine loadB (K3) rfl rfl rfl ?_)
    refine (implBoard_no _ _ HV.out).mono ?_
    rintro _ w1 ⟨rfl, hb⟩
    have K3 := K3.below hb K3.lt
    have KR := KR.below hb KR.lt
    have HB : Hid (Below w.heap.size w w1) := HB.out.trans (hb.mono HB.out.size)
    clear hb
    go_wp2_with ((with_reducible show wpList _ _ _ (Oper.mk _ (Op.store 26 _ _) _ _ _ _ :: _) _ _); refine storeC (KR) rfl rfl rfl rfl ?_)
    try simp only [Exit.inBlock, Exit.then]
    exact ret_tct Try.underlying26 rfl sizeC rfl rfl rfl (KR.row 2 _) ⟨rfl, below_setRow HB.out (by omega) _⟩
set_option maxHeartbeats 4000000 in
set_option maxRecDepth 20000 in
theorem specBestRoom_any (f : Nat → Int) (w : World) :
    Calls Try.prog 21 #[.agg (mk 16 f)] w fun e w' => e = .returned (.tuple #[.int .i64 ((brB f).d : Int), .agg (mk 2 (fcF (brB f).v)), .bool (brB f).ok]) ∧ Below w.heap.size w w' := by
  have z2 := zero2
  have z16 := zero16
  have z18 := zero18
  have K3 := (Blk.new w 16 f 29).alloc (.cells (mk 2 fun _ => 0) 26)
  have KR := Blk.new (w.alloc (.cells (mk 16 f) 29)) 2 (fun _ => 0) 26
  have HB := Lib.hid (((Below.refl w.heap.size w).alloc (Nat.le_refl _) (.cells (mk 16 f) 29)).alloc (by simp) (.cells (mk 2 fun _ => 0) 26))
  simp only [World.size_alloc] at KR
  by_cases hV : Vd f
  · have HV := Lib.hid hV
    have HM := Lib.hid (fun w => l2Moves_any f w hV)
    have hle := movL_le f 4
    have HMA := Lib.hid (fun i (hi : i < (movL f 4).length) => mov_at hi)
    have HCC := Lib.hid (fun d w (hd : d < 4) (hm : isMv f d = true) => show Calls Try.prog 48 #[.agg (mk 16 f), .int .i64 (d : Int)] w fun e w' => e = .returned (.agg (mk 2 (fcF (brV f d)))) ∧ Below w.heap.size w w' from l9MeanRoom_any f d w hV hd hm)
    have HBD := Lib.hid (fun d (hm : isMv f d = true) => br_ok hV hm)
    have HSB0 : Hid (∀ i, (bmL (brV f) ((movL f 4).take i)).ok = true → 0 < (bmL (brV f) ((movL f 4).take i)).v.2 ∧ (bmL (brV f) ((movL f 4).take i)).v.1 ≤ 160000 ∧ (bmL (brV f) ((movL f 4).take i)).v.2 ≤ 160000) := fun i => bmL_all (f := f) (V := brV f) (P := fun S => S.ok = true → 0 < S.v.2 ∧ S.v.1 ≤ 160000 ∧ S.v.2 ≤ 160000) (fun h => by cases h) (fun d hd hm _ => by obtain ⟨a, b, c⟩ := br_ok hV hm; exact ⟨a.pos, b, by show (brV f d).2 ≤ _; omega⟩) i
    have HBE : Hid (∀ S : Bm, S = bmL (brV f) (movL f 4) → brB f = ⟨S.d, mrF S, decide ((((movL f 4).length : Nat) : Int) > 0)⟩) := by
      intro S hS
      rw [bmL_mov] at hS
      have hk := bm_ok_iff f (brV f) 4
      rw [← hS] at hk
      unfold brB
      rw [← hS]
      by_cases h : (movL f 4).length = 0
      · have e : bmF f (brV f) 4 = bm0 := by rw [← bmL_mov, List.eq_nil_of_length_eq_zero h]; rfl
        rw [hS, e, h, if_neg (by rintro ⟨_, q⟩; cases q)]; rfl
      · have hok : S.ok = true := by rw [hk]; simp [h]
        rw [if_pos ⟨hV, hok⟩, mr_yes hok]
        have e : decide ((((movL f 4).length : Nat) : Int) > 0) = true := decide_eq_true (by omega)
        rw [e, ← hok]
    clear hV
    generalize brV f = V at *
    go_enter Try.func21, Try.ntmps21
    go_wp2_with ((with_reducible show wpList _ _ _ (Oper.mk _ (Op.load 29 _) _ _ _ _ :: _) _ _); refine loadB (K3) rfl rfl rfl ?_)
    refine (l2Board_yes _ _ HV.out).mono ?_
    rintro _ w1 ⟨rfl, hb⟩
    have K3 := K3.below hb K3.lt
    have KR := KR.below hb KR.lt
    have HB : Hid (Below w.heap.size w w1) := HB.out.trans (hb.mono HB.out.size)
    clear hb
    go_wp2_with ((with_reducible show wpList _ _ _ (Oper.mk _ (Op.load 29 _) _ _ _ _ :: _) _ _); refine loadB (K3) rfl rfl rfl ?_)
    refine (HM.out _).mono ?_
    rintro _ w2 ⟨gm, cm, rfl, hmo, hb⟩
    have CM := mov_mem5 hmo
    have hq : w.heap.size + 1 < w2.heap.size := (KR.below hb KR.lt).lt
    have K3 := (K3.below hb K3.lt).alloc (.cells (mk 2 (two 0 0)) 26)
    have KR := (KR.below hb KR.lt).alloc (.cells (mk 2 (two 0 0)) 26)
    have K7 : Blk (w2.alloc (.cells (mk 2 (two 0 0)) 26)) w2.heap.size 2 (fcF (mrF bm0)) 26 := Blk.new w2 2 (two 0 0) 26
    have HB : Hid (Below w.heap.size w w2) := HB.out.trans (hb.mono HB.out.size)
    have HB : Hid (Below w.heap.size w (w2.alloc (.cells (mk 2 (two 0 0)) 26))) := HB.out.alloc HB.out.size _
    have CM := CM.alloc (.cells (mk 2 (two 0 0)) 26)
    have hgm : gm < w2.heap.size := (hmo.lt gm rfl).2
    clear hb hmo
    generalize hMM : movL f 4 = M at *
    generalize hLL : M.length = L at *
    have HTL : Hid (M.take L = M) := by show _ = _; rw [← hLL]; exact List.take_length
    go_wp2_with (first | ((with_reducible show wpList _ _ _ (Oper.mk _ (Op.store 26 _ _) _ _ _ _ :: _) _ _); refine storeC (g := two _ _) (Blk.new _ _ _ _) rfl rfl rfl rfl ?_; rw [World.setRow_alloc_new]))
    generalize w2.alloc (.cells (mk 2 (two 0 0)) 26) = w3 at *
    generalize w2.heap.size = bq at *
    go_loopg [6, 8] L (fun gk sB sI wr => ∃ (k : Nat) (S : Bm), k + gk = L ∧ sI = .int .i64 k ∧ Hid (S = bmL V (M.take k)) ∧ sB = .int .i64 (S.d : Int) ∧ CAt wr gm L (fun i => M.getD i 0) ∧ Blk wr w.heap.size 16 f 29 ∧ Blk wr (w.heap.size + 1) 2 (fun _ => 0) 26 ∧ Blk wr bq 2 (fcF (mrF S)) 26 ∧ Hid (Below w.heap.size w wr))
    case atStart => exact ⟨0, bm0, by omega, rfl, rfl, rfl, CM, K3, KR, K7, HB⟩
    case round =>
      obtain ⟨k, S, hkg, rfl, HS, rfl, CM, K3, KR, K7, HB⟩ := hrel
      cases gk with
      | zero =>
        have hk : ¬ ((k : Int) < (L : Int)) := by omega
        obtain rfl : k = L := by omega
        clear hkg
        have HS2 := HS.out
        rw [HTL.out] at HS2
        have HBR := Lib.hid (HBE.out S HS2)
        clear HS2
        go_wp2_with fail
        refine wp_region_held_drew (S := fun W => (∃ g, Blk W (w.heap.size + 1) 2 g 26) ∧ Blk W bq 2 (fcF (mrF S)) 26) (by kernel_rfl) (⟨⟨_, KR.drew⟩, K7.drew⟩) (fun hHeld => ?_)
        have KR := KR.drew
        have K7 := K7.drew
        have HB : Hid (Below w.heap.size w wr.drew) := HB.out.drew
        generalize wr.drew = z0 at *
        refine wpAnyH_take (i := 0) (oi := { dst := some 42, op := _, type := _, pos := _, after := _, guard := _ }) (v := .int .i64 (S.d : Int)) rfl (by kernel_rfl) (by kernel_rfl) (by kernel_rfl) (fun _ _ _ h => h) (Or.inl ⟨by rfl, by intro w hSw; clear hSw; go_simp; (try with_reducible rfl)⟩) (by assumption) ?_
        try simp only [Act.put, List.setIfInBounds_toArray, List.set_cons_zero, List.set_cons_succ]
        refine wpAnyH_take (i := 1) (oi := { dst := some 43, op := _, type := _, pos := _, after := _, guard := _ }) (v := .agg (mk 2 (fcF (mrF S)))) rfl (by kernel_rfl) (by kernel_rfl) (by kernel_rfl) (fun _ _ _ h => h) (Or.inl ⟨by rfl, fun _ q => execC5 q.2 rfl rfl⟩) (by assumption) ?_
        try simp only [Act.put, List.setIfInBounds_toArray, List.set_cons_zero, List.set_cons_succ]
        refine wpAnyH_take (i := 2) (oi := { dst := some 44, op := _, type := _, pos := _, after := _, guard := _ }) (v := .slice (some ⟨gm, 0, none⟩) k cm) rfl (by kernel_rfl) (by kernel_rfl) (by kernel_rfl) (fun _ _ _ h => h) (Or.inl ⟨by rfl, by intro w hSw; clear hSw; go_simp; (try with_reducible rfl)⟩) (by assumption) ?_
        try simp only [Act.put, List.setIfInBounds_toArray, List.set_cons_zero, List.set_cons_succ]
        refine wpAnyH_take (i := 3) (oi := { dst := some 45, op := _, type := _, pos := _, after := _, guard := _ }) (v := .int .i64 (k : Int)) rfl (by kernel_rfl) (by kernel_rfl) (by kernel_rfl) (fun _ _ _ h => h) (Or.inl ⟨by rfl, by intro w hSw; clear hSw; go_simp; (try with_reducible rfl)⟩) (by assumption) ?_
        try simp only [Act.put, List.setIfInBounds_toArray, List.set_cons_zero, List.set_cons_succ]
        refine wpAnyH_take (i := 4) (oi := { dst := some 46, op := _, type := _, pos := _, after := _, guard := _ }) (v := .bool (decide ((k : Int) > 0))) rfl (by kernel_rfl) (by kernel_rfl) (by kernel_rfl) (fun _ _ _ h => h) (Or.inl ⟨by rfl, by intro W q; clear q; go_simp; (try simp)⟩) (by assumption) ?_
        try simp only [Act.put, List.setIfInBounds_toArray, List.set_cons_zero, List.set_cons_succ]
        refine wpAnyH_take (i := 5) (oi := { dst := some 2, op := _, type := _, pos := _, after := _, guard := _ }) (v := .int .i64 (S.d : Int)) rfl (by kernel_rfl) (by kernel_rfl) (by kernel_rfl) (fun _ _ _ h => h) (Or.inl ⟨by rfl, by intro w hSw; clear hSw; go_simp; (try with_reducible rfl)⟩) (by assumption) ?_
        try simp only [Act.put, List.setIfInBounds_toArray, List.set_cons_zero, List.set_cons_succ]
        refine wpAnyH_ready (rs := [6]) (by kernel_rfl) (by simp) ?_
        refine AllReadyH.cons rfl (fun K hK => ?_) AllReadyH.nil
        have st1 := run_store_blk (P := Try.prog) (g := fcF (mrF S)) KR
        have ms1 : (mk 2 (fcF (mrF S))).size = 2 := mk_size 2 _
        go_simp
        clear st1 ms1 hHeld
        have K7 := K7.rowOther (w.heap.size + 1) (mk 2 (fcF (mrF S))) (by omega)
        have HB : Hid (Below w.heap.size w (z0.setRow (w.heap.size + 1) (mk 2 (fcF (mrF S))))) := below_setRow HB.out (by omega) _
        have KR := KR.row 2 (fcF (mrF S))
        generalize z0.setRow (w.heap.size + 1) (mk 2 (fcF (mrF S))) = z1 at *
        refine hK.out _ _ ⟨⟨_, KR⟩, K7⟩ (fun hHeld => ?_)
        clear hK K
        try simp only [Act.put, List.setIfInBounds_toArray, List.set_cons_zero, List.set_cons_succ]
        refine wpAnyH_take (i := 7) (oi := { dst := some 4, op := _, type := _, pos := _, after := _, guard := _ }) (v := .bool (decide ((k : Int) > 0))) rfl (by kernel_rfl) (by kernel_rfl) (by kernel_rfl) (fun _ _ _ h => h) (Or.inl ⟨by rfl, by intro w hSw; clear hSw; go_simp; (try with_reducible rfl)⟩) (by assumption) ?_
        try simp only [Act.put, List.setIfInBounds_toArray, List.set_cons_zero, List.set_cons_succ]
        refine wpAnyH_done (by kernel_rfl) ?_ _
        clear hHeld
        go_wp2_with fail
        try simp only [Exit.inBlock, Exit.then]
        exact ret_tct Try.underlying26 rfl sizeC rfl rfl rfl KR ⟨by rw [HBR.out] <;> rfl, HB.out⟩
      | succ gk2 =>
        have hk8 : (k : Int) < (L : Int) := by omega
        have hk9 : k < L := by omega
        have hk0 : (0 : Int) ≤ (k : Int) := by omega
        obtain ⟨d, hd4, hgk, hdm, hgd, htk⟩ := HMA.out k hk9
        have HGD : Hid (M.getD k 0 = (d : Int)) := hgd
        have HTK : Hid (M.take (k + 1) = M.take k ++ [(d : Int)]) := htk
        have HCK := Lib.hid (fun w => HCC.out d w hd4 hdm)
        have HSB : Hid (S.ok = true → 0 < S.v.2 ∧ S.v.1 ≤ 160000 ∧ S.v.2 ≤ 160000) := by rw [HS.out]; exact HSB0.out k
        obtain ⟨_, hb1, hb2⟩ := HBD.out d hdm
        clear hgd hgk htk
        go_wp2_with fail
        refine wp_region_held_drew (S := fun W => Blk W w.heap.size 16 f 29 ∧ CAt W gm L (fun i => M.getD i 0)) (by kernel_rfl) (⟨K3.drew, CM.drew⟩) (fun hHeld => ?_)
        have K3 := K3.drew
        have KR := KR.drew
        have K7 := K7.drew
        have CM : CAt wr.drew gm L (fun i => M.getD i 0) := CM.drew
        have HB : Hid (Below w.heap.size w wr.drew) := HB.out.drew
        clear hHeld
        generalize wr.drew = x0 at *
        have hHeld : Blk x0 w.heap.size 16 f 29 ∧ CAt x0 gm L (fun i => M.getD i 0) := ⟨K3, CM⟩
        refine wpAnyH_take (i := 0) (oi := { dst := some 23, op := _, type := _, pos := _, after := _, guard := _ }) (v := .agg (mk 16 f)) rfl (by kernel_rfl) (by kernel_rfl) (by kernel_rfl) (fun _ _ _ h => h) (Or.inl ⟨by rfl, fun _ q => execBr q.1 rfl rfl⟩) (by assumption) ?_
        try simp only [Act.put, List.setIfInBounds_toArray, List.set_cons_zero, List.set_cons_succ]
        refine wpAnyH_take (i := 1) (oi := { dst := some 24, op := _, type := _, pos := _, after := _, guard := _ }) (v := .slice (some ⟨gm, 0, none⟩) L cm) rfl (by kernel_rfl) (by kernel_rfl) (by kernel_rfl) (fun _ _ _ h => h) (Or.inl ⟨by rfl, by intro w hSw; clear hSw; go_simp; (try with_reducible rfl)⟩) (by assumption) ?_
        try simp only [Act.put, List.setIfInBounds_toArray, List.set_cons_zero, List.set_cons_succ]
        refine wpAnyH_take (i := 2) (oi := { dst := some 25, op := _, type := _, pos := _, after := _, guard := _ }) (v := .int .i64 (k : Int)) rfl (by kernel_rfl) (by kernel_rfl) (by kernel_rfl) (fun _ _ _ h => h) (Or.inl ⟨by rfl, by intro w hSw; clear hSw; go_simp; (try with_reducible rfl)⟩) (by assumption) ?_
        try simp only [Act.put, List.setIfInBounds_toArray, List.set_cons_zero, List.set_cons_succ]
        refine wpAnyH_take (i := 3) (oi := { dst := some 26, op := _, type := _, pos := _, after := _, guard := _ }) (v := .pointer (some ⟨gm, k, none⟩)) rfl (by kernel_rfl) (by kernel_rfl) (by kernel_rfl) (fun _ _ _ h => h) (Or.inl ⟨by rfl, by intro w hSw; clear hSw; go_simp; (try with_reducible rfl)⟩) (by assumption) ?_
        try simp only [Act.put, List.setIfInBounds_toArray, List.set_cons_zero, List.set_cons_succ]
        refine wpAnyH_take (i := 4) (oi := { dst := some 27, op := _, type := _, pos := _, after := _, guard := _ }) (v := .int .i64 (d : Int)) rfl (by kernel_rfl) (by kernel_rfl) (by kernel_rfl) (fun _ _ _ h => h) (Or.inl ⟨by rfl, by intro W q; have c0 : W.cell? ⟨gm, k, none⟩ = some (.int .i64 (M.getD k 0)) := q.2.2 k hk9; rw [HGD.out] at c0; clear q; go_simp⟩) (by assumption) ?_
        try simp only [Act.put, List.setIfInBounds_toArray, List.set_cons_zero, List.set_cons_succ]
        refine wpAnyH_ready (rs := [5, 6]) (by kernel_rfl) (by simp) ?_
        refine AllReadyH.cons rfl (fun K hK => ?_) ?_
        · go_simp
          refine (HCK.out _).mono ?_
          rintro _ x1 ⟨rfl, hb⟩
          have K3 := K3.below hb K3.lt
          have KR := KR.below hb KR.lt
          have K7 := K7.below hb K7.lt
          have CM := CM.below hb
          have HB : Hid (Below w.heap.size w x1) := HB.out.trans (hb.mono HB.out.size)
          clear hb hHeld
          go_wp2_with fail
          refine hK.out _ _ (⟨K3, CM⟩) (fun hHeld => ?_)
          clear hK K
          try simp only [Act.put, List.setIfInBounds_toArray, List.set_cons_zero, List.set_cons_succ]
          refine wpAnyH_ready (rs := [6]) (by kernel_rfl) (by simp) ?_
          refine AllReadyH.cons rfl (fun K hK => ?_) AllReadyH.nil
          go_simp
          clear hHeld
          have hlR : w.heap.size + 1 < x1.heap.size := KR.lt
          have hl7 : bq < x1.heap.size := K7.lt
          have hl6 : gm < x1.heap.size := CM.1
          have KN := Blk.new x1 2 (fun _ => 0) 26
          have K3 := K3.alloc (.cells (mk 2 fun _ => 0) 26)
          have KR := KR.alloc (.cells (mk 2 fun _ => 0) 26)
          have K7 := K7.alloc (.cells (mk 2 fun _ => 0) 26)
          have CM := CM.alloc (.cells (mk 2 fun _ => 0) 26)
          have HB : Hid (Below w.heap.size w (x1.alloc (.cells (mk 2 fun _ => 0) 26))) := HB.out.alloc HB.out.size _
          generalize x1.alloc (.cells (mk 2 fun _ => 0) 26) = x2 at *
          generalize x1.heap.size = bN at *
          refine hK.out _ _ (⟨K3, CM⟩) (fun hHeld => ?_)
          clear hK K
          try simp only [Act.put, List.setIfInBounds_toArray, List.set_cons_zero, List.set_cons_succ]
          refine wpAnyH_ready (rs := [7]) (by kernel_rfl) (by simp) ?_
          refine AllReadyH.cons rfl (fun K hK => ?_) AllReadyH.nil
          have st1 := run_store_blk (P := Try.prog) (g := fcF (V d)) KN
          have ms1 : (mk 2 (fcF (V d))).size = 2 := mk_size 2 _
          go_simp
          clear st1 ms1 hHeld
          have hgr : x2.grownBy (x2.setRow bN (mk 2 (fcF (V d)))) (some bN) := grown_row KN _
          have CM := CM.grown hgr (fun e => by cases e; omega)
          have K3 := K3.rowOther bN (mk 2 (fcF (V d))) (by omega)
          have KR := KR.rowOther bN (mk 2 (fcF (V d))) (by omega)
          have K7 := K7.rowOther bN (mk 2 (fcF (V d))) (by omega)
          have HB : Hid (Below w.heap.size w (x2.setRow bN (mk 2 (fcF (V d))))) := below_setRow HB.out (by omega) _
          have KN := KN.row 2 (fcF (V d))
          clear hgr
          generalize x2.setRow bN (mk 2 (fcF (V d))) = x3 at *
          refine hK.out _ _ (⟨K3, CM⟩) (fun hHeld => ?_)
          clear hK K
          try simp only [Act.put, List.setIfInBounds_toArray, List.set_cons_zero, List.set_cons_succ]
          refine wpAnyH_done (by kernel_rfl) ?_ _
          clear hHeld
          have ckm : x3.cell? ⟨gm, k, none⟩ = some (.int .i64 (d : Int)) := by
            have c0 : x3.cell? ⟨gm, k, none⟩ = some (.int .i64 (M.getD k 0)) := CM.2 k hk9
            rw [HGD.out] at c0; exact c0
          cases hok : S.ok with
          | false =>
            have HN : Hid (bmL V (M.take (k + 1)) = ⟨d, V d, true⟩) := by
              show _ = _; rw [HTK.out, bmL_snoc, ← HS.out]; unfold bmS; rw [if_pos (.inl hok), Int.toNat_natCast]
            have c7 := K7.cell (i := 1) (by omega)
            rw [mr_no hok] at c7
            have e0 : fcF (0, 0) 1 = 0 := rfl
            rw [e0] at c7
            clear e0 hok
            go_wp2_with (first | ((with_reducible show wpList _ _ _ (Oper.mk _ (Op.load 26 _) _ _ _ _ :: _) _ _); refine loadC (KN) rfl rfl rfl ?_) | ((with_reducible show wpList _ _ _ (Oper.mk _ (Op.store 26 _ _) _ _ _ _ :: _) _ _); refine storeC (K7) rfl rfl rfl rfl ?_))
            have hgr : x3.grownBy (x3.setRow bq (mk 2 (fcF (V d)))) (some bq) := grown_row K7 _
            have CM := CM.grown hgr (fun e => by cases e; omega)
            have K3 := K3.rowOther bq (mk 2 (fcF (V d))) (by omega)
            have KR := KR.rowOther bq (mk 2 (fcF (V d))) (by omega)
            have HB : Hid (Below w.heap.size w (x3.setRow bq (mk 2 (fcF (V d))))) := below_setRow HB.out (by omega) _
            have K7 : Blk (x3.setRow bq (mk 2 (fcF (V d)))) bq 2 (fcF (mrF (Bm.mk d (V d) true))) 26 := K7.row 2 (fcF (V d))
            go_roundg gk2
            case rel => exact ⟨k + 1, ⟨d, V d, true⟩, by omega, by go_num, HN.out.symm, rfl, CM, K3, KR, K7, HB⟩
            case measure => omega
          | true =>
            have c7 := K7.cell (i := 1) (by omega)
            rw [mr_yes hok] at c7
            have e0 : fcF S.v 1 = (S.v.2 : Int) := rfl
            rw [e0] at c7
            obtain ⟨hv0, hv1, hv2⟩ := HSB.out hok
            have hvz : ((S.v.2 : Int) == 0) = false := by rw [beq_eq_false_iff_ne]; omega
            rw [mr_yes hok] at K7
            have HLS := Lib.hid (fun w => l9Less_any S.v (V d) w (fc_mul5 hv1 (by omega)) (fc_mul5 hb1 (by omega)))
            clear e0 hv1 hv2
            cases hlt : ltF S.v (V d) with
            | true =>
              have HN : Hid (bmL V (M.take (k + 1)) = ⟨d, V d, true⟩) := by
                show _ = _; rw [HTK.out, bmL_snoc, ← HS.out]; unfold bmS; rw [Int.toNat_natCast, if_pos (.inr hlt)]
              rw [hlt] at HLS
              clear hlt hok
              go_wp2_with (first | ((with_reducible show wpList _ _ _ (Oper.mk _ (Op.load 26 _) _ _ _ (some _) :: _) _ _); refine loadgC (K7) rfl rfl rfl ?_) | ((with_reducible show wpList _ _ _ (Oper.mk _ (Op.load 26 _) _ _ _ (some _) :: _) _ _); refine loadgC (KN) rfl rfl rfl ?_))
              refine (HLS.out _).mono ?_
              rintro _ y1 ⟨rfl, hb⟩
              have K3 := K3.below hb K3.lt
              have KR := KR.below hb KR.lt
              have K7 := K7.below hb K7.lt
              have KN := KN.below hb KN.lt
              have CM := CM.below hb
              have HB : Hid (Below w.heap.size w y1) := HB.out.trans (hb.mono HB.out.size)
              have ckm : y1.cell? ⟨gm, k, none⟩ = some (.int .i64 (d : Int)) := by
                have c0 : y1.cell? ⟨gm, k, none⟩ = some (.int .i64 (M.getD k 0)) := CM.2 k hk9
                rw [HGD.out] at c0; exact c0
              clear hb c7
              go_wp2_with (first | ((with_reducible show wpList _ _ _ (Oper.mk _ (Op.load 26 _) _ _ _ _ :: _) _ _); refine loadC (KN) rfl rfl rfl ?_) | ((with_reducible show wpList _ _ _ (Oper.mk _ (Op.store 26 _ _) _ _ _ _ :: _) _ _); refine storeC (K7) rfl rfl rfl rfl ?_))
              have hgr : y1.grownBy (y1.setRow bq (mk 2 (fcF (V d)))) (some bq) := grown_row K7 _
              have CM := CM.grown hgr (fun e => by cases e; omega)
              have K3 := K3.rowOther bq (mk 2 (fcF (V d))) (by omega)
              have KR := KR.rowOther bq (mk 2 (fcF (V d))) (by omega)
              have HB : Hid (Below w.heap.size w (y1.setRow bq (mk 2 (fcF (V d))))) := below_setRow HB.out (by omega) _
              have K7 : Blk (y1.setRow bq (mk 2 (fcF (V d)))) bq 2 (fcF (mrF (Bm.mk d (V d) true))) 26 := K7.row 2 (fcF (V d))
              go_roundg gk2
              case rel => exact ⟨k + 1, ⟨d, V d, true⟩, by omega, by go_num, HN.out.symm, rfl, CM, K3, KR, K7, HB⟩
              case measure => omega
            | false =>
              have HN : Hid (bmL V (M.take (k + 1)) = S) := by
                show _ = _; rw [HTK.out, bmL_snoc, ← HS.out]; unfold bmS; rw [Int.toNat_natCast, if_neg (by rw [hok, hlt]; simp)]
              rw [hlt] at HLS
              go_wp2_with (first | ((with_reducible show wpList _ _ _ (Oper.mk _ (Op.load 26 _) _ _ _ (some _) :: _) _ _); refine loadgC (K7) rfl rfl rfl ?_) | ((with_reducible show wpList _ _ _ (Oper.mk _ (Op.load 26 _) _ _ _ (some _) :: _) _ _); refine loadgC (KN) rfl rfl rfl ?_))
              refine (HLS.out _).mono ?_
              rintro _ y1 ⟨rfl, hb⟩
              have K3 := K3.below hb K3.lt
              have KR := KR.below hb KR.lt
              have K7 := K7.below hb K7.lt
              have CM := CM.below hb
              have HB : Hid (Below w.heap.size w y1) := HB.out.trans (hb.mono HB.out.size)
              rw [← mr_yes hok] at K7
              clear hb c7 hlt hok
              go_wp2_with fail
              go_roundg gk2
              case rel => exact ⟨k + 1, S, by omega, by go_num, HN.out.symm, rfl, CM, K3, KR, K7, HB⟩
              case measure => omega
        refine AllReadyH.cons rfl (fun K hK => ?_) AllReadyH.nil
        go_simp
        clear hHeld
        have hlR : w.heap.size + 1 < x0.heap.size := KR.lt
        have hl7 : bq < x0.heap.size := K7.lt
        have hl6 : gm < x0.heap.size := CM.1
        have KN := Blk.new x0 2 (fun _ => 0) 26
        have K3 := K3.alloc (.cells (mk 2 fun _ => 0) 26)
        have KR := KR.alloc (.cells (mk 2 fun _ => 0) 26)
        have K7 := K7.alloc (.cells (mk 2 fun _ => 0) 26)
        have CM := CM.alloc (.cells (mk 2 fun _ => 0) 26)
        have HB : Hid (Below w.heap.size w (x0.alloc (.cells (mk 2 fun _ => 0) 26))) := HB.out.alloc HB.out.size _
        generalize x0.alloc (.cells (mk 2 fun _ => 0) 26) = x1 at *
        generalize x0.heap.size = bN at *
        refine hK.out _ _ (⟨K3, CM⟩) (fun hHeld => ?_)
        clear hK K
        try simp only [Act.put, List.setIfInBounds_toArray, List.set_cons_zero, List.set_cons_succ]
        refine wpAnyH_ready (rs := [5]) (by kernel_rfl) (by simp) ?_
        refine AllReadyH.cons rfl (fun K hK => ?_) AllReadyH.nil
        go_simp
        refine (HCK.out _).mono ?_
        rintro _ x2 ⟨rfl, hb⟩
        have K3 := K3.below hb K3.lt
        have KR := KR.below hb KR.lt
        have K7 := K7.below hb K7.lt
        have KN := KN.below hb KN.lt
        have CM := CM.below hb
        have HB : Hid (Below w.heap.size w x2) := HB.out.trans (hb.mono HB.out.size)
        clear hb hHeld
        go_wp2_with fail
        refine hK.out _ _ (⟨K3, CM⟩) (fun hHeld => ?_)
        clear hK K
        try simp only [Act.put, List.setIfInBounds_toArray, List.set_cons_zero, List.set_cons_succ]
        refine wpAnyH_ready (rs := [7]) (by kernel_rfl) (by simp) ?_
        refine AllReadyH.cons rfl (fun K hK => ?_) AllReadyH.nil
        have st1 := run_store_blk (P := Try.prog) (g := fcF (V d)) KN
        have ms1 : (mk 2 (fcF (V d))).size = 2 := mk_size 2 _
        go_simp
        clear st1 ms1 hHeld
        have hgr : x2.grownBy (x2.setRow bN (mk 2 (fcF (V d)))) (some bN) := grown_row KN _
        have CM := CM.grown hgr (fun e => by cases e; omega)
        have K3 := K3.rowOther bN (mk 2 (fcF (V d))) (by omega)
        have KR := KR.rowOther bN (mk 2 (fcF (V d))) (by omega)
        have K7 := K7.rowOther bN (mk 2 (fcF (V d))) (by omega)
        have HB : Hid (Below w.heap.size w (x2.setRow bN (mk 2 (fcF (V d))))) := below_setRow HB.out (by omega) _
        have KN := KN.row 2 (fcF (V d))
        clear hgr
        generalize x2.setRow bN (mk 2 (fcF (V d))) = x3 at *
        refine hK.out _ _ (⟨K3, CM⟩) (fun hHeld => ?_)
        clear hK K
        try simp only [Act.put, List.setIfInBounds_toArray, List.set_cons_zero, List.set_cons_succ]
        refine wpAnyH_done (by kernel_rfl) ?_ _
        clear hHeld
        have ckm : x3.cell? ⟨gm, k, none⟩ = some (.int .i64 (d : Int)) := by
          have c0 : x3.cell? ⟨gm, k, none⟩ = some (.int .i64 (M.getD k 0)) := CM.2 k hk9
          rw [HGD.out] at c0; exact c0
        cases hok : S.ok with
        | false =>
          have HN : Hid (bmL V (M.take (k + 1)) = ⟨d, V d, true⟩) := by
            show _ = _; rw [HTK.out, bmL_snoc, ← HS.out]; unfold bmS; rw [if_pos (.inl hok), Int.toNat_natCast]
          have c7 := K7.cell (i := 1) (by omega)
          rw [mr_no hok] at c7
          have e0 : fcF (0, 0) 1 = 0 := rfl
          rw [e0] at c7
          clear e0 hok
          go_wp2_with (first | ((with_reducible show wpList _ _ _ (Oper.mk _ (Op.load 26 _) _ _ _ _ :: _) _ _); refine loadC (KN) rfl rfl rfl ?_) | ((with_reducible show wpList _ _ _ (Oper.mk _ (Op.store 26 _ _) _ _ _ _ :: _) _ _); refine storeC (K7) rfl rfl rfl rfl ?_))
          have hgr : x3.grownBy (x3.setRow bq (mk 2 (fcF (V d)))) (some bq) := grown_row K7 _
          have CM := CM.grown hgr (fun e => by cases e; omega)
          have K3 := K3.rowOther bq (mk 2 (fcF (V d))) (by omega)
          have KR := KR.rowOther bq (mk 2 (fcF (V d))) (by omega)
          have HB : Hid (Below w.heap.size w (x3.setRow bq (mk 2 (fcF (V d))))) := below_setRow HB.out (by omega) _
          have K7 : Blk (x3.setRow bq (mk 2 (fcF (V d)))) bq 2 (fcF (mrF (Bm.mk d (V d) true))) 26 := K7.row 2 (fcF (V d))
          go_roundg gk2
          case rel => exact ⟨k + 1, ⟨d, V d, true⟩, by omega, by go_num, HN.out.symm, rfl, CM, K3, KR, K7, HB⟩
          case measure => omega
        | true =>
          have c7 := K7.cell (i := 1) (by omega)
          rw [mr_yes hok] at c7
          have e0 : fcF S.v 1 = (S.v.2 : Int) := rfl
          rw [e0] at c7
          obtain ⟨hv0, hv1, hv2⟩ := HSB.out hok
          have hvz : ((S.v.2 : Int) == 0) = false := by rw [beq_eq_false_iff_ne]; omega
          rw [mr_yes hok] at K7
          have HLS := Lib.hid (fun w => l9Less_any S.v (V d) w (fc_mul5 hv1 (by omega)) (fc_mul5 hb1 (by omega)))
          clear e0 hv1 hv2
          cases hlt : ltF S.v (V d) with
          | true =>
            have HN : Hid (bmL V (M.take (k + 1)) = ⟨d, V d, true⟩) := by
              show _ = _; rw [HTK.out, bmL_snoc, ← HS.out]; unfold bmS; rw [Int.toNat_natCast, if_pos (.inr hlt)]
            rw [hlt] at HLS
            clear hlt hok
            go_wp2_with (first | ((with_reducible show wpList _ _ _ (Oper.mk _ (Op.load 26 _) _ _ _ (some _) :: _) _ _); refine loadgC (K7) rfl rfl rfl ?_) | ((with_reducible show wpList _ _ _ (Oper.mk _ (Op.load 26 _) _ _ _ (some _) :: _) _ _); refine loadgC (KN) rfl rfl rfl ?_))
            refine (HLS.out _).mono ?_
            rintro _ y1 ⟨rfl, hb⟩
            have K3 := K3.below hb K3.lt
            have KR := KR.below hb KR.lt
            have K7 := K7.below hb K7.lt
            have KN := KN.below hb KN.lt
            have CM := CM.below hb
            have HB : Hid (Below w.heap.size w y1) := HB.out.trans (hb.mono HB.out.size)
            have ckm : y1.cell? ⟨gm, k, none⟩ = some (.int .i64 (d : Int)) := by
              have c0 : y1.cell? ⟨gm, k, none⟩ = some (.int .i64 (M.getD k 0)) := CM.2 k hk9
              rw [HGD.out] at c0; exact c0
            clear hb c7
            go_wp2_with (first | ((with_reducible show wpList _ _ _ (Oper.mk _ (Op.load 26 _) _ _ _ _ :: _) _ _); refine loadC (KN) rfl rfl rfl ?_) | ((with_reducible show wpList _ _ _ (Oper.mk _ (Op.store 26 _ _) _ _ _ _ :: _) _ _); refine storeC (K7) rfl rfl rfl rfl ?_))
            have hgr : y1.grownBy (y1.setRow bq (mk 2 (fcF (V d)))) (some bq) := grown_row K7 _
            have CM := CM.grown hgr (fun e => by cases e; omega)
            have K3 := K3.rowOther bq (mk 2 (fcF (V d))) (by omega)
            have KR := KR.rowOther bq (mk 2 (fcF (V d))) (by omega)
            have HB : Hid (Below w.heap.size w (y1.setRow bq (mk 2 (fcF (V d))))) := below_setRow HB.out (by omega) _
            have K7 : Blk (y1.setRow bq (mk 2 (fcF (V d)))) bq 2 (fcF (mrF (Bm.mk d (V d) true))) 26 := K7.row 2 (fcF (V d))
            go_roundg gk2
            case rel => exact ⟨k + 1, ⟨d, V d, true⟩, by omega, by go_num, HN.out.symm, rfl, CM, K3, KR, K7, HB⟩
            case measure => omega
          | false =>
            have HN : Hid (bmL V (M.take (k + 1)) = S) := by
              show _ = _; rw [HTK.out, bmL_snoc, ← HS.out]; unfold bmS; rw [Int.toNat_natCast, if_neg (by rw [hok, hlt]; simp)]
            rw [hlt] at HLS
            go_wp2_with (first | ((with_reducible show wpList _ _ _ (Oper.mk _ (Op.load 26 _) _ _ _ (some _) :: _) _ _); refine loadgC (K7) rfl rfl rfl ?_) | ((with_reducible show wpList _ _ _ (Oper.mk _ (Op.load 26 _) _ _ _ (some _) :: _) _ _); refine loadgC (KN) rfl rfl rfl ?_))
            refine (HLS.out _).mono ?_
            rintro _ y1 ⟨rfl, hb⟩
            have K3 := K3.below hb K3.lt
            have KR := KR.below hb KR.lt
            have K7 := K7.below hb K7.lt
            have CM := CM.below hb
            have HB : Hid (Below w.heap.size w y1) := HB.out.trans (hb.mono HB.out.size)
            rw [← mr_yes hok] at K7
            clear hb c7 hlt hok
            go_wp2_with fail
            go_roundg gk2
            case rel => exact ⟨k + 1, S, by omega, by go_num, HN.out.symm, rfl, CM, K3, KR, K7, HB⟩
            case measure => omega
  · have e0 : brB f = bmN := if_neg fun h => hV h.1
    rw [e0]
    show Calls _ _ _ _ fun e w' => e = .returned (.tuple #[.int .i64 0, .agg (mk 2 fun _ => 0), .bool false]) ∧ _
    have HV := Lib.hid hV
    clear hV e0
    go_enter Try.func21, Try.ntmps21
    go_wp2_with ((with_reducible show wpList _ _ _ (Oper.mk _ (Op.load 29 _) _ _ _ _ :: _) _ _); refine loadB (K3) rfl rfl rfl ?_)
    refine (l2Board_no _ _ HV.out).mono ?_
    rintro _ w1 ⟨rfl, hb⟩
    have K3 := K3.below hb K3.lt
    have KR := KR.below hb KR.lt
    have HB : Hid (Below w.heap.size w w1) := HB.out.trans (hb.mono HB.out.size)
    clear hb
    go_wp2_with ((with_reducible show wpList _ _ _ (Oper.mk _ (Op.store 26 _ _) _ _ _ _ :: _) _ _); refine storeC (KR) rfl rfl rfl rfl ?_)
    try simp only [Exit.inBlock, Exit.then]
    exact ret_tct Try.underlying26 rfl sizeC rfl rfl rfl (KR.row 2 _) ⟨rfl, below_setRow HB.out (by omega) _⟩
end Go.Proofs.Ytkocfpldgjfpeaa
