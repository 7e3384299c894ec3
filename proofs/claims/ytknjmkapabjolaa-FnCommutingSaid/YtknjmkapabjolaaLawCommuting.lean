/-
  Proved: for every code, the law FnCommuting returns true, and the code reads as it did. No condition.
-/
import Derived.Test.YtknjmkapabjolaaCommDraw
import Derived.Test.YtknjmkapabjolaaCommFacts
import Derived.Test.YtknjmkapabjolaaImplForm3
import Derived.Test.YtknjmkapabjolaaDoSlides
import Derived.Test.YtknjmkapabjolaaBaseA
import Derived.Test.YtknjmkapabjolaaClosed
import Derived.Deep.CutRange
namespace Go.Proofs.Ytknjmkapabjolaa.fnCommuting
open Go.ChangeShapes Go.WideShapes Go.ChangeAt Go.RowKit Plain
attribute [local go_sem] store_new
set_option linter.unusedVariables false
set_option linter.unusedSimpArgs false

theorem isRow_kept {k : IntKind} {w w' : World} {a : Option Addr} {len cap : Nat} {z : List Int} (h : IsRow k w a len cap z) (hb : Below w.heap.size w w') : IsRow k w' a len cap z := by
  rcases h with h | ⟨x, h0, h1, h2, h3, h4, h5⟩
  · exact .inl h
  · refine .inr ⟨x, h0, h1, h2, h3, fun i hi => ?_, h5⟩
    have := h4 i hi
    exact (hb.cell (World.block_lt_of_cell? w _ this)).trans this
theorem cells_row {w : World} {base g cap n : Nat} {L : List Int} (h : OwnsCells w base (.slice (some ⟨g, 0, none⟩) n cap) n L) (hl : L.length = n * 2) : CRow w (.slice (some ⟨g, 0, none⟩) n cap) n (fun i => L.getD i 0) := by
  unfold OwnsCells at h
  rw [ints_mk, hl] at h
  exact CRow.of_own h
theorem pairs_i (u : Nat → Int) (W : World) : Calls Try.prog 53 #[.agg (mk 16 u)] W fun e w' => ∃ g cap, e = .returned (.tuple #[.slice (some ⟨g, 0, none⟩) (cpRN u) cap, .bool (vdO u)]) ∧ CRow w' (.slice (some ⟨g, 0, none⟩) (cpRN u) cap) (cpRN u) (fun i => (cpRL u).getD i 0) ∧ Below W.heap.size W w' :=
  (implCp_any u W).mono fun e w' ⟨g, cap, h1, h2, h3⟩ => ⟨g, cap, h1, cells_row h2 (cpR_len u), h3⟩
theorem pairs_s (u : Nat → Int) (W : World) : Calls Try.prog 54 #[.agg (mk 16 u)] W fun e w' => ∃ g cap, e = .returned (.tuple #[.slice (some ⟨g, 0, none⟩) (cpRN u) cap, .bool (vdO u)]) ∧ CRow w' (.slice (some ⟨g, 0, none⟩) (cpRN u) cap) (cpRN u) (fun i => (cpRL u).getD i 0) ∧ Below W.heap.size W w' :=
  (specCp_any u W).mono fun e w' ⟨g, cap, h1, h2, h3⟩ => ⟨g, cap, h1, cells_row h2 (cpR_len u), h3⟩
theorem two_row (W : World) (x y : Int) (b : Nat) (hb : b = W.heap.size) : IRow (W.alloc (.cells (mk 2 (two x y)) 3)) (.slice (some ⟨b, 0, none⟩) 2 2) 2 (two x y) := by
  subst hb
  exact ⟨_, _, rfl, Nat.le_refl _, (Blk.new W 2 (two x y) 3).at⟩
theorem form_five (u : Nat → Int) (hV : Vd u) (W : World) : Calls Try.prog 56 #[.agg (mk 16 u), .int .i64 5] W fun e w' => e = .returned (.tuple #[.agg (mk 16 (formF u 5)), .bool true]) ∧ Below W.heap.size W w' := by
  have h := implForm_any u 5 W
  obtain ⟨y1, y2⟩ := form_yes (f := u) (k := 5) ⟨hV, by omega, by omega⟩
  rw [y1, y2] at h
  exact h
theorem pair_yes (u : Nat → Int) (hV : Vd u) (p q : Nat) (hpq : p < q) (hq : q < 4) (hc : comB u p q = true) (W : World) : Calls Try.prog 50 #[.agg (mk 16 u), .int .i64 p, .int .i64 q] W fun e w' => e = .returned (.tuple #[.bool true, .bool true]) ∧ Below W.heap.size W w' := by
  have h := implDoCommute_any u (p : Int) (q : Int) W
  have c1 : comR u (p : Int) (q : Int) = true := by
    unfold comR
    rw [if_pos ⟨hV, by omega, by omega⟩, Int.toNat_natCast, Int.toNat_natCast]; exact hc
  have c2 : comO u (p : Int) (q : Int) = true := decide_eq_true ⟨hV, by omega, by omega⟩
  rw [c1, c2] at h
  exact h
set_option maxHeartbeats 16000000 in
set_option maxRecDepth 100000 in
theorem walk (w : World) (_ : w.ShapedOpen Try.prog) (a0 : Option Addr) (len0 cap0 : Nat) (z0 : List Int) (hr : IsRow .u8 w a0 len0 cap0 z0) :
    Calls Try.prog 12 #[.slice a0 len0 cap0] w fun e w' => e = .returned (.bool true) ∧ Below w.heap.size w w' := by
  have z16 := zero16
  have HR := Lib.hid hr
  have HB : Hid (Below w.heap.size w w) := Below.refl w.heap.size w
  clear hr
  by_cases hl : len0 ≤ 65536
  · have dl : decide ((65536 : Int) < (len0 : Int)) = false := by simp; omega
    go_enter Try.func12, Try.ntmps12
    go_wp2_with fail
    refine (vBig_any a0 len0 cap0 _).mono ?_
    rintro e w' ⟨rfl, rfl⟩
    rw [dl]
    clear dl
    go_wp2_with fail
    refine (drawDoCommute_any a0 len0 cap0 _ hl (HR.out.code)).mono ?_
    rintro e w1 ⟨f, d, k, rfl, hb⟩
    have HB : Hid (Below w.heap.size w w1) := HB.out.trans (hb.mono HB.out.size)
    clear hb
    obtain ⟨C, hC⟩ : ∃ C, C = comR f d k := ⟨_, rfl⟩
    obtain ⟨O, hO⟩ : ∃ O, O = comO f d k := ⟨_, rfl⟩
    have iDC : Hid (∀ W, Calls Try.prog 50 #[.agg (mk 16 f), .int .i64 d, .int .i64 k] W fun e w' => e = .returned (.tuple #[.bool C, .bool O]) ∧ Below W.heap.size W w') := by show ∀ W, _; rw [hC, hO]; exact implDoCommute_any f d k
    have sDC : Hid (∀ W, Calls Try.prog 51 #[.agg (mk 16 f), .int .i64 d, .int .i64 k] W fun e w' => e = .returned (.tuple #[.bool C, .bool O]) ∧ Below W.heap.size W w') := by show ∀ W, _; rw [hC, hO]; exact specDoCommute_any f d k
    have HDC : Hid (O = true → dsO f (two d k) 2 = true ∧ dsO f (two k d) 2 = true ∧ sameB (dsB f (two d k) 2) (dsB f (two k d) 2) = C ∧ comR f k d = C ∧ comO f k d = true ∧ (d = k → C = true)) := by
      show _ → _
      intro h
      rw [hO] at h
      rw [hC]
      exact ds_com h rfl rfl rfl rfl
    clear hC hO
    have K3 := Blk.new w1 16 f 29
    have HB : Hid (Below w.heap.size w (w1.alloc (.cells (mk 16 f) 29))) := HB.out.alloc HB.out.size _
    go_wp2_with ((with_reducible show wpList _ _ _ (Oper.mk _ (Op.load 29 _) _ _ _ _ :: _) _ _); refine loadB (K3) rfl rfl rfl ?_)
    refine (iDC.out _).mono ?_
    clear iDC
    rintro e w2 ⟨rfl, hb⟩
    have K3 := K3.below hb K3.lt
    have HB : Hid (Below w.heap.size w w2) := HB.out.trans (hb.mono HB.out.size)
    clear hb
    go_wp2_with ((with_reducible show wpList _ _ _ (Oper.mk _ (Op.load 29 _) _ _ _ _ :: _) _ _); refine loadB (K3) rfl rfl rfl ?_)
    refine (sDC.out _).mono ?_
    clear sDC
    rintro e w3 ⟨rfl, hb⟩
    have K3 := K3.below hb K3.lt
    have HB : Hid (Below w.heap.size w w3) := HB.out.trans (hb.mono HB.out.size)
    clear hb
    go_wp2_with fail
    refine (vCut1_any a0 len0 cap0 z0 _ hl (isRow_kept HR.out HB.out)).mono ?_
    rintro e w4 ⟨g1, m1, c1, rfl, hm1, hcr, hb⟩
    have K3 := K3.below hb K3.lt
    have HB : Hid (Below w.heap.size w w4) := HB.out.trans (hb.mono HB.out.size)
    clear hb
    have HCR := Lib.hid hcr
    clear hcr
    go_wp2_with fail
    refine (drawPairs_any (some ⟨g1, 0, none⟩) m1 c1 _ hm1 HCR.out).mono ?_
    rintro e w5 ⟨u, rfl, hb⟩
    clear HCR
    have K3 := K3.below hb K3.lt
    have HB : Hid (Below w.heap.size w w5) := HB.out.trans (hb.mono HB.out.size)
    clear hb
    obtain ⟨V, hVV⟩ : ∃ V, V = vdO u := ⟨_, rfl⟩
    have hn6 := cpRN_six u
    have iCP := pairs_i u
    have sCP := pairs_s u
    rw [← hVV] at iCP sCP
    have HF5 : Hid (V = true → Vd u ∧ (∀ W, Calls Try.prog 53 #[.agg (mk 16 (formF u 5))] W fun e w' => ∃ g cap, e = .returned (.tuple #[.slice (some ⟨g, 0, none⟩) (cpRN u) cap, .bool true]) ∧ Below W.heap.size W w') ∧ ∀ j, j < cpRN u → ∃ p q : Nat, p < q ∧ q < 4 ∧ comB u p q = true ∧ (cpRL u).getD (j * 2) 0 = (p : Int) ∧ (cpRL u).getD (j * 2 + 1) 0 = (q : Int)) := by
      show _ → _
      intro h
      rw [hVV] at h
      have hu : Vd u := of_decide_eq_true h
      refine ⟨hu, fun W => ?_, fun j hj => cpR_in hu hj⟩
      have q := pairs_i (formF u 5) W
      rw [cpRN_form5 hu, vdO_yes (form_vd hu 5)] at q
      exact q.mono fun e w' ⟨g, cap, h1, _, h3⟩ => ⟨g, cap, h1, h3⟩
    generalize cpRN u = N at *
    have HH : Hid ((fun i => (cpRL u).getD i 0) = (fun i => (cpRL u).getD i 0)) := rfl
    have HHP : Hid (∀ i, (cpRL u).getD i 0 = (fun i => (cpRL u).getD i 0) i) := fun i => rfl
    generalize (fun i => (cpRL u).getD i 0) = h at *
    clear hVV HH
    have iCP := Lib.hid iCP
    have sCP := Lib.hid sCP
    have K3 := K3.alloc (.cells (mk 16 u) 29)
    have K10 := Blk.new w5 16 u 29
    have HB : Hid (Below w.heap.size w (w5.alloc (.cells (mk 16 u) 29))) := HB.out.alloc HB.out.size _
    go_wp2_with ((with_reducible show wpList _ _ _ (Oper.mk _ (Op.load 29 _) _ _ _ _ :: _) _ _); refine loadB (K10) rfl rfl rfl ?_)
    refine (iCP.out _).mono ?_
    clear iCP
    rintro e w6 ⟨g1, c1, rfl, r1, hb⟩
    have K3 := K3.below hb K3.lt
    have K10 := K10.below hb K10.lt
    have HB : Hid (Below w.heap.size w w6) := HB.out.trans (hb.mono HB.out.size)
    clear hb
    have R1 := Lib.hid r1
    clear r1
    go_wp2_with ((with_reducible show wpList _ _ _ (Oper.mk _ (Op.load 29 _) _ _ _ _ :: _) _ _); refine loadB (K10) rfl rfl rfl ?_)
    refine (sCP.out _).mono ?_
    clear sCP
    rintro e w7 ⟨g2, c2, rfl, r2, hb⟩
    have K3 := K3.below hb K3.lt
    have K10 := K10.below hb K10.lt
    have R1 := Lib.hid (R1.out.below hb)
    have HB : Hid (Below w.heap.size w w7) := HB.out.trans (hb.mono HB.out.size)
    clear hb
    have R2 := Lib.hid r2
    clear r2
    go_wp2_with fail
    refine (vPairs_yes _ _ N h _ R1.out R2.out (by omega)).mono ?_
    rintro e w8 ⟨rfl, m, rfl⟩
    have hb : Below w7.heap.size w7 (w7.drewN m) := ⟨rfl, rfl, rfl, Nat.le_refl _, fun _ _ => rfl⟩
    have K3 := K3.below hb K3.lt
    have K10 := K10.below hb K10.lt
    have R1 := Lib.hid (R1.out.below hb)
    have HB : Hid (Below w.heap.size w (w7.drewN m)) := HB.out.trans (hb.mono HB.out.size)
    clear hb
    generalize w7.drewN m = w8 at *
    clear R2
    obtain ⟨_, _, e1, _, CM⟩ := R1.out
    cases e1
    have CM : CAt w8 g1 (N * 2) h := CM
    clear R1
    generalize w5.heap.size = b10 at *
    go_upto_if 84 with fail
    go_cut [] from 86 to 86 (fun wc => Blk wc b10 16 u 29 ∧ CAt wc g1 (N * 2) h ∧ Below w.heap.size w wc)
    case first => as_aux_lemma =>
      cases O with
      | true =>
        obtain ⟨o1, o2, sxy, oth, oo, hdk⟩ := HDC.out rfl
        have ODK := Lib.hid hdk
        have SXY := Lib.hid sxy
        have iX := implDoS_any f (.slice (some ⟨w8.heap.size, 0, none⟩) 2 2) 2 (two d k) (w8.alloc (.cells (mk 2 (two d k)) 3)) (two_row w8 d k _ rfl) (by omega)
        rw [o1] at iX
        have iY := fun (W : World) (b : Nat) (q : b = W.heap.size) => implDoS_any f (.slice (some ⟨b, 0, none⟩) 2 2) 2 (two k d) (W.alloc (.cells (mk 2 (two k d)) 3)) (two_row W k d b q) (by omega)
        rw [o2] at iY
        have iZ := implDoCommute_any f k d
        rw [oth, oo] at iZ
        have iX := Lib.hid iX
        have iY := Lib.hid iY
        have iZ := Lib.hid iZ
        clear hdk sxy o1 o2 oth oo HDC
        generalize dsS f (two d k) 2 = SX at *
        generalize dsS f (two k d) 2 = SY at *
        generalize dsB f (two d k) 2 = X at *
        generalize dsB f (two k d) 2 = Y at *
        have m2 := mk_two d k
        have m3 := mk_two k d
        have K3a := K3.alloc (.cells (mk 2 (two d k)) 3)
        go_wp2_with (first | ((with_reducible show wpList _ _ _ (Oper.mk _ (Op.load 29 _) _ _ _ _ :: _) _ _); refine loadB (K3) rfl rfl rfl ?_))
        refine iX.out.mono ?_
        clear iX
        rintro e w9 ⟨rfl, hb⟩
        have K3 := (K3.alloc (.cells (mk 2 (two d k)) 3)).below hb (K3.alloc (.cells (mk 2 (two d k)) 3)).lt
        have K10 := (K10.alloc (.cells (mk 2 (two d k)) 3)).below hb (K10.alloc (.cells (mk 2 (two d k)) 3)).lt
        have CM := (CM.alloc (.cells (mk 2 (two d k)) 3)).below hb
        have HB := HB.out.alloc HB.out.size (.cells (mk 2 (two d k)) 3)
        have HB : Hid (Below w.heap.size w w9) := HB.trans (hb.mono HB.size)
        clear hb K3a
        have CM := CM.alloc (.cells (mk 16 X) 29)
        have K3 := K3.alloc (.cells (mk 16 X) 29)
        have K10 := K10.alloc (.cells (mk 16 X) 29)
        have K15 := Blk.new w9 16 X 29
        have HB : Hid (Below w.heap.size w (w9.alloc (.cells (mk 16 X) 29))) := HB.out.alloc HB.out.size _
        go_wp2_with (first | ((with_reducible show wpList _ _ _ (Oper.mk _ (Op.load 29 _) _ _ _ _ :: _) _ _); refine loadB (K3) rfl rfl rfl ?_))
        refine (iY.out (w9.alloc (.cells (mk 16 X) 29)) _ (by simp)).mono ?_
        clear iY
        rintro e w10 ⟨rfl, hb⟩
        have K3 := (K3.alloc (.cells (mk 2 (two k d)) 3)).below hb (K3.alloc (.cells (mk 2 (two k d)) 3)).lt
        have K10 := (K10.alloc (.cells (mk 2 (two k d)) 3)).below hb (K10.alloc (.cells (mk 2 (two k d)) 3)).lt
        have K15 := (K15.alloc (.cells (mk 2 (two k d)) 3)).below hb (K15.alloc (.cells (mk 2 (two k d)) 3)).lt
        have CM := (CM.alloc (.cells (mk 2 (two k d)) 3)).below hb
        have HB := HB.out.alloc HB.out.size (.cells (mk 2 (two k d)) 3)
        have HB : Hid (Below w.heap.size w w10) := HB.trans (hb.mono HB.size)
        clear hb
        have CM := CM.alloc (.cells (mk 16 Y) 29)
        have K3 := K3.alloc (.cells (mk 16 Y) 29)
        have K10 := K10.alloc (.cells (mk 16 Y) 29)
        have K15 := K15.alloc (.cells (mk 16 Y) 29)
        have K18 := Blk.new w10 16 Y 29
        have HB : Hid (Below w.heap.size w (w10.alloc (.cells (mk 16 Y) 29))) := HB.out.alloc HB.out.size _
        go_wp2_with (first | ((with_reducible show wpList _ _ _ (Oper.mk _ (Op.load 29 _) _ _ _ _ :: _) _ _); refine loadB (K3) rfl rfl rfl ?_))
        refine (iZ.out _).mono ?_
        clear iZ
        rintro e w11 ⟨rfl, hb⟩
        have CM := CM.below hb
        have K3 := K3.below hb K3.lt
        have K10 := K10.below hb K10.lt
        have K15 := K15.below hb K15.lt
        have K18 := K18.below hb K18.lt
        have HB : Hid (Below w.heap.size w w11) := HB.out.trans (hb.mono HB.out.size)
        clear hb
        have iE : ∀ (w : World), (Op.equalIn 10000 29 (.agg (mk 16 X)) (.agg (mk 16 Y))).run Try.prog w = .ok C w := fun w => by rw [eqB 9996, SXY.out]
        clear m2 m3
        by_cases hdk : d = k
        · have hC := ODK.out hdk
          have dk : (d == k) = true := by simpa using hdk
          have HDK := Lib.hid hdk
          clear hdk
          subst hC
          go_wp2_with (first | ((with_reducible show wpList _ _ _ (Oper.mk _ (Op.load 29 _) _ _ _ (some _) :: _) _ _); refine loadgB (K15) rfl rfl rfl ?_) | ((with_reducible show wpList _ _ _ (Oper.mk _ (Op.load 29 _) _ _ _ (some _) :: _) _ _); refine loadgB (K18) rfl rfl rfl ?_))
          go_meet
          case rel => exact ⟨K10, CM, HB.out⟩
        · have dk : (d == k) = false := by simpa using hdk
          have HDK := Lib.hid hdk
          clear hdk
          cases C with
          | true =>
            go_wp2_with (first | ((with_reducible show wpList _ _ _ (Oper.mk _ (Op.load 29 _) _ _ _ (some _) :: _) _ _); refine loadgB (K15) rfl rfl rfl ?_) | ((with_reducible show wpList _ _ _ (Oper.mk _ (Op.load 29 _) _ _ _ (some _) :: _) _ _); refine loadgB (K18) rfl rfl rfl ?_))
            go_meet
            case rel => exact ⟨K10, CM, HB.out⟩
          | false =>
            go_wp2_with (first | ((with_reducible show wpList _ _ _ (Oper.mk _ (Op.load 29 _) _ _ _ (some _) :: _) _ _); refine loadgB (K15) rfl rfl rfl ?_) | ((with_reducible show wpList _ _ _ (Oper.mk _ (Op.load 29 _) _ _ _ (some _) :: _) _ _); refine loadgB (K18) rfl rfl rfl ?_))
            go_meet
            case rel => exact ⟨K10, CM, HB.out⟩
      | false =>
        go_wp2_with fail
        go_meet
        case rel => exact ⟨K10, CM, HB.out⟩
    case rest =>
      clear K10 CM HB
      obtain ⟨K10, CM, hb0⟩ := hcut
      have HB := Lib.hid hb0
      clear hb0
      cases V with
      | true => as_aux_lemma =>
        obtain ⟨hu, iC5, hpq⟩ := HF5.out rfl
        have HPQ : Hid (∀ j, j < N → ∃ p q : Nat, p < q ∧ q < 4 ∧ comB u p q = true ∧ h (j * 2) = (p : Int) ∧ h (j * 2 + 1) = (q : Int)) := fun j hj => by
          obtain ⟨p, q, h1, h2, h3, h4, h5⟩ := hpq j hj
          exact ⟨p, q, h1, h2, h3, by rw [← HHP.out]; exact h4, by rw [← HHP.out]; exact h5⟩
        have HU := Lib.hid hu
        have iC5 := Lib.hid iC5
        have iF5 := Lib.hid (form_five u hu)
        clear hu hpq HF5 HHP
        generalize formF u 5 = M5 at *
        go_wp2_with ((with_reducible show wpList _ _ _ (Oper.mk _ (Op.load 29 _) _ _ _ _ :: _) _ _); refine loadB (K10) rfl rfl rfl ?_)
        refine (iF5.out _).mono ?_
        clear iF5
        rintro e v1 ⟨rfl, hb⟩
        have CM := (CM.below hb).alloc (.cells (mk 16 M5) 29)
        have K10 := (K10.below hb K10.lt).alloc (.cells (mk 16 M5) 29)
        have K23 := Blk.new v1 16 M5 29
        have HB := HB.out.trans (hb.mono HB.out.size)
        have HB : Hid (Below w.heap.size w (v1.alloc (.cells (mk 16 M5) 29))) := HB.alloc HB.size _
        clear hb
        go_wp2_with ((with_reducible show wpList _ _ _ (Oper.mk _ (Op.load 29 _) _ _ _ _ :: _) _ _); refine loadB (K23) rfl rfl rfl ?_)
        refine (iC5.out _).mono ?_
        clear iC5
        rintro e v2 ⟨g3, c3, rfl, hb⟩
        have CM := CM.below hb
        have K10 := K10.below hb K10.lt
        have HB : Hid (Below w.heap.size w v2) := HB.out.trans (hb.mono HB.out.size)
        clear hb K23
        have hn6i : (N : Int) ≤ 6 := by omega
        go_wp2_with fail
        go_loopg [27] N (fun gk s27 wr => ∃ j : Nat, j + gk = N ∧ s27 = .int .i64 j ∧ CAt wr g1 (N * 2) h ∧ Blk wr b10 16 u 29 ∧ Hid (Below w.heap.size w wr))
        case atStart => exact ⟨0, by omega, rfl, CM, K10, HB⟩
        case round =>
          obtain ⟨j, hjg, rfl, CM, K10, HB⟩ := hrel
          cases gk with
          | zero =>
            have hj : ¬ ((j : Int) < (N : Int)) := by omega
            go_wp2_with fail
            go_ret
            exact ⟨rfl, HB.out⟩
          | succ gk2 =>
            have hj8 : (j : Int) < (N : Int) := by omega
            have hj0 : (0 : Int) ≤ (j : Int) := by omega
            obtain ⟨p, q, h1, h2, h3, h4, h5⟩ := HPQ.out j (by omega)
            have iPQ := Lib.hid (pair_yes u HU.out p q h1 h2 h3)
            have H4 := Lib.hid h4
            have H5 := Lib.hid h5
            have hpq : (p : Int) < (q : Int) := by omega
            have hpqn : p < q := h1
            clear h1 h2 h3 h4 h5
            go_wp2_with fail
            refine wp_region_held_drew (S := fun W => Blk W b10 16 u 29 ∧ CAt W g1 (N * 2) h) (by kernel_rfl) (⟨K10.drew, CM.drew⟩) (fun hHeld => ?_)
            have K10 : Blk wr.drew b10 16 u 29 := K10.drew
            have CM : CAt wr.drew g1 (N * 2) h := CM.drew
            have HB : Hid (Below w.heap.size w wr.drew) := HB.out.drew
            generalize wr.drew = x0 at *
            refine wpAnyH_take (i := 0) (oi := { dst := some 178, op := _, type := _, pos := _, after := _, guard := _ }) (v := .agg (mk 16 u)) rfl (by kernel_rfl) (by kernel_rfl) (by kernel_rfl) (fun _ _ _ h => h) (Or.inl ⟨by rfl, fun _ q => execB q.1 rfl rfl⟩) (by assumption) ?_
            try simp only [Act.put, List.setIfInBounds_toArray, List.set_cons_zero, List.set_cons_succ]
            refine wpAnyH_take (i := 1) (oi := { dst := some 179, op := _, type := _, pos := _, after := _, guard := _ }) (v := .slice (some ⟨g1, 0, none⟩) N c1) rfl (by kernel_rfl) (by kernel_rfl) (by kernel_rfl) (fun _ _ _ h => h) (Or.inl ⟨by rfl, by intro w hSw; clear hSw; go_simp; (try with_reducible rfl)⟩) (by assumption) ?_
            try simp only [Act.put, List.setIfInBounds_toArray, List.set_cons_zero, List.set_cons_succ]
            refine wpAnyH_take (i := 2) (oi := { dst := some 180, op := _, type := _, pos := _, after := _, guard := _ }) (v := .int .i64 (j : Int)) rfl (by kernel_rfl) (by kernel_rfl) (by kernel_rfl) (fun _ _ _ h => h) (Or.inl ⟨by rfl, by intro w hSw; clear hSw; go_simp; (try with_reducible rfl)⟩) (by assumption) ?_
            try simp only [Act.put, List.setIfInBounds_toArray, List.set_cons_zero, List.set_cons_succ]
            refine wpAnyH_take (i := 3) (oi := { dst := some 181, op := _, type := _, pos := _, after := _, guard := _ }) (v := .pointer (some ⟨g1, j * 2, none⟩)) rfl (by kernel_rfl) (by kernel_rfl) (by kernel_rfl) (fun _ _ _ h => h) (Or.inl ⟨by rfl, by intro w hSw; clear hSw; go_simp; (try with_reducible rfl)⟩) (by assumption) ?_
            try simp only [Act.put, List.setIfInBounds_toArray, List.set_cons_zero, List.set_cons_succ]
            refine wpAnyH_take (i := 4) (oi := { dst := some 182, op := _, type := _, pos := _, after := _, guard := _ }) (v := .pointer (some ⟨g1, j * 2, none⟩)) rfl (by kernel_rfl) (by kernel_rfl) (by kernel_rfl) (fun _ _ _ h => h) (Or.inl ⟨by rfl, by intro w hSw; clear hSw; go_simp; (try with_reducible rfl)⟩) (by assumption) ?_
            try simp only [Act.put, List.setIfInBounds_toArray, List.set_cons_zero, List.set_cons_succ]
            refine wpAnyH_take (i := 5) (oi := { dst := some 183, op := _, type := _, pos := _, after := _, guard := _ }) (v := .int .i64 (p : Int)) rfl (by kernel_rfl) (by kernel_rfl) (by kernel_rfl) (fun _ _ _ h => h) (Or.inl ⟨by rfl, by intro W hSw; have c1 := hSw.2.2 (j * 2) (by omega); rw [H4.out] at c1; clear hSw; go_simp⟩) (by assumption) ?_
            try simp only [Act.put, List.setIfInBounds_toArray, List.set_cons_zero, List.set_cons_succ]
            refine wpAnyH_take (i := 6) (oi := { dst := some 184, op := _, type := _, pos := _, after := _, guard := _ }) (v := .slice (some ⟨g1, 0, none⟩) N c1) rfl (by kernel_rfl) (by kernel_rfl) (by kernel_rfl) (fun _ _ _ h => h) (Or.inl ⟨by rfl, by intro w hSw; clear hSw; go_simp; (try with_reducible rfl)⟩) (by assumption) ?_
            try simp only [Act.put, List.setIfInBounds_toArray, List.set_cons_zero, List.set_cons_succ]
            refine wpAnyH_take (i := 7) (oi := { dst := some 185, op := _, type := _, pos := _, after := _, guard := _ }) (v := .int .i64 (j : Int)) rfl (by kernel_rfl) (by kernel_rfl) (by kernel_rfl) (fun _ _ _ h => h) (Or.inl ⟨by rfl, by intro w hSw; clear hSw; go_simp; (try with_reducible rfl)⟩) (by assumption) ?_
            try simp only [Act.put, List.setIfInBounds_toArray, List.set_cons_zero, List.set_cons_succ]
            refine wpAnyH_take (i := 8) (oi := { dst := some 186, op := _, type := _, pos := _, after := _, guard := _ }) (v := .pointer (some ⟨g1, j * 2, none⟩)) rfl (by kernel_rfl) (by kernel_rfl) (by kernel_rfl) (fun _ _ _ h => h) (Or.inl ⟨by rfl, by intro w hSw; clear hSw; go_simp; (try with_reducible rfl)⟩) (by assumption) ?_
            try simp only [Act.put, List.setIfInBounds_toArray, List.set_cons_zero, List.set_cons_succ]
            refine wpAnyH_take (i := 9) (oi := { dst := some 187, op := _, type := _, pos := _, after := _, guard := _ }) (v := .pointer (some ⟨g1, j * 2 + 1, none⟩)) rfl (by kernel_rfl) (by kernel_rfl) (by kernel_rfl) (fun _ _ _ h => h) (Or.inl ⟨by rfl, by intro w hSw; clear hSw; go_simp; (try with_reducible rfl)⟩) (by assumption) ?_
            try simp only [Act.put, List.setIfInBounds_toArray, List.set_cons_zero, List.set_cons_succ]
            refine wpAnyH_take (i := 10) (oi := { dst := some 188, op := _, type := _, pos := _, after := _, guard := _ }) (v := .int .i64 (q : Int)) rfl (by kernel_rfl) (by kernel_rfl) (by kernel_rfl) (fun _ _ _ h => h) (Or.inl ⟨by rfl, by intro W hSw; have c1 := hSw.2.2 (j * 2 + 1) (by omega); rw [H5.out] at c1; clear hSw; go_simp⟩) (by assumption) ?_
            try simp only [Act.put, List.setIfInBounds_toArray, List.set_cons_zero, List.set_cons_succ]
            refine wpAnyH_ready (rs := [11]) (by kernel_rfl) (by simp) ?_
            refine AllReadyH.cons rfl (fun K hK => ?_) AllReadyH.nil
            go_simp
            refine (iPQ.out _).mono ?_
            rintro e x1 ⟨rfl, hb⟩
            have CM := CM.below hb
            have K10 := K10.below hb K10.lt
            have HB : Hid (Below w.heap.size w x1) := HB.out.trans (hb.mono HB.out.size)
            clear hb hHeld
            go_wp2_with fail
            refine hK.out _ _ ⟨K10, CM⟩ (fun hHeld => ?_)
            clear hK K
            try simp only [Act.put, List.setIfInBounds_toArray, List.set_cons_zero, List.set_cons_succ]
            refine wpAnyH_take (i := 12) (oi := { dst := some 177, op := _, type := _, pos := _, after := _, guard := _ }) (v := .tuple #[.bool true, .bool true]) rfl (by kernel_rfl) (by kernel_rfl) (by kernel_rfl) (fun _ _ _ h => h) (Or.inl ⟨by rfl, by intro w hSw; clear hSw; go_simp; (try with_reducible rfl)⟩) (by assumption) ?_
            try simp only [Act.put, List.setIfInBounds_toArray, List.set_cons_zero, List.set_cons_succ]
            refine wpAnyH_take (i := 13) (oi := { dst := some 190, op := _, type := _, pos := _, after := _, guard := _ }) (v := .bool true) rfl (by kernel_rfl) (by kernel_rfl) (by kernel_rfl) (fun _ _ _ h => h) (Or.inl ⟨by rfl, by intro w hSw; clear hSw; go_simp; (try with_reducible rfl)⟩) (by assumption) ?_
            try simp only [Act.put, List.setIfInBounds_toArray, List.set_cons_zero, List.set_cons_succ]
            refine wpAnyH_take (i := 14) (oi := { dst := some 191, op := _, type := _, pos := _, after := _, guard := _ }) (v := .bool true) rfl (by kernel_rfl) (by kernel_rfl) (by kernel_rfl) (fun _ _ _ h => h) (Or.inl ⟨by rfl, by intro w hSw; clear hSw; go_simp; (try with_reducible rfl)⟩) (by assumption) ?_
            try simp only [Act.put, List.setIfInBounds_toArray, List.set_cons_zero, List.set_cons_succ]
            refine wpAnyH_take (i := 15) (oi := { dst := some 28, op := _, type := _, pos := _, after := _, guard := _ }) (v := .bool true) rfl (by kernel_rfl) (by kernel_rfl) (by kernel_rfl) (fun _ _ _ h => h) (Or.inl ⟨by rfl, by intro w hSw; clear hSw; go_simp; (try with_reducible rfl)⟩) (by assumption) ?_
            try simp only [Act.put, List.setIfInBounds_toArray, List.set_cons_zero, List.set_cons_succ]
            refine wpAnyH_take (i := 16) (oi := { dst := some 29, op := _, type := _, pos := _, after := _, guard := _ }) (v := .bool true) rfl (by kernel_rfl) (by kernel_rfl) (by kernel_rfl) (fun _ _ _ h => h) (Or.inl ⟨by rfl, by intro w hSw; clear hSw; go_simp; (try with_reducible rfl)⟩) (by assumption) ?_
            try simp only [Act.put, List.setIfInBounds_toArray, List.set_cons_zero, List.set_cons_succ]
            refine wpAnyH_done (by kernel_rfl) ?_ _
            clear hHeld
            go_wp2_with fail
            refine wp_region_held_drew (S := fun W => Blk W b10 16 u 29 ∧ CAt W g1 (N * 2) h) (by kernel_rfl) (⟨K10.drew, CM.drew⟩) (fun hHeld => ?_)
            have K10 : Blk x1.drew b10 16 u 29 := K10.drew
            have CM : CAt x1.drew g1 (N * 2) h := CM.drew
            have HB : Hid (Below w.heap.size w x1.drew) := HB.out.drew
            generalize x1.drew = x2 at *
            refine wpAnyH_take (i := 0) (oi := { dst := some 192, op := _, type := _, pos := _, after := _, guard := _ }) (v := .bool true) rfl (by kernel_rfl) (by kernel_rfl) (by kernel_rfl) (fun _ _ _ h => h) (Or.inl ⟨by rfl, by intro w hSw; clear hSw; go_simp; (try with_reducible rfl)⟩) (by assumption) ?_
            try simp only [Act.put, List.setIfInBounds_toArray, List.set_cons_zero, List.set_cons_succ]
            refine wpAnyH_take (i := 1) (oi := { dst := some 193, op := _, type := _, pos := _, after := _, guard := _ }) (v := .bool false) rfl (by kernel_rfl) (by kernel_rfl) (by kernel_rfl) (fun _ _ _ h => h) (Or.inl ⟨by rfl, by intro w hSw; clear hSw; go_simp; (try with_reducible rfl)⟩) (by assumption) ?_
            try simp only [Act.put, List.setIfInBounds_toArray, List.set_cons_zero, List.set_cons_succ]
            refine wpAnyH_take (i := 2) (oi := { dst := some 194, op := _, type := _, pos := _, after := _, guard := _ }) (v := .bool false) rfl (by kernel_rfl) (by kernel_rfl) (by kernel_rfl) (fun _ _ _ h => h) (Or.inl ⟨by rfl, by intro w hSw; clear hSw; go_simp; (try with_reducible rfl)⟩) (by assumption) ?_
            try simp only [Act.put, List.setIfInBounds_toArray, List.set_cons_zero, List.set_cons_succ]
            refine wpAnyH_take (i := 3) (oi := { dst := some 195, op := _, type := _, pos := _, after := _, guard := _ }) (v := .bool true) rfl (by kernel_rfl) (by kernel_rfl) (by kernel_rfl) (fun _ _ _ h => h) (Or.inl ⟨by rfl, by intro w hSw; clear hSw; go_simp; (try with_reducible rfl)⟩) (by assumption) ?_
            try simp only [Act.put, List.setIfInBounds_toArray, List.set_cons_zero, List.set_cons_succ]
            refine wpAnyH_take (i := 4) (oi := { dst := some 196, op := _, type := _, pos := _, after := _, guard := _ }) (v := .bool false) rfl (by kernel_rfl) (by kernel_rfl) (by kernel_rfl) (fun _ _ _ h => h) (Or.inl ⟨by rfl, by intro w hSw; clear hSw; go_simp; (try with_reducible rfl)⟩) (by assumption) ?_
            try simp only [Act.put, List.setIfInBounds_toArray, List.set_cons_zero, List.set_cons_succ]
            refine wpAnyH_take (i := 5) (oi := { dst := some 197, op := _, type := _, pos := _, after := _, guard := _ }) (v := .bool false) rfl (by kernel_rfl) (by kernel_rfl) (by kernel_rfl) (fun _ _ _ h => h) (Or.inl ⟨by rfl, by intro w hSw; clear hSw; go_simp; (try with_reducible rfl)⟩) (by assumption) ?_
            try simp only [Act.put, List.setIfInBounds_toArray, List.set_cons_zero, List.set_cons_succ]
            refine wpAnyH_take (i := 6) (oi := { dst := some 198, op := _, type := _, pos := _, after := _, guard := _ }) (v := .bool false) rfl (by kernel_rfl) (by kernel_rfl) (by kernel_rfl) (fun _ _ _ h => h) (Or.inl ⟨by rfl, by intro w hSw; clear hSw; go_simp; (try with_reducible rfl)⟩) (by assumption) ?_
            try simp only [Act.put, List.setIfInBounds_toArray, List.set_cons_zero, List.set_cons_succ]
            refine wpAnyH_take (i := 7) (oi := { dst := some 199, op := _, type := _, pos := _, after := _, guard := _ }) (v := .slice (some ⟨g1, 0, none⟩) N c1) rfl (by kernel_rfl) (by kernel_rfl) (by kernel_rfl) (fun _ _ _ h => h) (Or.inl ⟨by rfl, by intro w hSw; clear hSw; go_simp; (try with_reducible rfl)⟩) (by assumption) ?_
            try simp only [Act.put, List.setIfInBounds_toArray, List.set_cons_zero, List.set_cons_succ]
            refine wpAnyH_take (i := 8) (oi := { dst := some 200, op := _, type := _, pos := _, after := _, guard := _ }) (v := .int .i64 (j : Int)) rfl (by kernel_rfl) (by kernel_rfl) (by kernel_rfl) (fun _ _ _ h => h) (Or.inl ⟨by rfl, by intro w hSw; clear hSw; go_simp; (try with_reducible rfl)⟩) (by assumption) ?_
            try simp only [Act.put, List.setIfInBounds_toArray, List.set_cons_zero, List.set_cons_succ]
            refine wpAnyH_take (i := 9) (oi := { dst := some 201, op := _, type := _, pos := _, after := _, guard := _ }) (v := .pointer (some ⟨g1, j * 2, none⟩)) rfl (by kernel_rfl) (by kernel_rfl) (by kernel_rfl) (fun _ _ _ h => h) (Or.inl ⟨by rfl, by intro w hSw; clear hSw; go_simp; (try with_reducible rfl)⟩) (by assumption) ?_
            try simp only [Act.put, List.setIfInBounds_toArray, List.set_cons_zero, List.set_cons_succ]
            refine wpAnyH_take (i := 10) (oi := { dst := some 202, op := _, type := _, pos := _, after := _, guard := _ }) (v := .pointer (some ⟨g1, j * 2, none⟩)) rfl (by kernel_rfl) (by kernel_rfl) (by kernel_rfl) (fun _ _ _ h => h) (Or.inl ⟨by rfl, by intro w hSw; clear hSw; go_simp; (try with_reducible rfl)⟩) (by assumption) ?_
            try simp only [Act.put, List.setIfInBounds_toArray, List.set_cons_zero, List.set_cons_succ]
            refine wpAnyH_take (i := 11) (oi := { dst := some 203, op := _, type := _, pos := _, after := _, guard := _ }) (v := .int .i64 (p : Int)) rfl (by kernel_rfl) (by kernel_rfl) (by kernel_rfl) (fun _ _ _ h => h) (Or.inl ⟨by rfl, by intro W hSw; have c1 := hSw.2.2 (j * 2) (by omega); rw [H4.out] at c1; clear hSw; go_simp⟩) (by assumption) ?_
            try simp only [Act.put, List.setIfInBounds_toArray, List.set_cons_zero, List.set_cons_succ]
            refine wpAnyH_take (i := 12) (oi := { dst := some 204, op := _, type := _, pos := _, after := _, guard := _ }) (v := .slice (some ⟨g1, 0, none⟩) N c1) rfl (by kernel_rfl) (by kernel_rfl) (by kernel_rfl) (fun _ _ _ h => h) (Or.inl ⟨by rfl, by intro w hSw; clear hSw; go_simp; (try with_reducible rfl)⟩) (by assumption) ?_
            try simp only [Act.put, List.setIfInBounds_toArray, List.set_cons_zero, List.set_cons_succ]
            refine wpAnyH_take (i := 13) (oi := { dst := some 205, op := _, type := _, pos := _, after := _, guard := _ }) (v := .int .i64 (j : Int)) rfl (by kernel_rfl) (by kernel_rfl) (by kernel_rfl) (fun _ _ _ h => h) (Or.inl ⟨by rfl, by intro w hSw; clear hSw; go_simp; (try with_reducible rfl)⟩) (by assumption) ?_
            try simp only [Act.put, List.setIfInBounds_toArray, List.set_cons_zero, List.set_cons_succ]
            refine wpAnyH_take (i := 14) (oi := { dst := some 206, op := _, type := _, pos := _, after := _, guard := _ }) (v := .pointer (some ⟨g1, j * 2, none⟩)) rfl (by kernel_rfl) (by kernel_rfl) (by kernel_rfl) (fun _ _ _ h => h) (Or.inl ⟨by rfl, by intro w hSw; clear hSw; go_simp; (try with_reducible rfl)⟩) (by assumption) ?_
            try simp only [Act.put, List.setIfInBounds_toArray, List.set_cons_zero, List.set_cons_succ]
            refine wpAnyH_take (i := 15) (oi := { dst := some 207, op := _, type := _, pos := _, after := _, guard := _ }) (v := .pointer (some ⟨g1, j * 2 + 1, none⟩)) rfl (by kernel_rfl) (by kernel_rfl) (by kernel_rfl) (fun _ _ _ h => h) (Or.inl ⟨by rfl, by intro w hSw; clear hSw; go_simp; (try with_reducible rfl)⟩) (by assumption) ?_
            try simp only [Act.put, List.setIfInBounds_toArray, List.set_cons_zero, List.set_cons_succ]
            refine wpAnyH_take (i := 16) (oi := { dst := some 208, op := _, type := _, pos := _, after := _, guard := _ }) (v := .int .i64 (q : Int)) rfl (by kernel_rfl) (by kernel_rfl) (by kernel_rfl) (fun _ _ _ h => h) (Or.inl ⟨by rfl, by intro W hSw; have c1 := hSw.2.2 (j * 2 + 1) (by omega); rw [H5.out] at c1; clear hSw; go_simp⟩) (by assumption) ?_
            try simp only [Act.put, List.setIfInBounds_toArray, List.set_cons_zero, List.set_cons_succ]
            refine wpAnyH_take (i := 17) (oi := { dst := some 209, op := _, type := _, pos := _, after := _, guard := _ }) (v := .bool false) rfl (by kernel_rfl) (by kernel_rfl) (by kernel_rfl) (fun _ _ _ h => h) (Or.inl ⟨by rfl, by intro w hSw; clear hSw; go_simp; (try with_reducible rfl)⟩) (by assumption) ?_
            try simp only [Act.put, List.setIfInBounds_toArray, List.set_cons_zero, List.set_cons_succ]
            refine wpAnyH_take (i := 18) (oi := { dst := some 210, op := _, type := _, pos := _, after := _, guard := _ }) (v := .bool false) rfl (by kernel_rfl) (by kernel_rfl) (by kernel_rfl) (fun _ _ _ h => h) (Or.inl ⟨by rfl, by intro w hSw; clear hSw; go_simp; (try with_reducible rfl)⟩) (by assumption) ?_
            try simp only [Act.put, List.setIfInBounds_toArray, List.set_cons_zero, List.set_cons_succ]
            refine wpAnyH_done (by kernel_rfl) ?_ _
            clear hHeld
            go_wp2_with fail
            go_roundg gk2
            case rel => exact ⟨j + 1, by omega, by go_num, CM, K10, HB⟩
            case measure => omega
      | false =>
        go_wp2_with fail
        go_ret
        exact ⟨rfl, HB.out⟩
  · have dl : decide ((65536 : Int) < (len0 : Int)) = true := by simp; omega
    go_enter Try.func12, Try.ntmps12
    go_wp2_with fail
    refine (vBig_any a0 len0 cap0 _).mono ?_
    rintro e w' ⟨rfl, rfl⟩
    rw [dl]
    clear dl
    go_wp2_with fail
    go_ret
    exact ⟨rfl, HB.out⟩

noncomputable def laidWorld (os : Os) : World := World.holding Try.prog os ⟨#[], #[], []⟩
theorem laid_met (os : Os) : laidMet Try.prog Rows.fnCommutingRow.laid ((laidWorld os).forCall (fun _ _ => 0) ⟨#[], #[.slice none 0 0], []⟩).memory := laidMet_of_run' 8 (by kernel_rfl) (by kernel_rfl)
theorem reads (os : Os) {H : Type} (enc : TypeId × Value → H) : ∃ places, DataW.whole enc Try.prog ((laidWorld os).forCall (fun _ _ => 0) ⟨#[], #[.slice none 0 0], []⟩).memory Try.f12.params.toList Rows.fnCommutingSpec.vars false #[.slice none 0 0].toList 8 = some ([.nil], [], places) :=
  ⟨[], by kernel_rfl⟩
set_option linter.unusedVariables false in
set_option maxRecDepth 100000 in
theorem lifted (os : Os) (started : os.Started) (H : Type) (enc : TypeId × Value → H) (F : Stop.Interp) :
    ReturnsInHanded {} Try.checked os 12 .any ((OpenSpec.ofChange Rows.fnCommutingSpec).preRow enc Try.prog Try.f12 Rows.fnCommutingRow.domain false Rows.fnCommutingRow.laid) (((OpenSpec.ofChange Rows.fnCommutingSpec).at F).post enc Try.prog Try.f12 false true false false) := by
  obtain ⟨places, hx⟩ := reads os enc
  refine returnsInHanded_of_row (C := Try.checked) (s := (OpenSpec.ofChange Rows.fnCommutingSpec)) own started (by kernel_rfl) Try.func12
    (witness_row_at (enc := enc) (C := Try.checked) false (laidWorld os) #[.slice none 0 0] rfl (by kernel_rfl) (by kernel_rfl) (by kernel_rfl)
      (OpenSpec.preRow_of_cond 8 hx (by kernel_rfl) (fun k hk => by cases hk) (by kernel_rfl) (laid_met os))) ?_
  intro W base args ds gs before hval0 hW _ hcond hsz hL hsh _
  have hval : ∀ (j : Nat) t v, Try.f12.params[j]? = some t → args[j]? = some v → Value.okWide Try.prog W .any base t v := hval0
  have hW' := hW
  obtain ⟨p, q, hA0, hV, rfl, hfz, hnd⟩ := hW
  have hA : DataW.TrodAll enc Try.prog W 0 (fun _ => true) true Try.f12.params.toList args.toList ds p := hA0
  rw [Try.params12] at hA hval
  obtain ⟨v0, vs0, d0, ds0, p0, q0, hargs, rfl, rfl, h0, r0⟩ := trodAll_cons hA
  obtain ⟨rfl, rfl, rfl⟩ := trodAll_nil r0
  obtain rfl : args = #[v0] := by cases args; simp_all
  obtain ⟨rfl, rfl⟩ := trodVars_none hV
  obtain ⟨a0, len0, cap0, rfl⟩ := okWide_slice Try.underlying63 (hval 0 63 v0 rfl rfl)
  have k0 := h0
  have lt0 : ∀ x ∈ p0, x.block < W.heap.size := by obtain ⟨m, hm⟩ := k0; exact DataW.trod_lt m _ _ _ hm
  obtain ⟨z0, w0⟩ : ∃ zs, IsRow .u8 W a0 len0 cap0 zs := by
    obtain ⟨fuel, hf⟩ := h0
    rcases open_ints Try.underlying63 Try.underlying5 (by kernel_rfl) hf with ⟨hcs, _⟩ | ⟨x, l, c, zs, hcs, _, hl, hm, hz, _, hcell, hwz⟩
    · simp [Value.cells] at hcs; obtain ⟨rfl, rfl, rfl⟩ := hcs; exact ⟨[], .inl ⟨rfl, rfl, rfl, rfl⟩⟩
    · simp [Value.cells] at hcs; obtain ⟨rfl, rfl, rfl⟩ := hcs; exact ⟨zs, .inr ⟨_, rfl, hl, hm, by simpa using hz, hcell, hwz⟩⟩
  clear hA0 hval0
  have hwalk : Calls Try.prog 12 #[.slice a0 len0 cap0] W fun e w' => e = .returned (.bool true) ∧ Below W.heap.size W w' := walk W hsh a0 len0 cap0 z0 w0
  refine hwalk.mono fun e W' ⟨he, bel⟩ => ?_
  subst he
  exact ⟨_, rfl, _, _, _, [], _, [], hW', trodAll_mk1 (shut_bool Try.underlying4 _), (trodAll_cons_mk (Below.trod laidOut (by kernel_rfl) (of_decide_eq_true (by kernel_rfl)) k0 bel lt0) trodAll_mk0), rfl, bel.frame _, fun h => by cases h⟩
theorem closed : joinedFacts Try.pinned.checked.prog 12 Try.f12 ((OpenSpec.ofChange Rows.fnCommutingSpec)).bare Rows.fnCommutingRow = true := by
  unfold joinedFacts
  repeat' with_reducible refine and_mk ?_ ?_
  case refine_1.refine_1.refine_1.refine_1.refine_1.refine_1.refine_2 => exact enters
  case refine_1.refine_1.refine_1.refine_1.refine_1.refine_2 => exact (show (Rows.fnCommutingRow.lifted == Try.prog.liftsFinal) = true by rw [final_no]; rfl)
  case refine_1.refine_1.refine_1.refine_1.refine_2 => exact (show (Try.prog.make == some Rows.fnCommutingRow.make) = true by rw [make_cut]; rfl)
  case refine_1.refine_1.refine_1.refine_1.refine_1.refine_1.refine_1.refine_1.refine_1.refine_1.refine_1.refine_1.refine_1.refine_1.refine_1.refine_1.refine_1.refine_1.refine_1.refine_1.refine_1.refine_1.refine_1.refine_1.refine_1.refine_1.refine_1.refine_1.refine_1.refine_1.refine_2 => exact laidOut
  case refine_1.refine_1.refine_1.refine_1.refine_1.refine_1.refine_1.refine_1.refine_1.refine_1.refine_1.refine_1.refine_1.refine_1.refine_1.refine_1.refine_1.refine_1.refine_1.refine_1.refine_1.refine_1.refine_1.refine_1.refine_1.refine_1.refine_1.refine_1.refine_1.refine_2 => exact maps_rowed
  case refine_1.refine_1.refine_1.refine_1.refine_1.refine_1.refine_1.refine_2 => exact stops_heard
  all_goals (as_aux_lemma => kernel_rfl)
theorem proved : Rows.FnCommutingSaid :=
  OpenClaim.holds_of_cond 12 Try.f12 rfl rfl rfl rfl rfl rfl rfl ⟨rfl, rfl, rfl, rfl, rfl⟩ rfl rfl rfl rfl rfl (by kernel_rfl) Try.func12 closed
    (of_decide_eq_true (by kernel_rfl)) (by unfold Func.isWrapper; first | (rw [if_pos (by decide +kernel)]; kernel_rfl) | (rw [if_neg (by decide +kernel)]; exact ⟨rfl, rfl⟩))
    (fun os started H enc _ F => by rw [OpenClaim.pre_eq_preRow]; exact lifted os started H enc F)
#print axioms proved
end Go.Proofs.Ytknjmkapabjolaa.fnCommuting
