/-
  The contracts of the least list of tiles in the program, and of LeastTiles, PackedBoard, IsPossible and HighestFor there, for every number.
-/
import Derived.Test.YtmcmpedmgibmkaaSpecLeast
import Derived.Test.YtmcmpedmgibmkaaHighest
import Derived.Test.YtmcmpedmgibmkaaPathK
namespace Go.Proofs.Ytmcmpedmgibmkaa
open Go.RowKit Plain
attribute [local go_sem] store_new
set_option linter.unusedVariables false
set_option linter.unusedSimpArgs false

theorem isSum_yes (x : Int) (w : World) (h0 : 0 ≤ x) (h1 : x ≤ 2097152) :
    Calls Try.prog 60 #[.int .i64 x] w fun e w' => e = .returned (.bool true) ∧ w = w' := by
  have d0 : decide (0 ≤ x) = true := by simpa using h0
  have d1 : decide (x ≤ 2097152) = true := by simp; omega
  clear h0 h1
  go_enter Try.func60, Try.ntmps60
  go_wp2
  go_ret
  exact ⟨rfl, rfl⟩
theorem isSum_no (x : Int) (w : World) (h : x < 0 ∨ 2097152 < x) :
    Calls Try.prog 60 #[.int .i64 x] w fun e w' => e = .returned (.bool false) ∧ w = w' := by
  by_cases h0 : 0 ≤ x
  · have d0 : decide (0 ≤ x) = true := by simpa using h0
    have d1 : decide (x ≤ 2097152) = false := by simp; omega
    clear h h0
    go_enter Try.func60, Try.ntmps60
    go_wp2
    go_ret
    exact ⟨rfl, rfl⟩
  · have d0 : decide (0 ≤ x) = false := by simp; omega
    clear h h0
    go_enter Try.func60, Try.ntmps60
    go_wp2
    go_ret
    exact ⟨rfl, rfl⟩
/-- The tiles that fewestTiles returns. -/
def fwL (s : Int) : List Int := if SumOk s then lsL 17 s.toNat else []
theorem fw_yes {s : Int} (h : SumOk s) : fwL s = lsL 17 s.toNat ∧ lsO s = true := ⟨if_pos h, (ls_yes h).1⟩
theorem fw_no {s : Int} (h : ¬ SumOk s) : fwL s = [] ∧ lsO s = false := ⟨if_neg h, (ls_no h).1⟩
set_option maxHeartbeats 1000000 in
set_option maxRecDepth 20000 in
theorem fewest_any (s : Int) (w : World) :
    Calls Try.prog 55 #[.int .i64 s] w fun e w' => ∃ g cap, e = .returned (.tuple #[.slice (some ⟨g, 0, none⟩) (fwL s).length cap, .bool (lsO s)]) ∧
      OwnsInts w' w.heap.size (.slice (some ⟨g, 0, none⟩) (fwL s).length cap) (fwL s) ∧ Below w.heap.size w w' := by
  obtain ⟨i0, hi, hz0, hz1, hz2⟩ := info_parts infoInt
  by_cases hr : 0 ≤ s ∧ s ≤ 2097152
  · have HIN := Lib.hid (fun w => isSum_yes s w hr.1 hr.2)
    obtain ⟨S, rfl⟩ := Int.eq_ofNat_of_zero_le hr.1
    by_cases he : (S : Int) % 2 = 0
    · have hm : (S : Int).tmod 2 = 0 := by rw [Int.tmod_eq_emod_of_nonneg hr.1]; exact he
      have SOK : Hid ((lsL 17 S).length ≤ 16 ↔ SumOk (S : Int)) := by
        rw [lsN_len]
        exact ⟨fun h => ⟨hr.1, hr.2, he, h⟩, fun h => h.2.2.2⟩
      have HX : Hid ((lsL 17 S).length ≤ S) := by
        show _ ≤ _
        rw [lsN_len]
        have := lsN_half S
        omega
      have hS : S ≤ 2097152 := by omega
      have HB := Lib.hid ((Below.refl w.heap.size w).alloc (Nat.le_refl _) (.cells #[] 3))
      have HO : OwnsInts (w.alloc (.cells #[] 3)) w.heap.size (.slice (some ⟨w.heap.size, 0, none⟩) 0 0) [] :=
        World.ownsRow_made (base := w.heap.size) (e := 3) (size := 1) w #[] 0 (by simp) (by decide) rfl
      clear he hr
      go_enter Try.func55, Try.ntmps55
      go_wp2_with fail
      refine (HIN.out _).mono ?_
      rintro e w' ⟨rfl, rfl⟩
      go_wp2_with fail
      go_loopg [0, 4, 5] 17 (fun g s0 sl st wr => ∃ T s : Nat, T = g ∧ T ≤ 17 ∧ st = .int .i64 (T : Int) ∧ s0 = .int .i64 (s : Int) ∧ Hid (LsAt wr w.heap.size sl (lsL 17 S) S T s) ∧ Hid (Below w.heap.size w wr))
      case atStart => exact ⟨17, S, rfl, Nat.le_refl _, rfl, rfl, ⟨[], ⟨_, _, rfl⟩, HO, rfl, Nat.le_refl _⟩, HB⟩
      case round =>
        obtain ⟨T, s, hT, hT17, rfl, rfl, HL, hb⟩ := hrel
        cases gk with
        | zero =>
          obtain rfl : T = 0 := hT
          have hd : ¬ (((0 : Nat) : Int) ≥ 1) := by omega
          obtain ⟨L, ⟨gg, cap, rfl⟩, ho, hX, hsS⟩ := HL.out
          have hX : L = lsL 17 S := by rw [← hX]; simp [lsL]
          subst hX
          clear HL hT17
          have hbz := hb.out.size
          have HBN : Hid (Below w.heap.size w (wr.alloc (.cells #[] 3))) := hb.out.alloc hbz _
          have HON : OwnsInts (wr.alloc (.cells #[] 3)) w.heap.size (.slice (some ⟨wr.heap.size, 0, none⟩) 0 0) [] :=
            World.ownsRow_made (base := w.heap.size) (e := 3) (size := 1) wr #[] 0 hbz (by decide) rfl
          clear hbz
          by_cases hl : (lsL 17 S).length ≤ 16
          · have hS := SOK.out.1 hl
            have hgt : ¬ (16 : Int) < ((lsL 17 S).length : Int) := by omega
            have HF : Hid (fwL (S : Int) = lsL 17 S ∧ lsO (S : Int) = true) := fw_yes hS
            clear hl hS HON SOK HX
            generalize lsL 17 S = L at *
            go_wp2_with fail
            go_ret2
            rw [HF.out.1, HF.out.2]
            exact ⟨gg, cap, rfl, ho, hb.out⟩
          · have hS : ¬ SumOk (S : Int) := fun h => hl (SOK.out.2 h)
            have hgt : (16 : Int) < ((lsL 17 S).length : Int) := by omega
            have HF : Hid (fwL (S : Int) = [] ∧ lsO (S : Int) = false) := fw_no hS
            clear hl hS SOK HX
            generalize lsL 17 S = L at *
            go_wp2_with fail
            go_ret2
            rw [HF.out.1, HF.out.2]
            exact ⟨_, _, rfl, HON, HBN.out⟩
        | succ g =>
          have hd0 : ((T : Int) ≥ 1) := by omega
          have hd1 : decide ((T : Int) ≥ 1) = true := decide_eq_true hd0
          have hd2 : decide (1 ≤ T) = true := decide_eq_true (by omega)
          have hd3 : decide ((1 : Int) ≤ (T : Int)) = true := decide_eq_true (by omega)
          have hp := worth_nat T
          have hpb := worth_bd (t := (T : Int)) (by omega) (by omega)
          have hT0 : (0 : Int) ≤ (T : Int) ∧ (T : Int) ≤ 17 := by omega
          have HTE := Lib.hid hT
          rw [hp] at hpb
          clear hT
          go_wp2_with fail
          go_loopg [0, 4] s (fun h s0 sl wx => ∃ (s : Nat) (v : Value), s ≤ h ∧ s0 = .int .i64 (s : Int) ∧ v = sl ∧ Hid (LsAt wx w.heap.size v (lsL 17 S) S T s) ∧ Hid (Below w.heap.size w wx))
          case atStart => exact ⟨s, _, Nat.le_refl _, rfl, rfl, HL, hb⟩
          case round =>
            clear HL hb
            obtain ⟨s, v, hsh, rfl, rfl, HL, hb⟩ := hrel
            obtain ⟨L, hv, ho, hX, hsS⟩ := HL.out
            clear HL
            by_cases hs : 2 ^ T ≤ s
            · obtain ⟨h, rfl⟩ : ∃ h, gk = h + 1 := ⟨gk - 1, by have := Nat.two_pow_pos T; omega⟩
              have hsz : ((2 ^ T : Nat) : Int) ≤ (s : Int) := by omega
              have HN := Lib.hid (ls_take HTE.out hX hs)
              have hlen := ls_len HX.out hX
              have hout := hb.out.size
              have HP : Hid (0 < 2 ^ T ∧ 2 ^ T ≤ s) := ⟨Nat.two_pow_pos _, hs⟩
              clear hX hs
              have hww : ∀ w : World, Calls Try.prog 61 #[.int .i64 (T : Int)] w fun e w' => e = .returned (.int .i64 ((2 ^ T : Nat) : Int)) ∧ w = w' := fun w => by
                rw [← hp]; exact worthOf_any (T : Int) w (by omega) (by omega)
              have HW := Lib.hid hww
              clear hww hp
              have ho0 : wr.ownsRow w.heap.size 3 1 v L.length (L.map (Value.int .i64)) := ho
              generalize hPE : 2 ^ T = P at *
              have HPE := Lib.hid hPE
              clear hPE
              go_wp2_with fail
              refine (HW.out _).mono ?_
              rintro e w' ⟨rfl, rfl⟩
              go_wp2_with (first | (at_builtin; refine wpList_append_own _ rfl _ _ 72 rfl w.heap.size 3 i0 (.int .i64 0) 1 8 Try.underlying72 hi hz0 hz1 hz2 rfl (by decide) _ _ _ rfl (ho0.alloc _) ⟨wr.heap.size, 0, none⟩ 1 1 [.int .i64 (T : Int)] rfl rfl ?c1 ?c2 ?c3 ?c4 ?c5 ?_))
              case c1 =>
                exact cell_one_new wr (.int .i64 (T : Int)) 3
              case c2 => simp [Value.oneCell']
              case c3 => unfold maxLen; omega
              case c4 => omega
              case c5 => simp; omega
              intro v' w2 hown' hgrow' _
              have HV' : Hid (∃ gg cap, v' = .slice (some ⟨gg, 0, none⟩) (L.length + 1) cap) := ownsRow_succ hown'
              have HB2 : Hid (Below w.heap.size w w2) := ((hb.out).alloc hb.out.size _).grown hgrow' (by simp; omega) (fun j hj => by have := (ho.lt j hj).1; omega)
              have HO : Hid (OwnsInts w2 w.heap.size v' (L ++ [(T : Int)])) := by
                show OwnsInts _ _ _ _
                unfold OwnsInts
                rw [List.map_append, List.length_append]
                exact hown'
              clear hown' hgrow' ho hb
              go_wp2_with fail
              refine (HW.out _).mono ?_
              rintro e w3 ⟨rfl, rfl⟩
              go_wp2_with fail
              have hP := HP.out
              go_roundg h
              case rel => exact ⟨s - P, _, by omega, by rw [show ((s - P : Nat) : Int) = (s : Int) - (P : Int) by omega], rfl, ⟨_, by rw [List.length_append]; exact HV'.out, HO.out, by have := HPE.out; subst this; exact HN.out, by omega⟩, HB2⟩
              case measure => omega
            · have hsz : ¬ ((2 ^ T : Nat) : Int) ≤ (s : Int) := by omega
              have HN := Lib.hid (ls_pass HTE.out hX (by omega))
              have hww : ∀ w : World, Calls Try.prog 61 #[.int .i64 (T : Int)] w fun e w' => e = .returned (.int .i64 ((2 ^ T : Nat) : Int)) ∧ w = w' := fun w => by
                rw [← hp]; exact worthOf_any (T : Int) w (by omega) (by omega)
              have HW := Lib.hid hww
              clear hww hp hX hs
              generalize 2 ^ T = P at *
              go_wp2_with fail
              refine (HW.out _).mono ?_
              rintro e w' ⟨rfl, rfl⟩
              go_wp2_with fail
              go_roundg g
              case rel => exact ⟨g, s, rfl, by have := HTE.out; omega, by have := HTE.out; congr 1; omega, rfl, ⟨L, hv, ho, HN.out, hsS⟩, hb⟩
              case measure => omega
    · have HF := fw_no (s := (S : Int)) (fun h => he h.2.2.1)
      rw [HF.1, HF.2]
      have hm : (S : Int).tmod 2 = 1 := by rw [Int.tmod_eq_emod_of_nonneg hr.1]; omega
      clear HF he hr
      have HO : OwnsInts (w.alloc (.cells #[] 3)) w.heap.size (.slice (some ⟨w.heap.size, 0, none⟩) 0 0) [] :=
        World.ownsRow_made (base := w.heap.size) (e := 3) (size := 1) w #[] 0 (by simp) (by decide) rfl
      have HB := Lib.hid ((Below.refl w.heap.size w).alloc (Nat.le_refl _) (.cells #[] 3))
      go_enter Try.func55, Try.ntmps55
      go_wp2_with fail
      refine (HIN.out _).mono ?_
      rintro e w' ⟨rfl, rfl⟩
      go_wp2_with fail
      go_ret2
      exact ⟨_, _, rfl, HO, HB.out⟩
  · have HF := fw_no (s := s) (fun h => hr ⟨h.1, h.2.1⟩)
    rw [HF.1, HF.2]
    have HIN := Lib.hid (fun w => isSum_no s w (by omega))
    clear hr HF
    have HO : OwnsInts (w.alloc (.cells #[] 3)) w.heap.size (.slice (some ⟨w.heap.size, 0, none⟩) 0 0) [] :=
      World.ownsRow_made (base := w.heap.size) (e := 3) (size := 1) w #[] 0 (by simp) (by decide) rfl
    have HB := Lib.hid ((Below.refl w.heap.size w).alloc (Nat.le_refl _) (.cells #[] 3))
    go_enter Try.func55, Try.ntmps55
    go_wp2_with fail
    refine (HIN.out _).mono ?_
    rintro e w' ⟨rfl, rfl⟩
    go_wp2_with fail
    go_ret2
    exact ⟨_, _, rfl, HO, HB.out⟩
theorem grown_set {w : World} {b n : Nat} {f : Nat → Int} {t : TypeId} (k : Blk w b n f t) {i : Nat} (v : Value) : w.grownBy (w.setCell ⟨b, i, none⟩ v) (some b) := by
  refine ⟨rfl, rfl, rfl, ?_, fun j hj hne => ?_⟩
  · simp [World.setCell]
  · exact heap_setCell_other w ⟨b, i, none⟩ j v (fun e => hne (by rw [e]))
theorem fw_len (s : Int) : ((fwL s).length : Int) = lsR s ∧ (fwL s).length ≤ 16 := by
  by_cases h : SumOk s
  · rw [(fw_yes h).1, (ls_yes h).2.1, lsN_len]
    exact ⟨rfl, h.2.2.2⟩
  · rw [(fw_no h).1, (ls_no h).2.1]
    exact ⟨rfl, by simp⟩
theorem fw_pk (s : Int) : pkR s = fun j => (fwL s).getD j 0 := by
  by_cases h : SumOk s
  · rw [(fw_yes h).1, (ls_yes h).2.2.1]
    rfl
  · rw [(fw_no h).1, (ls_no h).2.2.1]
    simp
theorem fw_at {w : World} {b g cap : Nat} {s : Int} (ho : OwnsInts w b (.slice (some ⟨g, 0, none⟩) (fwL s).length cap) (fwL s)) : CAt w g (fwL s).length (pkR s) ∧ b ≤ g := by
  unfold OwnsInts at ho
  refine ⟨⟨(ho.lt g rfl).2, fun j hj => ?_⟩, (ho.lt g rfl).1⟩
  rw [ho.cellAt j (by omega), List.getElem?_map, List.getElem?_eq_getElem hj, fw_pk]
  simp [List.getD, List.getElem?_eq_getElem hj]
theorem fw_over {s : Int} {j : Nat} (h : (fwL s).length ≤ j) : pkR s j = 0 := by
  rw [fw_pk]
  simp [List.getD, List.getElem?_eq_none h]
set_option maxHeartbeats 1000000 in
theorem implLeast_any (s : Int) (w : World) :
    Calls Try.prog 18 #[.int .i64 s] w fun e w' => e = .returned (.tuple #[.int .i64 (lsR s), .bool (lsO s)]) ∧ Below w.heap.size w w' := by
  have HL := Lib.hid (fun w => fewest_any s w)
  rw [← (fw_len s).1]
  generalize fwL s = L at *
  generalize lsO s = O at *
  go_enter Try.func18, Try.ntmps18
  go_wp2_with fail
  refine (HL.out _).mono ?_
  rintro e w2 ⟨g, cap, rfl, ho, hb⟩
  have HB := Lib.hid hb
  clear ho hb
  go_wp2_with fail
  go_ret2
  exact ⟨rfl, HB.out⟩
set_option maxHeartbeats 4000000 in
set_option maxRecDepth 20000 in
theorem implPacked_any (s : Int) (w : World) :
    Calls Try.prog 20 #[.int .i64 s] w fun e w' => e = .returned (.tuple #[.agg (mk 16 (pkR s)), .bool (lsO s)]) ∧ Below w.heap.size w w' := by
  have z16 := zero16
  have z32 := zero32
  have z2 := zero2
  have K2 := Blk.new w 16 (fun _ => 0) 28
  have HB := Lib.hid ((Below.refl w.heap.size w).alloc (Nat.le_refl _) (.cells (mk 16 fun _ => 0) 28))
  have HL := Lib.hid (fun w => fewest_any s w)
  have HPK : Hid (∀ j, (fwL s).length ≤ j → pkR s j = 0) := fun j hj => fw_over hj
  have HLA := Lib.hid (fun (w : World) (b g cap : Nat) (ho : OwnsInts w b (.slice (some ⟨g, 0, none⟩) (fwL s).length cap) (fwL s)) => fw_at ho)
  have HLN : Hid ((fwL s).length ≤ 16) := (fw_len s).2
  have HCP := Lib.hid cellPath_any
  generalize fwL s = L at *
  generalize lsO s = O at *
  generalize pkR s = h at *
  go_enter Try.func20, Try.ntmps20
  go_wp2_with fail
  refine (HL.out _).mono ?_
  rintro e w1 ⟨g, cap, rfl, ho, hb⟩
  have hlt1 := K2.lt
  have K2 := K2.below hb K2.lt
  have HB : Hid (Below w.heap.size w w1) := HB.out.trans (hb.mono HB.out.size)
  have CM := HLA.out _ _ _ _ ho
  have HG : Hid (w.heap.size < g ∧ g < w1.heap.size) := by
    have h1 := CM.2
    have h2 := (ho.lt g rfl).2
    constructor <;> omega
  have CM := CM.1
  clear ho hb HLA HL hlt1
  generalize L.length = n at *
  go_wp2_with fail
  refine (HCP.out _).mono ?_
  rintro e w2 ⟨rfl, hb⟩
  have CM := CM.below hb
  have K2 := K2.below hb K2.lt
  have HB : Hid (Below w.heap.size w w2) := HB.out.trans (hb.mono HB.out.size)
  have HG : Hid (w.heap.size < g ∧ g < w2.heap.size) := ⟨HG.out.1, Nat.lt_of_lt_of_le HG.out.2 hb.size⟩
  clear hb HCP
  have hw2 := K2.lt
  have K6 := Blk.new w2 32 (fun _ => 0) 77
  have K2 := K2.alloc (.cells (mk 32 fun _ => 0) 77)
  have CM := CM.alloc (.cells (mk 32 fun _ => 0) 77)
  have HB : Hid (Below w.heap.size w (w2.alloc (.cells (mk 32 fun _ => 0) 77))) := HB.out.alloc HB.out.size _
  go_wp2_with ((with_reducible show wpList _ _ _ (Oper.mk _ (Op.store 77 _ _) _ _ _ _ :: _) _ _); refine storeP (K6) rfl rfl rfl rfl ?_)
  have e7 : ((w2.alloc (.cells (mk 32 fun _ => 0) 77)).setRow w2.heap.size (mk 32 pathF)).heap.size = w2.heap.size + 1 := by simp [World.setRow]
  have hgr := grown_rowL K6 (mk 32 pathF)
  have K7 := Blk.new ((w2.alloc (.cells (mk 32 fun _ => 0) 77)).setRow w2.heap.size (mk 32 pathF)) 16 (fun _ => 0) 28
  rw [e7] at K7
  have K2 := (K2.rowOther w2.heap.size (mk 32 pathF) (by omega)).alloc (.cells (mk 16 fun _ => 0) 28)
  have CM := (grown_atL CM hgr (fun e => by cases e; exact absurd HG.out.2 (Nat.lt_irrefl _))).alloc (.cells (mk 16 fun _ => 0) 28)
  have K6 := (K6.row 32 pathF).alloc (.cells (mk 16 fun _ => 0) 28)
  have HB1 := below_setRow HB.out (Nat.le_of_lt hw2) (mk 32 pathF)
  have HB : Hid (Below w.heap.size w (((w2.alloc (.cells (mk 32 fun _ => 0) 77)).setRow w2.heap.size (mk 32 pathF)).alloc (.cells (mk 16 fun _ => 0) 28))) := HB1.alloc HB1.size _
  clear e7 hgr z16 z32 HB1
  generalize ((w2.alloc (.cells (mk 32 fun _ => 0) 77)).setRow w2.heap.size (mk 32 pathF)).alloc (.cells (mk 16 fun _ => 0) 28) = w3 at *
  have HW2 := Lib.hid hw2
  clear hw2
  generalize w2.heap.size = b6 at *
  go_loopg [20] n (fun g2 s20 wr => ∃ i : Nat, i + g2 = n ∧ s20 = .int .i64 i ∧ Blk wr (b6 + 1) 16 (upto h i) 28 ∧ Blk wr b6 32 pathF 77 ∧ Blk wr w.heap.size 16 (fun _ => 0) 28 ∧ CAt wr g n h ∧ Hid (Below w.heap.size w wr))
  case atStart => exact ⟨0, by omega, rfl, K7.congr (fun j _ => by simp [upto]), K6, K2, CM, HB⟩
  case round =>
    clear K2 K6 K7 CM HB
    obtain ⟨i, hig, rfl, K7, K6, K2, CM, HB⟩ := hrel
    cases gk with
    | zero =>
      have hd : ¬ ((i : Int) < (n : Int)) := by omega
      have HF : Hid (mk 16 (upto h i) = mk 16 h) := mk_congr fun j hj => by
        by_cases hji : j < i
        · simp [upto, hji]
        · simp [upto, hji, HPK.out j (by omega)]
      clear hig
      go_wp2_with (first | ((with_reducible show wpList _ _ _ (Oper.mk _ (Op.load 28 _) _ _ _ _ :: _) _ _); refine loadB (K7) rfl rfl rfl ?_) | ((with_reducible show wpList _ _ _ (Oper.mk _ (Op.store 28 _ _) _ _ _ _ :: _) _ _); refine storeB (K2) rfl rfl rfl rfl ?_))
      try simp only [Exit.inBlock, Exit.then]
      rw [← HF.out]
      exact retctB (K2.row 16 _) rfl rfl rfl ⟨rfl, below_setRow HB.out (Nat.le_refl _) _⟩
    | succ g2 =>
      have hd : (i : Int) < (n : Int) := by omega
      have hn16 := HLN.out
      have hi16 : (i : Int) < 16 := by omega
      have c1 := CM.2 i (by omega)
      obtain ⟨R, hR⟩ : ∃ R, R = i / 4 := ⟨_, rfl⟩
      obtain ⟨C, hC⟩ : ∃ C, C = i % 4 := ⟨_, rfl⟩
      have HRC : Hid (R * 4 + C = i) := by show _ = _; omega
      have HPP : Hid (mk 2 (fun k => pathF (i * 2 + k)) = mk 2 (two (R : Int) (C : Int))) := mk_congr fun k hk => by
        rcases (by omega : k = 0 ∨ k = 1) with rfl | rfl
        · rw [hR]; exact pathF_row i
        · rw [hC]; exact pathF_col i
      have hR4 : (R : Int) < 4 := by omega
      have hC4 : (C : Int) < 4 := by omega
      have hR0 : (0 : Int) ≤ (R : Int) := by omega
      have hC0 : (0 : Int) ≤ (C : Int) := by omega
      have hw : w.heap.size < wr.heap.size ∧ b6 + 1 < wr.heap.size ∧ b6 < wr.heap.size ∧ g < wr.heap.size := ⟨K2.lt, K7.lt, K6.lt, CM.1⟩
      have K10 := Blk.new wr 2 (fun _ => 0) 61
      have K2 := (K2.alloc (.cells (mk 2 fun _ => 0) 61))
      have K6a := K6
      have K6 := (K6.alloc (.cells (mk 2 fun _ => 0) 61))
      have K7 := (K7.alloc (.cells (mk 2 fun _ => 0) 61))
      have CM := (CM.alloc (.cells (mk 2 fun _ => 0) 61))
      have HB : Hid (Below w.heap.size w (wr.alloc (.cells (mk 2 fun _ => 0) 61))) := HB.out.alloc HB.out.size _
      clear hn16 hR hC
      go_wp2_with (first | ((with_reducible show wpList _ _ _ (Oper.mk _ (Op.load 61 _) _ _ _ _ :: _) _ _); refine loadPC K6a (by omega) rfl rfl rfl ?_; rw [HPP.out]) | ((with_reducible show wpList _ _ _ (Oper.mk _ (Op.store 61 _ _) _ _ _ _ :: _) _ _); refine storeC (K10) rfl rfl rfl rfl ?_))
      have hgr := grown_rowL K10 (mk 2 (two (R : Int) (C : Int)))
      have K2 := K2.rowOther wr.heap.size (mk 2 (two (R : Int) (C : Int))) (by omega)
      have K6 := K6.rowOther wr.heap.size (mk 2 (two (R : Int) (C : Int))) (by omega)
      have K7 := K7.rowOther wr.heap.size (mk 2 (two (R : Int) (C : Int))) (by omega)
      have CM := grown_atL CM hgr (fun e => by cases e; omega)
      have K10 := K10.row 2 (two (R : Int) (C : Int))
      have HB : Hid (Below w.heap.size w ((wr.alloc (.cells (mk 2 fun _ => 0) 61)).setRow wr.heap.size (mk 2 (two (R : Int) (C : Int))))) := below_setRow HB.out (by omega) _
      have HW := Lib.hid hw
      clear hgr hw K6a
      generalize (wr.alloc (.cells (mk 2 fun _ => 0) 61)).setRow wr.heap.size (mk 2 (two (R : Int) (C : Int))) = w4 at *
      have Q0 : w4.drew.cell? ⟨wr.heap.size, 0, none⟩ = some (.int .i64 (R : Int)) := K10.drew.cell (i := 0) (by omega)
      have Q1 : w4.drew.cell? ⟨wr.heap.size, 1, none⟩ = some (.int .i64 (C : Int)) := K10.drew.cell (i := 1) (by omega)
      have Q2 := K7.drew.cell (i := R * 4 + C) (by have := HRC.out; omega)
      have F2 := K7.drew.free (R * 4 + C)
      have HU : Hid (∀ j, upd (upto h i) i (h i) j = upto h (i + 1) j) := fun j => upto_step h i j
      clear c1
      go_region
      all_goals
        have k7 := (K7.drew.set (i := R * 4 + C) (by have := HRC.out; omega) (h i))
        have k6 := K6.drew.setOther ⟨b6 + 1, R * 4 + C, none⟩ (.int .i64 (h i)) (by dsimp only; omega)
        have k2 := K2.drew.setOther ⟨b6 + 1, R * 4 + C, none⟩ (.int .i64 (h i)) (by have := HW2.out; dsimp only; omega)
        have cm := grown_atL (CAt.drew CM) (grown_set K7.drew (i := R * 4 + C) (.int .i64 (h i))) (fun e => by have := HG.out.2; cases e; omega)
        have hbx := HB.out.drew.setCell (p := ⟨b6 + 1, R * 4 + C, none⟩) (by have := HW2.out; dsimp only; omega) (.int .i64 (h i))
        clear Q0 Q1 Q2 F2
        go_wp2_with fail
        go_roundg g2
        case rel => exact ⟨i + 1, by omega, by go_num, k7.congr (fun j hj => by rw [← HU.out j, HRC.out]), k6, k2, cm, hbx⟩
        case measure => omega
theorem hi_zero : ∀ k, hiF (fun _ => 0) k = (0, 0)
  | 0 => rfl
  | k + 1 => by rw [hiF_no (by rw [hi_zero k]; simp), hi_zero k]
theorem hi_pk (s : Int) : hiT (pkR s) = hfR s := by
  by_cases h : SumOk s
  · rw [(ls_yes h).2.2.1, (ls_yes h).2.2.2, (hi_yes (pk_vd _)).1, pk_high]
  · rw [(ls_no h).2.2.1, (ls_no h).2.2.2, (hi_yes (f := fun _ => 0) (fun i _ => by simp)).1, hi_zero]
set_option maxHeartbeats 1000000 in
theorem implHighFor_any (s : Int) (w : World) :
    Calls Try.prog 29 #[.int .i64 s] w fun e w' => e = .returned (.tuple #[.int .i64 (hfR s), .bool (lsO s)]) ∧ Below w.heap.size w w' := by
  have z16 := zero16
  have z2 := zero2
  rw [← hi_pk s]
  have HP := Lib.hid (fun w => implPacked_any s w)
  have HH := Lib.hid (fun w => implHigh_any (pkR s) w)
  generalize pkR s = F at *
  generalize lsO s = O at *
  generalize hiT F = T at *
  generalize hiC F = C at *
  generalize hiO F = Q at *
  go_enter Try.func29, Try.ntmps29
  go_wp2_with fail
  refine (HP.out _).mono ?_
  rintro e w1 ⟨rfl, hb⟩
  have HB : Hid (Below w.heap.size w (w1.alloc (.cells (mk 16 F) 28))) := hb.alloc hb.size _
  have K4 := Blk.new w1 16 F 28
  clear hb HP
  go_wp2_with ((with_reducible show wpList _ _ _ (Oper.mk _ (Op.load 28 _) _ _ _ _ :: _) _ _); refine loadB (K4) rfl rfl rfl ?_)
  refine (HH.out _).mono ?_
  rintro e w2 ⟨rfl, hb⟩
  have HB : Hid (Below w.heap.size w w2) := HB.out.trans (hb.mono HB.out.size)
  have HB2 : Hid (Below w.heap.size w (w2.alloc (.cells (mk 2 C) 61))) := HB.out.alloc HB.out.size _
  clear hb HH K4
  go_wp2_with fail
  go_ret2
  exact ⟨rfl, HB2.out⟩
set_option maxHeartbeats 1000000 in
theorem implPossible_any (s m : Int) (w : World) :
    Calls Try.prog 23 #[.int .i64 s, .int .i64 m] w fun e w' => e = .returned (.tuple #[.bool (poR s m), .bool (poO s m)]) ∧ Below w.heap.size w w' := by
  by_cases hP : PoOk s m
  · rw [(po_yes hP).1, (po_yes hP).2]
    have HS := Lib.hid (fun w => isSum_yes s w hP.1 hP.2.1)
    have HL := Lib.hid (fun w => implLeast_any s w)
    have HW := Lib.hid (fun w => worthOf_any 1 w (by omega) (by omega))
    have hw1 : worth 1 = 2 := by decide
    rw [hw1] at HW
    have hm0 : ¬ m < 0 := by have := hP.2.2.1; omega
    have hm1 : ¬ (16 : Int) < m := by have := hP.2.2.2; omega
    have hq : s.tdiv 2 = s / 2 := Int.tdiv_eq_ediv_of_nonneg hP.1
    have hqw : IntKind.i64.wrap (s / 2) = s / 2 := IntWalk.i64_in _ (by have := hP.1; have := hP.2.1; omega)
    by_cases hS : SumOk s
    · have HE : Hid (decide (PoB s m) = (decide (lsR s ≤ m) && decide (m ≤ s / 2))) := by
        show _ = _
        rw [(ls_yes hS).2.1]
        by_cases h1 : (lsN s.toNat : Int) ≤ m
        · rw [decide_eq_true h1, Bool.true_and]
          exact decide_eq_decide.2 ⟨fun h => h.2.2, fun h => ⟨hS.2.2.1, h1, h⟩⟩
        · rw [decide_eq_false h1, Bool.false_and]
          exact decide_eq_false (fun h => h1 h.2.1)
      rw [(ls_yes hS).1] at HL
      rw [HE.out]
      clear hP hS HE hw1
      generalize lsR s = R at *
      generalize s / 2 = q at *
      by_cases hr : R ≤ m
      · have hrd : decide (R ≤ m) = true := decide_eq_true hr
        rw [hrd, Bool.true_and]
        go_enter Try.func23, Try.ntmps23
        go_wp2_with fail
        refine (HS.out _).mono ?_
        rintro e w' ⟨rfl, rfl⟩
        go_wp2_with fail
        refine (HL.out _).mono ?_
        rintro e w1 ⟨rfl, hb⟩
        have HB := Lib.hid hb
        clear hb
        go_wp2_with fail
        refine (HW.out _).mono ?_
        rintro e w' ⟨rfl, rfl⟩
        go_wp2_with fail
        go_ret2
        exact ⟨rfl, HB.out⟩
      · have hrd : decide (R ≤ m) = false := decide_eq_false hr
        rw [hrd, Bool.false_and]
        go_enter Try.func23, Try.ntmps23
        go_wp2_with fail
        refine (HS.out _).mono ?_
        rintro e w' ⟨rfl, rfl⟩
        go_wp2_with fail
        refine (HL.out _).mono ?_
        rintro e w1 ⟨rfl, hb⟩
        have HB := Lib.hid hb
        clear hb
        go_wp2_with fail
        refine (HW.out _).mono ?_
        rintro e w' ⟨rfl, rfl⟩
        go_wp2_with fail
        go_ret2
        exact ⟨rfl, HB.out⟩
    · have HE : Hid (decide (PoB s m) = false) := decide_eq_false (fun h => hS ⟨hP.1, hP.2.1, h.1, by have := h.2.1; have := hP.2.2.2; omega⟩)
      rw [(ls_no hS).1] at HL
      rw [HE.out]
      clear hP hS HE hw1
      generalize lsR s = R at *
      generalize s / 2 = q at *
      go_enter Try.func23, Try.ntmps23
      go_wp2_with fail
      refine (HS.out _).mono ?_
      rintro e w' ⟨rfl, rfl⟩
      go_wp2_with fail
      refine (HL.out _).mono ?_
      rintro e w1 ⟨rfl, hb⟩
      have HB := Lib.hid hb
      clear hb
      go_wp2_with fail
      refine (HW.out _).mono ?_
      rintro e w' ⟨rfl, rfl⟩
      go_wp2_with fail
      go_ret2
      exact ⟨rfl, HB.out⟩
  · rw [(po_no hP).1, (po_no hP).2]
    by_cases hs : 0 ≤ s ∧ s ≤ 2097152
    · have HS := Lib.hid (fun w => isSum_yes s w hs.1 hs.2)
      by_cases hm : m < 0
      · clear hP hs
        go_enter Try.func23, Try.ntmps23
        go_wp2_with fail
        refine (HS.out _).mono ?_
        rintro e w' ⟨rfl, rfl⟩
        go_wp2_with fail
        go_ret2
        exact ⟨rfl, Below.refl _ _⟩
      · have hm1 : (16 : Int) < m := by unfold PoOk at hP; omega
        clear hP hs
        go_enter Try.func23, Try.ntmps23
        go_wp2_with fail
        refine (HS.out _).mono ?_
        rintro e w' ⟨rfl, rfl⟩
        go_wp2_with fail
        go_ret2
        exact ⟨rfl, Below.refl _ _⟩
    · have HS := Lib.hid (fun w => isSum_no s w (by omega))
      clear hP hs
      go_enter Try.func23, Try.ntmps23
      go_wp2_with fail
      refine (HS.out _).mono ?_
      rintro e w' ⟨rfl, rfl⟩
      go_wp2_with fail
      go_ret2
      exact ⟨rfl, Below.refl _ _⟩
end Go.Proofs.Ytmcmpedmgibmkaa
