/-
  Proved: for every code, the law FnStrings returns true, and the code reads as it did. The card ties the library's tables and errors that the row lists to the program's text; the repository beside the seat is a pruned copy, as the seat's page says.
-/
import Derived.Test.YtdbkciffdfdfbaaDoorStrLaw
import Derived.Test.YtdbkciffdfdfbaaDoorCards
import Derived.Test.YtdbkciffdfdfbaaDoorTie
import Derived.StillTailTactics
namespace Go.Proofs.YtdbkciffdfdfbaaDoor.fnStrings
open Go.ChangeShapes Go.WideShapes Go.ChangeAt Go.RowKit Plain
open Go.ChangeMaps (open_string shut_string)

theorem below3 {w a b : World} (h : Below w.heap.size w a) (k : Below a.heap.size a b) : Below w.heap.size w b := h.trans (k.mono h.size)


set_option maxRecDepth 100000 in
set_option maxHeartbeats 2000000 in
theorem core (a : Option Addr) (len cap : Nat) (w : World) (hl : len ≤ 65536) (hr : CodeRow w a len w.heap.size) (hT : Lib.TabIs Tryd.prog w "internal/strconv.uint64pow10" .u64 Lib.pow10Tab) (hE : ErrVars w) :
    Calls Tryd.prog 3 #[.slice a len cap] w fun e w' => e = .returned (.bool true) ∧ Below w.heap.size w w' := by
  have HR := Lib.hid hr
  have HT := Lib.hid hT
  have HE := Lib.hid hE
  have hd : decide ((65536 : Int) < (len : Int)) = false := by simp; omega
  clear hr hT hE
  go_enter Tryd.func3, Tryd.ntmps3
  go_wp2_with fail
  refine (big_any _ _ _ _).mono ?_
  rintro e w' ⟨rfl, rfl⟩
  rw [hd]
  go_wp2_with fail
  refine (drawFormat_any _ _ _ _ hl HR.out).mono ?_
  rintro e w1 ⟨n, hn0, hn1, rfl, hb1⟩
  have HB1 := Lib.hid hb1
  clear hb1
  obtain ⟨hbf, hbs⟩ := back_fmt n
  have HBF := Lib.hid hbf
  clear hbf
  go_wp2_with fail
  refine (implFmt_R n _ (tab_below HT.out HB1.out)).mono ?_
  rintro e w2 ⟨rfl, hb2⟩
  have HB2 := Lib.hid (below3 HB1.out hb2)
  clear hb2
  go_wp2_with fail
  refine (specFmt_R n _).mono ?_
  rintro e w3 ⟨rfl, hb3⟩
  have HB3 := Lib.hid (below3 HB2.out hb3)
  clear hb3
  generalize hfs : (fmtR n).1 = s at *
  generalize hfo : (fmtR n).2 = ok at *
  clear hfs hfo
  go_wp2_with fail
  refine (drawParse_any _ _ _ _ hl (HR.out.later HB3.out)).mono ?_
  rintro e w4 ⟨t, ht, rfl, hb4⟩
  have HB4 := Lib.hid (below3 HB3.out hb4)
  clear hb4
  go_wp2_with fail
  refine (implPrs_R t _ (by omega) (tab_below HT.out HB4.out) (errs_below HE.out HB4.out)).mono ?_
  rintro e w5 ⟨rfl, hb5⟩
  have HB5 := Lib.hid (below3 HB4.out hb5)
  clear hb5
  go_wp2_with fail
  refine (specPrs_R t _ (by unfold maxLen; omega)).mono ?_
  rintro e w6 ⟨rfl, hb6⟩
  have HB6 := Lib.hid (below3 HB5.out hb6)
  clear hb6
  generalize (prsR t).1 = m at *
  generalize (prsR t).2 = fine at *
  go_wp2_with fail
  refine (drawAppend_any _ _ _ _ hl (HR.out.later HB6.out)).mono ?_
  rintro e w7 ⟨x, hx, rfl, hb7⟩
  have HB7 := Lib.hid (below3 HB6.out hb7)
  clear hb7
  have HAY := Lib.hid (appR_yes x)
  have HAN := Lib.hid (appR_no x)
  go_wp2_with fail
  refine (implApp_R x _ (by unfold maxLen; omega) (tab_below HT.out HB7.out)).mono ?_
  rintro e w8 ⟨rfl, hb8⟩
  have HB8 := Lib.hid (below3 HB7.out hb8)
  clear hb8
  go_wp2_with fail
  refine (specApp_R x _ (by unfold maxLen; omega)).mono ?_
  rintro e w9 ⟨rfl, hb9⟩
  have HB9 := Lib.hid (below3 HB8.out hb9)
  clear hb9
  generalize (appR x).1 = y at *
  generalize (appR x).2 = sealed at *
  go_wp2_with fail
  refine (implPrs_R s _ (by omega) (tab_below HT.out HB9.out) (errs_below HE.out HB9.out)).mono ?_
  rintro e w10 ⟨rfl, hb10⟩
  have HB10 := Lib.hid (below3 HB9.out hb10)
  clear hb10
  have hback : ok = true → (prsR s).1 = n ∧ (prsR s).2 = true := fun h => by rw [HBF.out h]; exact ⟨rfl, rfl⟩
  generalize (prsR s).1 = bk at *
  generalize (prsR s).2 = there at *
  cases ok
  · clear hback
    cases sealed
    · have hy := HAN.out rfl
      subst hy
      go_wp2
      go_ret
      exact ⟨rfl, HB10.out⟩
    · skip
      obtain ⟨hok, hy⟩ := HAY.out rfl
      obtain ⟨hv0, hah0⟩ := ver_seal x hok
      have HSET := Lib.hid (not_ver_set x hok.2.1)
      rw [← hy] at hv0 hah0 HSET
      have HV := Lib.hid hv0
      have HAH := Lib.hid hah0
      have hys : y.size ≤ 4000 := hv0.1
      have hyp : 0 < y.size := by
        rw [hy]
        have h1 : (sealT x).size = (sealT x).data.toList.length := by simp
        rw [h1, sealT_list]
        simp
        omega
      clear hok hy hv0 hah0 HAY HAN
      go_wp2_with fail
      refine (implVer_yes y _ (tab_below HT.out HB10.out) HV.out).mono ?_
      rintro e w11 ⟨rfl, hb11⟩
      rw [HAH.out]
      have HB11 := Lib.hid (below3 HB10.out hb11)
      clear hb11
      have hconv := Lib.run_convert_string_bytes (P := Tryd.prog) w11 9 22 5 y (u := .string) Tryd.underlying9 Tryd.underlying22 Tryd.underlying5
      have HBY := Lib.hid (bytes_new w11 y)
      have HB12 : Hid (Below w.heap.size w (Lib.bytesWorld w11 5 y)) := below3 HB11.out (Go.Joins.below_bytesWorld _ _ _ _ (Nat.le_refl _))
      have hgw : w.heap.size ≤ w11.heap.size := HB11.out.size
      generalize Lib.bytesWorld w11 5 y = w12 at *
      generalize grownCap w11 y.size 0 5 = cp at *
      generalize w11.heap.size = g at *
      obtain ⟨n9, hn9, hc9⟩ := at_val a len cap w12 _ 9 (HR.out.later HB12.out) hl (by omega)
      obtain ⟨n10, hn10, hc10⟩ := at_val a len cap w12.drew _ 10 (HR.out.later HB12.out.drew) hl (by omega)
      have HC9 := Lib.hid hc9
      have HC10 := Lib.hid hc10
      clear hc9 hc10
      obtain ⟨kk, hkk⟩ : ∃ kk : Nat, (n9 : Int) % (y.size : Int) = kk := ⟨n9 % y.size, by omega⟩
      have hkl : kk < y.size := by
        have := Int.emod_lt_of_pos (n9 : Int) (show (0 : Int) < (y.size : Int) by omega)
        omega
      obtain ⟨hcell0, hfree⟩ := HBY.out kk (by simpa using hkl)
      obtain ⟨c0, hc0⟩ : ∃ c0, c0 = y.data.toList[kk]'(by simpa using hkl) := ⟨_, rfl⟩
      have hcell : w12.cell? ⟨g, kk, none⟩ = some (.int .u8 (c0.toNat : Int)) := by rw [hc0]; exact hcell0
      have HC0 := Lib.hid hc0
      clear hcell0 hc0
      go_wp2_with fail
      refine (HC9.out.mono fun e w' h => ⟨h.1, h.2.symm⟩ : Calls _ _ _ _ fun e w' => e = .returned (.int .i64 n9) ∧ w12 = w').mono ?_
      rintro e w' ⟨rfl, rfl⟩
      go_wp2_with fail
      rw [hkk]
      clear hkk
      have hk0 : (0 : Int) ≤ (kk : Int) := by omega
      have hk1 : (kk : Int) < (y.size : Int) := by omega
      obtain ⟨dd, hdd⟩ : ∃ dd : Nat, dd = n10 % 255 := ⟨_, rfl⟩
      have hdd1 : dd < 255 := by omega
      have e1 : (n10 : Int).tmod 255 = dd := by rw [Int.tmod_eq_emod_of_nonneg (by omega)]; omega
      have e1b : (n10 : Int) % 255 = dd := by omega
      have e1c : IntKind.i64.wrap (dd : Int) = dd := IntWalk.i64_in _ (by omega)
      have e2 : IntKind.i64.wrap (1 + (dd : Int)) = ((1 + dd : Nat) : Int) := by rw [IntWalk.i64_in _ (by omega)]; omega
      have e3 : IntKind.u8.wrap ((1 + dd : Nat) : Int) = ((1 + dd : Nat) : Int) := by rw [IntKind.wrap_u8]; omega
      obtain ⟨c', hc', hne⟩ := xor_ne c0 (1 + dd) (by omega) (by omega)
      have HNE : Hid (y.data.toList[kk]'(by simpa using hkl) ≠ c') := by rw [← HC0.out]; exact hne
      clear hdd hne
      generalize 1 + dd = d1 at *
      obtain ⟨y2, hy2⟩ : ∃ y2 : ByteArray, y2 = ⟨(y.data.toList.set kk c').toArray⟩ := ⟨_, rfl⟩
      have HNV : Hid (¬ VerOk y2) := HSET.out kk c' y2 (by simpa using hkl) HNE.out (by rw [hy2])
      have hy2s : y2.size ≤ 4000 := by
        rw [hy2]
        have : (⟨(y.data.toList.set kk c').toArray⟩ : ByteArray).size = (y.data.toList.set kk c').length := rfl
        rw [this, List.length_set]
        simpa using hys
      have hset := bytes_set HBY.out kk (by simpa using hkl) c' (c'.toNat : Int) rfl
      have hcv2 : (convert 22 9 (.slice (some ⟨g, 0, none⟩) y.size cp)).run Tryd.prog (w12.setCell ⟨g, kk, none⟩ (.int .u8 (c'.toNat : Int))).drew = .ok (.string y2) (w12.setCell ⟨g, kk, none⟩ (.int .u8 (c'.toNat : Int))).drew := by
        rw [hy2]
        exact bytes_text (w := (w12.setCell ⟨g, kk, none⟩ (.int .u8 (c'.toNat : Int))).drew) hset (by simp)
      have HB13 : Hid (Below w.heap.size w (w12.setCell ⟨g, kk, none⟩ (.int .u8 (c'.toNat : Int))).drew) := (HB12.out.setCell (p := ⟨g, kk, none⟩) hgw _).drew
      clear hset hy2
      go_still_tail 13, (by kernel_rfl)
      still_call HC10.out
      repeat still_step
      refine wpStill_nil ?_
      change wpList _ _ _ _ _ w12.drew
      go_wp2_with fail
      refine (implVer_no y2 _ (by omega) (tab_below HT.out HB13.out) HNV.out).mono ?_
      rintro e w14 ⟨rfl, hb14⟩
      have HB14 := Lib.hid (below3 HB13.out hb14)
      clear hb14
      go_wp2
      go_ret
      exact ⟨rfl, HB14.out⟩
  · obtain ⟨rfl, rfl⟩ := hback rfl
    clear hback
    cases sealed
    · have hy := HAN.out rfl
      subst hy
      go_wp2
      go_ret
      exact ⟨rfl, HB10.out⟩
    · skip
      obtain ⟨hok, hy⟩ := HAY.out rfl
      obtain ⟨hv0, hah0⟩ := ver_seal x hok
      have HSET := Lib.hid (not_ver_set x hok.2.1)
      rw [← hy] at hv0 hah0 HSET
      have HV := Lib.hid hv0
      have HAH := Lib.hid hah0
      have hys : y.size ≤ 4000 := hv0.1
      have hyp : 0 < y.size := by
        rw [hy]
        have h1 : (sealT x).size = (sealT x).data.toList.length := by simp
        rw [h1, sealT_list]
        simp
        omega
      clear hok hy hv0 hah0 HAY HAN
      go_wp2_with fail
      refine (implVer_yes y _ (tab_below HT.out HB10.out) HV.out).mono ?_
      rintro e w11 ⟨rfl, hb11⟩
      rw [HAH.out]
      have HB11 := Lib.hid (below3 HB10.out hb11)
      clear hb11
      have hconv := Lib.run_convert_string_bytes (P := Tryd.prog) w11 9 22 5 y (u := .string) Tryd.underlying9 Tryd.underlying22 Tryd.underlying5
      have HBY := Lib.hid (bytes_new w11 y)
      have HB12 : Hid (Below w.heap.size w (Lib.bytesWorld w11 5 y)) := below3 HB11.out (Go.Joins.below_bytesWorld _ _ _ _ (Nat.le_refl _))
      have hgw : w.heap.size ≤ w11.heap.size := HB11.out.size
      generalize Lib.bytesWorld w11 5 y = w12 at *
      generalize grownCap w11 y.size 0 5 = cp at *
      generalize w11.heap.size = g at *
      obtain ⟨n9, hn9, hc9⟩ := at_val a len cap w12 _ 9 (HR.out.later HB12.out) hl (by omega)
      obtain ⟨n10, hn10, hc10⟩ := at_val a len cap w12.drew _ 10 (HR.out.later HB12.out.drew) hl (by omega)
      have HC9 := Lib.hid hc9
      have HC10 := Lib.hid hc10
      clear hc9 hc10
      obtain ⟨kk, hkk⟩ : ∃ kk : Nat, (n9 : Int) % (y.size : Int) = kk := ⟨n9 % y.size, by omega⟩
      have hkl : kk < y.size := by
        have := Int.emod_lt_of_pos (n9 : Int) (show (0 : Int) < (y.size : Int) by omega)
        omega
      obtain ⟨hcell0, hfree⟩ := HBY.out kk (by simpa using hkl)
      obtain ⟨c0, hc0⟩ : ∃ c0, c0 = y.data.toList[kk]'(by simpa using hkl) := ⟨_, rfl⟩
      have hcell : w12.cell? ⟨g, kk, none⟩ = some (.int .u8 (c0.toNat : Int)) := by rw [hc0]; exact hcell0
      have HC0 := Lib.hid hc0
      clear hcell0 hc0
      go_wp2_with fail
      refine (HC9.out.mono fun e w' h => ⟨h.1, h.2.symm⟩ : Calls _ _ _ _ fun e w' => e = .returned (.int .i64 n9) ∧ w12 = w').mono ?_
      rintro e w' ⟨rfl, rfl⟩
      go_wp2_with fail
      rw [hkk]
      clear hkk
      have hk0 : (0 : Int) ≤ (kk : Int) := by omega
      have hk1 : (kk : Int) < (y.size : Int) := by omega
      obtain ⟨dd, hdd⟩ : ∃ dd : Nat, dd = n10 % 255 := ⟨_, rfl⟩
      have hdd1 : dd < 255 := by omega
      have e1 : (n10 : Int).tmod 255 = dd := by rw [Int.tmod_eq_emod_of_nonneg (by omega)]; omega
      have e1b : (n10 : Int) % 255 = dd := by omega
      have e1c : IntKind.i64.wrap (dd : Int) = dd := IntWalk.i64_in _ (by omega)
      have e2 : IntKind.i64.wrap (1 + (dd : Int)) = ((1 + dd : Nat) : Int) := by rw [IntWalk.i64_in _ (by omega)]; omega
      have e3 : IntKind.u8.wrap ((1 + dd : Nat) : Int) = ((1 + dd : Nat) : Int) := by rw [IntKind.wrap_u8]; omega
      obtain ⟨c', hc', hne⟩ := xor_ne c0 (1 + dd) (by omega) (by omega)
      have HNE : Hid (y.data.toList[kk]'(by simpa using hkl) ≠ c') := by rw [← HC0.out]; exact hne
      clear hdd hne
      generalize 1 + dd = d1 at *
      obtain ⟨y2, hy2⟩ : ∃ y2 : ByteArray, y2 = ⟨(y.data.toList.set kk c').toArray⟩ := ⟨_, rfl⟩
      have HNV : Hid (¬ VerOk y2) := HSET.out kk c' y2 (by simpa using hkl) HNE.out (by rw [hy2])
      have hy2s : y2.size ≤ 4000 := by
        rw [hy2]
        have : (⟨(y.data.toList.set kk c').toArray⟩ : ByteArray).size = (y.data.toList.set kk c').length := rfl
        rw [this, List.length_set]
        simpa using hys
      have hset := bytes_set HBY.out kk (by simpa using hkl) c' (c'.toNat : Int) rfl
      have hcv2 : (convert 22 9 (.slice (some ⟨g, 0, none⟩) y.size cp)).run Tryd.prog (w12.setCell ⟨g, kk, none⟩ (.int .u8 (c'.toNat : Int))).drew = .ok (.string y2) (w12.setCell ⟨g, kk, none⟩ (.int .u8 (c'.toNat : Int))).drew := by
        rw [hy2]
        exact bytes_text (w := (w12.setCell ⟨g, kk, none⟩ (.int .u8 (c'.toNat : Int))).drew) hset (by simp)
      have HB13 : Hid (Below w.heap.size w (w12.setCell ⟨g, kk, none⟩ (.int .u8 (c'.toNat : Int))).drew) := (HB12.out.setCell (p := ⟨g, kk, none⟩) hgw _).drew
      clear hset hy2
      go_still_tail 13, (by kernel_rfl)
      still_call HC10.out
      repeat still_step
      refine wpStill_nil ?_
      change wpList _ _ _ _ _ w12.drew
      go_wp2_with fail
      refine (implVer_no y2 _ (by omega) (tab_below HT.out HB13.out) HNV.out).mono ?_
      rintro e w14 ⟨rfl, hb14⟩
      have HB14 := Lib.hid (below3 HB13.out hb14)
      clear hb14
      go_wp2
      go_ret
      exact ⟨rfl, HB14.out⟩

theorem walk (w : World) (_ : w.ShapedOpen Tryd.prog) (hL : laidMetH Tryd.prog Rows.fnStringsRow.laid w) (a0 : Option Addr) (len0 cap0 : Nat) (z0 : List Int) (w0 : IsRow .u8 w a0 len0 cap0 z0) :
    Calls Tryd.prog 3 #[.slice a0 len0 cap0] w fun e w' => e = .returned (.bool true) ∧ Below w.heap.size w w' := by
  by_cases hl : len0 ≤ 65536
  · exact core a0 len0 cap0 w hl w0.code (tab_of hL) (errs_of hL)
  · have hd : decide ((65536 : Int) < (len0 : Int)) = true := by simp; omega
    clear hL w0
    go_enter Tryd.func3, Tryd.ntmps3
    go_wp2_with fail
    refine (big_any _ _ _ _).mono ?_
    rintro e w' ⟨rfl, rfl⟩
    rw [hd]
    go_wp2
    go_ret
    exact ⟨rfl, Below.refl _ _⟩

theorem laidOut : laidOutB Tryd.prog = true := by kernel_rfl
theorem laid_met (os : Os) : laidMet Tryd.prog Rows.fnStringsRow.laid ((laidWorld os).forCall (fun _ _ => 0) ⟨#[], #[.slice none 0 0], []⟩).memory :=
  laidMet_of_run' 8 (by kernel_rfl) (by kernel_rfl)
theorem reads (os : Os) {H : Type} (enc : TypeId × Value → H) : ∃ places, DataW.whole enc Tryd.prog ((laidWorld os).forCall (fun _ _ => 0) ⟨#[], #[.slice none 0 0], []⟩).memory Tryd.f3.params.toList Rows.fnStringsSpec.vars false #[.slice none 0 0].toList 8 = some ([.nil], [], places) :=
  ⟨[], by kernel_rfl⟩
set_option linter.unusedVariables false in
set_option maxRecDepth 100000 in
theorem lifted (os : Os) (started : os.Started) (H : Type) (enc : TypeId × Value → H) (F : Stop.Interp) :
    ReturnsInHanded {} Tryd.checked os 3 .any ((OpenSpec.ofChange Rows.fnStringsSpec).preRow enc Tryd.prog Tryd.f3 Rows.fnStringsRow.domain false Rows.fnStringsRow.laid) (((OpenSpec.ofChange Rows.fnStringsSpec).at F).post enc Tryd.prog Tryd.f3 false true false false) := by
  obtain ⟨places, hx⟩ := reads os enc
  refine returnsInHanded_of_row (C := Tryd.checked) (s := (OpenSpec.ofChange Rows.fnStringsSpec)) own started (by kernel_rfl) Tryd.func3
    (witness_row_at (enc := enc) (C := Tryd.checked) false (laidWorld os) #[.slice none 0 0] rfl (by kernel_rfl) (by kernel_rfl) (by kernel_rfl)
      (OpenSpec.preRow_of_cond 8 hx (by kernel_rfl) (fun k hk => by cases hk) (by kernel_rfl) (laid_met os))) ?_
  intro W base args ds gs before hval0 hW _ hcond hsz hL hsh _
  have hval : ∀ (j : Nat) t v, Tryd.f3.params[j]? = some t → args[j]? = some v → Value.okWide Tryd.prog W .any base t v := hval0
  have hW' := hW
  obtain ⟨p, q, hA0, hV, rfl, hfz, hnd⟩ := hW
  have hA : DataW.TrodAll enc Tryd.prog W 0 (fun _ => true) true Tryd.f3.params.toList args.toList ds p := hA0
  rw [Tryd.params3] at hA hval
  obtain ⟨v0, vs0, d0, ds0, p0, q0, hargs, rfl, rfl, h0, r0⟩ := trodAll_cons hA
  obtain ⟨rfl, rfl, rfl⟩ := trodAll_nil r0
  obtain rfl : args = #[v0] := by cases args; simp_all
  obtain ⟨rfl, rfl⟩ := trodVars_none hV
  obtain ⟨a0, len0, cap0, rfl⟩ := okWide_slice Tryd.underlying22 (hval 0 22 v0 rfl rfl)
  have k0 := h0
  have lt0 : ∀ x ∈ p0, x.block < W.heap.size := by obtain ⟨m, hm⟩ := k0; exact DataW.trod_lt m _ _ _ hm
  obtain ⟨z0, w0⟩ : ∃ zs, IsRow .u8 W a0 len0 cap0 zs := by
    obtain ⟨fuel, hf⟩ := h0
    rcases open_ints Tryd.underlying22 Tryd.underlying5 (by kernel_rfl) hf with ⟨hcs, _⟩ | ⟨x, l, c, zs, hcs, _, hl, hm, hz, _, hcell, hwz⟩
    · simp [Value.cells] at hcs; obtain ⟨rfl, rfl, rfl⟩ := hcs; exact ⟨[], .inl ⟨rfl, rfl, rfl, rfl⟩⟩
    · simp [Value.cells] at hcs; obtain ⟨rfl, rfl, rfl⟩ := hcs; exact ⟨zs, .inr ⟨_, rfl, hl, hm, by simpa using hz, hcell, hwz⟩⟩
  clear hA0 hval0
  have hwalk : Calls Tryd.prog 3 #[.slice a0 len0 cap0] W fun e w' => e = .returned (.bool true) ∧ Below W.heap.size W w' := walk W hsh hL a0 len0 cap0 z0 w0
  refine hwalk.mono fun e W' ⟨he, bel⟩ => ?_
  subst he
  exact ⟨_, rfl, _, _, _, [], _, [], hW', trodAll_mk1 (shut_bool Tryd.underlying4 _), (trodAll_cons_mk (Below.trod laidOut (by kernel_rfl) (of_decide_eq_true (by kernel_rfl)) k0 bel lt0) trodAll_mk0), rfl, bel.frame _, fun h => by cases h⟩
theorem said : Rows.FnStringsSaid :=
  OpenClaim.holds_of_cond 3 Tryd.f3 rfl rfl rfl rfl rfl rfl rfl ⟨rfl, rfl, rfl, rfl, rfl⟩ rfl rfl rfl rfl rfl (by kernel_rfl) Tryd.func3 (by kernel_rfl)
    (of_decide_eq_true (by kernel_rfl)) (by unfold Func.isWrapper; first | (rw [if_pos (by decide +kernel)]; kernel_rfl) | (rw [if_neg (by decide +kernel)]; exact ⟨rfl, rfl⟩))
    (fun os started H enc _ F => by rw [OpenClaim.pre_eq_preRow]; exact lifted os started H enc F)
theorem plain (f : FuncId) (fn : Func) (hf : Tryd.pinned.checked.prog.funcNamed Rows.fnStringsRow.func = some f) (hfn : Tryd.pinned.checked.prog.funcs[f]? = some fn) :
    true = Tryd.pinned.checked.prog.looks [] ∧ ∀ (j : Nat) t, fn.params[j]? = some t → Tryd.pinned.checked.prog.wantsStandIn t = false := by
  obtain rfl : f = 3 := Option.some.inj ((show Tryd.prog.funcNamed Rows.fnStringsRow.func = some 3 by kernel_rfl).symm.trans hf) |>.symm
  obtain rfl : fn = Tryd.f3 := (Option.some.inj (Tryd.func3.symm.trans hfn)).symm
  refine ⟨by kernel_rfl, fun j t ht => ?_⟩
  rw [Tryd.params3] at ht
  obtain rfl : t = 22 := by simpa using Array.mem_of_getElem? ht
  exact (show Tryd.prog.wantsStandIn 22 = false by kernel_rfl)
theorem card : Rows.FnStringsCardSaid :=
  Claim7.holds_tied_plain_at .later [] _ _ _ _ said (fun _ h => by cases h) (by kernel_rfl) (fun _ h => by cases h) fnStrings_row_tie rfl ⟨rfl, rfl⟩ (by kernel_rfl) rfl plain (by kernel_rfl)
#print axioms card
end Go.Proofs.YtdbkciffdfdfbaaDoor.fnStrings
