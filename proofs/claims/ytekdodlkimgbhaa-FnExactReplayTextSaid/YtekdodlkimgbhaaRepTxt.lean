/-
  The contracts of ReplayText in the reference and in the program.
-/
import Derived.Test.YtekdodlkimgbhaaStepTxt
import Derived.Test.YtekdodlkimgbhaaRepTop
import Derived.Test.YtekdodlkimgbhaaRepImpl
import Derived.Test.YtekdodlkimgbhaaJoin
namespace Go.Proofs.Ytekdodlkimgbhaa.Plain
theorem RpOk.sx {f h : Nat → Int} {n k : Nat} (q : RpOk f h n) (hk : k < n) : SxOk (stAt h k) := by
  obtain ⟨a, b, c, _⟩ := q.step hk
  exact ⟨a, b, c⟩
/-- The texts that are put together, and the text. -/
def rtP (f h : Nat → Int) : Nat → List (List UInt8)
  | 0 => [textL f]
  | k + 1 => rtP f h k ++ [sxL (stAt h k)]
def rtT (f h : Nat → Int) : Nat → List UInt8
  | 0 => textL f
  | k + 1 => rtT f h k ++ 32 :: sxL (stAt h k)
theorem rtP_len (f h : Nat → Int) : ∀ k, (rtP f h k).length = k + 1
  | 0 => rfl
  | k + 1 => by simp [rtP, rtP_len f h k]
theorem rtT_len (f h : Nat → Int) : ∀ k, (rtT f h k).length ≤ 20 + k * 5
  | 0 => rowsT_len f 4
  | k + 1 => by
    have := rtT_len f h k
    simp [rtT, sxL]; omega
theorem rtP_join (f h : Nat → Int) : ∀ k, joinT ((rtP f h k).map tbs) (tbs [32]) = tbs (rtT f h k)
  | 0 => joinT_one _ _
  | k + 1 => by
    have ih := rtP_join f h k
    have hne : (rtP f h k).map tbs ≠ [] := by
      intro e
      have := congrArg List.length e
      simp [rtP_len] at this
    unfold rtP
    rw [List.map_append, List.map_cons, List.map_nil, joinT_snoc _ _ _ hne, ih, ← tbs_app, ← tbs_app]
    show tbs _ = tbs (rtT f h k ++ 32 :: sxL (stAt h k))
    simp
theorem letB_no {t : Int} (h0 : 0 ≤ t) (h1 : t ≤ 17) : letB t ≠ 32 := by
  have := letB_nat h0 h1
  intro e
  rw [e] at this
  have e2 : ((32 : UInt8).toNat : Int) = 32 := rfl
  rw [e2] at this
  split at this <;> omega
theorem rowsT_no {f : Nat → Int} (hV : Vd f) : ∀ r, r ≤ 4 → (32 : UInt8) ∉ rowsT f r
  | 0, _ => by simp [rowsT]
  | r + 1, hr => by
    have ih := rowsT_no hV r (by omega)
    unfold rowsT
    intro q
    rcases List.mem_append.1 q with q | q
    · rcases List.mem_append.1 q with q | q
      · exact ih q
      · unfold sepT at q
        split at q
        · simp at q
        · simp at q
    · unfold rowT at q
      obtain ⟨i, hi, e⟩ := List.mem_map.1 q
      have hi := List.mem_range.1 hi
      have hv := hV (r * 4 + i) (by omega)
      exact letB_no hv.1 hv.2 e
theorem sxL_no {s : Nat → Int} (h : SxOk s) : (32 : UInt8) ∉ sxL s := by
  obtain ⟨⟨a0, a1⟩, ⟨⟨b0, b1⟩, b2, b3⟩, t0, t1⟩ := h
  have b0 : 0 ≤ s 1 := b0
  have b1 : s 1 ≤ 3 := b1
  have b2 : 0 ≤ s 2 := b2
  have b3 : s 2 ≤ 3 := b3
  have e1 : ∀ d : Int, 0 ≤ d → d ≤ 3 → (32 : UInt8) ≠ dirL d ∧ (32 : UInt8) ≠ digL d := fun d x y => by
    rcases four x y with rfl | rfl | rfl | rfl <;> decide
  have e2 := letB_no (t := s 3) (by omega) (by omega)
  unfold sxL
  intro q
  simp only [List.mem_cons, List.not_mem_nil, or_false] at q
  rcases q with q | q | q | q
  · exact (e1 _ a0 a1).1 q
  · exact (e1 _ b0 b1).2 q
  · exact (e1 _ b2 b3).2 q
  · exact e2 q.symm
theorem rtP_no {f h : Nat → Int} {n : Nat} (q : RpOk f h n) : ∀ k, k ≤ n → ∀ x ∈ rtP f h k, (32 : UInt8) ∉ x
  | 0, _, x, hx => by
    obtain rfl : x = textL f := by simpa [rtP] using hx
    exact rowsT_no q.1 4 (Nat.le_refl _)
  | k + 1, hk, x, hx => by
    rcases List.mem_append.1 hx with hx | hx
    · exact rtP_no q k (by omega) x hx
    · obtain rfl : x = sxL (stAt h k) := by simpa using hx
      exact sxL_no (q.sx (by omega))
theorem rtP_ok {f h : Nat → Int} {n : Nat} (q : RpOk f h n) : JoinOk ((rtP f h n).map tbs) (tbs [32]) 32 := by
  refine ⟨?_, ?_, ?_⟩
  · intro e
    have := congrArg List.length e
    simp [rtP_len] at this
  · intro s hs
    obtain ⟨x, hx, rfl⟩ := List.mem_map.1 hs
    have := rtP_no q n (Nat.le_refl _) x hx
    simpa [tbs] using this
  · rw [rtP_join, tbs_size]
    have := rtT_len f h n
    have := q.2.1
    omega
theorem rtP_total (f h : Nat → Int) : ∀ k, total ((rtP f h k).map tbs) ≤ 20 + k * 4
  | 0 => by
    have := rowsT_len f 4
    simp only [rtP, List.map_cons, List.map_nil, total, List.sum_cons, List.sum_nil, tbs_size]
    show (rowsT f 4).length + 0 ≤ _
    omega
  | k + 1 => by
    have := rtP_total f h k
    unfold rtP
    rw [List.map_append, List.map_cons, List.map_nil, total_snoc, tbs_size]
    have e : (sxL (stAt h k)).length = 4 := rfl
    omega
/-- What ReplayText returns. -/
def rtR (f h : Nat → Int) (n : Nat) : ByteArray := if RpOk f h n then tbs (rtT f h n) else ByteArray.empty
theorem rt_yes {f h : Nat → Int} {n : Nat} (q : RpOk f h n) : rtR f h n = tbs (rtT f h n) := by simp [rtR, q]
theorem rt_no {f h : Nat → Int} {n : Nat} (q : ¬ RpOk f h n) : rtR f h n = ByteArray.empty := by simp [rtR, q]
end Go.Proofs.Ytekdodlkimgbhaa.Plain
namespace Go.Proofs.Ytekdodlkimgbhaa
open Go.RowKit Plain
attribute [local go_sem] store_new
set_option linter.unusedVariables false
set_option linter.unusedSimpArgs false
set_option maxHeartbeats 4000000 in
set_option maxRecDepth 20000 in
theorem l11Write_any (f : Nat → Int) (v : Value) (n : Nat) (h : Nat → Int) (w : World) (hv : KRow 4 w v n h) (hR : RpOk f h n) :
    Calls Try.prog 70 #[.agg (rpl f v)] w fun e w' => e = .returned (.string (tbs (rtT f h n))) ∧ Below w.heap.size w w' := by
  have K1 := Rp.new w f v 34
  have HB0 := Lib.hid ((Below.refl w.heap.size w).alloc (Nat.le_refl _) (.cells (rpl f v) 34))
  obtain ⟨g, cap, rfl, hle, hc⟩ := hv
  have HC := Lib.hid hc
  have HR := Lib.hid hR
  have h40 := hR.2.1
  clear hc hR
  go_enter Try.func70, Try.ntmps70
  go_wp2_with ((with_reducible show wpList _ _ _ (Oper.mk _ (Op.load 31 _) _ _ _ _ :: _) _ _); refine loadRB (K1) rfl rfl rfl ?_)
  refine (l2Text_any f _ HR.out.1).mono ?_
  rintro e w1 ⟨rfl, hb⟩
  have K1 := K1.below hb K1.lt
  have HB : Hid (Below w.heap.size w w1) := HB0.out.trans (hb.mono HB0.out.size)
  clear hb HB0
  go_wp2_with fail
  go_loopg [3, 4] n (fun gk s3 s4 wr => ∃ k : Nat, k + gk = n ∧ s4 = .int .i64 k ∧ s3 = .string (tbs (rtT f h k)) ∧ Rp wr w.heap.size f (.slice (some ⟨g, 0, none⟩) n cap) 34 ∧ Hid (Below w.heap.size w wr))
  case atStart => exact ⟨0, by omega, rfl, rfl, K1, HB⟩
  case round =>
    clear K1 HB
    obtain ⟨k, hkg, rfl, rfl, K1, HB⟩ := hrel
    have c16 := K1.last
    cases gk with
    | zero =>
      have hk : ¬ ((k : Int) < (n : Int)) := by omega
      obtain rfl : k = n := by omega
      clear hkg
      go_wp2_with fail
      go_ret
      exact ⟨rfl, HB.out⟩
    | succ gk2 =>
      have hk8 : (k : Int) < (n : Int) := by omega
      have hk9 : k < n := by omega
      have hk0 : (0 : Int) ≤ (k : Int) := by omega
      have CM : CAt wr g (n * 4) h := CAt.low HC.out HB.out HC.out.1
      have HSX := Lib.hid (HR.out.sx hk9)
      have hln := rtT_len f h k
      have z1 : (tbs (rtT f h k)).size ≤ 220 := by rw [tbs_size]; omega
      have z2 : (tbs (sxL (stAt h k))).size = 4 := rfl
      have HT : Hid (tbs (rtT f h (k + 1)) = tbs (rtT f h k) ++ (⟨#[32]⟩ : ByteArray) ++ tbs (sxL (stAt h k))) := by
        show _ = _
        have e : (⟨#[32]⟩ : ByteArray) = tbs [32] := rfl
        rw [e, ← tbs_app, ← tbs_app]
        show tbs (rtT f h k ++ 32 :: sxL (stAt h k)) = _
        simp
      go_wp2_with ((with_reducible show wpList _ _ _ (Oper.mk _ (Op.load 49 _) _ _ _ _ :: _) _ _); refine loadAT (CM) (by omega) rfl rfl rfl ?_)
      refine (l11Text_any (stAt h k) _ HSX.out).mono ?_
      rintro e w2 ⟨rfl, hb⟩
      have K1 := K1.below hb K1.lt
      have HB : Hid (Below w.heap.size w w2) := HB.out.trans (hb.mono HB.out.size)
      clear hb CM c16
      generalize tbs (sxL (stAt h k)) = X at *
      generalize tbs (rtT f h k) = Y at *
      go_wp2_with fail
      go_roundg gk2
      case rel => exact ⟨k + 1, by omega, by go_num, by rw [HT.out], K1, HB⟩
      case measure => omega
set_option maxHeartbeats 1000000 in
theorem specRepT_any (f : Nat → Int) (v : Value) (n : Nat) (h : Nat → Int) (w : World) (hv : KRow 4 w v n h) (hn : n ≤ 1048576) :
    Calls Try.prog 40 #[.agg (rpl f v)] w fun e w' => e = .returned (.tuple #[.string (rtR f h n), .bool (rplO f h n)]) ∧ Below w.heap.size w w' := by
  have K1 := Rp.new w f v 34
  have HB0 := Lib.hid ((Below.refl w.heap.size w).alloc (Nat.le_refl _) (.cells (rpl f v) 34))
  have HV := Lib.hid (hv.below ((Below.refl w.heap.size w).alloc (Nat.le_refl _) (.cells (rpl f v) 34)))
  have HCon := specIs_any f v n h _ HV.out hn
  by_cases hR : RpOk f h n
  · rw [rt_yes hR, rplO_yes hR]
    rw [rplO_yes hR] at HCon
    have HCon := Lib.hid HCon
    have HR := Lib.hid hR
    clear hR
    go_enter Try.func40, Try.ntmps40
    go_wp2_with ((with_reducible show wpList _ _ _ (Oper.mk _ (Op.load 34 _) _ _ _ _ :: _) _ _); refine loadRp (K1) rfl rfl rfl ?_)
    refine HCon.out.mono ?_
    clear HCon
    rintro e w1 ⟨rfl, hb⟩
    have K1 := K1.below hb K1.lt
    have HB := HB0.out.trans (hb.mono HB0.out.size)
    have HV := Lib.hid (HV.out.below hb)
    clear hb HB0
    go_wp2_with ((with_reducible show wpList _ _ _ (Oper.mk _ (Op.load 34 _) _ _ _ _ :: _) _ _); refine loadRp (K1) rfl rfl rfl ?_)
    refine (l11Write_any f v n h _ HV.out HR.out).mono ?_
    rintro e w2 ⟨rfl, hb⟩
    have HB := Lib.hid (HB.trans (hb.mono HB.size))
    clear hb HV
    go_wp2_with fail
    go_ret2
    exact ⟨rfl, HB.out⟩
  · rw [rt_no hR, rplO_no hR]
    rw [rplO_no hR] at HCon
    have HCon := Lib.hid HCon
    clear hR
    go_enter Try.func40, Try.ntmps40
    go_wp2_with ((with_reducible show wpList _ _ _ (Oper.mk _ (Op.load 34 _) _ _ _ _ :: _) _ _); refine loadRp (K1) rfl rfl rfl ?_)
    refine HCon.out.mono ?_
    clear HCon
    rintro e w1 ⟨rfl, hb⟩
    have HB := Lib.hid (HB0.out.trans (hb.mono HB0.out.size))
    clear hb HB0 HV
    go_wp2_with fail
    go_ret2
    exact ⟨rfl, HB.out⟩
theorem own_one_str (w : World) (x : List UInt8) (base : Nat) (hb : base ≤ w.heap.size) : (w.alloc (.cells #[.string (tbs x)] 9)).ownsRow base 9 1 (.slice (some ⟨w.heap.size, 0, none⟩) 1 1) 1 ([x].map strv) :=
  ⟨rfl, .inr ⟨w.heap.size, 1, #[.string (tbs x)], rfl, hb, heap_alloc_new w _, Nat.le_refl _, by decide, rfl, rfl⟩⟩
theorem str_row {w : World} {base g c n : Nat} {ps : List (List UInt8)} (h : w.ownsRow base 9 1 (.slice (some ⟨g, 0, none⟩) n c) n (ps.map strv)) (hn : ps.length = n) : StrRow w (.slice (some ⟨g, 0, none⟩) n c) (ps.map tbs) := by
  refine .inr ⟨g, 0, c, by rw [List.length_map, hn], ?_, (h.lt g rfl).2, fun j hj => ?_⟩
  · rw [List.length_map, hn]
    rcases h.2 with ⟨h0, _⟩ | ⟨g', c', cur, h0, _, _, hle, _⟩
    · cases h0
    · cases h0; exact hle
  · have hj2 : j < ps.length := by simpa using hj
    have := h.cellAt j (by omega)
    rw [Nat.zero_add, this]
    simp [strv, tbs, hj2]
set_option maxHeartbeats 4000000 in
set_option maxRecDepth 20000 in
theorem implRepT_any (f : Nat → Int) (v : Value) (n : Nat) (h : Nat → Int) (w : World) (hv : KRow 4 w v n h) (hn : n ≤ 1048576) :
    Calls Try.prog 41 #[.agg (rpl f v)] w fun e w' => e = .returned (.tuple #[.string (rtR f h n), .bool (rplO f h n)]) ∧ Below w.heap.size w w' := by
  have z4 := zero4
  obtain ⟨i0, hi, hz0, hz1, hz2⟩ := info_parts infoStr
  have K1 := Rp.new w f v 34
  have HB0 := Lib.hid ((Below.refl w.heap.size w).alloc (Nat.le_refl _) (.cells (rpl f v) 34))
  have HV := Lib.hid (hv.below ((Below.refl w.heap.size w).alloc (Nat.le_refl _) (.cells (rpl f v) 34)))
  have HCon := implIs_any f v n h _ HV.out hn
  obtain ⟨g, cap, rfl, hle, hc⟩ := hv
  by_cases hR : RpOk f h n
  · rw [rt_yes hR, rplO_yes hR]
    rw [rplO_yes hR] at HCon
    have HCon := Lib.hid HCon
    have HR := Lib.hid hR
    have HC := Lib.hid hc
    have h40 := hR.2.1
    have HT := Lib.hid (fun W => implText_any f W)
    rw [textR_yes hR.1] at HT
    have HJ := Lib.hid (rtP_ok hR)
    have HJT := Lib.hid (rtP_join f h n)
    have HTO := Lib.hid (rtP_total f h n)
    clear hR hc
    go_enter Try.func41, Try.ntmps41
    go_wp2_with ((with_reducible show wpList _ _ _ (Oper.mk _ (Op.load 34 _) _ _ _ _ :: _) _ _); refine loadRp (K1) rfl rfl rfl ?_)
    refine HCon.out.mono ?_
    clear HCon
    rintro e w1 ⟨rfl, hb⟩
    have K1 := K1.below hb K1.lt
    have HB1 := Lib.hid (HB0.out.trans (hb.mono HB0.out.size))
    clear hb HB0 HV
    go_wp2_with ((with_reducible show wpList _ _ _ (Oper.mk _ (Op.load 31 _) _ _ _ _ :: _) _ _); refine loadRB (K1) rfl rfl rfl ?_)
    refine (HT.out _).mono ?_
    clear HT
    rintro e w2 ⟨rfl, hb⟩
    have K1 := K1.below hb K1.lt
    have HB2 : Hid (Below w.heap.size w w2) := HB1.out.trans (hb.mono HB1.out.size)
    have hs2 := K1.lt
    have HO : Hid ((w2.alloc (.cells #[.string (tbs (textL f))] 9)).ownsRow (w.heap.size + 1) 9 1 (.slice (some ⟨w2.heap.size, 0, none⟩) 1 1) 1 ((rtP f h 0).map strv)) := own_one_str w2 (textL f) _ hs2
    have K1 := K1.alloc (.cells #[.string (tbs (textL f))] 9)
    have HB : Hid (Below w.heap.size w (w2.alloc (.cells #[.string (tbs (textL f))] 9))) := HB2.out.alloc HB2.out.size _
    have c16 := K1.last
    clear hb HB1 HB2 hs2
    go_wp2_with fail
    clear c16
    generalize w2.alloc (.cells #[.string (tbs (textL f))] 9) = w3 at *
    go_loopg [6, 25] n (fun gk s6 s25 wr => ∃ (k : Nat) (u : Value), k + gk = n ∧ s25 = .int .i64 k ∧ u = s6 ∧ (∃ gg co, u = .slice (some ⟨gg, 0, none⟩) (k + 1) co) ∧ Hid (wr.ownsRow (w.heap.size + 1) 9 1 u (k + 1) ((rtP f h k).map strv)) ∧ w.heap.size < wr.heap.size ∧ Hid (Below w.heap.size w wr))
    case atStart => exact ⟨0, _, by omega, rfl, rfl, ⟨_, _, rfl⟩, HO, K1.lt, HB⟩
    case round =>
      clear K1 HO HB
      obtain ⟨k, u, hkg, rfl, rfl, ⟨gg, co, hu⟩, HO, hlt, HB⟩ := hrel
      subst hu
      cases gk with
      | zero =>
        have hk : ¬ ((k : Int) < (n : Int)) := by omega
        obtain rfl : k = n := by omega
        clear hkg
        go_wp2_with fail
        refine (implJoin_any _ ((rtP f h k).map tbs) ⟨#[32]⟩ _ (str_row HO.out (rtP_len f h k)) (by decide) (show Hid _ from rfl) (by rw [List.length_map, rtP_len]; omega) (by have := HTO.out; omega)).mono ?_
        rintro e w4 (⟨_, rfl, hb⟩ | ⟨hno, _, _⟩)
        · have HB : Hid (Below w.heap.size w w4) := HB.out.trans (hb.mono HB.out.size)
          have HX : Hid (joinT ((rtP f h k).map tbs) ⟨#[32]⟩ = tbs (rtT f h k)) := HJT.out
          clear hb
          rw [HX.out]
          go_wp2_with fail
          go_ret2
          exact ⟨rfl, HB.out⟩
        · exact absurd HJ.out hno
      | succ gk2 =>
        have hk8 : (k : Int) < (n : Int) := by omega
        have hk9 : k < n := by omega
        have hk0 : (0 : Int) ≤ (k : Int) := by omega
        have CM : CAt wr g (n * 4) h := CAt.low HC.out HB.out HC.out.1
        have HSX := sx_yes (HR.out.sx hk9)
        have HST := Lib.hid (fun W => implStepT_any (stAt h k) W)
        rw [HSX.1, HSX.2] at HST
        clear HSX
        have K10 := Blk.new wr 4 (stAt h k) 49
        have HO1 : Hid ((wr.alloc (.cells (mk 4 (stAt h k)) 49)).ownsRow (w.heap.size + 1) 9 1 (.slice (some ⟨gg, 0, none⟩) (k + 1) co) (k + 1) ((rtP f h k).map strv)) := World.ownsRow.alloc HO.out _
        have HB1 : Hid (Below w.heap.size w (wr.alloc (.cells (mk 4 (stAt h k)) 49))) := HB.out.alloc HB.out.size _
        go_wp2_with (first | ((with_reducible show wpList _ _ _ (Oper.mk _ (Op.load 49 _) _ _ _ _ :: _) _ _); refine loadAT (CM) (by omega) rfl rfl rfl ?_) | ((with_reducible show wpList _ _ _ (Oper.mk _ (Op.load 49 _) _ _ _ _ :: _) _ _); refine loadT (K10) rfl rfl rfl ?_))
        refine (HST.out _).mono ?_
        clear HST
        rintro e w4 ⟨rfl, hb⟩
        have hown0 : w4.ownsRow (w.heap.size + 1) 9 1 (.slice (some ⟨gg, 0, none⟩) (k + 1) co) (k + 1) ((rtP f h k).map strv) := owns_below HO1.out hb
        have HB4 : Hid (Below w.heap.size w w4) := HB1.out.trans (hb.mono HB1.out.size)
        have hlt4 : w.heap.size < w4.heap.size := by have := hb.size; simp at this; omega
        have hsz := HB4.out.size
        clear hb HO HO1 HB1 HB K10 CM hlt
        go_wp2_with (at_builtin; refine wpList_append_own _ rfl _ _ 92 rfl (w.heap.size + 1) 9 i0 (.string ByteArray.empty) 1 16 Try.underlying92 hi hz0 hz1 hz2 rfl (by decide) _ _ _ rfl (hown0.alloc _) ⟨w4.heap.size, 0, none⟩ 1 1 [.string (tbs (sxL (stAt h k)))] rfl rfl ?c1 ?c2 ?c3 ?c4 ?c5 ?_)
        case c1 => exact cell_one_new _ _ _
        case c2 => simp [Value.oneCell']
        case c3 => unfold maxLen; omega
        case c4 => omega
        case c5 => simp; omega
        intro v' w5 hown' hgrow' _
        have HO5 : Hid (w5.ownsRow (w.heap.size + 1) 9 1 v' (k + 1 + 1) ((rtP f h (k + 1)).map strv)) := by
          have e : (rtP f h (k + 1)).map strv = (rtP f h k).map strv ++ [.string (tbs (sxL (stAt h k)))] := by
            show (rtP f h k ++ [sxL (stAt h k)]).map strv = _
            rw [List.map_append]; rfl
          show World.ownsRow _ _ _ _ _ _ _
          rw [e]
          exact hown'
        obtain ⟨g', c', hv'⟩ := ownsRow_succ HO5.out
        have HVv : Hid (∃ gg co, v' = .slice (some ⟨gg, 0, none⟩) (k + 1 + 1) co) := ⟨g', c', hv'⟩
        have HB5 : Hid (Below w.heap.size w w5) := ((HB4.out).alloc hsz _).grown hgrow' (by simp; omega) (fun j hj => by have := (hown0.lt j hj).1; omega)
        have hl5 : w.heap.size < w5.heap.size := by have := hgrow'.size; simp at this; omega
        clear hown' hgrow' hown0 hv' hlt4
        go_wp2_with fail
        go_roundg gk2
        case rel => exact ⟨k + 1, _, by omega, by go_num, rfl, HVv.out, HO5, hl5, HB5⟩
        case measure => omega
  · rw [rt_no hR, rplO_no hR]
    rw [rplO_no hR] at HCon
    have HCon := Lib.hid HCon
    clear hR hc
    go_enter Try.func41, Try.ntmps41
    go_wp2_with ((with_reducible show wpList _ _ _ (Oper.mk _ (Op.load 34 _) _ _ _ _ :: _) _ _); refine loadRp (K1) rfl rfl rfl ?_)
    refine HCon.out.mono ?_
    clear HCon
    rintro e w1 ⟨rfl, hb⟩
    have HB := Lib.hid (HB0.out.trans (hb.mono HB0.out.size))
    clear hb HB0 HV
    go_wp2_with fail
    go_ret2
    exact ⟨rfl, HB.out⟩
end Go.Proofs.Ytekdodlkimgbhaa
