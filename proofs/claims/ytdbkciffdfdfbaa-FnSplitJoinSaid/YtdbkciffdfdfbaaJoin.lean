/-
  The contracts of JoinStrings, of the reference and of the package: the elements with the separator between them, where there is an element, the separator is one byte that no element holds, and the result has at most 4000 bytes.
-/
import Derived.Test.YtdbkciffdfdfbaaStrs
import Derived.Test.YtdbkciffdfdfbaaSplit
import Derived.Test.YtdbkciffdfdfbaaCanJoin
import Derived.Test.YtdbkciffdfdfbaaShelf
namespace Go.Proofs.Ytdbkciffdfdfbaa
open Go.RowKit Plain

/-- How JoinStrings ends, at a separator of one byte. -/
def JoinPost (ss : List ByteArray) (sep : ByteArray) (b : UInt8) (w : World) (e : Ending) (w' : World) : Prop :=
  (JoinOk ss sep b ∧ e = .returned (.tuple #[.string (joinT ss sep), .bool true]) ∧ Below w.heap.size w w') ∨
  (¬ JoinOk ss sep b ∧ e = .returned (.tuple #[.string ByteArray.empty, .bool false]) ∧ Below w.heap.size w w')
def JoinNone (w : World) (e : Ending) (w' : World) : Prop := e = .returned (.tuple #[.string ByteArray.empty, .bool false]) ∧ Below w.heap.size w w'

theorem drewN_below (w : World) (n : Nat) : Below w.heap.size w (w.drewN n) := ⟨rfl, rfl, rfl, Nat.le_refl _, fun _ _ => rfl⟩

theorem specJoin_sep (v : Value) (ss : List ByteArray) (sep : ByteArray) (w : World) (hv : StrRow w v ss) (_hs : sep.size ≤ maxLen) (h1 : sep.size ≠ 1) :
    Calls Try.prog 13 #[v, .string sep] w (JoinNone w) := by
  unfold maxLen at _hs
  obtain ⟨a, c, rfl⟩ : ∃ a c, v = .slice a ss.length c := by
    rcases hv with ⟨a, c, rfl, rfl⟩ | ⟨b, o, c, rfl, _⟩
    · exact ⟨a, c, rfl⟩
    · exact ⟨_, _, rfl⟩
  have hq : ((sep.size : Int) == 1) = false := by rw [beq_eq_false_iff_ne]; omega
  clear hv h1
  go_enter Try.func13, Try.ntmps13
  go_wp2
  go_ret2
  exact ⟨rfl, Below.refl _ _⟩

set_option maxHeartbeats 1000000 in
theorem specJoin_any (v : Value) (ss : List ByteArray) (sep : ByteArray) (w : World) (hv : StrRow w v ss) (hp : 0 < sep.size) (H1 : Hid (sep.size = 1)) (hn : ss.length ≤ 1048576) (ht : total ss ≤ 1048576) :
    Calls Try.prog 13 #[v, .string sep] w (JoinPost ss sep sep[0] w) := by
  have hq : ((sep.size : Int) == 1) = true := by rw [H1.out]; rfl
  have hsz : sep.size ≤ 1 := by rw [H1.out]; omega
  rcases hv with ⟨a, c, rfl, rfl⟩ | ⟨b, o, c, rfl, _, hbl, hc⟩
  · go_enter Try.func13, Try.ntmps13
    go_wp2
    go_ret2
    exact .inr ⟨fun h => h.1 rfl, rfl, Below.refl _ _⟩
  · by_cases h0 : ss = []
    · subst h0
      have e0 : ([] : List ByteArray).length = 0 := rfl
      rw [e0]
      clear e0
      go_enter Try.func13, Try.ntmps13
      go_wp2
      go_ret2
      exact .inr ⟨fun h => h.1 rfl, rfl, Below.refl _ _⟩
    have hpos : 0 < ss.length := List.length_pos_iff.2 h0
    have hz : ((ss.length : Int) == 0) = false := by rw [beq_eq_false_iff_ne]; omega
    have H0 := Lib.hid h0
    have HC := Lib.hid hc
    clear h0 hc
    go_enter Try.func13, Try.ntmps13
    go_wp2
    go_loopw [6, 7] (fun x i wr => ∃ (k n : Nat) (t : ByteArray), k ≤ ss.length ∧ i = .int .i64 k ∧ x = .string t ∧ t.size ≤ 4000 ∧ t = joinT (ss.take k) sep ∧ (∀ s ∈ ss.take k, sep[0] ∉ s.data.toList) ∧ wr = w.drewN n) (fun _ i _ => ss.length - (intOf i).toNat)
    case atStart => exact ⟨0, 0, _, Nat.zero_le _, rfl, rfl, Nat.zero_le _, rfl, by simp, rfl⟩
    case round =>
      obtain ⟨k, n, t, hk, rfl, rfl, hts, hte, hnk, hwr⟩ := hrel
      have HW := Lib.hid hwr
      clear hwr
      have HT := Lib.hid hte
      have HN := Lib.hid hnk
      clear hte hnk
      by_cases hlt : k < ss.length
      · have hcell : wr.cell? ⟨b, o + k, none⟩ = some (.string ss[k]) := by rw [HW.out]; exact HC.out k hlt
        have hxs := Nat.le_trans (size_le_total ss ss[k] (List.getElem_mem _)) ht
        have hbk : (0 : Int) ≤ (k : Int) := by omega
        have hlk : (k : Int) < (ss.length : Int) := by omega
        by_cases hin : sep[0] ∈ ss[k].data.toList
        · have HNO : Hid (¬ JoinOk ss sep sep[0]) := fun h => h.2.1 ss[k] (List.getElem_mem _) hin
          have HIN := Lib.hid hin
          clear hin
          generalize ss[k] = x at *
          go_wp2_with fail
          go_quiet ((go_at_call 33; exact Calls.quiet_of_same ((stands_yes x sep[0] _ _ (by unfold maxLen; omega) rfl HIN.out).mono fun e w' ⟨he, hw⟩ => ⟨he, hw.symm⟩)))
          go_wp2
          go_ret2
          exact .inr ⟨HNO.out, rfl, by rw [HW.out, World.drewN_drewN]; exact drewN_below _ _⟩
        · have HN2 : Hid (∀ s ∈ ss.take (k + 1), sep[0] ∉ s.data.toList) := by
            intro s hs
            rw [take_snoc' ss k hlt] at hs
            rcases List.mem_append.1 hs with hs | hs
            · exact HN.out s hs
            · simp only [List.mem_cons, List.not_mem_nil, or_false] at hs; subst hs; exact hin
          have HIN := Lib.hid hin
          have HST : Hid (joinT (ss.take (k + 1)) sep = if k = 0 then ss[k] else t ++ sep ++ ss[k]) := by
            show _ = _
            rw [take_snoc' ss k hlt, HT.out]
            split
            · rename_i hk0; subst hk0; rw [List.take_zero, List.nil_append, joinT_one]
            · rename_i hk0
              have hne : ss.take k ≠ [] := by
                intro e
                have := congrArg List.length e
                rw [List.length_take, List.length_nil] at this
                omega
              rw [joinT_snoc _ _ _ hne]
          have HLE : Hid ((joinT (ss.take (k + 1)) sep).size ≤ (joinT ss sep).size) := joinT_take_le ss sep H1.out (k + 1) (by rw [take_snoc' ss k hlt]; exact List.append_ne_nil_of_right_ne_nil _ (by simp))
          clear hin
          generalize ss[k] = x at *
          by_cases hk0 : k = 0
          · have hte0 : t = ByteArray.empty := by rw [HT.out, hk0]; rfl
            subst hte0
            have HX : Hid (joinT (ss.take (k + 1)) sep = x) := by have := HST.out; rw [if_pos hk0] at this; exact this
            have hd : decide (0 < k) = false := by rw [hk0]; rfl
            clear hk0
            by_cases hbig : x.size ≤ 4000
            · go_wp2_with fail
              go_quiet ((go_at_call 33; exact Calls.quiet_of_same ((stands_no x sep[0] _ _ (by unfold maxLen; omega) rfl HIN.out).mono fun e w' ⟨he, hw⟩ => ⟨he, hw.symm⟩)))
              go_wp2
              go_roundw
              case rel => exact ⟨k + 1, _, _, by omega, by go_num, rfl, hbig, HX.out.symm, HN2.out, by rw [HW.out]; exact World.drewN_drewN _ _ _⟩
              case measure => simp [intOf]; omega
            · have HNO : Hid (¬ JoinOk ss sep sep[0]) := fun h => by
                have h3 := h.2.2
                have := HLE.out
                rw [HX.out] at this
                omega
              have hb2 : 4000 < x.size := by omega
              clear hbig
              go_wp2_with fail
              go_quiet ((go_at_call 33; exact Calls.quiet_of_same ((stands_no x sep[0] _ _ (by unfold maxLen; omega) rfl HIN.out).mono fun e w' ⟨he, hw⟩ => ⟨he, hw.symm⟩)))
              go_wp2
              go_ret2
              exact .inr ⟨HNO.out, rfl, by rw [HW.out, World.drewN_drewN]; exact drewN_below _ _⟩
          · have HX : Hid (joinT (ss.take (k + 1)) sep = t ++ sep ++ x) := by have := HST.out; rw [if_neg hk0] at this; exact this
            have hd : 0 < k := by omega
            clear hk0
            by_cases hbig : t.size + sep.size + x.size ≤ 4000
            · go_wp2_with fail
              go_quiet ((go_at_call 33; exact Calls.quiet_of_same ((stands_no x sep[0] _ _ (by unfold maxLen; omega) rfl HIN.out).mono fun e w' ⟨he, hw⟩ => ⟨he, hw.symm⟩)))
              go_wp2
              go_roundw
              case rel => exact ⟨k + 1, _, _, by omega, by go_num, rfl, by rw [ByteArray.size_append, ByteArray.size_append]; exact hbig, HX.out.symm, HN2.out, by rw [HW.out]; exact World.drewN_drewN _ _ _⟩
              case measure => simp [intOf]; omega
            · have HNO : Hid (¬ JoinOk ss sep sep[0]) := fun h => by
                have h3 := h.2.2
                have := HLE.out
                rw [HX.out, ByteArray.size_append, ByteArray.size_append] at this
                omega
              have hb2 : 4000 < t.size + sep.size + x.size := by omega
              clear hbig
              go_wp2_with fail
              go_quiet ((go_at_call 33; exact Calls.quiet_of_same ((stands_no x sep[0] _ _ (by unfold maxLen; omega) rfl HIN.out).mono fun e w' ⟨he, hw⟩ => ⟨he, hw.symm⟩)))
              go_wp2
              go_ret2
              exact .inr ⟨HNO.out, rfl, by rw [HW.out, World.drewN_drewN]; exact drewN_below _ _⟩
      · have HALL : Hid (t = joinT ss sep) := by have := HT.out; rw [show k = ss.length by omega, List.take_length] at this; exact this
        have HNA : Hid (∀ s ∈ ss, sep[0] ∉ s.data.toList) := by have := HN.out; rw [show k = ss.length by omega, List.take_length] at this; exact this
        go_wp2
        go_ret2
        exact .inl ⟨⟨H0.out, HNA.out, by rw [← HALL.out]; exact hts⟩, by rw [HALL.out]; rfl, by rw [HW.out]; exact drewN_below _ _⟩

theorem clone_str (s : ByteArray) (w : World) (hs : s.size ≤ 281474976710656) :
    Calls Try.prog 28 #[.string s] w fun e w' => e = .returned (.string s) ∧ Below w.heap.size w w' := by
  go_enter Try.func28, Try.ntmps28
  go_wp2_with fail
  refine (Try.stringslite_Clone s _ hs).mono ?_
  rintro e w1 ⟨rfl, hb1⟩
  have HB1 := Lib.hid hb1
  clear hb1
  go_wp2
  go_ret
  exact ⟨rfl, HB1.out⟩

theorem can_join (ss : List ByteArray) (sep : ByteArray) (b : UInt8) (h0 : ss ≠ []) (h1 : sep.size = 1) : CanOk ss b ↔ JoinOk ss sep b := by
  have := joinT_size ss sep h1 h0
  unfold CanOk JoinOk
  constructor
  · intro h; exact ⟨h0, h.2, by omega⟩
  · intro h; exact ⟨by omega, h.2.1⟩

theorem joinC (bk o c : Nat) (ss : List ByteArray) (sep : ByteArray) (w : World) (hc : ∀ j (h : j < ss.length), w.cell? ⟨bk, o + j, none⟩ = some (.string ss[j])) (hb : bk < w.heap.size) (hl : ss.length ≤ c) (hn : ss.length ≤ 1048576)
    (hs : (joinT ss sep).size ≤ 3000000) :
    Calls Try.prog 32 #[.slice (some ⟨bk, o, none⟩) ss.length c, .string sep] w fun e w' => e = .returned (.string (joinT ss sep)) ∧ Below w.heap.size w w' := by
  refine Try.strings_Join bk o c ss sep w ?_ hb (by omega) hl ?_
  · intro j x hx
    have hj : j < ss.length := by
      by_cases hj : j < ss.length
      · exact hj
      · rw [List.getElem?_eq_none (by omega)] at hx; cases hx
    rw [List.getElem?_eq_getElem hj] at hx
    injection hx with hx
    rw [← hx]
    exact hc j hj
  · have e : (joinT ss sep).size = (Lib.join (ss.map (·.data.toList)) sep.data.toList).length := rfl
    omega

theorem implJoin_sep (v : Value) (ss : List ByteArray) (sep : ByteArray) (w : World) (hv : StrRow w v ss) (hn : ss.length ≤ 1048576) (h1 : sep.size ≠ 1) :
    Calls Try.prog 12 #[v, .string sep] w (JoinNone w) := by
  obtain ⟨a, c, rfl⟩ : ∃ a c, v = .slice a ss.length c := by
    rcases hv with ⟨a, c, rfl, rfl⟩ | ⟨b, o, c, rfl, _⟩
    · exact ⟨a, c, rfl⟩
    · exact ⟨_, _, rfl⟩
  have hq : ((sep.size : Int) == 1) = false := by rw [beq_eq_false_iff_ne]; omega
  have hq2 : ((sep.size : Int) != 1) = true := by rw [bne_iff_ne]; omega
  clear h1 hv
  generalize ss.length = n at *
  by_cases h0 : n = 0
  · subst h0
    go_enter Try.func12, Try.ntmps12
    go_wp2
    go_ret2
    exact ⟨rfl, Below.refl _ _⟩
  · have hz : ((n : Int) == 0) = false := by rw [beq_eq_false_iff_ne]; omega
    clear h0
    go_enter Try.func12, Try.ntmps12
    go_wp2
    go_ret2
    exact ⟨rfl, Below.refl _ _⟩

set_option maxHeartbeats 400000 in
theorem implJoin_any (v : Value) (ss : List ByteArray) (sep : ByteArray) (w : World) (hv : StrRow w v ss) (hp : 0 < sep.size) (H1 : Hid (sep.size = 1)) (hn : ss.length ≤ 1048576) (ht : total ss ≤ 1048576) :
    Calls Try.prog 12 #[v, .string sep] w (JoinPost ss sep sep[0] w) := by
  have hq : ((sep.size : Int) == 1) = true := by rw [H1.out]; rfl
  have hq2 : ((sep.size : Int) != 1) = false := by rw [H1.out]; rfl
  by_cases h0 : ss = []
  · subst h0
    obtain ⟨a, c, rfl⟩ : ∃ a c, v = .slice a 0 c := by
      rcases hv with ⟨a, c, rfl, _⟩ | ⟨b, o, c, rfl, _⟩
      · exact ⟨a, c, rfl⟩
      · exact ⟨_, _, rfl⟩
    go_enter Try.func12, Try.ntmps12
    go_wp2
    go_ret2
    exact .inr ⟨fun h => h.1 rfl, rfl, Below.refl _ _⟩
  · have HV := Lib.hid hv
    rcases hv with ⟨a, c, rfl, h⟩ | ⟨bk, o, c, rfl, hlc, hbl, hc⟩
    · exact absurd h h0
    have HI := Lib.hid (can_join ss sep sep[0] h0 H1.out)
    have hpos : 0 < ss.length := List.length_pos_iff.2 h0
    have hz : ((ss.length : Int) == 0) = false := by rw [beq_eq_false_iff_ne]; omega
    have hjl := joinT_size ss sep H1.out h0
    have hjl2 : (joinT ss sep).size ≤ 3000000 := by omega
    have HJ := Lib.hid (joinC bk o c ss sep w hc hbl hlc hn hjl2)
    have H0 := Lib.hid h0
    clear h0 hc hjl
    go_enter Try.func12, Try.ntmps12
    go_wp2_with fail
    refine (can_any _ ss sep[0] _ _ HV.out rfl H0.out hn ht).mono ?_
    rintro e w1 ⟨⟨hok, rfl⟩ | ⟨hok, rfl⟩, rfl⟩
    · have HOK := Lib.hid hok
      clear hok
      go_wp2_with fail
      refine HJ.out.mono ?_
      rintro e w2 ⟨rfl, hb2⟩
      have HB2 := Lib.hid hb2
      clear hb2
      go_wp2_with fail
      refine (clone_str _ _ (by omega)).mono ?_
      rintro e w3 ⟨rfl, hb3⟩
      have HB3 := Lib.hid hb3
      clear hb3
      go_wp2
      go_ret2
      exact .inl ⟨HI.out.1 HOK.out, rfl, HB2.out.trans (HB3.out.mono HB2.out.size)⟩
    · have HNO := Lib.hid hok
      clear hok
      go_wp2
      go_ret2
      exact .inr ⟨fun h => HNO.out (HI.out.2 h), rfl, Below.refl _ _⟩
end Go.Proofs.Ytdbkciffdfdfbaa
