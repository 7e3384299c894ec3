/-
  The contract of spec.l1Read: the number whose numeral the text is, and true; else 0 and false.
-/
import Derived.Test.YtdbkciffdfdfbaaDoorNum
import Derived.Test.YtdbkciffdfdfbaaDoorReadPlain
import Derived.Lib.Strings
namespace Go.Proofs.YtdbkciffdfdfbaaDoor
open Go.RowKit Plain Go.Lib

/-- How spec.l1Read ends: with the number, or with none. -/
def ReadAny (s : ByteArray) (w : World) (e : Ending) (w' : World) : Prop :=
  (∃ v : Int, -999999 ≤ v ∧ v ≤ 999999 ∧ num v = s ∧ e = .returned (.tuple #[.int .i64 v, .bool true]) ∧ ∃ k, w' = w.drewN k) ∨
  (noNum s ∧ e = .returned (.tuple #[.int .i64 0, .bool false]) ∧ ∃ k, w' = w.drewN k)

theorem pow5 (k : Nat) (h : k ≤ 5) : 10 ^ k ≤ 100000 := Nat.le_trans (Nat.pow_le_pow_right (by omega) h) (by decide)
theorem pow6 (k : Nat) (h : k ≤ 6) : 10 ^ k ≤ 1000000 := Nat.le_trans (Nat.pow_le_pow_right (by omega) h) (by decide)
theorem toList_same {a b : ByteArray} (h : a = b) : (a.toList == b.toList) = true := by rw [h]; simp
theorem mem_at (s : ByteArray) (k : Nat) (h : k < s.size) : s[k] ∈ s.data.toList := by
  have : s[k] = s.data.toList[k]'(by simpa using h) := rfl
  rw [this]; exact List.getElem_mem _

set_option maxHeartbeats 1000000 in
theorem read_minus (s : ByteArray) (w : World) (hs : s.size ≤ maxLen) (h1 : 1 < s.size) (hm : s[0] = 45) :
    Calls Tryd.prog 29 #[.string s] w (ReadAny s w) := by
  unfold maxLen at hs
  have hd : ((s[0].toNat : Int) == 45) = true := by rw [hm]; rfl
  have ht : (s.extract 1 s.size).size = s.size - 1 := by simp
  have HNo : Hid (¬ (1 ≤ (s.extract 1 s.size).size ∧ (s.extract 1 s.size).size ≤ 6 ∧ (∀ c ∈ (s.extract 1 s.size).data.toList, isDig c) ∧ num (-((val (s.extract 1 s.size).data.toList : Nat) : Int)) = s) → noNum s) := by
    intro h
    have hl : s.data.toList = 45 :: (s.extract 1 s.size).data.toList := by
      rw [Lib.extract_data, List.take_of_length_le (by simp)]
      have e := @List.getElem_cons_drop _ s.data.toList 0 (by simp; omega)
      have e2 : s.data.toList[0]'(by simp; omega) = 45 := hm
      rw [e2] at e
      exact e.symm
    refine minus_no s _ hl (fun h' => h ⟨by omega, ?_, h'.2.1, h'.2.2⟩)
    exact h'.1
  go_enter Tryd.func29, Tryd.ntmps29
  go_wp2_with fail
  rw [← ht]
  have hlt2 : (s.extract 1 s.size).size < s.size := by omega
  clear ht hm hd
  generalize s.extract 1 s.size = t at *
  by_cases hlen : 1 ≤ t.size ∧ t.size ≤ 6
  · obtain ⟨hl1, hl2⟩ := hlen
    refine (l1In_yes _ _ _ _ (by omega) (by omega)).mono ?_
    rintro e w' ⟨rfl, rfl⟩
    go_wp2_with fail
    go_loop [5, 6] (fun n i => ∃ k : Nat, k ≤ t.size ∧ i = .int .i64 k ∧ (∀ c ∈ t.data.toList.take k, isDig c) ∧ n = .int .i64 ((val (t.data.toList.take k) : Nat) : Int)) (fun _ i => t.size - (intOf i).toNat)
    case atStart => exact ⟨0, Nat.zero_le _, rfl, (by simp), rfl⟩
    case round =>
      obtain ⟨k, hk, rfl, hdk, rfl⟩ := hrel
      have HDK := Lib.hid hdk
      have hv := val_lt _ hdk
      have hlk : (t.data.toList.take k).length ≤ k := List.length_take_le _ _
      clear hdk
      by_cases hlt : k < t.size
      · by_cases hd : isDig t[k]
        · have hv5 : val (t.data.toList.take k) < 100000 := Nat.lt_of_lt_of_le hv (pow5 _ (by omega))
          have HV : Hid (val (t.data.toList.take (k + 1)) = 10 * val (t.data.toList.take k) + (t[k].toNat - 48)) := by
            show _ = _
            rw [take_snoc t k hlt]; exact val_snoc _ _
          have HD2 : Hid (∀ c ∈ t.data.toList.take (k + 1), isDig c) := by
            intro c hc
            rw [take_snoc t k hlt] at hc
            rcases List.mem_append.1 hc with hc | hc
            · exact HDK.out c hc
            · simp only [List.mem_cons, List.not_mem_nil, or_false] at hc; subst hc; exact hd
          unfold isDig at hd
          obtain ⟨hd1, hd2⟩ := hd
          have hz1 : decide ((t[k].toNat : Int) < 48) = false := by simp; omega
          have hz2 : decide ((57 : Int) < (t[k].toNat : Int)) = false := by simp; omega
          clear hv hlk
          generalize val (t.data.toList.take k) = v at *
          go_wp2
          go_round
          case rel => exact ⟨k + 1, by omega, by go_num, HD2.out, by rw [HV.out]; go_num⟩
          case measure => simp [intOf]; omega
        · have HNN : Hid (noNum s) := HNo.out (fun h => hd (h.2.2.1 _ (mem_at t k hlt)))
          clear hv hlk
          by_cases hc1 : t[k].toNat < 48
          · have hz1 : decide ((t[k].toNat : Int) < 48) = true := by simp; omega
            clear hd hc1
            go_wp2
            go_ret2
            exact .inr ⟨HNN.out, rfl, 0, rfl⟩
          · have hz1 : decide ((t[k].toNat : Int) < 48) = false := by simp; omega
            have hz2 : decide ((57 : Int) < (t[k].toNat : Int)) = true := by unfold isDig at hd; simp; omega
            clear hd hc1
            go_wp2
            go_ret2
            exact .inr ⟨HNN.out, rfl, 0, rfl⟩
      · have e1 : t.data.toList.take k = t.data.toList := by rw [show k = t.size by omega, take_all]
        rw [e1] at HDK hv ⊢
        have HM : Hid (val t.data.toList < 1000000) := Nat.lt_of_lt_of_le hv (pow6 _ (by simpa using hl2))
        clear hv hlk e1
        by_cases he : num (-((val t.data.toList : Nat) : Int)) = s
        · have hq : ((num (-((val t.data.toList : Nat) : Int))).toList == s.toList) = true := toList_same he
          have HE := Lib.hid he
          clear he
          generalize val t.data.toList = v at *
          have hm := HM.out
          clear HM
          have hm2 : v < 1000000 := hm
          clear hm
          go_wp2_with fail
          refine (l1Num_any _ _ (by omega) (by omega)).mono ?_
          rintro e w' ⟨rfl, kk, rfl⟩
          go_wp2
          go_ret2
          exact .inl ⟨_, by omega, by omega, HE.out, rfl, _, rfl⟩
        · have hq : ((num (-((val t.data.toList : Nat) : Int))).toList == s.toList) = false := toList_ne he
          have HNN : Hid (noNum s) := HNo.out (fun h => he h.2.2.2)
          clear he
          generalize val t.data.toList = v at *
          have hm := HM.out
          clear HM
          have hm2 : v < 1000000 := hm
          clear hm
          go_wp2_with fail
          refine (l1Num_any _ _ (by omega) (by omega)).mono ?_
          rintro e w' ⟨rfl, kk, rfl⟩
          go_wp2
          go_ret2
          exact .inr ⟨HNN.out, rfl, _, rfl⟩
  · have HNN : Hid (noNum s) := HNo.out (fun h => hlen ⟨h.1, h.2.1⟩)
    refine (l1In_no _ _ _ _ (by omega)).mono ?_
    rintro e w' ⟨rfl, rfl⟩
    go_wp2
    go_ret2
    exact .inr ⟨HNN.out, rfl, 0, rfl⟩

set_option maxHeartbeats 1000000 in
theorem read_plain1 (s : ByteArray) (w : World) (h1 : s.size ≤ 1) :
    Calls Tryd.prog 29 #[.string s] w (ReadAny s w) := by
  have HNo : Hid (¬ (1 ≤ s.size ∧ s.size ≤ 6 ∧ (∀ c ∈ s.data.toList, isDig c) ∧ num ((val s.data.toList : Nat) : Int) = s) → noNum s) := by
    refine plain_no s ?_
    intro r hr
    have e : s.data.toList.length ≤ 1 := by simpa using h1
    rw [hr] at e
    cases r with
    | nil => rfl
    | cons a b => simp at e
  have hlt2 : ¬ s.size < s.size := by omega
  go_enter Tryd.func29, Tryd.ntmps29
  go_wp2_with fail
  clear h1
  by_cases hlen : 1 ≤ s.size ∧ s.size ≤ 6
  · obtain ⟨hl1, hl2⟩ := hlen
    refine (l1In_yes _ _ _ _ (by omega) (by omega)).mono ?_
    rintro e w' ⟨rfl, rfl⟩
    go_wp2_with fail
    go_loop [5, 6] (fun n i => ∃ k : Nat, k ≤ s.size ∧ i = .int .i64 k ∧ (∀ c ∈ s.data.toList.take k, isDig c) ∧ n = .int .i64 ((val (s.data.toList.take k) : Nat) : Int)) (fun _ i => s.size - (intOf i).toNat)
    case atStart => exact ⟨0, Nat.zero_le _, rfl, (by simp), rfl⟩
    case round =>
      obtain ⟨k, hk, rfl, hdk, rfl⟩ := hrel
      have HDK := Lib.hid hdk
      have hv := val_lt _ hdk
      have hlk : (s.data.toList.take k).length ≤ k := List.length_take_le _ _
      clear hdk
      by_cases hlt : k < s.size
      · by_cases hd : isDig s[k]
        · have hv5 : val (s.data.toList.take k) < 100000 := Nat.lt_of_lt_of_le hv (pow5 _ (by omega))
          have HV : Hid (val (s.data.toList.take (k + 1)) = 10 * val (s.data.toList.take k) + (s[k].toNat - 48)) := by
            show _ = _
            rw [take_snoc s k hlt]; exact val_snoc _ _
          have HD2 : Hid (∀ c ∈ s.data.toList.take (k + 1), isDig c) := by
            intro c hc
            rw [take_snoc s k hlt] at hc
            rcases List.mem_append.1 hc with hc | hc
            · exact HDK.out c hc
            · simp only [List.mem_cons, List.not_mem_nil, or_false] at hc; subst hc; exact hd
          unfold isDig at hd
          obtain ⟨hd1, hd2⟩ := hd
          have hz1 : decide ((s[k].toNat : Int) < 48) = false := by simp; omega
          have hz2 : decide ((57 : Int) < (s[k].toNat : Int)) = false := by simp; omega
          clear hv hlk
          generalize val (s.data.toList.take k) = v at *
          go_wp2
          go_round
          case rel => exact ⟨k + 1, by omega, by go_num, HD2.out, by rw [HV.out]; go_num⟩
          case measure => simp [intOf]; omega
        · have HNN : Hid (noNum s) := HNo.out (fun h => hd (h.2.2.1 _ (mem_at s k hlt)))
          clear hv hlk
          by_cases hc1 : s[k].toNat < 48
          · have hz1 : decide ((s[k].toNat : Int) < 48) = true := by simp; omega
            clear hd hc1
            go_wp2
            go_ret2
            exact .inr ⟨HNN.out, rfl, 0, rfl⟩
          · have hz1 : decide ((s[k].toNat : Int) < 48) = false := by simp; omega
            have hz2 : decide ((57 : Int) < (s[k].toNat : Int)) = true := by unfold isDig at hd; simp; omega
            clear hd hc1
            go_wp2
            go_ret2
            exact .inr ⟨HNN.out, rfl, 0, rfl⟩
      · have e1 : s.data.toList.take k = s.data.toList := by rw [show k = s.size by omega, take_all]
        rw [e1] at HDK hv ⊢
        have HM : Hid (val s.data.toList < 1000000) := Nat.lt_of_lt_of_le hv (pow6 _ (by simpa using hl2))
        clear hv hlk e1
        by_cases he : num (((val s.data.toList : Nat) : Int)) = s
        · have hq : ((num (((val s.data.toList : Nat) : Int))).toList == s.toList) = true := toList_same he
          have HE := Lib.hid he
          clear he
          generalize val s.data.toList = v at *
          have hm := HM.out
          clear HM
          have hm2 : v < 1000000 := hm
          clear hm
          go_wp2_with fail
          refine (l1Num_any _ _ (by omega) (by omega)).mono ?_
          rintro e w' ⟨rfl, kk, rfl⟩
          go_wp2
          go_ret2
          exact .inl ⟨_, by omega, by omega, HE.out, rfl, _, rfl⟩
        · have hq : ((num (((val s.data.toList : Nat) : Int))).toList == s.toList) = false := toList_ne he
          have HNN : Hid (noNum s) := HNo.out (fun h => he h.2.2.2)
          clear he
          generalize val s.data.toList = v at *
          have hm := HM.out
          clear HM
          have hm2 : v < 1000000 := hm
          clear hm
          go_wp2_with fail
          refine (l1Num_any _ _ (by omega) (by omega)).mono ?_
          rintro e w' ⟨rfl, kk, rfl⟩
          go_wp2
          go_ret2
          exact .inr ⟨HNN.out, rfl, _, rfl⟩
  · have HNN : Hid (noNum s) := HNo.out (fun h => hlen ⟨h.1, h.2.1⟩)
    refine (l1In_no _ _ _ _ (by omega)).mono ?_
    rintro e w' ⟨rfl, rfl⟩
    go_wp2
    go_ret2
    exact .inr ⟨HNN.out, rfl, 0, rfl⟩

set_option maxHeartbeats 1000000 in
theorem read_plain2 (s : ByteArray) (w : World) (hs : s.size ≤ maxLen) (h1 : 1 < s.size) (hm : s[0] ≠ 45) :
    Calls Tryd.prog 29 #[.string s] w (ReadAny s w) := by
  unfold maxLen at hs
  have HNo : Hid (¬ (1 ≤ s.size ∧ s.size ≤ 6 ∧ (∀ c ∈ s.data.toList, isDig c) ∧ num ((val s.data.toList : Nat) : Int) = s) → noNum s) := by
    refine plain_no s ?_
    intro r hr
    exfalso
    have e2 : s.data.toList[0]'(by simp; omega) ≠ 45 := hm
    apply e2
    simp [hr]
  have hd : ((s[0].toNat : Int) == 45) = false := by
    rw [beq_eq_false_iff_ne]
    intro e
    exact hm (UInt8.toNat_inj.mp (by show s[0].toNat = 45; omega))
  have hlt2 : ¬ s.size < s.size := by omega
  clear hm
  go_enter Tryd.func29, Tryd.ntmps29
  go_wp2_with fail
  clear hd
  by_cases hlen : 1 ≤ s.size ∧ s.size ≤ 6
  · obtain ⟨hl1, hl2⟩ := hlen
    refine (l1In_yes _ _ _ _ (by omega) (by omega)).mono ?_
    rintro e w' ⟨rfl, rfl⟩
    go_wp2_with fail
    go_loop [5, 6] (fun n i => ∃ k : Nat, k ≤ s.size ∧ i = .int .i64 k ∧ (∀ c ∈ s.data.toList.take k, isDig c) ∧ n = .int .i64 ((val (s.data.toList.take k) : Nat) : Int)) (fun _ i => s.size - (intOf i).toNat)
    case atStart => exact ⟨0, Nat.zero_le _, rfl, (by simp), rfl⟩
    case round =>
      obtain ⟨k, hk, rfl, hdk, rfl⟩ := hrel
      have HDK := Lib.hid hdk
      have hv := val_lt _ hdk
      have hlk : (s.data.toList.take k).length ≤ k := List.length_take_le _ _
      clear hdk
      by_cases hlt : k < s.size
      · by_cases hd : isDig s[k]
        · have hv5 : val (s.data.toList.take k) < 100000 := Nat.lt_of_lt_of_le hv (pow5 _ (by omega))
          have HV : Hid (val (s.data.toList.take (k + 1)) = 10 * val (s.data.toList.take k) + (s[k].toNat - 48)) := by
            show _ = _
            rw [take_snoc s k hlt]; exact val_snoc _ _
          have HD2 : Hid (∀ c ∈ s.data.toList.take (k + 1), isDig c) := by
            intro c hc
            rw [take_snoc s k hlt] at hc
            rcases List.mem_append.1 hc with hc | hc
            · exact HDK.out c hc
            · simp only [List.mem_cons, List.not_mem_nil, or_false] at hc; subst hc; exact hd
          unfold isDig at hd
          obtain ⟨hd1, hd2⟩ := hd
          have hz1 : decide ((s[k].toNat : Int) < 48) = false := by simp; omega
          have hz2 : decide ((57 : Int) < (s[k].toNat : Int)) = false := by simp; omega
          clear hv hlk
          generalize val (s.data.toList.take k) = v at *
          go_wp2
          go_round
          case rel => exact ⟨k + 1, by omega, by go_num, HD2.out, by rw [HV.out]; go_num⟩
          case measure => simp [intOf]; omega
        · have HNN : Hid (noNum s) := HNo.out (fun h => hd (h.2.2.1 _ (mem_at s k hlt)))
          clear hv hlk
          by_cases hc1 : s[k].toNat < 48
          · have hz1 : decide ((s[k].toNat : Int) < 48) = true := by simp; omega
            clear hd hc1
            go_wp2
            go_ret2
            exact .inr ⟨HNN.out, rfl, 0, rfl⟩
          · have hz1 : decide ((s[k].toNat : Int) < 48) = false := by simp; omega
            have hz2 : decide ((57 : Int) < (s[k].toNat : Int)) = true := by unfold isDig at hd; simp; omega
            clear hd hc1
            go_wp2
            go_ret2
            exact .inr ⟨HNN.out, rfl, 0, rfl⟩
      · have e1 : s.data.toList.take k = s.data.toList := by rw [show k = s.size by omega, take_all]
        rw [e1] at HDK hv ⊢
        have HM : Hid (val s.data.toList < 1000000) := Nat.lt_of_lt_of_le hv (pow6 _ (by simpa using hl2))
        clear hv hlk e1
        by_cases he : num (((val s.data.toList : Nat) : Int)) = s
        · have hq : ((num (((val s.data.toList : Nat) : Int))).toList == s.toList) = true := toList_same he
          have HE := Lib.hid he
          clear he
          generalize val s.data.toList = v at *
          have hm := HM.out
          clear HM
          have hm2 : v < 1000000 := hm
          clear hm
          go_wp2_with fail
          refine (l1Num_any _ _ (by omega) (by omega)).mono ?_
          rintro e w' ⟨rfl, kk, rfl⟩
          go_wp2
          go_ret2
          exact .inl ⟨_, by omega, by omega, HE.out, rfl, _, rfl⟩
        · have hq : ((num (((val s.data.toList : Nat) : Int))).toList == s.toList) = false := toList_ne he
          have HNN : Hid (noNum s) := HNo.out (fun h => he h.2.2.2)
          clear he
          generalize val s.data.toList = v at *
          have hm := HM.out
          clear HM
          have hm2 : v < 1000000 := hm
          clear hm
          go_wp2_with fail
          refine (l1Num_any _ _ (by omega) (by omega)).mono ?_
          rintro e w' ⟨rfl, kk, rfl⟩
          go_wp2
          go_ret2
          exact .inr ⟨HNN.out, rfl, _, rfl⟩
  · have HNN : Hid (noNum s) := HNo.out (fun h => hlen ⟨h.1, h.2.1⟩)
    refine (l1In_no _ _ _ _ (by omega)).mono ?_
    rintro e w' ⟨rfl, rfl⟩
    go_wp2
    go_ret2
    exact .inr ⟨HNN.out, rfl, 0, rfl⟩

theorem l1Read_any (s : ByteArray) (w : World) (hs : s.size ≤ maxLen) :
    Calls Tryd.prog 29 #[.string s] w (ReadAny s w) := by
  by_cases h1 : 1 < s.size
  · by_cases hm : s[0] = 45
    · exact read_minus s w hs h1 hm
    · exact read_plain2 s w hs h1 hm
  · exact read_plain1 s w (by omega)
theorem draws_below {B : Nat} {w w' : World} (h : ∃ k, w' = w.drewN k) : Below B w w' := by
  obtain ⟨k, rfl⟩ := h
  exact ⟨rfl, rfl, rfl, Nat.le_refl _, fun _ _ => rfl⟩
/-- spec.ParseInt is spec.l1Read. -/
theorem specParse_any (s : ByteArray) (w : World) (hs : s.size ≤ maxLen) :
    Calls Tryd.prog 14 #[.string s] w (ReadAny s w) := by
  have HS := Lib.hid hs
  clear hs
  go_enter Tryd.func14, Tryd.ntmps14
  go_wp2_with fail
  refine (l1Read_any s _ HS.out).mono ?_
  rintro e w1 (⟨v, h0, h1, hv, rfl, k, rfl⟩ | ⟨hn, rfl, k, rfl⟩)
  · have HV := Lib.hid hv
    clear hv
    go_wp2
    go_ret2
    exact .inl ⟨v, h0, h1, HV.out, rfl, _, rfl⟩
  · have HN := Lib.hid hn
    clear hn
    go_wp2
    go_ret2
    exact .inr ⟨HN.out, rfl, _, rfl⟩
end Go.Proofs.YtdbkciffdfdfbaaDoor
