/-
  The contract of the reference's drawing of a list of texts.
-/
import Derived.Test.YtdbkciffdfdfbaaDrawSplit
import Derived.Test.YtdbkciffdfdfbaaJoinPlain
namespace Go.Proofs.Ytdbkciffdfdfbaa
open Go.RowKit Go.Shelf Plain

theorem total_le (c : Nat) (ss : List ByteArray) (h : ∀ s ∈ ss, s.size ≤ c) : total ss ≤ c * ss.length := by
  induction ss with
  | nil => simp [total]
  | cons x ss ih =>
    have h1 := h x (by simp)
    have h2 := ih (fun s hs => h s (by simp [hs]))
    have e : total (x :: ss) = x.size + total ss := by simp [total]
    rw [e, List.length_cons, Nat.mul_succ]
    omega
theorem row_own {w : World} {base n : Nat} {v : Value} {ss : List ByteArray} (h : w.ownsRow base 9 1 v n (ss.map Value.string)) : StrRow w v ss := by
  have hl : ss.length = n := by have := h.1; simp at this; omega
  subst hl
  rcases h.2 with ⟨rfl, h0⟩ | ⟨g, c, cur, rfl, _⟩
  · exact .inl ⟨none, 0, rfl, List.eq_nil_of_length_eq_zero h0⟩
  · exact StrRow.of_own h

/-- What DrawJoinStrings hands back. -/
def JoinDraw (w : World) (e : Ending) (w' : World) : Prop :=
  ∃ (v : Value) (ss : List ByteArray) (u : ByteArray), e = .returned (.tuple #[v, .string u]) ∧ StrRow w' v ss ∧ ss.length ≤ 4 ∧ total ss ≤ 5000 ∧ u.size ≤ 10 ∧ Below w.heap.size w w'


set_option maxHeartbeats 1000000 in
theorem drawJoin_any (a : Option Addr) (len cap : Nat) (w : World) (hl : len ≤ 65536) (hr : CodeRow w a len w.heap.size) :
    Calls Try.prog 11 #[.slice a len cap] w (JoinDraw w) := by
  obtain ⟨i0, hi, hz0, hz1, hz2⟩ := info_parts infoStr
  obtain ⟨i1, hi1, hy0, hy1, hy2⟩ := info_parts infoByte
  have hc0 := Cur.new w a len cap hl hr
  have HC := Lib.hid (hc0.alloc (.cells #[] 9))
  have rO := World.ownsRow_made (base := w.heap.size + 1) (e := 9) (size := 1) (w.alloc (.cells #[.slice a len cap, .int .i64 0, .int .u64 0] 44)) #[] 0 (by simp) (by decide) rfl
  rw [World.size_alloc] at rO
  have HO := Lib.hid rO
  clear hr hc0 rO
  go_enter Try.func11, Try.ntmps11
  go_wp2_with fail
  refine (pick_any _ w.heap.size 0 4 HC.out (by omega) (by omega) (by omega)).mono ?_
  rintro e w1 ⟨n, hn, rfl, hc1, ht1⟩
  have hn3 : n ≤ 3 := by omega
  have HC1 := Lib.hid hc1
  have HO1 := Lib.hid (row_turned HO.out ht1)
  have HB1 : Hid (Below w.heap.size w w1) := (((Below.refl _ w).alloc (Nat.le_refl _) _).alloc (by simp) _).trans (ht1.below (by simp; omega) (Nat.le_refl _))
  clear hc1 ht1 HO HC hn
  go_wp2
  go_loopw [5, 7] (fun lv iv wr => ∃ (k : Nat) (ss : List ByteArray) (v : Value), lv = v ∧ iv = .int .i64 k ∧ k ≤ n ∧ ss.length = k ∧ (∀ s ∈ ss, s.size ≤ 10) ∧ wr.ownsRow (w.heap.size + 1) 9 1 v k (ss.map Value.string) ∧ Cur wr w.heap.size (2 + 2 * k) ∧ Below w.heap.size w wr)
    (fun _ i _ => n - (intOf i).toNat)
  case atStart => exact ⟨0, [], _, rfl, rfl, Nat.zero_le _, rfl, by simp, HO1.out, HC1.out, HB1.out⟩
  case round =>
    obtain ⟨k, ss, v, rfl, rfl, hk, hsl, hss, hown, hcur, hbel⟩ := hrel
    have HSS := Lib.hid hss
    have HCU := Lib.hid hcur
    have HB := Lib.hid hbel
    have hsz := hbel.size
    have hlt0 := hcur.lt
    clear hss hcur hbel HO1 HC1 HB1
    by_cases hlt : k < n
    · have HOW := Lib.hid hown
      clear hown
      go_wp2_with fail
      refine (any1_turned _ w.heap.size (2 + 2 * k) HCU.out (by omega)).mono ?_
      rintro e w2 ⟨t, ht, rfl, hc2, ht2⟩
      have HC2 := Lib.hid hc2
      have hown0 := row_turned HOW.out ht2
      have hs2 := ht2.size
      have HB2 : Hid (Below w.heap.size w w2) := HB.out.trans (ht2.below hsz (Nat.le_refl _))
      clear hc2 ht2
      go_wp2_with (at_builtin; refine wpList_append_own _ rfl _ _ 26 rfl (w.heap.size + 1) 9 i0 (.string ByteArray.empty) 1 16 Try.underlying26 hi hz0 hz1 hz2 rfl (by decide) _ _ _ rfl (hown0.alloc _) ⟨w2.heap.size, 0, none⟩ 1 1 [.string t] rfl rfl ?c1 ?c2 ?c3 ?c4 ?c5 ?_)
      case c1 => exact cell_one_new _ _ _
      case c2 => simp [Value.oneCell']
      case c3 => unfold maxLen; omega
      case c4 => omega
      case c5 => simp; omega
      intro v' w3 hown' hgrow' _
      have hb3 : Below (w.heap.size + 1) w2 w3 := ((Below.refl _ w2).alloc (by omega) _).grown hgrow' (by simp; omega) (fun j hj => (hown0.lt j hj).1)
      have HC3 := Lib.hid (HC2.out.below1 hb3)
      have HB3 : Hid (Below w.heap.size w w3) := HB2.out.trans (hb3.mono (by omega))
      have HO3 : Hid (w3.ownsRow (w.heap.size + 1) 9 1 v' (k + 1) ((ss ++ [t]).map Value.string)) := by
        show w3.ownsRow _ _ _ _ _ _
        rw [List.map_append]; exact hown'
      clear hown' hgrow' hown0 hb3
      go_wp2
      go_roundw
      case rel => exact ⟨k + 1, ss ++ [t], v', rfl, by go_num, by omega, by simp [hsl], fun s hs => by
        rcases List.mem_append.1 hs with h | h
        · exact HSS.out s h
        · rw [List.mem_singleton.1 h]; exact ht, HO3.out, HC3.out.more (by omega), HB3.out⟩
      case measure => simp [intOf]; omega
    · have HOW := Lib.hid hown
      clear hown
      have htot := total_le 10 ss HSS.out
      go_wp2_with fail
      refine (one_any _ w.heap.size (2 + 2 * k) 20 HCU.out (by omega) (by omega) (by omega)).mono ?_
      rintro e w2 ⟨b, rfl, hc2, ht2⟩
      have HC2 := Lib.hid hc2
      have HO2 := Lib.hid (row_turned HOW.out ht2)
      have hs2 := ht2.size
      have hlt2 := hc2.lt
      have HB2 : Hid (Below w.heap.size w w2) := HB.out.trans (ht2.below hsz (Nat.le_refl _))
      clear hc2 ht2 HOW
      cases b
      · go_wp2_with fail
        refine (of_any _ w.heap.size (2 + 2 * k + 2) w2.heap.size 5 5 (fun t => t.size ≤ 10) (HC2.out.alloc _) (by omega) (by omega) (by omega) (by omega) ?_).mono ?_
        · intro j hj
          refine alloc_all w2 _ _ (fun v => ∃ t, v = .string t ∧ t.size ≤ 10) ?_ j hj
          intro v hv
          simp at hv
          rcases hv with rfl | rfl | rfl | rfl | rfl <;> exact ⟨_, rfl, by decide⟩
        rintro e w3 ⟨u, hu, rfl, hc3, ht3⟩
        have HT3 := Lib.hid ht3
        clear hc3 ht3
        go_wp2
        go_ret2
        exact ⟨_, ss, u, rfl, row_own (row_turned (HO2.out.alloc _) HT3.out), by omega, by omega, hu, (HB2.out.alloc (by omega) _).trans (HT3.out.below (by simp; omega) (Nat.le_refl _))⟩
      · go_wp2_with fail
        refine (pick_any _ w.heap.size (2 + 2 * k + 2) 20 HC2.out (by omega) (by omega) (by omega)).mono ?_
        rintro e w3 ⟨m, hm, rfl, hc3, ht3⟩
        have HC3 := Lib.hid hc3
        have hown0 := row_turned HO2.out ht3
        have hs3 := ht3.size
        have HB3 : Hid (Below w.heap.size w w3) := HB2.out.trans (ht3.below (by omega) (Nat.le_refl _))
        clear hc3 ht3
        obtain ⟨N, hN⟩ : ∃ N : Nat, N = 3990 + m := ⟨_, rfl⟩
        have hNi : (3990 : Int) + (m : Int) = (N : Int) := by omega
        have hN2 : N ≤ 4010 := by omega
        have HNI := Lib.hid hNi
        have hbytes : i1.bytes * N ≤ 281474976710656 := by rw [hy2]; omega
        have HBY := Lib.hid hbytes
        have hzs := size_zeros N
        clear hN hNi hbytes
        go_wp2_with (first
          | (at_make; refine wpList_make_full _ rfl _ _ 22 rfl w3.heap.size 5 i1 (.int .u8 0) 1 Try.underlying22 hi1 hy0 hy1 .i64 .i64 _ _ N rfl rfl HNI.out HNI.out HBY.out (by unfold maxLen; omega) (Nat.le_refl _) ?_; intro w4 hown4 hgrow4; have hconv := made_string hown4; have hb4 : Below w3.heap.size w3 w4 := (Below.refl _ _).grown hgrow4 (Nat.le_refl _) (fun _ h => by cases h); have hown1 := row_below hown0 hb4; have hs4 := hb4.size)
          | (at_builtin; refine wpList_append_own _ rfl _ _ 26 rfl (w.heap.size + 1) 9 i0 (.string ByteArray.empty) 1 16 Try.underlying26 hi hz0 hz1 hz2 rfl (by decide) _ _ _ rfl (hown1.alloc _) ⟨w4.heap.size, 0, none⟩ 1 1 [.string (zeros N)] rfl rfl (cell_one_new _ _ _) (by simp [Value.oneCell']) (by unfold maxLen; omega) (by omega) (by simp; omega) ?_; intro v' w5 hown' hgrow' _))
        have hb5 : Below (w.heap.size + 1) w4 w5 := ((Below.refl _ w4).alloc (by omega) _).grown hgrow' (by simp; omega) (fun j hj => (hown1.lt j hj).1)
        have hc5 := ((HC3.out.kept hb4).below1 hb5)
        have hlt5 := hc5.lt
        have HC5 := Lib.hid hc5
        have HB5 : Hid (Below w.heap.size w w5) := (HB3.out.trans (hb4.mono (by omega))).trans (hb5.mono (by omega))
        have HO5 : Hid (w5.ownsRow (w.heap.size + 1) 9 1 v' (k + 1) ((ss ++ [zeros N]).map Value.string)) := by
          show w5.ownsRow _ _ _ _ _ _
          rw [List.map_append]; exact hown'
        have hs5 := hb5.size
        clear hown' hgrow' hown0 hown1 hb5 hb4 hc5 hconv
        refine (of_any _ w.heap.size (2 + 2 * k + 2 + 2) w5.heap.size 5 5 (fun t => t.size ≤ 10) (HC5.out.alloc _) (by omega) (by omega) (by omega) (by omega) ?_).mono ?_
        · intro j hj
          refine alloc_all w5 _ _ (fun v => ∃ t, v = .string t ∧ t.size ≤ 10) ?_ j hj
          intro v hv
          simp at hv
          rcases hv with rfl | rfl | rfl | rfl | rfl <;> exact ⟨_, rfl, by decide⟩
        rintro e w6 ⟨u, hu, rfl, hc6, ht6⟩
        have HT6 := Lib.hid ht6
        clear hc6 ht6
        go_wp2
        go_ret2
        exact ⟨_, ss ++ [zeros N], u, rfl, row_own (row_turned (HO5.out.alloc _) HT6.out), by simp; omega, by rw [total_snoc]; omega, hu, (HB5.out.alloc (by omega) _).trans (HT6.out.below (by simp; omega) (Nat.le_refl _))⟩
end Go.Proofs.Ytdbkciffdfdfbaa
