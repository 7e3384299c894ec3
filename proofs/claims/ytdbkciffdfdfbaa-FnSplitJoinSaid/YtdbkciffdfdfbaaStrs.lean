/-
  Rows of strings that are read, and the contracts of the laws' helpers on them: szStringS, toStringS, eqStringS.
-/
import Derived.Test.YtdbkciffdfdfbaaKit
import Derived.Test.YtdbkciffdfdfbaaJoinPlain
import Derived.OwnWalk
import Derived.Deep.QuietTactic
import Derived.BigQuiet
namespace Go.Proofs.Ytdbkciffdfdfbaa
open Go.RowKit Plain

/-- The value v is a slice that reads as these strings. -/
def StrRow (w : World) (v : Value) (ss : List ByteArray) : Prop :=
  (∃ a cap, v = .slice a 0 cap ∧ ss = []) ∨
  ∃ b o cap, v = .slice (some ⟨b, o, none⟩) ss.length cap ∧ ss.length ≤ cap ∧ b < w.heap.size ∧ ∀ j (h : j < ss.length), w.cell? ⟨b, o + j, none⟩ = some (.string ss[j])
theorem StrRow.below {w w' : World} {v : Value} {ss : List ByteArray} (h : StrRow w v ss) (hb : Below w.heap.size w w') : StrRow w' v ss := by
  rcases h with h | ⟨b, o, cap, rfl, h0, h1, h2⟩
  · exact .inl h
  · exact .inr ⟨b, o, cap, rfl, h0, Nat.lt_of_lt_of_le h1 hb.size, fun j hj => (hb.cell (p := ⟨b, o + j, none⟩) h1).trans (h2 j hj)⟩
theorem StrRow.of_own {w : World} {base g cap n : Nat} {ss : List ByteArray} (h : w.ownsRow base 9 1 (.slice (some ⟨g, 0, none⟩) n cap) n (ss.map Value.string)) : StrRow w (.slice (some ⟨g, 0, none⟩) n cap) ss := by
  have h1 : ss.length = n := by have := h.1; simpa using this
  subst h1
  have hlt := (h.lt g rfl).2
  have hcap : ss.length ≤ cap := by
    rcases h.2 with ⟨h2, _⟩ | ⟨g', cap', cur, h2, _, _, h3, _⟩
    · cases h2
    · cases h2; exact h3
  refine .inr ⟨g, 0, cap, rfl, hcap, hlt, fun j hj => ?_⟩
  have := h.cellAt j (by omega)
  rw [Nat.zero_add, this, List.getElem?_map, List.getElem?_eq_getElem hj]
  rfl
theorem IsStrs.row {w : World} {a : Option Addr} {len cap : Nat} {z : List ByteArray} (h : IsStrs w a len cap z) : ∃ ss, StrRow w (.slice a len cap) ss ∧ (∀ s ∈ ss, s.size ≤ maxLen) ∧ ss.length ≤ maxLen := by
  rcases h with ⟨rfl, rfl, rfl, rfl⟩ | ⟨x, rfl, h1, h2, h3, h4, h5⟩
  · exact ⟨[], .inl ⟨_, _, rfl, rfl⟩, by simp, by simp⟩
  · by_cases h0 : len = 0
    · subst h0
      exact ⟨[], .inl ⟨_, _, rfl, rfl⟩, by simp, by simp⟩
    · obtain ⟨b, o, sp⟩ := x
      have hc := h4 0 (by omega)
      have hsp : sp = none := by simpa [Addr.add] using World.cell?_spot hc
      subst hsp
      have hb : b < w.heap.size := by simpa [Addr.add] using World.block_lt_of_cell? w _ hc
      have hl : (z.take len).length = len := by simp; omega
      refine ⟨z.take len, .inr ⟨b, o, cap, by rw [hl], by omega, hb, fun j hj => ?_⟩, fun s hs => h5 s (List.mem_of_mem_take hs), by omega⟩
      have := h4 j (by omega)
      have e : (⟨b, o, none⟩ : Addr).add j = ⟨b, o + j, none⟩ := by unfold Addr.add; split <;> simp_all
      rw [e] at this
      rw [this, List.getElem_take, List.getD_eq_getElem?_getD, List.getElem?_eq_getElem (by omega)]
      rfl

set_option maxHeartbeats 400000 in
/-- How much is left of 1048576 behind the elements and their bytes, if it is not negative. -/
theorem sz_any (v : Value) (ss : List ByteArray) (w : World) (hr : StrRow w v ss) (hm : ∀ s ∈ ss, s.size ≤ maxLen) (hn : ss.length ≤ maxLen) :
    Calls Try.prog 21 #[v, .int .i64 1048576] w fun e w' => (∃ n : Int, e = .returned (.int .i64 n) ∧ (0 ≤ n → (ss.length : Int) + total ss ≤ 1048576)) ∧ w = w' := by
  unfold maxLen at hn
  rcases hr with ⟨a, cap, rfl, rfl⟩ | ⟨b, o, cap, rfl, _, _, hcell⟩
  · go_enter Try.func21, Try.ntmps21
    go_wp2
    go_loop [1, 5] (fun l i => l = .int .i64 1048576 ∧ i = .int .i64 0) (fun _ i => 1 - (intOf i).toNat)
    case atStart => exact ⟨rfl, rfl⟩
    case round =>
      obtain ⟨rfl, rfl⟩ := hrel
      go_wp2
      go_ret
      exact ⟨⟨_, rfl, fun _ => by decide⟩, rfl⟩
  · have HM := Lib.hid hm
    have HC := Lib.hid hcell
    clear hm hcell
    by_cases hn2 : ss.length ≤ 1048576
    · go_enter Try.func21, Try.ntmps21
      go_wp2
      go_loop [1, 5] (fun l i => ∃ (k : Nat) (L : Int), k ≤ ss.length ∧ i = .int .i64 k ∧ l = .int .i64 L ∧ 0 ≤ L ∧ L ≤ 1048576 ∧ L + ss.length + total (ss.take k) = 1048576) (fun _ i => ss.length - (intOf i).toNat)
      case atStart => exact ⟨0, _, Nat.zero_le _, rfl, rfl, by omega, by omega, by simp [total]⟩
      case round =>
        obtain ⟨k, L, hk, rfl, rfl, hL0, hL1, hLe⟩ := hrel
        have HL := Lib.hid hLe
        clear hLe
        by_cases hlt : k < ss.length
        · have hc := HC.out k hlt
          have ht := total_snoc (ss.take k) ss[k]
          rw [← take_snoc' ss k hlt] at ht
          have hle := size_le_total ss ss[k] (List.getElem_mem _)
          have hmk := HM.out ss[k] (List.getElem_mem _)
          unfold maxLen at hmk
          have HT := Lib.hid ht
          clear ht hle
          generalize ss[k] = t at *
          by_cases hneg : L - t.size < 0
          · go_wp2
            go_ret
            exact ⟨⟨_, rfl, fun h => absurd h (by decide)⟩, rfl⟩
          · go_wp2
            go_round
            case rel => exact ⟨k + 1, _, by omega, by go_num, rfl, by omega, by omega, by have := HT.out; have := HL.out; omega⟩
            case measure => simp [intOf]; omega
        · go_wp2
          go_ret
          refine ⟨⟨_, rfl, fun _ => ?_⟩, rfl⟩
          have := HL.out
          rw [show k = ss.length by omega, List.take_length] at this
          omega
    · have h2 : 1048576 < ss.length := by omega
      go_enter Try.func21, Try.ntmps21
      go_wp2
      go_ret
      exact ⟨⟨_, rfl, fun h => absurd h (by decide)⟩, rfl⟩

theorem infoS : (Try.prog.info? 9).map (fun i => (i.zero, i.size, i.bytes)) = some (some (.string ByteArray.empty), 1, 16) := by kernel_rfl
/-- What stands in the copy behind k rounds. -/
def mix (ss : List ByteArray) (M : List Value) (k : Nat) : List Value := (ss.take k).map Value.string ++ M.drop k
theorem mix_zero (ss : List ByteArray) (M : List Value) : mix ss M 0 = M := by simp [mix]
theorem mix_step (ss : List ByteArray) (M : List Value) (k : Nat) (h : k < ss.length) (hm : M.length = ss.length) : (mix ss M k).set k (.string ss[k]) = mix ss M (k + 1) := by
  unfold mix
  have hl : ((ss.take k).map Value.string).length = k := by simp; omega
  rw [List.set_append_right _ _ (by omega), hl, Nat.sub_self, take_snoc' ss k h, List.map_append, List.append_assoc]
  have hd : M.drop k = M[k]'(by omega) :: M.drop (k + 1) := (List.getElem_cons_drop (by omega)).symm
  rw [hd]
  rfl
theorem mix_end (ss : List ByteArray) (M : List Value) (hm : M.length = ss.length) : mix ss M ss.length = ss.map Value.string := by
  unfold mix
  rw [List.take_length, List.drop_eq_nil_of_le (by omega), List.append_nil]
theorem mix_len (ss : List ByteArray) (M : List Value) (k : Nat) (h : k ≤ ss.length) (hm : M.length = ss.length) : (mix ss M k).length = ss.length := by
  unfold mix; simp; omega

set_option maxHeartbeats 400000 in
theorem to_any (v : Value) (ss : List ByteArray) (w : World) (hr : StrRow w v ss) (hn : ss.length ≤ 1048576) :
    Calls Try.prog 22 #[v] w fun e w' => ∃ g, e = .returned (.slice (some ⟨g, 0, none⟩) ss.length ss.length) ∧
      w'.ownsRow w.heap.size 9 1 (.slice (some ⟨g, 0, none⟩) ss.length ss.length) ss.length (ss.map Value.string) ∧ Below w.heap.size w w' := by
  obtain ⟨i0, hi, hz0, hz1, hz2⟩ := info_parts infoS
  have hbytes : i0.bytes * ss.length ≤ 281474976710656 := by rw [hz2]; omega
  have hB := Lib.hid hbytes
  clear hbytes
  rcases hr with ⟨a, cap, rfl, rfl⟩ | ⟨b, o, cap, rfl, _, hbl, hcell⟩
  · go_enter Try.func22, Try.ntmps22
    go_wp2_with (at_make; refine wpList_make_full _ rfl _ _ 26 rfl w.heap.size 9 i0 (.string ByteArray.empty) 1 Try.underlying26 hi hz0 hz1 .i64 .i64 0 0 0 rfl rfl rfl rfl hB.out (by decide) (Nat.le_refl _) ?_; intro w1 hown hgrow)
    have HO := Lib.hid hown
    have HB1 : Hid (Below w.heap.size w w1) := (Below.refl _ _).grown hgrow (Nat.le_refl _) (fun _ h => by cases h)
    clear hown hgrow
    go_loop [4] (fun i => i = .int .i64 0) (fun i => 1 - (intOf i).toNat)
    case atStart => exact rfl
    case round =>
      obtain rfl := hrel
      go_wp2
      go_ret
      refine ⟨_, rfl, ?_, HB1.out⟩
      have := HO.out
      have e : (madeCells (Value.string ByteArray.empty).cells (0 * 1)).toList = [] := List.eq_nil_of_length_eq_zero (by simpa using this.1)
      rw [e] at this
      exact this
  · have HC := Lib.hid hcell
    clear hcell
    go_enter Try.func22, Try.ntmps22
    go_wp2_with (at_make; refine wpList_make_full _ rfl _ _ 26 rfl w.heap.size 9 i0 (.string ByteArray.empty) 1 Try.underlying26 hi hz0 hz1 .i64 .i64 ss.length ss.length ss.length rfl rfl rfl rfl hB.out (by unfold maxLen; omega) (Nat.le_refl _) ?_; intro w1 hown hgrow)
    have HB1 : Hid (Below w.heap.size w w1) := (Below.refl _ _).grown hgrow (Nat.le_refl _) (fun _ h => by cases h)
    obtain ⟨M, hM⟩ : ∃ M, M = (madeCells (Value.string ByteArray.empty).cells (ss.length * 1)).toList := ⟨_, rfl⟩
    rw [← hM] at hown
    clear hM
    have hml : M.length = ss.length := by have := hown.1; omega
    have HML := Lib.hid hml
    have HO := Lib.hid hown
    clear hown hgrow hml
    generalize hg : w.heap.size = g at *
    have HG := Lib.hid hg
    clear hg
    go_loopw [4] (fun i wr => ∃ k : Nat, k ≤ ss.length ∧ i = .int .i64 k ∧ wr.ownsRow g 9 1 (.slice (some ⟨g, 0, none⟩) ss.length ss.length) ss.length (mix ss M k) ∧ Below g w wr) (fun i _ => ss.length - (intOf i).toNat)
    case atStart => exact ⟨0, Nat.zero_le _, rfl, by rw [mix_zero]; exact HO.out, HB1.out⟩
    case round =>
      obtain ⟨k, hk, rfl, hown, hbel⟩ := hrel
      by_cases hlt : k < ss.length
      · have hc : wr.cell? ⟨b, o + k, none⟩ = some (.string ss[k]) := (hbel.cell (p := ⟨b, o + k, none⟩) hbl).trans (HC.out k hlt)
        have hln := mix_len ss M k hk HML.out
        obtain ⟨u0, hd⟩ : ∃ u0, wr.cell? ⟨g, k, none⟩ = some u0 := ⟨_, by rw [hown.cellAt k (by omega)]; exact List.getElem?_eq_getElem (by omega)⟩
        have hf := hown.frozenAt k
        have hst := hown.stored k (.string ss[k])
        rw [mix_step ss M k hlt HML.out] at hst
        have HST := Lib.hid hst
        have HB := Lib.hid hbel
        clear hst hown hbel hln
        generalize ss[k] = t at *
        go_wp2
        go_roundw
        case rel => exact ⟨k + 1, by omega, by go_num, HST.out.1, HB.out.setCell (p := ⟨g, k, none⟩) (Nat.le_refl _) _⟩
        case measure => simp [intOf]; omega
      · have HOO := Lib.hid hown
        have HB := Lib.hid hbel
        clear hown hbel
        go_wp2
        go_ret
        have hG := HG.out
        subst hG
        refine ⟨_, rfl, ?_, HB.out⟩
        have := HOO.out
        rw [show k = ss.length by omega, mix_end ss M HML.out] at this
        exact this

set_option maxHeartbeats 400000 in
theorem eqS_yes (v u : Value) (ss : List ByteArray) (w : World) (hv : StrRow w v ss) (hu : StrRow w u ss) (hn : ss.length ≤ 1048576) :
    Calls Try.prog 18 #[v, u] w fun e w' => e = .returned (.bool true) ∧ ∃ k, w' = w.drewN k := by
  by_cases h0 : ss = []
  · subst h0
    obtain ⟨a, c, rfl⟩ : ∃ a c, v = .slice a 0 c := by
      rcases hv with ⟨a, c, rfl, _⟩ | ⟨b, o, c, rfl, _⟩
      · exact ⟨a, c, rfl⟩
      · exact ⟨_, _, rfl⟩
    obtain ⟨a2, c2, rfl⟩ : ∃ a c, u = .slice a 0 c := by
      rcases hu with ⟨a, c, rfl, _⟩ | ⟨b, o, c, rfl, _⟩
      · exact ⟨a, c, rfl⟩
      · exact ⟨_, _, rfl⟩
    go_enter Try.func18, Try.ntmps18
    go_wp2
    go_loop [5] (fun i => i = .int .i64 0) (fun i => 1 - (intOf i).toNat)
    case atStart => exact rfl
    case round =>
      obtain rfl := hrel
      go_wp2
      go_ret
      exact ⟨rfl, 0, rfl⟩
  · rcases hv with ⟨_, _, _, h⟩ | ⟨b1, o1, c1, rfl, _, _, hc1⟩
    · exact absurd h h0
    rcases hu with ⟨_, _, _, h⟩ | ⟨b2, o2, c2, rfl, _, _, hc2⟩
    · exact absurd h h0
    have HC1 := Lib.hid hc1
    have HC2 := Lib.hid hc2
    clear hc1 hc2 h0
    go_enter Try.func18, Try.ntmps18
    go_wp2
    go_loopw [5] (fun i wr => ∃ k n : Nat, k ≤ ss.length ∧ i = .int .i64 k ∧ wr = w.drewN n) (fun i _ => ss.length - (intOf i).toNat)
    case atStart => exact ⟨0, 0, Nat.zero_le _, rfl, rfl⟩
    case round =>
      obtain ⟨k, n, hk, rfl, rfl⟩ := hrel
      by_cases hlt : k < ss.length
      · have e1 := HC1.out k hlt
        have e2 := HC2.out k hlt
        generalize ss[k] = t at *
        have hb : (0 : Int) ≤ (k : Int) := by omega
        have hl : (k : Int) < (ss.length : Int) := by omega
        go_wp2_with fail
        go_quiet (fail)
        go_wp2
        go_roundw
        case rel => exact ⟨k + 1, _, by omega, by go_num, rfl⟩
        case measure => simp [intOf]; omega
      · go_wp2
        go_ret
        exact ⟨rfl, _, rfl⟩
end Go.Proofs.Ytdbkciffdfdfbaa
