/-
  The contracts of JoinStrings, of the reference and of the package: the elements with the separator between them, where there is an element, the separator is one byte that no element holds, and the result has at most 4000 bytes.
-/
import Derived.Test.YtekdodlkimgbhaaStrs
import Derived.Test.YtekdodlkimgbhaaSplit
import Derived.Test.YtekdodlkimgbhaaCanJoin
import Derived.Test.YtekdodlkimgbhaaShelf
namespace Go.Proofs.Ytekdodlkimgbhaa
open Go.RowKit Plain

/-- How JoinStrings ends, at a separator of one byte. -/
def JoinPost (ss : List ByteArray) (sep : ByteArray) (b : UInt8) (w : World) (e : Ending) (w' : World) : Prop :=
  (JoinOk ss sep b ∧ e = .returned (.tuple #[.string (joinT ss sep), .bool true]) ∧ Below w.heap.size w w') ∨
  (¬ JoinOk ss sep b ∧ e = .returned (.tuple #[.string ByteArray.empty, .bool false]) ∧ Below w.heap.size w w')
def JoinNone (w : World) (e : Ending) (w' : World) : Prop := e = .returned (.tuple #[.string ByteArray.empty, .bool false]) ∧ Below w.heap.size w w'

theorem drewN_below (w : World) (n : Nat) : Below w.heap.size w (w.drewN n) := ⟨rfl, rfl, rfl, Nat.le_refl _, fun _ _ => rfl⟩


theorem clone_str (s : ByteArray) (w : World) (hs : s.size ≤ 281474976710656) :
    Calls Try.prog 96 #[.string s] w fun e w' => e = .returned (.string s) ∧ Below w.heap.size w w' := by
  go_enter Try.func96, Try.ntmps96
  go_wp2_with fail
  refine (Try.stringslite_Clone s _ hs).mono ?_
  rintro e w1 ⟨rfl, hb1⟩
  have HB1 := Lib.hid hb1
  clear hb1
  go_wp2
  go_ret
  exact ⟨rfl, HB1.out⟩

theorem can_join (ss : List ByteArray) (sep : ByteArray) (b : UInt8) (h0 : ss ≠ []) (h1 : sep.size = 1) : CanOk ss b ↔ JoinOk ss sep b := by
  have := joinT_size ss sep h1 h0
  unfold CanOk JoinOk
  constructor
  · intro h; exact ⟨h0, h.2, by omega⟩
  · intro h; exact ⟨by omega, h.2.1⟩

theorem joinC (bk o c : Nat) (ss : List ByteArray) (sep : ByteArray) (w : World) (hc : ∀ j (h : j < ss.length), w.cell? ⟨bk, o + j, none⟩ = some (.string ss[j])) (hb : bk < w.heap.size) (hl : ss.length ≤ c) (hn : ss.length ≤ 1048576)
    (hs : (joinT ss sep).size ≤ 3000000) :
    Calls Try.prog 97 #[.slice (some ⟨bk, o, none⟩) ss.length c, .string sep] w fun e w' => e = .returned (.string (joinT ss sep)) ∧ Below w.heap.size w w' := by
  refine Try.strings_Join bk o c ss sep w ?_ hb (by omega) hl ?_
  · intro j x hx
    have hj : j < ss.length := by
      by_cases hj : j < ss.length
      · exact hj
      · rw [List.getElem?_eq_none (by omega)] at hx; cases hx
    rw [List.getElem?_eq_getElem hj] at hx
    injection hx with hx
    rw [← hx]
    exact hc j hj
  · have e : (joinT ss sep).size = (Lib.join (ss.map (·.data.toList)) sep.data.toList).length := rfl
    omega

theorem implJoin_sep (v : Value) (ss : List ByteArray) (sep : ByteArray) (w : World) (hv : StrRow w v ss) (hn : ss.length ≤ 1048576) (h1 : sep.size ≠ 1) :
    Calls Try.prog 72 #[v, .string sep] w (JoinNone w) := by
  obtain ⟨a, c, rfl⟩ : ∃ a c, v = .slice a ss.length c := by
    rcases hv with ⟨a, c, rfl, rfl⟩ | ⟨b, o, c, rfl, _⟩
    · exact ⟨a, c, rfl⟩
    · exact ⟨_, _, rfl⟩
  have hq : ((sep.size : Int) == 1) = false := by rw [beq_eq_false_iff_ne]; omega
  have hq2 : ((sep.size : Int) != 1) = true := by rw [bne_iff_ne]; omega
  clear h1 hv
  generalize ss.length = n at *
  by_cases h0 : n = 0
  · subst h0
    go_enter Try.func72, Try.ntmps72
    go_wp2
    go_ret2
    exact ⟨rfl, Below.refl _ _⟩
  · have hz : ((n : Int) == 0) = false := by rw [beq_eq_false_iff_ne]; omega
    clear h0
    go_enter Try.func72, Try.ntmps72
    go_wp2
    go_ret2
    exact ⟨rfl, Below.refl _ _⟩

set_option maxHeartbeats 400000 in
theorem implJoin_any (v : Value) (ss : List ByteArray) (sep : ByteArray) (w : World) (hv : StrRow w v ss) (hp : 0 < sep.size) (H1 : Hid (sep.size = 1)) (hn : ss.length ≤ 1048576) (ht : total ss ≤ 1048576) :
    Calls Try.prog 72 #[v, .string sep] w (JoinPost ss sep sep[0] w) := by
  have hq : ((sep.size : Int) == 1) = true := by rw [H1.out]; rfl
  have hq2 : ((sep.size : Int) != 1) = false := by rw [H1.out]; rfl
  by_cases h0 : ss = []
  · subst h0
    obtain ⟨a, c, rfl⟩ : ∃ a c, v = .slice a 0 c := by
      rcases hv with ⟨a, c, rfl, _⟩ | ⟨b, o, c, rfl, _⟩
      · exact ⟨a, c, rfl⟩
      · exact ⟨_, _, rfl⟩
    go_enter Try.func72, Try.ntmps72
    go_wp2
    go_ret2
    exact .inr ⟨fun h => h.1 rfl, rfl, Below.refl _ _⟩
  · have HV := Lib.hid hv
    rcases hv with ⟨a, c, rfl, h⟩ | ⟨bk, o, c, rfl, hlc, hbl, hc⟩
    · exact absurd h h0
    have HI := Lib.hid (can_join ss sep sep[0] h0 H1.out)
    have hpos : 0 < ss.length := List.length_pos_iff.2 h0
    have hz : ((ss.length : Int) == 0) = false := by rw [beq_eq_false_iff_ne]; omega
    have hjl := joinT_size ss sep H1.out h0
    have hjl2 : (joinT ss sep).size ≤ 3000000 := by omega
    have HJ := Lib.hid (joinC bk o c ss sep w hc hbl hlc hn hjl2)
    have H0 := Lib.hid h0
    clear h0 hc hjl
    go_enter Try.func72, Try.ntmps72
    go_wp2_with fail
    refine (can_any _ ss sep[0] _ _ HV.out rfl H0.out hn ht).mono ?_
    rintro e w1 ⟨⟨hok, rfl⟩ | ⟨hok, rfl⟩, rfl⟩
    · have HOK := Lib.hid hok
      clear hok
      go_wp2_with fail
      refine HJ.out.mono ?_
      rintro e w2 ⟨rfl, hb2⟩
      have HB2 := Lib.hid hb2
      clear hb2
      go_wp2_with fail
      refine (clone_str _ _ (by omega)).mono ?_
      rintro e w3 ⟨rfl, hb3⟩
      have HB3 := Lib.hid hb3
      clear hb3
      go_wp2
      go_ret2
      exact .inl ⟨HI.out.1 HOK.out, rfl, HB2.out.trans (HB3.out.mono HB2.out.size)⟩
    · have HNO := Lib.hid hok
      clear hok
      go_wp2
      go_ret2
      exact .inr ⟨fun h => HNO.out (HI.out.2 h), rfl, Below.refl _ _⟩
end Go.Proofs.Ytekdodlkimgbhaa
