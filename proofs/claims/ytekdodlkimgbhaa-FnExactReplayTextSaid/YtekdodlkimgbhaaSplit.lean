/-
  The contracts of spec.l1Split and spec.l1Stands: the parts of a text between the bytes b, in a new row; whether a byte stands in a text.
-/
import Derived.Test.YtekdodlkimgbhaaBaseA
import Derived.Test.YtekdodlkimgbhaaSplitPlain
import Derived.RangeFuncBox
import Derived.Maps.AppendAt
namespace Go.Proofs.Ytekdodlkimgbhaa
open Go.RowKit Plain

def strv (l : List UInt8) : Value := .string ⟨l.toArray⟩
/-- The slice value v owns a row of these texts, in blocks from base on. -/
def OwnsStrs (w : World) (base : Nat) (v : Value) (ps : List (List UInt8)) : Prop := w.ownsRow base 9 1 v ps.length (ps.map strv)

theorem infoStr : (Try.prog.info? 9).map (fun i => (i.zero, i.size, i.bytes)) = some (some (.string ByteArray.empty), 1, 16) := by kernel_rfl


set_option maxHeartbeats 1000000 in
theorem l1Split_any (s : ByteArray) (b : UInt8) (n : Int) (w : World) (hs : s.size ≤ 1048576) (hn : n = b.toNat) :
    Calls Try.prog 73 #[.string s, .int .u8 n] w fun e w' => ∃ g cap, e = .returned (.slice (some ⟨g, 0, none⟩) (parts b s.data.toList).length cap) ∧
      OwnsStrs w' w.heap.size (.slice (some ⟨g, 0, none⟩) (parts b s.data.toList).length cap) (parts b s.data.toList) ∧ Below w.heap.size w w' := by
  subst hn
  obtain ⟨i0, hi, hz0, hz1, hz2⟩ := info_parts infoStr
  go_enter Try.func73, Try.ntmps73
  go_wp2
  go_loopw [5, 6, 7] (fun vs f i wr => ∃ (k fr : Nat) (done : List (List UInt8)) (cur : List UInt8) (v : Value), v = vs ∧ i = .int .i64 k ∧ f = .int .i64 fr ∧ At b s k fr done cur ∧ OwnsStrs wr w.heap.size v done ∧ Below w.heap.size w wr)
    (fun _ _ i _ => s.size - (intOf i).toNat)
  case atStart =>
    exact ⟨0, 0, [], [], _, rfl, rfl, rfl, At.start b s, World.ownsRow_made w #[] 0 (Nat.le_refl _) (by decide) rfl, (Below.refl _ _).alloc (Nat.le_refl _) _⟩
  case round =>
    obtain ⟨k, fr, done, cur, v, rfl, rfl, rfl, hat, hown, hbel⟩ := hrel
    have h0 : fr ≤ k := hat.2.1
    have h1 : k ≤ s.size := hat.2.2.1
    have h2 : done.length ≤ k := hat.2.2.2.2
    have HAT := Lib.hid hat
    have HB := Lib.hid hbel
    have hown0 : wr.ownsRow w.heap.size 9 1 v done.length (done.map strv) := hown
    have hsz := hbel.size
    clear hat hown hbel
    by_cases hlt : k < s.size
    · by_cases hc : s[k] = b
      · have hq : ((s[k].toNat : Int) == (b.toNat : Int)) = true := by rw [hc]; simp
        have HAT2 := Lib.hid (HAT.out.cut hlt hc)
        have HP := Lib.hid HAT.out.piece
        clear hc
        go_wp2_with (at_builtin; refine wpList_append_own _ rfl _ _ 92 rfl w.heap.size 9 i0 (.string ByteArray.empty) 1 16 Try.underlying92 hi hz0 hz1 hz2 rfl (by decide) _ _ _ rfl (hown0.alloc _) ⟨wr.heap.size, 0, none⟩ 1 1 [.string (s.extract fr k)] rfl rfl ?c1 ?c2 ?c3 ?c4 ?c5 ?_)
        case c1 => exact cell_one_new _ _ _
        case c2 => simp [Value.oneCell']
        case c3 => unfold maxLen; omega
        case c4 => omega
        case c5 => simp; omega
        intro v' w2 hown' hgrow' _
        have HO : Hid (OwnsStrs w2 w.heap.size v' (done ++ [cur])) := by
          show OwnsStrs w2 w.heap.size v' (done ++ [cur])
          unfold OwnsStrs
          rw [List.length_append, List.map_append]
          have e : [Value.string (s.extract fr k)] = List.map strv [cur] := by rw [HP.out]; rfl
          rw [← e]
          exact hown'
        have HB2 : Hid (Below w.heap.size w w2) := ((HB.out).alloc hsz _).grown hgrow' (by simp; omega) (fun j hj => (hown0.lt j hj).1)
        clear hown' hgrow' hown0
        go_wp2
        go_roundw
        case rel => exact ⟨k + 1, k + 1, done ++ [cur], [], _, rfl, by go_num, by go_num, HAT2.out, HO.out, HB2.out⟩
        case measure => simp [intOf]; omega
      · have hq : ((s[k].toNat : Int) == (b.toNat : Int)) = false := by
          rw [beq_eq_false_iff_ne]; intro e; exact hc (UInt8.toNat_inj.mp (by omega))
        have HAT2 := Lib.hid (HAT.out.on hlt hc)
        have HO : Hid (OwnsStrs wr w.heap.size v done) := hown0
        clear hc hown0
        go_wp2
        go_roundw
        case rel => exact ⟨k + 1, fr, done, _, _, rfl, by go_num, rfl, HAT2.out, HO.out, HB.out⟩
        case measure => simp [intOf]; omega
    · obtain rfl : k = s.size := by omega
      have HP := Lib.hid HAT.out.piece
      have HALL := Lib.hid HAT.out.all
      go_wp2_with (at_builtin; refine wpList_append_own _ rfl _ _ 92 rfl w.heap.size 9 i0 (.string ByteArray.empty) 1 16 Try.underlying92 hi hz0 hz1 hz2 rfl (by decide) _ _ _ rfl (hown0.alloc _) ⟨wr.heap.size, 0, none⟩ 1 1 [.string (s.extract fr s.size)] rfl rfl ?d1 ?d2 ?d3 ?d4 ?d5 ?_)
      case d1 => exact cell_one_new _ _ _
      case d2 => simp [Value.oneCell']
      case d3 => unfold maxLen; omega
      case d4 => omega
      case d5 => simp; omega
      intro v' w2 hown' hgrow' _
      obtain ⟨g, cap, hv⟩ := ownsRow_succ hown'
      have HB2 : Hid (Below w.heap.size w w2) := ((HB.out).alloc hsz _).grown hgrow' (by simp; omega) (fun j hj => (hown0.lt j hj).1)
      have HO : Hid (OwnsStrs w2 w.heap.size (.slice (some ⟨g, 0, none⟩) (done.length + 1) cap) (done ++ [cur])) := by
        show OwnsStrs _ _ _ _
        unfold OwnsStrs
        rw [List.length_append, List.map_append]
        have e : [Value.string (s.extract fr s.size)] = List.map strv [cur] := by rw [HP.out]; rfl
        rw [← e, ← hv]
        exact hown'
      rw [hv]
      clear hown' hgrow' hown0 hv
      go_wp2
      go_ret
      refine ⟨g, cap, ?_, ?_, HB2.out⟩
      · rw [HALL.out, List.length_append]; rfl
      · rw [HALL.out, List.length_append]; exact HO.out
end Go.Proofs.Ytekdodlkimgbhaa
