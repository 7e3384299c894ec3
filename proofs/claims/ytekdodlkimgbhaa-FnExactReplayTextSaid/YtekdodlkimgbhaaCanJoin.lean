/-
  The contract of impl.canJoin: whether the elements, with separators between them, have at most 4000 bytes, and none of them holds the separator.
-/
import Derived.Test.YtekdodlkimgbhaaStrs
import Derived.Deep.LoopGhost
import Derived.WalkMore
namespace Go.Proofs.Ytekdodlkimgbhaa
open Go.RowKit Plain

/-- What canJoin answers. -/
def CanOk (ss : List ByteArray) (b : UInt8) : Prop := total ss + ss.length ≤ 4001 ∧ ∀ s ∈ ss, b ∉ s.data.toList
def CanPost (ss : List ByteArray) (b : UInt8) (w : World) (e : Ending) (w' : World) : Prop :=
  ((CanOk ss b ∧ e = .returned (.bool true)) ∨ (¬ CanOk ss b ∧ e = .returned (.bool false))) ∧ w = w'

set_option maxHeartbeats 1000000 in
theorem can_any (v : Value) (ss : List ByteArray) (b : UInt8) (n : Int) (w : World) (hv : StrRow w v ss) (hb : n = b.toNat) (h0 : ss ≠ []) (hn : ss.length ≤ 1048576) (ht : total ss ≤ 1048576) :
    Calls Try.prog 95 #[v, .int .u8 n] w (CanPost ss b w) := by
  subst hb
  rcases hv with ⟨a, c, rfl, h⟩ | ⟨bk, o, c, rfl, _, hbl, hc⟩
  · exact absurd h h0
  have hpos : 0 < ss.length := List.length_pos_iff.2 h0
  have HC := Lib.hid hc
  clear hc h0
  go_enter Try.func95, Try.ntmps95
  go_wp2
  go_step3
  go_wp2
  go_step3
  go_wp2
  go_loopg [5, 6, 15] ss.length (fun g s5 s6 s15 wx => ∃ (k : Nat) (S : Int), k + g = ss.length ∧ s15 = .int .i64 k ∧ s5 = .int .i64 S ∧ s6 = .bool true ∧ 0 ≤ S ∧ S ≤ 3000000 ∧ Hid (S + 1 = ss.length + total (ss.take k)) ∧ Hid (k = 0 ∨ S ≤ 4000) ∧ Hid (∀ s ∈ ss.take k, b ∉ s.data.toList) ∧ w = wx)
  case atStart => exact ⟨0, _, by omega, rfl, rfl, rfl, by omega, by omega, by show _ = _; simp [total], .inl rfl, by intro s hs; simp at hs, rfl⟩
  case round =>
    obtain ⟨k, S, hkg, rfl, rfl, rfl, hS0, hS1, HS, HK, HN, rfl⟩ := hrel
    cases gk with
    | zero =>
      have hk : ¬ ((k : Int) < (ss.length : Int)) := by omega
      have hke : k = ss.length := by omega
      have HOK : Hid (CanOk ss b) := by
        have a1 := HS.out
        have a2 := HK.out
        have a3 := HN.out
        rw [hke, List.take_length] at a1 a3
        exact ⟨by omega, a3⟩
      clear hke
      go_wp2
      try rw [Exit.noGoto_ret]
      go_ret
      exact ⟨.inl ⟨HOK.out, rfl⟩, rfl⟩
    | succ g =>
      have hlt : k < ss.length := by omega
      have hcell := HC.out k hlt
      have hxs := Nat.le_trans (size_le_total ss ss[k] (List.getElem_mem _)) ht
      have HT : Hid (total (ss.take (k + 1)) = total (ss.take k) + ss[k].size) := by rw [take_snoc' ss k hlt]; exact total_snoc _ _
      have HTL : Hid (total (ss.take (k + 1)) ≤ total ss) := total_take_le ss (k + 1)
      have hS2 : S + ss[k].size ≤ 3000000 := by have := HS.out; have := HT.out; have := HTL.out; omega
      have HMEM : Hid (ss[k] ∈ ss) := List.getElem_mem _
      have HTK : Hid (ss.take (k + 1) = ss.take k ++ [ss[k]]) := take_snoc' ss k hlt
      generalize ss[k] = x at *
      by_cases hbig : S + x.size ≤ 4000
      · go_wp2
        go_loopg [6, 27] x.size (fun h s6 s27 wx => ∃ j : Nat, j + h = x.size ∧ s27 = .int .i64 j ∧ s6 = .bool true ∧ Hid (b ∉ x.data.toList.take j) ∧ w = wx)
        case atStart => exact ⟨0, by omega, rfl, rfl, by show b ∉ _; simp, rfl⟩
        case round =>
          obtain ⟨j, hjh, rfl, rfl, HB, rfl⟩ := hrel
          cases gk with
          | zero =>
            have hj : ¬ ((j : Int) < (x.size : Int)) := by omega
            have HX : Hid (∀ s ∈ ss.take (k + 1), b ∉ s.data.toList) := by
              intro s hs
              rw [HTK.out] at hs
              rcases List.mem_append.1 hs with hs | hs
              · exact HN.out s hs
              · simp only [List.mem_cons, List.not_mem_nil, or_false] at hs
                subst hs
                have := HB.out
                rw [show j = s.size by omega, take_all] at this
                exact this
            go_wp2
            go_roundg g
            case rel => exact ⟨k + 1, _, by omega, by go_num, rfl, rfl, by omega, by omega, by have := HS.out; have := HT.out; show _ = _; omega, .inr hbig, HX, rfl⟩
            case measure => omega
          | succ h =>
            have hj : j < x.size := by omega
            by_cases hc : x[j] = b
            · have hq : ((x[j].toNat : Int) == (b.toNat : Int)) = true := by rw [hc]; simp
              have HNO : Hid (¬ CanOk ss b) := by
                intro hok
                refine hok.2 x HMEM.out ?_
                rw [← hc]
                have : x[j] = x.data.toList[j]'(by simpa using hj) := rfl
                rw [this]; exact List.getElem_mem _
              clear hc
              go_wp2
              try rw [Exit.noGoto_ret]
              go_ret
              exact ⟨.inr ⟨HNO.out, rfl⟩, rfl⟩
            · have hq : ((x[j].toNat : Int) == (b.toNat : Int)) = false := by
                rw [beq_eq_false_iff_ne]; intro e; exact hc (UInt8.toNat_inj.mp (by omega))
              have HB2 : Hid (b ∉ x.data.toList.take (j + 1)) := by
                show b ∉ _
                rw [take_snoc x j hj]
                intro hm
                rcases List.mem_append.1 hm with hm | hm
                · exact HB.out hm
                · simp only [List.mem_cons, List.not_mem_nil, or_false] at hm; exact hc hm.symm
              clear hc
              go_wp2
              go_roundg h
              case rel => exact ⟨j + 1, by omega, by go_num, rfl, HB2, rfl⟩
              case measure => omega
      · have HNO : Hid (¬ CanOk ss b) := by
          intro h
          have h1 := h.1
          have a1 := HS.out
          have a2 := HT.out
          have a3 := HTL.out
          omega
        have hb2 : 4000 < S + x.size := by omega
        clear hbig
        go_wp2
        try rw [Exit.noGoto_ret]
        go_ret
        exact ⟨.inr ⟨HNO.out, rfl⟩, rfl⟩
end Go.Proofs.Ytekdodlkimgbhaa
