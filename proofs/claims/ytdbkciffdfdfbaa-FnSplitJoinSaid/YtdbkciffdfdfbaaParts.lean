/-
  The contract of impl.partsOf: the function value that it hands back yields the parts of the text between the separators, in their order, to every loop body that keeps what lay below the loop.
-/
import Derived.Test.YtdbkciffdfdfbaaSplit
import Derived.RangeFuncBox
import Derived.RangeFuncNested
import Derived.RangeFuncLeaves
import Derived.Shelf.Abstract
import Derived.OwnWalkIn
import Derived.TacticsInMore
import Derived.LoopNIn
import Derived.LoopIn
import Derived.BigRegionIn
import Derived.Maps.AppendAt
import Derived.Deep.Draws
namespace Go.Proofs.Ytdbkciffdfdfbaa
open Go.RowKit Go.Shelf Plain

attribute [local go_sem] Oper.semAt_some

/-- A part: at most 4000 bytes. -/
abbrev Part := { s : ByteArray // s.size ≤ 4000 }
def listOf (p : Part) : List UInt8 := p.1.data.toList
theorem part_str (p : Part) : Value.string p.1 = strv (listOf p) := rfl

/-- What a round must keep: the two boxes that the iterator reads. -/
def KeepsAt (B1 B2 : Nat) (W W' : World) : Prop := W'.heap[B1]? = W.heap[B1]? ∧ W'.heap[B2]? = W.heap[B2]?
theorem KeepsAt.refl (B1 B2 : Nat) (W : World) : KeepsAt B1 B2 W W := ⟨rfl, rfl⟩
theorem KeepsAt.trans {B1 B2 : Nat} {a b c : World} (h : KeepsAt B1 B2 a b) (k : KeepsAt B1 B2 b c) : KeepsAt B1 B2 a c := ⟨k.1.trans h.1, k.2.trans h.2⟩
theorem KeepsAt.drew {B1 B2 : Nat} {a b : World} (h : KeepsAt B1 B2 a b) : KeepsAt B1 B2 a b.drew := h
theorem KeepsAt.c1 {B1 B2 : Nat} {a b : World} (h : KeepsAt B1 B2 a b) : b.cell? ⟨B1, 0, none⟩ = a.cell? ⟨B1, 0, none⟩ := by simp only [World.cell?, h.1]
theorem KeepsAt.c2 {B1 B2 : Nat} {a b : World} (h : KeepsAt B1 B2 a b) : b.cell? ⟨B2, 0, none⟩ = a.cell? ⟨B2, 0, none⟩ := by simp only [World.cell?, h.2]
theorem KeepsAt.put {B1 B2 : Nat} {w : World} (h1 : B1 < w.heap.size) (h2 : B2 < w.heap.size) (W : World) (l : Nat) (o o' : Obj) (hl : w.heap.size ≤ l) (_ : W.heap[l]? = some o) (_ : o.isCells = false) (_ : o.isWalk = false) : KeepsAt B1 B2 W (W.putObj l o') := by
  have hlt := (Array.getElem?_eq_some_iff.1 ‹W.heap[l]? = some o›).1
  have hb := (Below.refl w.heap.size W).grown (grownBy_putObj' W l o') (by omega) (fun k e => by cases e; omega)
  exact ⟨hb.block B1 h1, hb.block B2 h2⟩

set_option maxRecDepth 100000 in
set_option maxHeartbeats 1000000 in
theorem parts1_in (F : Fence) (n : Nat) (hf : F.fn 37) (hro : F.round = none) (hn : 1 ≤ n) (l B1 B2 : Nat) (s : ByteArray) (b : UInt8) (hs : s.size ≤ 4000) (J Jx : List Part → World → Prop)
    (hA : ∀ pre W k, J pre W → J pre (W.drewN k))
    (hY : ∀ pre x W, J pre W → pre.length < s.size + 1 → YieldAt F (n - 1) Try.prog l #[.string x.1] W fun e W' =>
      (e = .returned (.bool true) ∧ J (pre ++ [x]) W' ∧ KeepsAt B1 B2 W W') ∨ (e = .returned (.bool false) ∧ Jx (pre ++ [x]) W'))
    (W : World) (h1 : W.cell? ⟨B1, 0, none⟩ = some (.string s)) (h2 : W.cell? ⟨B2, 0, none⟩ = some (.int .u8 (b.toNat : Int))) (h0 : J [] W) :
    CallsIn F n Try.prog 37 #[.func (.yield l) #[] #[], .pointer (some ⟨B1, 0, none⟩), .pointer (some ⟨B2, 0, none⟩)] W fun e W' => (∃ v, e = .returned v) ∧
      ((∃ ys : List Part, ys.map listOf = parts b s.data.toList ∧ J ys W') ∨ (∃ pre, True ∧ Jx pre W')) := by
  refine callsIn_of_wp Try.func37 rfl hf ?_ hro
  simp only [Try.ntmps37, List.size_toArray, List.length_cons, List.length_nil, Nat.reduceAdd, Nat.reduceSub, Array.replicate_succ, Array.replicate_zero, List.push_toArray, List.append_toArray, List.nil_append, List.cons_append]
  gi_wp2
  gi_loopw [4, 8] (fun f i wr => ∃ (k fr : Nat) (cur : List UInt8) (pre : List Part), i = .int .i64 k ∧ f = .int .i64 fr ∧ At b s k fr (pre.map listOf) cur ∧ J pre wr ∧ KeepsAt B1 B2 W wr)
    (fun _ i _ => s.size - (intOf i).toNat)
  case atStart => exact ⟨0, 0, [], [], rfl, rfl, At.start b s, h0, KeepsAt.refl _ _ _⟩
  case round =>
    obtain ⟨k, fr, cur, pre, rfl, rfl, hat, hJ, hbel⟩ := hrel
    have c1 : wr.cell? ⟨B1, 0, none⟩ = some (.string s) := hbel.c1.trans h1
    have c2 : wr.cell? ⟨B2, 0, none⟩ = some (.int .u8 (b.toNat : Int)) := hbel.c2.trans h2
    have h3 : fr ≤ k := hat.2.1
    have h4 : k ≤ s.size := hat.2.2.1
    have h5 : pre.length ≤ k := by have := hat.2.2.2.2; simpa using this
    have HAT := Lib.hid hat
    have HB := Lib.hid hbel
    have HJ := Lib.hid hJ
    clear hat hbel hJ
    by_cases hlt : k < s.size
    · by_cases hc : s[k] = b
      · have hq : ((s[k].toNat : Int) != (b.toNat : Int)) = false := by rw [hc]; simp
        have hq2 : ((s[k].toNat : Int) == (b.toNat : Int)) = true := by rw [hc]; simp
        have HAT2 := Lib.hid (HAT.out.cut hlt hc)
        have HP := Lib.hid HAT.out.piece
        clear hc
        have hps : (s.extract fr k).size ≤ 4000 := by rw [ByteArray.size_extract]; omega
        have hJ2 : J pre wr.drew := hA pre wr 1 HJ.out
        obtain ⟨fn, tmps, assign, body, hy, hR⟩ := hY pre ⟨s.extract fr k, hps⟩ wr.drew hJ2 (by omega)
        dsimp only at hy
        have HR := Lib.hid hR
        clear hR hJ2
        gi_wp2
        gi_region
        all_goals gi_wp2
        all_goals refine HR.out.mono ?_
        all_goals rintro e W3 (⟨rfl, hJ3, hk3⟩ | ⟨rfl, hJx3⟩)
        all_goals first
          | (have HJ3 := Lib.hid hJ3
             have HB3 : Hid (KeepsAt B1 B2 W W3) := (HB.out.drew).trans hk3
             clear hJ3 hk3
             gi_wp2
             go_roundw
             case rel => exact ⟨k + 1, k + 1, [], pre ++ [⟨s.extract fr k, hps⟩], by go_num, by go_num, (by
               have e : (pre ++ [(⟨s.extract fr k, hps⟩ : Part)]).map listOf = pre.map listOf ++ [cur] := by
                 rw [List.map_append]
                 show _ ++ [(s.extract fr k).data.toList] = _
                 rw [HP.out]
               rw [e]; exact HAT2.out), HJ3.out, HB3.out⟩
             case measure => simp [intOf]; omega)
          | (have HJX := Lib.hid hJx3
             clear hJx3
             gi_wp2
             refine bodyPost_ret (results_none rfl _ _ _) rfl ?_
             exact ⟨⟨_, rfl⟩, .inr ⟨_, trivial, HJX.out⟩⟩)
      · have hq : ((s[k].toNat : Int) != (b.toNat : Int)) = true := by
          rw [bne_iff_ne]; intro e; exact hc (UInt8.toNat_inj.mp (by omega))
        have hq2 : ((s[k].toNat : Int) == (b.toNat : Int)) = false := by
          rw [beq_eq_false_iff_ne]; intro e; exact hc (UInt8.toNat_inj.mp (by omega))
        have HAT2 := Lib.hid (HAT.out.on hlt hc)
        have HJ2 : Hid (J pre wr.drew) := hA pre wr 1 HJ.out
        clear hc
        gi_wp2
        gi_region
        all_goals gi_wp2
        all_goals go_roundw
        all_goals first
          | exact ⟨k + 1, fr, _, pre, by go_num, rfl, HAT2.out, HJ2.out, HB.out.drew⟩
          | (simp [intOf]; omega)
    · obtain rfl : k = s.size := by omega
      have HP := Lib.hid HAT.out.piece
      have HALL := Lib.hid HAT.out.all
      have hps : (s.extract fr s.size).size ≤ 4000 := by rw [ByteArray.size_extract]; omega
      obtain ⟨fn, tmps, assign, body, hy, hR⟩ := hY pre ⟨s.extract fr s.size, hps⟩ wr HJ.out (by omega)
      dsimp only at hy
      have HR := Lib.hid hR
      clear hR
      gi_wp2
      refine HR.out.mono ?_
      rintro e W3 (⟨rfl, hJ3, hk3⟩ | ⟨rfl, hJx3⟩)
      · have HJ3 := Lib.hid hJ3
        clear hJ3 hk3
        gi_wp2
        go_end0
        refine ⟨⟨_, rfl⟩, .inl ⟨pre ++ [⟨s.extract fr s.size, hps⟩], ?_, HJ3.out⟩⟩
        rw [HALL.out, List.map_append]
        show _ ++ [(s.extract fr s.size).data.toList] = _
        rw [HP.out]
      · have HJX := Lib.hid hJx3
        clear hJx3
        gi_wp2
        go_end0
        exact ⟨⟨_, rfl⟩, .inr ⟨_, trivial, HJX.out⟩⟩
end Go.Proofs.Ytdbkciffdfdfbaa
