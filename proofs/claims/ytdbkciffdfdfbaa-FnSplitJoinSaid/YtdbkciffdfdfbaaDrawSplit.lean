/-
  The contracts of what the law FnSplitJoin draws.
-/
import Derived.Test.YtdbkciffdfdfbaaCur
import Derived.Test.YtdbkciffdfdfbaaSplitImpl
import Derived.Test.YtdbkciffdfdfbaaStrs
namespace Go.Proofs.Ytdbkciffdfdfbaa
open Go.RowKit Go.Shelf Plain

theorem infoByte : (Try.prog.info? 5).map (fun i => (i.zero, i.size, i.bytes)) = some (some (.int .u8 0), 1, 1) := by kernel_rfl
/-- A row of zeros, as a text. -/
def zeros (N : Nat) : ByteArray := ⟨(List.replicate N (0 : UInt8)).toArray⟩
theorem size_zeros (N : Nat) : (zeros N).size = N := by
  have : (zeros N).size = (List.replicate N (0 : UInt8)).length := rfl
  rw [this, List.length_replicate]
theorem made_string {w : World} {base g N : Nat} (h : w.ownsRow base 5 1 (.slice (some ⟨g, 0, none⟩) N N) N (madeCells (Value.int .u8 0).cells (N * 1)).toList) :
    (convert 22 9 (.slice (some ⟨g, 0, none⟩) N N)).run Try.prog w = .ok (.string (zeros N)) w := by
  have hl : (List.replicate N (0 : UInt8)).length = N := List.length_replicate
  have e : (madeCells (Value.int .u8 0).cells (N * 1)).toList = List.replicate N (.int .u8 0) := by
    have : (Value.int .u8 0).cells = #[.int .u8 0] := rfl
    rw [this, toList_madeCells_one, Nat.mul_one]
  rw [e] at h
  have := run_convert_bytes_back (P := Try.prog) w 22 9 5 ⟨g, 0, none⟩ N (List.replicate N (0 : UInt8)) Try.underlying22 Try.underlying5 Try.underlying9 (fun j hj => by
    rw [hl] at hj
    have ea : (⟨g, 0, none⟩ : Addr).add j = ⟨g, j, none⟩ := by unfold Addr.add; split <;> simp_all
    rw [ea, h.cellAt j (by omega), List.getElem?_replicate, if_pos hj, List.getElem_replicate]
    rfl)
  rw [hl] at this
  exact this

theorem turned_alloc (B : Nat) (w : World) (o : Obj) : Turned B w (w.alloc o) :=
  ⟨rfl, rfl, rfl, by simp, fun j hj _ => (World.grownBy_alloc w o none).block j hj (fun e => by cases e)⟩

theorem any1_turned (w : World) (B m : Nat) (hc : Cur w B m) (hm : m ≤ 999999998) :
    Calls Try.prog 25 #[.pointer (some ⟨B, 0, none⟩)] w fun e w' => ∃ t : ByteArray, t.size ≤ 10 ∧ e = .returned (.string t) ∧ Cur w' B (m + 2) ∧ Turned B w w' := by
  have HC := Lib.hid hc
  have hlt := hc.lt
  clear hc
  go_enter Try.func25, Try.ntmps25
  go_wp2_with fail
  refine (of_any _ B m w.heap.size 9 9 (fun t => t.size ≤ 10) (HC.out.alloc _) hm (by omega) (by omega) (by omega) ?_).mono ?_
  · intro j hj
    refine alloc_all w _ _ (fun v => ∃ t, v = .string t ∧ t.size ≤ 10) ?_ j hj
    intro v hv
    simp at hv
    rcases hv with rfl | rfl | rfl | rfl | rfl | rfl | rfl | rfl | rfl <;> exact ⟨_, rfl, by decide⟩
  rintro e w1 ⟨t, ht, rfl, hc1, ht1⟩
  have HC1 := Lib.hid hc1
  have HT1 := Lib.hid ht1
  clear hc1 ht1
  go_wp2
  go_ret
  exact ⟨t, ht, rfl, HC1.out, (turned_alloc B w _).trans HT1.out⟩

theorem drawSplit_any (a : Option Addr) (len cap : Nat) (w : World) (hl : len ≤ 65536) (hr : CodeRow w a len w.heap.size) :
    Calls Try.prog 9 #[.slice a len cap] w fun e w' => ∃ t u : ByteArray, t.size ≤ 10 ∧ u.size ≤ 10 ∧ e = .returned (.tuple #[.string t, .string u]) ∧ Below w.heap.size w w' := by
  have HC := Lib.hid (Cur.new w a len cap hl hr)
  clear hr
  go_enter Try.func9, Try.ntmps9
  go_wp2_with fail
  refine (any1_turned _ w.heap.size 0 HC.out (by omega)).mono ?_
  rintro e w1 ⟨t, ht, rfl, hc1, ht1⟩
  have HC1 := Lib.hid hc1
  have HT1 := Lib.hid ht1
  have hz := ht1.size
  have hlt := hc1.lt
  simp at hz
  clear hc1 ht1
  go_wp2_with fail
  refine (of_any _ w.heap.size 2 w1.heap.size 5 5 (fun t => t.size ≤ 10) (HC1.out.alloc _) (by omega) (by omega) (by omega) (by omega) ?_).mono ?_
  · intro j hj
    refine alloc_all w1 _ _ (fun v => ∃ t, v = .string t ∧ t.size ≤ 10) ?_ j hj
    intro v hv
    simp at hv
    rcases hv with rfl | rfl | rfl | rfl | rfl <;> exact ⟨_, rfl, by decide⟩
  rintro e w2 ⟨u, hu, rfl, hc2, ht2⟩
  have HT2 := Lib.hid ht2
  clear hc2 ht2
  go_wp2
  go_ret2
  refine ⟨t, u, ht, hu, rfl, ?_⟩
  exact (((Below.refl _ w).alloc (Nat.le_refl _) _).trans (HT1.out.below (by simp) (Nat.le_refl _))).alloc (by omega) _ |>.trans (HT2.out.below (by simp; omega) (Nat.le_refl _))

theorem drawLess_any (a : Option Addr) (len cap : Nat) (w : World) (hl : len ≤ 65536) (hr : CodeRow w a len w.heap.size) :
    Calls Try.prog 14 #[.slice a len cap] w fun e w' => ∃ t u : ByteArray, t.size ≤ 10 ∧ u.size ≤ 10 ∧ e = .returned (.tuple #[.string t, .string u]) ∧ Below w.heap.size w w' := by
  have HC := Lib.hid (Cur.new w a len cap hl hr)
  clear hr
  go_enter Try.func14, Try.ntmps14
  go_wp2_with fail
  refine (any1_turned _ w.heap.size 0 HC.out (by omega)).mono ?_
  rintro e w1 ⟨t, ht, rfl, hc1, ht1⟩
  have HC1 := Lib.hid hc1
  have HT1 := Lib.hid ht1
  have hz := ht1.size
  have hlt := hc1.lt
  simp at hz
  clear hc1 ht1
  go_wp2_with fail
  refine (any1_turned _ w.heap.size 2 HC1.out (by omega)).mono ?_
  rintro e w2 ⟨u, hu, rfl, hc2, ht2⟩
  have HT2 := Lib.hid ht2
  clear hc2 ht2
  go_wp2
  go_ret2
  refine ⟨t, u, ht, hu, rfl, ?_⟩
  exact (((Below.refl _ w).alloc (Nat.le_refl _) _).trans (HT1.out.below (by simp) (Nat.le_refl _))).trans (HT2.out.below (by omega) (Nat.le_refl _))

theorem Cur.below1 {w w' : World} {B m : Nat} (h : Cur w B m) (hb : Below (B + 1) w w') : Cur w' B m := by
  obtain ⟨a, len, cap, k, s, hc, hk, hl, hr⟩ := h
  refine ⟨a, len, cap, k, s, (hb.block B (by omega)).trans hc, hk, hl, ?_⟩
  rcases hr with h | ⟨b, o, ha, hb2, hcell⟩
  · exact .inl h
  · refine .inr ⟨b, o, ha, hb2, fun j hj => ?_⟩
    obtain ⟨n, hn, hx⟩ := hcell j hj
    exact ⟨n, hn, (hb.cell (p := ⟨b, o + j, none⟩) (show b < B + 1 by omega)).trans hx⟩
theorem row_turned {B : Nat} {e : TypeId} {k : Nat} {v : Value} {n : Nat} {xs : List Value} {w w' : World} (h : w.ownsRow (B + 1) e k v n xs) (ht : Turned B w w') : w'.ownsRow (B + 1) e k v n xs := by
  refine h.kept ht ?_
  cases hv : v.ownBlock with
  | none => exact .inl (by
      rcases h.2 with ⟨rfl, _⟩ | ⟨g, c, cur, rfl, _⟩
      · rfl
      · simp [Value.ownBlock] at hv)
  | some g => exact .inr (fun e => by have := (h.lt g hv).1; have := Option.some.inj e; omega)
end Go.Proofs.Ytdbkciffdfdfbaa
