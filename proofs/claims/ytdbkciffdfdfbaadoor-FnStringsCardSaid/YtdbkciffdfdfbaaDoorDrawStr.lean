/-
  The contracts of the reference's draws for FnStrings: each gives some argument of a bounded size, and nothing that was there turns.
-/
import Derived.Test.YtdbkciffdfdfbaaDoorCur
import Derived.Test.YtdbkciffdfdfbaaDoorNum
import Derived.OwnWalk
import Derived.Laws.OwnMore
import Derived.Laws.IdiomStrings
import Derived.Laws.BytesString
namespace Go.Proofs.YtdbkciffdfdfbaaDoor
open Go.RowKit Plain

theorem infoByte : (Tryd.prog.info? 5).map (fun i => (i.zero, i.size, i.bytes)) = some (some (.int .u8 0), 1, 1) := by kernel_rfl

theorem drawFormat_any (a : Option Addr) (len cap : Nat) (w : World) (hl : len ≤ 65536) (hr : CodeRow w a len w.heap.size) :
    Calls Tryd.prog 9 #[.slice a len cap] w fun e w' => ∃ n : Int, -1000000 ≤ n ∧ n ≤ 1000000 ∧ e = .returned (.int .i64 n) ∧ Below w.heap.size w w' := by
  have HC := Lib.hid (Cur.new w a len cap hl hr)
  clear hr
  go_enter Tryd.func9, Tryd.ntmps9
  go_wp2_with fail
  refine (pick_any _ w.heap.size 0 1000 HC.out (by omega) (by omega) (by omega)).mono ?_
  rintro e w1 ⟨k, hk, rfl, hc1, ht1⟩
  have HC1 := Lib.hid hc1
  have HT1 := Lib.hid ht1
  have hz := ht1.size
  have hlt := hc1.lt
  simp at hz
  clear hc1 ht1
  go_wp2_with fail
  refine (among_any _ w.heap.size 2 w1.heap.size 9 9 (fun t => -1000000 ≤ t ∧ t ≤ 1000000) (HC1.out.alloc _) (by omega) (by omega) (by omega) (by omega) ?_).mono ?_
  · intro j hj
    refine alloc_all w1 _ _ (fun v => ∃ t, v = .int .i64 t ∧ (-1000000 ≤ t ∧ t ≤ 1000000)) ?_ j hj
    intro v hv
    simp at hv
    rcases hv with rfl | rfl | rfl | rfl | rfl | rfl | rfl | rfl | rfl <;> exact ⟨_, rfl, by omega, by omega⟩
  rintro e w2 ⟨t, ⟨t0, t1⟩, rfl, hc2, ht2⟩
  have HT2 := Lib.hid ht2
  clear hc2 ht2
  go_wp2
  go_ret
  refine ⟨t, t0, t1, rfl, ?_⟩
  exact (((Below.refl _ w).alloc (Nat.le_refl _) _).trans (HT1.out.below (by simp) (Nat.le_refl _))).alloc (by omega) _ |>.trans (HT2.out.below (by simp; omega) (Nat.le_refl _))

theorem drawParse_any (a : Option Addr) (len cap : Nat) (w : World) (hl : len ≤ 65536) (hr : CodeRow w a len w.heap.size) :
    Calls Tryd.prog 12 #[.slice a len cap] w fun e w' => ∃ t : ByteArray, t.size ≤ 30 ∧ e = .returned (.string t) ∧ Below w.heap.size w w' := by
  have HC := Lib.hid (Cur.new w a len cap hl hr)
  clear hr
  go_enter Tryd.func12, Tryd.ntmps12
  go_wp2_with fail
  refine (one_any _ w.heap.size 0 2 HC.out (by omega) (by omega) (by omega)).mono ?_
  rintro e w1 ⟨b, rfl, hc1, ht1⟩
  have HC1 := Lib.hid hc1
  have HT1 := Lib.hid ht1
  have hz := ht1.size
  have hlt := hc1.lt
  simp at hz
  clear hc1 ht1
  cases b
  · go_wp2_with fail
    refine (pick_any _ w.heap.size 2 2000 HC1.out (by omega) (by omega) (by omega)).mono ?_
    rintro e w2 ⟨k, hk, rfl, hc2, ht2⟩
    have HT2 := Lib.hid ht2
    clear hc2 ht2
    go_wp2_with fail
    refine (l1Num_any _ _ (by omega) (by omega)).mono ?_
    rintro e w3 ⟨rfl, n, rfl⟩
    have hns := num_size ((k : Int) - 1000) (by omega) (by omega)
    go_wp2
    go_ret
    refine ⟨_, by omega, rfl, ?_⟩
    exact ((((Below.refl _ w).alloc (Nat.le_refl _) _).trans (HT1.out.below (by simp) (Nat.le_refl _))).trans (HT2.out.below (by omega) (Nat.le_refl _))).trans ⟨rfl, rfl, rfl, Nat.le_refl _, fun _ _ => rfl⟩
  · go_wp2_with fail
    refine (of_any _ w.heap.size 2 w1.heap.size 11 11 (fun t => t.size ≤ 30) (HC1.out.alloc _) (by omega) (by omega) (by omega) (by omega) ?_).mono ?_
    · intro j hj
      refine alloc_all w1 _ _ (fun v => ∃ t, v = .string t ∧ t.size ≤ 30) ?_ j hj
      intro v hv
      simp at hv
      rcases hv with rfl | rfl | rfl | rfl | rfl | rfl | rfl | rfl | rfl | rfl | rfl <;> exact ⟨_, rfl, by decide⟩
    rintro e w2 ⟨t, ht, rfl, hc2, ht2⟩
    have HT2 := Lib.hid ht2
    clear hc2 ht2
    go_wp2
    go_ret
    refine ⟨t, ht, rfl, ?_⟩
    exact (((Below.refl _ w).alloc (Nat.le_refl _) _).trans (HT1.out.below (by simp) (Nat.le_refl _))).alloc (by omega) _ |>.trans (HT2.out.below (by simp; omega) (Nat.le_refl _))

/-- A row of zeros, as a text. -/
def zeros (N : Nat) : ByteArray := ⟨(List.replicate N (0 : UInt8)).toArray⟩
theorem size_zeros (N : Nat) : (zeros N).size = N := by
  have : (zeros N).size = (List.replicate N (0 : UInt8)).length := rfl
  rw [this, List.length_replicate]
theorem made_string {w : World} {base g N : Nat} (h : w.ownsRow base 5 1 (.slice (some ⟨g, 0, none⟩) N N) N (madeCells (Value.int .u8 0).cells (N * 1)).toList) :
    (convert 22 9 (.slice (some ⟨g, 0, none⟩) N N)).run Tryd.prog w = .ok (.string (zeros N)) w := by
  have hl : (List.replicate N (0 : UInt8)).length = N := List.length_replicate
  have e : (madeCells (Value.int .u8 0).cells (N * 1)).toList = List.replicate N (.int .u8 0) := by
    have : (Value.int .u8 0).cells = #[.int .u8 0] := rfl
    rw [this, toList_madeCells_one, Nat.mul_one]
  rw [e] at h
  have := run_convert_bytes_back (P := Tryd.prog) w 22 9 5 ⟨g, 0, none⟩ N (List.replicate N (0 : UInt8)) Tryd.underlying22 Tryd.underlying5 Tryd.underlying9 (fun j hj => by
    rw [hl] at hj
    have ea : (⟨g, 0, none⟩ : Addr).add j = ⟨g, j, none⟩ := by unfold Addr.add; split <;> simp_all
    rw [ea, h.cellAt j (by omega), List.getElem?_replicate, if_pos hj, List.getElem_replicate]
    rfl)
  rw [hl] at this
  exact this
set_option maxHeartbeats 400000 in
theorem drawAppend_any (a : Option Addr) (len cap : Nat) (w : World) (hl : len ≤ 65536) (hr : CodeRow w a len w.heap.size) :
    Calls Tryd.prog 15 #[.slice a len cap] w fun e w' => ∃ t : ByteArray, t.size ≤ 4000 ∧ e = .returned (.string t) ∧ Below w.heap.size w w' := by
  obtain ⟨i0, hi, hz0, hz1, hz2⟩ := info_parts infoByte
  have HC := Lib.hid (Cur.new w a len cap hl hr)
  clear hr
  go_enter Tryd.func15, Tryd.ntmps15
  go_wp2_with fail
  refine (one_any _ w.heap.size 0 20 HC.out (by omega) (by omega) (by omega)).mono ?_
  rintro e w1 ⟨b, rfl, hc1, ht1⟩
  have HC1 := Lib.hid hc1
  have HT1 := Lib.hid ht1
  have hz := ht1.size
  have hlt := hc1.lt
  simp at hz
  clear hc1 ht1
  cases b
  · go_wp2_with fail
    refine (any1_any _ w.heap.size 2 HC1.out (by omega)).mono ?_
    rintro e w2 ⟨t, ht, rfl, hc2, hb2⟩
    have HB2 := Lib.hid (hb2 w.heap.size (by omega) (Nat.le_refl _))
    clear hc2 hb2
    go_wp2
    go_ret
    refine ⟨t, by omega, rfl, ?_⟩
    exact (((Below.refl _ w).alloc (Nat.le_refl _) _).trans (HT1.out.below (by simp) (Nat.le_refl _))).trans HB2.out
  · go_wp2_with fail
    refine (pick_any _ w.heap.size 2 10 HC1.out (by omega) (by omega) (by omega)).mono ?_
    rintro e w2 ⟨k, hk, rfl, hc2, ht2⟩
    have HT2 := Lib.hid ht2
    have hz2s := ht2.size
    clear hc2 ht2
    obtain ⟨N, hN⟩ : ∃ N : Nat, N = 3990 + k := ⟨_, rfl⟩
    have hNi : (3990 : Int) + (k : Int) = (N : Int) := by omega
    have hN2 : N ≤ 4000 := by omega
    have HNI := Lib.hid hNi
    have hbytes : i0.bytes * N ≤ 281474976710656 := by rw [hz2]; omega
    have HBY := Lib.hid hbytes
    clear hN hNi hbytes
    go_wp2_with (at_make; refine wpList_make_full _ rfl _ _ 22 rfl w2.heap.size 5 i0 (.int .u8 0) 1 Tryd.underlying22 hi hz0 hz1 .i64 .i64 _ _ N rfl rfl HNI.out HNI.out HBY.out (by unfold maxLen; omega) (Nat.le_refl _) ?_; intro w3 hown hgrow; have hconv := made_string hown)
    go_ret
    exact ⟨_, by rw [size_zeros]; exact hN2, rfl, ((((Below.refl _ w).alloc (Nat.le_refl _) _).trans (HT1.out.below (by simp) (Nat.le_refl _))).trans (HT2.out.below (by omega) (Nat.le_refl _))).grown hgrow (by omega) (fun _ h => by cases h)⟩
end Go.Proofs.YtdbkciffdfdfbaaDoor
