/-
  The contracts of the reference's drawing of tiles, sides, cells and forms (spec.l1Cur): some number comes out, and nothing but the drawer's own block turns.
-/
import Derived.Test.YtknjmkapabjolaaCur
import Derived.Test.YtknjmkapabjolaaBaseA
namespace Go.Proofs.Ytknjmkapabjolaa
open Go.RowKit Plain
attribute [local go_sem] store_new

theorem Turned.alloc {B : Nat} {a w : World} (h : Turned B a w) (o : Obj) : Turned B a (w.alloc o) :=
  ⟨h.os, h.tape, h.output, by have := h.size; simp; omega, fun i hi hne => (heap_alloc_old w o (Nat.lt_of_lt_of_le hi h.size)).trans (h.block i hi hne)⟩
theorem Turned.setNew {B : Nat} {a w : World} (h : Turned B a w) {p : Addr} (hp : a.heap.size ≤ p.block) (v : Value) : Turned B a (w.setCell p v) :=
  ⟨h.os, h.tape, h.output, by simpa using h.size, fun i hi hne => (heap_setCell_other w p i v (by omega)).trans (h.block i hi hne)⟩
theorem Turned.rowNew {B : Nat} {a w : World} (h : Turned B a w) {b : Nat} (hp : a.heap.size ≤ b) (cs : Array Value) : Turned B a (w.setRow b cs) :=
  ⟨h.os, h.tape, h.output, by simpa using h.size, fun i hi hne => (setRow_other w b i cs (by omega)).trans (h.block i hi hne)⟩
theorem Blk.turned {w w' : World} {B b n : Nat} {f : Nat → Int} {t : TypeId} (h : Blk w b n f t) (k : Turned B w w') (hne : b ≠ B) : Blk w' b n f t :=
  (k.block b h.lt (by intro e; cases e; exact hne rfl)).trans h
theorem CodeRow.setNew {w : World} {a : Option Addr} {len B : Nat} (h : CodeRow w a len B) {p : Addr} (hp : B < p.block) (v : Value) : CodeRow (w.setCell p v) a len B := by
  rcases h with h | ⟨b, o, ha, hb, hc⟩
  · exact .inl h
  · refine .inr ⟨b, o, ha, hb, fun j hj => ?_⟩
    obtain ⟨n, hn, hx⟩ := hc j hj
    refine ⟨n, hn, ?_⟩
    rw [← hx]
    unfold World.cell?
    rw [heap_setCell_other w p b v (by omega)]
theorem CodeRow.rowNew {w : World} {a : Option Addr} {len B : Nat} (h : CodeRow w a len B) {c : Nat} (hp : B < c) (cs : Array Value) : CodeRow (w.setRow c cs) a len B := by
  rcases h with h | ⟨b, o, ha, hb, hc⟩
  · exact .inl h
  · refine .inr ⟨b, o, ha, hb, fun j hj => ?_⟩
    obtain ⟨n, hn, hx⟩ := hc j hj
    refine ⟨n, hn, ?_⟩
    rw [← hx]
    unfold World.cell?
    rw [setRow_other w c b cs (by omega)]
theorem Cur.setNew {w : World} {B m : Nat} (h : Cur w B m) {p : Addr} (hp : B < p.block) (v : Value) : Cur (w.setCell p v) B m := by
  obtain ⟨a, len, cap, k, s, hci, hk, hln, hr⟩ := h
  exact ⟨a, len, cap, k, s, (heap_setCell_other w p B v (by omega)).trans hci, hk, hln, hr.setNew hp v⟩
theorem Cur.rowNew {w : World} {B m : Nat} (h : Cur w B m) {c : Nat} (hp : B < c) (cs : Array Value) : Cur (w.setRow c cs) B m := by
  obtain ⟨a, len, cap, k, s, hci, hk, hln, hr⟩ := h
  exact ⟨a, len, cap, k, s, (setRow_other w c B cs (by omega)).trans hci, hk, hln, hr.rowNew hp cs⟩
theorem Cur.drewN {w : World} {B m : Nat} (h : Cur w B m) (n : Nat) : Cur (w.drewN n) B m := h.kept ⟨rfl, rfl, rfl, Nat.le_refl _, fun _ _ => rfl⟩
theorem Cur.drew {w : World} {B m : Nat} (h : Cur w B m) : Cur w.drew B m := h.drewN 1
/-- Since w the drawer B has drawn, at most m bytes in all, and new blocks have been made. -/
def Dr (w : World) (B m : Nat) (W : World) : Prop := Cur W B m ∧ Turned B w W ∧ B < w.heap.size
section
variable {w W W' : World} {B m m' : Nat}
theorem Dr.start (h : Cur w B m) : Dr w B m w := ⟨h, Turned.refl B w, h.lt⟩
theorem Dr.call (h : Dr w B m W) (hc : Cur W' B m') (ht : Turned B W W') : Dr w B m' W' := ⟨hc, h.2.1.trans ht, h.2.2⟩
theorem Dr.alloc (h : Dr w B m W) (o : Obj) : Dr w B m (W.alloc o) := ⟨h.1.alloc o, h.2.1.alloc o, h.2.2⟩
theorem Dr.set (h : Dr w B m W) {p : Addr} (hp : w.heap.size ≤ p.block) (v : Value) : Dr w B m (W.setCell p v) := ⟨h.1.setNew (by have := h.2.2; omega) v, h.2.1.setNew hp v, h.2.2⟩
theorem Dr.row (h : Dr w B m W) {b : Nat} (hp : w.heap.size ≤ b) (cs : Array Value) : Dr w B m (W.setRow b cs) := ⟨h.1.rowNew (by have := h.2.2; omega) cs, h.2.1.rowNew hp cs, h.2.2⟩
theorem Dr.drewN (h : Dr w B m W) (n : Nat) : Dr w B m (W.drewN n) := ⟨h.1.drewN n, h.2.1.draws n, h.2.2⟩
theorem Dr.drew (h : Dr w B m W) : Dr w B m W.drew := h.drewN 1
theorem Dr.more (h : Dr w B m W) (hm : m ≤ m') : Dr w B m' W := ⟨h.1.more hm, h.2.1, h.2.2⟩
theorem Dr.size (h : Dr w B m W) : w.heap.size ≤ W.heap.size := h.2.1.size
theorem Dr.blk {b n : Nat} {f : Nat → Int} {t : TypeId} (h : Blk W b n f t) (k : Turned B W W') (hne : b ≠ B) : Blk W' b n f t := h.turned k hne
end
theorem tile_any (w : World) (B m : Nat) (hc : Cur w B m) (hm : m ≤ 999999000) :
    Calls Try.prog 106 #[.pointer (some ⟨B, 0, none⟩)] w fun e w' => ∃ t : Int, e = .returned (.int .i64 t) ∧ Cur w' B (m + 2) ∧ Turned B w w' := by
  have HC := Lib.hid hc
  have hlt := hc.lt
  clear hc
  go_enter Try.func106, Try.ntmps106
  go_wp2_with fail
  refine (among_any _ B m w.heap.size 11 11 (fun _ => True) (HC.out.alloc _) (by omega) (by omega) (by omega) (by omega) ?_).mono ?_
  · intro j hj
    refine alloc_all w _ _ (fun v => ∃ t, v = .int .i64 t ∧ True) ?_ j hj
    intro v hv
    simp at hv
    rcases hv with rfl | rfl | rfl | rfl | rfl | rfl | rfl | rfl | rfl | rfl | rfl <;> exact ⟨_, rfl, trivial⟩
  rintro e w1 ⟨t, _, rfl, hc1, ht1⟩
  have HC1 := Lib.hid hc1
  have HT1 := Lib.hid ht1
  clear hc1 ht1
  go_wp2_with fail
  go_ret
  exact ⟨t, rfl, HC1.out, ((Turned.refl B w).alloc _).trans HT1.out⟩
theorem side_any (w : World) (B m : Nat) (hc : Cur w B m) (hm : m ≤ 999999000) :
    Calls Try.prog 77 #[.pointer (some ⟨B, 0, none⟩)] w fun e w' => ∃ t : Int, e = .returned (.int .i64 t) ∧ Cur w' B (m + 4) ∧ Turned B w w' := by
  have HC := Lib.hid hc
  have hlt := hc.lt
  clear hc
  go_enter Try.func77, Try.ntmps77
  go_wp2_with fail
  refine (one_any _ B m 40 HC.out (by omega) (by omega) (by omega)).mono ?_
  rintro e w1 ⟨b, rfl, hc1, ht1⟩
  have HC1 := Lib.hid hc1
  have HT1 := Lib.hid ht1
  have hlt1 := hc1.lt
  clear hc1 ht1 HC
  cases b with
  | true =>
    go_wp2_with fail
    refine (among_any _ B (m + 2) w1.heap.size 3 3 (fun _ => True) (HC1.out.alloc _) (by omega) (by omega) (by omega) (by omega) ?_).mono ?_
    · intro j hj
      refine alloc_all w1 _ _ (fun v => ∃ t, v = .int .i64 t ∧ True) ?_ j hj
      intro v hv
      simp at hv
      rcases hv with rfl | rfl | rfl <;> exact ⟨_, rfl, trivial⟩
    rintro e w2 ⟨t, _, rfl, hc2, ht2⟩
    have HC2 := Lib.hid hc2
    have HT2 := Lib.hid ht2
    clear hc2 ht2
    go_wp2_with fail
    go_ret
    exact ⟨t, rfl, HC2.out, (HT1.out.alloc _).trans HT2.out⟩
  | false =>
    go_wp2_with fail
    refine (pick_any _ B (m + 2) 4 HC1.out (by omega) (by omega) (by omega)).mono ?_
    rintro e w2 ⟨t, _, rfl, hc2, ht2⟩
    have HC2 := Lib.hid hc2
    have HT2 := Lib.hid ht2
    clear hc2 ht2
    go_wp2_with fail
    go_ret
    exact ⟨_, rfl, HC2.out, HT1.out.trans HT2.out⟩
end Go.Proofs.Ytknjmkapabjolaa
