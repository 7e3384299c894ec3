/-
  The contracts of the reference's drawing of choices (spec.l1Cur): a choice is a number of its range, and nothing but the drawer's own block turns.
-/
import Derived.Test.YtblcojacmjbjcabBaseA
import Derived.Deep.QuietTactic
import Derived.BigQuiet
import Derived.Laws.Bits64b
import Derived.IntWalk
namespace Go.Proofs.Ytblcojacmjbjcab
open Go.RowKit Plain

/-- The bytes of a code that a drawer reads: in a block below B. -/
def CodeRow (w : World) (a : Option Addr) (len B : Nat) : Prop :=
  len = 0 ∨ ∃ b o, a = some ⟨b, o, none⟩ ∧ b < B ∧ ∀ j, j < len → ∃ n : Nat, n < 256 ∧ w.cell? ⟨b, o + j, none⟩ = some (.int .u8 n)
/-- Block B is a drawer of at most m bytes so far. -/
def CurIn (w : World) (B : Nat) (a : Option Addr) (len cap k : Nat) (s : Int) : Prop :=
  w.heap[B]? = some (.cells #[.slice a len cap, .int .i64 k, .int .u64 s] 114 (0, 0))
def Cur (w : World) (B m : Nat) : Prop := ∃ (a : Option Addr) (len cap k : Nat) (s : Int), CurIn w B a len cap k s ∧ k ≤ m ∧ len ≤ 65536 ∧ CodeRow w a len B

theorem cur_cell {w : World} {B : Nat} {cs : Array Value} {t : TypeId} (h : w.heap[B]? = some (.cells cs t (0, 0))) (j : Nat) : w.cell? ⟨B, j, none⟩ = cs[j]? := by
  simp [World.cell?, h]
theorem cur_free {w : World} {B : Nat} {cs : Array Value} {t : TypeId} (h : w.heap[B]? = some (.cells cs t (0, 0))) (j : Nat) : w.frozen? ⟨B, j, none⟩ = false := by
  simp [World.frozen?, h]

/-- Nothing but block B has turned. -/
def Turned (B : Nat) (w w' : World) : Prop := w.grownBy w' (some B)
theorem Turned.refl (B : Nat) (w : World) : Turned B w w := ⟨rfl, rfl, rfl, Nat.le_refl _, fun _ _ _ => rfl⟩
theorem Turned.trans {B : Nat} {a b c : World} (h : Turned B a b) (k : Turned B b c) : Turned B a c :=
  ⟨k.os.trans h.os, k.tape.trans h.tape, k.output.trans h.output, Nat.le_trans h.size k.size, fun i hi hne => (k.block i (Nat.lt_of_lt_of_le hi h.size) hne).trans (h.block i hi hne)⟩
theorem Turned.below {B C : Nat} {w w' : World} (h : Turned B w w') (hC : C ≤ w.heap.size) (hB : C ≤ B) : Below C w w' :=
  (Below.refl _ _).grown h hC (fun k e => by cases e; exact hB)
theorem Turned.cell {B : Nat} {w w' : World} (h : Turned B w w') {p : Addr} {v : Value} (hc : w.cell? p = some v) (hp : p.block ≠ B) : w'.cell? p = some v :=
  World.grownBy.cell h hc (by intro e; cases e; exact hp rfl)
theorem Turned.set {B : Nat} {a w : World} (h : Turned B a w) (j : Nat) (v : Value) : Turned B a (w.setCell ⟨B, j, none⟩ v) :=
  h.trans ⟨rfl, rfl, rfl, by simp [World.setCell], fun k _ hne => Below.heap_setCell _ _ _ _ (fun e => hne (by rw [e]))⟩
theorem Turned.draws {B : Nat} {a w : World} (h : Turned B a w) (n : Nat) : Turned B a (w.drewN n) := ⟨h.os, h.tape, h.output, h.size, h.block⟩
theorem CodeRow.turned {w w' : World} {a : Option Addr} {len B : Nat} (h : CodeRow w a len B) (k : Turned B w w') : CodeRow w' a len B := by
  rcases h with h | ⟨b, o, ha, hb, hc⟩
  · exact .inl h
  · refine .inr ⟨b, o, ha, hb, fun j hj => ?_⟩
    obtain ⟨n, hn, hx⟩ := hc j hj
    exact ⟨n, hn, k.cell hx (by show b ≠ B; omega)⟩

theorem and255 (x : Int) : ∃ n : Nat, n < 256 ∧ wrap64 (bits .and .u64 x 255) = n := by
  have h1 : bits .and .u64 x 255 = IntKind.u64.wrap ((BitVec.ofInt 64 x &&& BitVec.ofInt 64 255).toNat : Int) := rfl
  rw [BitVec.toNat_and] at h1
  have h2 : (BitVec.ofInt 64 255).toNat = 255 := by decide
  rw [h2] at h1
  have h3 : (BitVec.ofInt 64 x).toNat &&& 255 ≤ 255 := Nat.and_le_right
  generalize (BitVec.ofInt 64 x).toNat &&& 255 = n at *
  rw [IntKind.wrap_u64] at h1
  have h4 : bits .and .u64 x 255 = (n : Int) := by rw [h1]; omega
  exact ⟨n, by omega, by rw [h4]; exact IntWalk.wrap64_in _ ⟨by omega, by omega⟩⟩

/-- How next ends. -/
def NextPost (B len cap k : Nat) (a : Option Addr) (w : World) (e : Ending) (w' : World) : Prop :=
  ∃ (n : Nat) (s : Int), n < 256 ∧ e = .returned (.int .i64 n) ∧ CurIn w' B a len cap (k + 1) s ∧ Turned B w w'
theorem cur_stored {w : World} {B len cap k x y : Nat} {a : Option Addr} {s s2 : Int} (h : CurIn w B a len cap k s) :
    CurIn ((((w.drewN x).setCell ⟨B, 1, none⟩ (.int .i64 (k + 1))).setCell ⟨B, 2, none⟩ (.int .u64 s2)).drewN y) B a len cap (k + 1) s2 ∧
    Turned B w ((((w.drewN x).setCell ⟨B, 1, none⟩ (.int .i64 (k + 1))).setCell ⟨B, 2, none⟩ (.int .u64 s2)).drewN y) := by
  refine ⟨?_, (((Turned.refl B w).draws x).set 1 _ |>.set 2 _).draws y⟩
  unfold CurIn at h ⊢
  have h1 := heap_setCell_same (w.drewN x) B 1 _ _ (.int .i64 ((k : Int) + 1)) h
  have h2 := heap_setCell_same _ B 2 _ _ (.int .u64 s2) h1
  exact h2

set_option maxHeartbeats 400000 in
theorem next_in (w : World) (B len cap k : Nat) (s : Int) (b o : Nat) (hc : CurIn w B (some ⟨b, o, none⟩) len cap k s) (hk : k < len) (hl : len ≤ 65536) (n : Nat) (hn : n < 256) (hcell : w.cell? ⟨b, o + k, none⟩ = some (.int .u8 n)) :
    Calls Try.prog 240 #[.pointer (some ⟨B, 0, none⟩)] w (NextPost B len cap k (some ⟨b, o, none⟩) w) := by
  have c0 : w.cell? ⟨B, 0, none⟩ = some (.slice (some ⟨b, o, none⟩) len cap) := cur_cell hc 0
  have c1 : w.cell? ⟨B, 1, none⟩ = some (.int .i64 k) := cur_cell hc 1
  have c2 : w.cell? ⟨B, 2, none⟩ = some (.int .u64 s) := cur_cell hc 2
  have f1 : w.frozen? ⟨B, 1, none⟩ = false := cur_free hc 1
  have f2 : w.frozen? ⟨B, 2, none⟩ = false := cur_free hc 2
  have HC := Lib.hid hc
  clear hc
  have hk0 : (0 : Int) ≤ (k : Int) := by omega
  have hk1 : (k : Int) < (len : Int) := by omega
  go_enter Try.func240, Try.ntmps240
  go_wp2_with fail
  go_quiet (fail)
  go_wp2_with fail
  go_quiet (fail)
  go_wp2_with fail
  generalize IntKind.u64.wrap (IntKind.u64.wrap (IntKind.u64.wrap (s * 6364136223846793005) + ↑n) + 462197) = s2 at *
  go_quiet (fail)
  go_wp2_with fail
  go_ret
  exact ⟨n, s2, hn, rfl, (cur_stored HC.out).1, (cur_stored HC.out).2⟩

set_option maxHeartbeats 400000 in
theorem next_out (w : World) (B len cap k : Nat) (s : Int) (a : Option Addr) (hc : CurIn w B a len cap k s) (hk : len ≤ k) (hk2 : k ≤ 1000000000) :
    Calls Try.prog 240 #[.pointer (some ⟨B, 0, none⟩)] w (NextPost B len cap k a w) := by
  have c0 : w.cell? ⟨B, 0, none⟩ = some (.slice a len cap) := cur_cell hc 0
  have c1 : w.cell? ⟨B, 1, none⟩ = some (.int .i64 k) := cur_cell hc 1
  have c2 : w.cell? ⟨B, 2, none⟩ = some (.int .u64 s) := cur_cell hc 2
  have f1 : w.frozen? ⟨B, 1, none⟩ = false := cur_free hc 1
  have f2 : w.frozen? ⟨B, 2, none⟩ = false := cur_free hc 2
  have HC := Lib.hid hc
  clear hc
  have hk0 : (0 : Int) ≤ (k : Int) := by omega
  have hk1 : (len : Int) ≤ (k : Int) := by omega
  have hd : decide (k < len) = false := by simp; omega
  go_enter Try.func240, Try.ntmps240
  go_wp2_with fail
  go_quiet (fail)
  go_wp2_with fail
  generalize IntKind.u64.wrap (IntKind.u64.wrap (IntKind.u64.wrap (s * 6364136223846793005)) + 462197) = s2 at *
  have hd2 : decide ((k : Int) + 1 ≤ (len : Int)) = false := by simp; omega
  go_quiet (fail)
  go_wp2_with fail
  go_ret
  obtain ⟨n, hn, he⟩ := and255 (s2 / 1099511627776)
  exact ⟨n, s2, hn, by rw [← he]; rfl, (cur_stored HC.out).1, (cur_stored HC.out).2⟩

theorem next_any (w : World) (B m : Nat) (hc : Cur w B m) (hm : m ≤ 1000000000) :
    Calls Try.prog 240 #[.pointer (some ⟨B, 0, none⟩)] w fun e w' => ∃ n : Nat, n < 256 ∧ e = .returned (.int .i64 n) ∧ Cur w' B (m + 1) ∧ Turned B w w' := by
  obtain ⟨a, len, cap, k, s, hci, hk, hl, hr⟩ := hc
  by_cases h : k < len
  · rcases hr with hr | ⟨b, o, rfl, hb, hcell⟩
    · omega
    · obtain ⟨n, hn, hx⟩ := hcell k h
      exact (next_in w B len cap k s b o hci h hl n hn hx).mono fun e w' ⟨n', s', h1, h2, h3, h4⟩ =>
        ⟨n', h1, h2, ⟨_, len, cap, k + 1, s', h3, by omega, hl, CodeRow.turned (.inr ⟨b, o, rfl, hb, hcell⟩) h4⟩, h4⟩
  · exact (next_out w B len cap k s a hci (by omega) (by omega)).mono fun e w' ⟨n', s', h1, h2, h3, h4⟩ =>
      ⟨n', h1, h2, ⟨_, len, cap, k + 1, s', h3, by omega, hl, hr.turned h4⟩, h4⟩

/-- pick: a number of 0 .. n - 1, where n is positive. -/
theorem pick_any (w : World) (B m : Nat) (n : Int) (hc : Cur w B m) (hm : m ≤ 999999998) (h1 : 1 ≤ n) (h2 : n ≤ 100000) :
    Calls Try.prog 155 #[.pointer (some ⟨B, 0, none⟩), .int .i64 n] w fun e w' => ∃ k : Nat, (k : Int) < n ∧ e = .returned (.int .i64 k) ∧ Cur w' B (m + 2) ∧ Turned B w w' := by
  have HC := Lib.hid hc
  clear hc
  by_cases hn1 : n ≤ 1
  · go_enter Try.func155, Try.ntmps155
    go_wp2
    go_ret
    obtain ⟨a, len, cap, k, s, hci, hk, hl, hr⟩ := HC.out
    exact ⟨0, by omega, rfl, ⟨a, len, cap, k, s, hci, by omega, hl, hr⟩, Turned.refl _ _⟩
  · have hn2 : 1 < n := by omega
    by_cases hb : 200 < n
    · go_enter Try.func155, Try.ntmps155
      go_wp2_with fail
      refine (next_any _ B m HC.out (by omega)).mono ?_
      rintro e w1 ⟨x, hx, rfl, hc1, ht1⟩
      have HC1 := Lib.hid hc1
      have HT1 := Lib.hid ht1
      clear hc1 ht1
      go_wp2_with fail
      refine (next_any _ B (m + 1) HC1.out (by omega)).mono ?_
      rintro e w2 ⟨y, hy, rfl, hc2, ht2⟩
      have HC2 := Lib.hid hc2
      have HT2 := Lib.hid ht2
      clear hc2 ht2
      go_wp2
      go_ret
      have hpos : 0 ≤ ((x : Int) * 256 + y) % n := Int.emod_nonneg _ (by omega)
      obtain ⟨k, hk⟩ := Int.eq_ofNat_of_zero_le hpos
      have hlt : ((x : Int) * 256 + y) % n < n := Int.emod_lt_of_pos _ (by omega)
      exact ⟨k, by omega, by rw [← hk]; rfl, HC2.out, HT1.out.trans HT2.out⟩
    · have hb2 : n ≤ 200 := by omega
      clear hb
      go_enter Try.func155, Try.ntmps155
      go_wp2_with fail
      refine (next_any _ B m HC.out (by omega)).mono ?_
      rintro e w1 ⟨x, hx, rfl, hc1, ht1⟩
      have HC1 := Lib.hid hc1
      have HT1 := Lib.hid ht1
      clear hc1 ht1
      go_wp2
      go_ret
      have hpos : 0 ≤ (x : Int) % n := Int.emod_nonneg _ (by omega)
      obtain ⟨k, hk⟩ := Int.eq_ofNat_of_zero_le hpos
      have hlt : (x : Int) % n < n := Int.emod_lt_of_pos _ (by omega)
      obtain ⟨a, len, cap, k', s, hci, hk', hl, hr⟩ := HC1.out
      exact ⟨k, by omega, by rw [← hk]; rfl, ⟨a, len, cap, k', s, hci, by omega, hl, hr⟩, HT1.out⟩

theorem Cur.lt {w : World} {B m : Nat} (h : Cur w B m) : B < w.heap.size := by
  obtain ⟨a, len, cap, k, s, hci, _⟩ := h
  exact (Array.getElem?_eq_some_iff.1 hci).1
theorem CodeRow.kept {w w' : World} {a : Option Addr} {len B : Nat} (h : CodeRow w a len B) (hb : Below w.heap.size w w') : CodeRow w' a len B := by
  rcases h with h | ⟨b, o, ha, h1, h2⟩
  · exact .inl h
  · refine .inr ⟨b, o, ha, h1, fun j hj => ?_⟩
    obtain ⟨n, hn, hx⟩ := h2 j hj
    exact ⟨n, hn, (hb.cell (p := ⟨b, o + j, none⟩) (World.block_lt_of_cell? w _ hx)).trans hx⟩
theorem CodeRow.later {w w' : World} {a : Option Addr} {len : Nat} (h : CodeRow w a len w.heap.size) (hb : Below w.heap.size w w') : CodeRow w' a len w'.heap.size := by
  rcases h.kept hb with h | ⟨b, o, ha, h1, h2⟩
  · exact .inl h
  · exact .inr ⟨b, o, ha, Nat.lt_of_lt_of_le h1 hb.size, h2⟩
theorem Cur.kept {w w' : World} {B m : Nat} (h : Cur w B m) (hb : Below w.heap.size w w') : Cur w' B m := by
  have hl := h.lt
  obtain ⟨a, len, cap, k, s, hci, hk, hln, hr⟩ := h
  exact ⟨a, len, cap, k, s, (hb.block B hl).trans hci, hk, hln, hr.kept hb⟩
theorem Cur.more {w : World} {B m m' : Nat} (h : Cur w B m) (hm : m ≤ m') : Cur w B m' := by
  obtain ⟨a, len, cap, k, s, hci, hk, hln, hr⟩ := h
  exact ⟨a, len, cap, k, s, hci, by omega, hln, hr⟩
theorem Cur.alloc {w : World} {B m : Nat} (h : Cur w B m) (o : Obj) : Cur (w.alloc o) B m := h.kept ((Below.refl _ _).alloc (Nat.le_refl _) o)
/-- A new drawer over a code. -/
theorem Cur.new (w : World) (a : Option Addr) (len cap : Nat) (hl : len ≤ 65536) (h : CodeRow w a len w.heap.size) :
    Cur (w.alloc (.cells #[.slice a len cap, .int .i64 0, .int .u64 0] 114)) w.heap.size 0 :=
  ⟨a, len, cap, 0, 0, heap_alloc_new w _, Nat.le_refl _, hl, h.kept ((Below.refl _ _).alloc (Nat.le_refl _) _)⟩
theorem alloc_cell (w : World) (cs : Array Value) (t : TypeId) (j : Nat) : (w.alloc (.cells cs t)).cell? ⟨w.heap.size, j, none⟩ = cs[j]? := cur_cell (heap_alloc_new w _) j
/-- What the elements of a new row are. -/
theorem alloc_all (w : World) (cs : Array Value) (t : TypeId) (P : Value → Prop) (h : ∀ v ∈ cs.toList, P v) (j : Nat) (hj : j < cs.size) : ∃ v, (w.alloc (.cells cs t)).cell? ⟨w.heap.size, j, none⟩ = some v ∧ P v := by
  refine ⟨cs[j], ?_, h _ (by simp)⟩
  rw [alloc_cell, Array.getElem?_eq_getElem hj]

theorem one_any (w : World) (B m : Nat) (n : Int) (hc : Cur w B m) (hm : m ≤ 999999998) (h1 : 1 ≤ n) (h2 : n ≤ 100000) :
    Calls Try.prog 137 #[.pointer (some ⟨B, 0, none⟩), .int .i64 n] w fun e w' => ∃ b : Bool, e = .returned (.bool b) ∧ Cur w' B (m + 2) ∧ Turned B w w' := by
  have HC := Lib.hid hc
  clear hc
  go_enter Try.func137, Try.ntmps137
  go_wp2_with fail
  refine (pick_any _ B m n HC.out hm h1 h2).mono ?_
  rintro e w1 ⟨k, hk, rfl, hc1, ht1⟩
  have HC1 := Lib.hid hc1
  have HT1 := Lib.hid ht1
  clear hc1 ht1
  go_wp2
  go_ret
  exact ⟨_, rfl, HC1.out, HT1.out⟩
theorem among_any (w : World) (B m g n cap : Nat) (P : Int → Prop) (hc : Cur w B m) (hm : m ≤ 999999998) (h1 : 1 ≤ n) (h2 : n ≤ 100000) (hg : g ≠ B) (hP : ∀ j, j < n → ∃ v, w.cell? ⟨g, j, none⟩ = some v ∧ ∃ t, v = .int .i64 t ∧ P t) :
    Calls Try.prog 130 #[.pointer (some ⟨B, 0, none⟩), .slice (some ⟨g, 0, none⟩) n cap] w fun e w' => ∃ t, P t ∧ e = .returned (.int .i64 t) ∧ Cur w' B (m + 2) ∧ Turned B w w' := by
  have HC := Lib.hid hc
  have HP := Lib.hid hP
  clear hc hP
  go_enter Try.func130, Try.ntmps130
  go_wp2_with fail
  refine (pick_any _ B m n HC.out hm (by omega) (by omega)).mono ?_
  rintro e w1 ⟨k, hk, rfl, hc1, ht1⟩
  obtain ⟨v, hx, t, rfl, hPt⟩ := HP.out k (by omega)
  have hcell : w1.cell? ⟨g, k, none⟩ = some (.int .i64 t) := ht1.cell hx hg
  have HPT := Lib.hid hPt
  have HC1 := Lib.hid hc1
  have HT1 := Lib.hid ht1
  clear hc1 ht1 hx hPt
  have hk2 : k < n := by omega
  clear hk
  go_wp2
  go_ret
  exact ⟨t, HPT.out, rfl, HC1.out, HT1.out⟩
end Go.Proofs.Ytblcojacmjbjcab
