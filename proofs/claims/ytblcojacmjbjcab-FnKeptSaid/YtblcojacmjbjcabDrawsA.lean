/-
  Several texts in one:
  The contracts of the reference's drawing of tiles, sides, cells and forms (spec.l1Cur): some number comes out, and nothing but the drawer's own block turns.
  The contract of the reference's drawing of a board (spec.l1Cur.board): some board comes out, and nothing but the drawer's own block turns.
  The contracts of the reference's drawing of a board with symmetries (spec.l1Cur.formed3): some board comes out, and nothing but the drawer's own block turns.
  The contracts of the reference's draws of boards, forms and sides, and of what a law does to its code ahead of them.
-/
import Derived.Test.YtblcojacmjbjcabCur
import Derived.Test.YtblcojacmjbjcabBaseA
import Derived.RangeFuncBox
namespace Go.Proofs.Ytblcojacmjbjcab
open Go.RowKit Plain
attribute [local go_sem] store_new

theorem Turned.alloc {B : Nat} {a w : World} (h : Turned B a w) (o : Obj) : Turned B a (w.alloc o) :=
  ⟨h.os, h.tape, h.output, by have := h.size; simp; omega, fun i hi hne => (heap_alloc_old w o (Nat.lt_of_lt_of_le hi h.size)).trans (h.block i hi hne)⟩
theorem Turned.setNew {B : Nat} {a w : World} (h : Turned B a w) {p : Addr} (hp : a.heap.size ≤ p.block) (v : Value) : Turned B a (w.setCell p v) :=
  ⟨h.os, h.tape, h.output, by simpa using h.size, fun i hi hne => (heap_setCell_other w p i v (by omega)).trans (h.block i hi hne)⟩
theorem Turned.rowNew {B : Nat} {a w : World} (h : Turned B a w) {b : Nat} (hp : a.heap.size ≤ b) (cs : Array Value) : Turned B a (w.setRow b cs) :=
  ⟨h.os, h.tape, h.output, by simpa using h.size, fun i hi hne => (setRow_other w b i cs (by omega)).trans (h.block i hi hne)⟩
theorem Blk.turned {w w' : World} {B b n : Nat} {f : Nat → Int} {t : TypeId} (h : Blk w b n f t) (k : Turned B w w') (hne : b ≠ B) : Blk w' b n f t :=
  (k.block b h.lt (by intro e; cases e; exact hne rfl)).trans h
theorem CodeRow.setNew {w : World} {a : Option Addr} {len B : Nat} (h : CodeRow w a len B) {p : Addr} (hp : B < p.block) (v : Value) : CodeRow (w.setCell p v) a len B := by
  rcases h with h | ⟨b, o, ha, hb, hc⟩
  · exact .inl h
  · refine .inr ⟨b, o, ha, hb, fun j hj => ?_⟩
    obtain ⟨n, hn, hx⟩ := hc j hj
    refine ⟨n, hn, ?_⟩
    rw [← hx]
    unfold World.cell?
    rw [heap_setCell_other w p b v (by omega)]
theorem CodeRow.rowNew {w : World} {a : Option Addr} {len B : Nat} (h : CodeRow w a len B) {c : Nat} (hp : B < c) (cs : Array Value) : CodeRow (w.setRow c cs) a len B := by
  rcases h with h | ⟨b, o, ha, hb, hc⟩
  · exact .inl h
  · refine .inr ⟨b, o, ha, hb, fun j hj => ?_⟩
    obtain ⟨n, hn, hx⟩ := hc j hj
    refine ⟨n, hn, ?_⟩
    rw [← hx]
    unfold World.cell?
    rw [setRow_other w c b cs (by omega)]
theorem Cur.setNew {w : World} {B m : Nat} (h : Cur w B m) {p : Addr} (hp : B < p.block) (v : Value) : Cur (w.setCell p v) B m := by
  obtain ⟨a, len, cap, k, s, hci, hk, hln, hr⟩ := h
  exact ⟨a, len, cap, k, s, (heap_setCell_other w p B v (by omega)).trans hci, hk, hln, hr.setNew hp v⟩
theorem Cur.rowNew {w : World} {B m : Nat} (h : Cur w B m) {c : Nat} (hp : B < c) (cs : Array Value) : Cur (w.setRow c cs) B m := by
  obtain ⟨a, len, cap, k, s, hci, hk, hln, hr⟩ := h
  exact ⟨a, len, cap, k, s, (setRow_other w c B cs (by omega)).trans hci, hk, hln, hr.rowNew hp cs⟩
theorem Cur.drewN {w : World} {B m : Nat} (h : Cur w B m) (n : Nat) : Cur (w.drewN n) B m := h.kept ⟨rfl, rfl, rfl, Nat.le_refl _, fun _ _ => rfl⟩
theorem Cur.drew {w : World} {B m : Nat} (h : Cur w B m) : Cur w.drew B m := h.drewN 1
/-- Since w the drawer B has drawn, at most m bytes in all, and new blocks have been made. -/
def Dr (w : World) (B m : Nat) (W : World) : Prop := Cur W B m ∧ Turned B w W ∧ B < w.heap.size
section
variable {w W W' : World} {B m m' : Nat}
theorem Dr.start (h : Cur w B m) : Dr w B m w := ⟨h, Turned.refl B w, h.lt⟩
theorem Dr.call (h : Dr w B m W) (hc : Cur W' B m') (ht : Turned B W W') : Dr w B m' W' := ⟨hc, h.2.1.trans ht, h.2.2⟩
theorem Dr.alloc (h : Dr w B m W) (o : Obj) : Dr w B m (W.alloc o) := ⟨h.1.alloc o, h.2.1.alloc o, h.2.2⟩
theorem Dr.set (h : Dr w B m W) {p : Addr} (hp : w.heap.size ≤ p.block) (v : Value) : Dr w B m (W.setCell p v) := ⟨h.1.setNew (by have := h.2.2; omega) v, h.2.1.setNew hp v, h.2.2⟩
theorem Dr.row (h : Dr w B m W) {b : Nat} (hp : w.heap.size ≤ b) (cs : Array Value) : Dr w B m (W.setRow b cs) := ⟨h.1.rowNew (by have := h.2.2; omega) cs, h.2.1.rowNew hp cs, h.2.2⟩
theorem Dr.drewN (h : Dr w B m W) (n : Nat) : Dr w B m (W.drewN n) := ⟨h.1.drewN n, h.2.1.draws n, h.2.2⟩
theorem Dr.drew (h : Dr w B m W) : Dr w B m W.drew := h.drewN 1
theorem Dr.more (h : Dr w B m W) (hm : m ≤ m') : Dr w B m' W := ⟨h.1.more hm, h.2.1, h.2.2⟩
theorem Dr.size (h : Dr w B m W) : w.heap.size ≤ W.heap.size := h.2.1.size
theorem Dr.blk {b n : Nat} {f : Nat → Int} {t : TypeId} (h : Blk W b n f t) (k : Turned B W W') (hne : b ≠ B) : Blk W' b n f t := h.turned k hne
end
theorem tile_any (w : World) (B m : Nat) (hc : Cur w B m) (hm : m ≤ 999999000) :
    Calls Try.prog 156 #[.pointer (some ⟨B, 0, none⟩)] w fun e w' => ∃ t : Int, e = .returned (.int .i64 t) ∧ Cur w' B (m + 2) ∧ Turned B w w' := by
  have HC := Lib.hid hc
  have hlt := hc.lt
  clear hc
  go_enter Try.func156, Try.ntmps156
  go_wp2_with fail
  refine (among_any _ B m w.heap.size 11 11 (fun _ => True) (HC.out.alloc _) (by omega) (by omega) (by omega) (by omega) ?_).mono ?_
  · intro j hj
    refine alloc_all w _ _ (fun v => ∃ t, v = .int .i64 t ∧ True) ?_ j hj
    intro v hv
    simp at hv
    rcases hv with rfl | rfl | rfl | rfl | rfl | rfl | rfl | rfl | rfl | rfl | rfl <;> exact ⟨_, rfl, trivial⟩
  rintro e w1 ⟨t, _, rfl, hc1, ht1⟩
  have HC1 := Lib.hid hc1
  have HT1 := Lib.hid ht1
  clear hc1 ht1
  go_wp2_with fail
  go_ret
  exact ⟨t, rfl, HC1.out, ((Turned.refl B w).alloc _).trans HT1.out⟩
theorem side_any (w : World) (B m : Nat) (hc : Cur w B m) (hm : m ≤ 999999000) :
    Calls Try.prog 144 #[.pointer (some ⟨B, 0, none⟩)] w fun e w' => ∃ t : Int, e = .returned (.int .i64 t) ∧ Cur w' B (m + 4) ∧ Turned B w w' := by
  have HC := Lib.hid hc
  have hlt := hc.lt
  clear hc
  go_enter Try.func144, Try.ntmps144
  go_wp2_with fail
  refine (one_any _ B m 40 HC.out (by omega) (by omega) (by omega)).mono ?_
  rintro e w1 ⟨b, rfl, hc1, ht1⟩
  have HC1 := Lib.hid hc1
  have HT1 := Lib.hid ht1
  have hlt1 := hc1.lt
  clear hc1 ht1 HC
  cases b with
  | true =>
    go_wp2_with fail
    refine (among_any _ B (m + 2) w1.heap.size 3 3 (fun _ => True) (HC1.out.alloc _) (by omega) (by omega) (by omega) (by omega) ?_).mono ?_
    · intro j hj
      refine alloc_all w1 _ _ (fun v => ∃ t, v = .int .i64 t ∧ True) ?_ j hj
      intro v hv
      simp at hv
      rcases hv with rfl | rfl | rfl <;> exact ⟨_, rfl, trivial⟩
    rintro e w2 ⟨t, _, rfl, hc2, ht2⟩
    have HC2 := Lib.hid hc2
    have HT2 := Lib.hid ht2
    clear hc2 ht2
    go_wp2_with fail
    go_ret
    exact ⟨t, rfl, HC2.out, (HT1.out.alloc _).trans HT2.out⟩
  | false =>
    go_wp2_with fail
    refine (pick_any _ B (m + 2) 4 HC1.out (by omega) (by omega) (by omega)).mono ?_
    rintro e w2 ⟨t, _, rfl, hc2, ht2⟩
    have HC2 := Lib.hid hc2
    have HT2 := Lib.hid ht2
    clear hc2 ht2
    go_wp2_with fail
    go_ret
    exact ⟨_, rfl, HC2.out, HT1.out.trans HT2.out⟩
end Go.Proofs.Ytblcojacmjbjcab
namespace Go.Proofs.Ytblcojacmjbjcab
open Go.RowKit Plain
attribute [local go_sem] store_new
set_option linter.unusedSimpArgs false

/-- Four numbers. -/
def quad (a b c d : Int) : Nat → Int := fun i => if i = 0 then a else if i = 1 then b else if i = 2 then c else d
theorem mk_quad (a b c d : Int) : (#[.int .i64 a, .int .i64 b, .int .i64 c, .int .i64 d] : Array Value) = mk 4 (quad a b c d) := rfl
/-- While a board is drawn: the drawer, the result's block (empty so far), the board's block. -/
def BdSt (w : World) (B m b3 : Nat) (W : World) : Prop := Dr w B m W ∧ Blk W w.heap.size 16 (fun _ => 0) 47 ∧ (∃ f, Blk W b3 16 f 47) ∧ w.heap.size < b3
section
variable {w W W' : World} {B m m' b3 : Nat}
theorem BdSt.call (h : BdSt w B m b3 W) (hc : Cur W' B m') (ht : Turned B W W') : BdSt w B m' b3 W' := by
  obtain ⟨h1, h2, ⟨f, h3⟩, h4⟩ := h
  have := h1.2.2
  exact ⟨h1.call hc ht, h2.turned ht (by omega), ⟨f, h3.turned ht (by omega)⟩, h4⟩
theorem BdSt.alloc (h : BdSt w B m b3 W) (o : Obj) : BdSt w B m b3 (W.alloc o) := by
  obtain ⟨h1, h2, ⟨f, h3⟩, h4⟩ := h
  exact ⟨h1.alloc o, h2.alloc o, ⟨f, h3.alloc o⟩, h4⟩
theorem BdSt.set (h : BdSt w B m b3 W) {i : Nat} (hi : i < 16) (v : Int) : BdSt w B m b3 (W.setCell ⟨b3, i, none⟩ (.int .i64 v)) := by
  obtain ⟨h1, h2, ⟨f, h3⟩, h4⟩ := h
  exact ⟨h1.set (by dsimp only; omega) _, h2.setOther _ _ (by dsimp only; omega), ⟨_, h3.set hi v⟩, h4⟩
theorem BdSt.part (h : BdSt w B m b3 W) (g : Nat → Int) : BdSt w B m b3 (W.setRow b3 (mk 16 g)) := by
  obtain ⟨h1, h2, ⟨f, h3⟩, h4⟩ := h
  exact ⟨h1.row (by omega) _, h2.rowOther _ _ (by omega), ⟨_, h3.row 16 g⟩, h4⟩
theorem BdSt.more (h : BdSt w B m b3 W) (hm : m ≤ m') : BdSt w B m' b3 W := ⟨h.1.more hm, h.2⟩
theorem BdSt.drew (h : BdSt w B m b3 W) : BdSt w B m b3 W.drew := by
  obtain ⟨h1, h2, ⟨f, h3⟩, h4⟩ := h
  exact ⟨h1.drew, h2.drew, ⟨f, h3.drew⟩, h4⟩
theorem BdSt.cell (h : BdSt w B m b3 W) {i : Nat} (hi : i < 16) : ∃ x, W.cell? ⟨b3, i, none⟩ = some (.int .i64 x) := by
  obtain ⟨_, _, ⟨f, h3⟩, _⟩ := h
  exact ⟨_, h3.cell hi⟩
theorem BdSt.free (h : BdSt w B m b3 W) (i : Nat) : W.frozen? ⟨b3, i, none⟩ = false := by
  obtain ⟨_, _, ⟨f, h3⟩, _⟩ := h
  exact h3.free i
end
/-- Three numbers in a new row. -/
def Three (W : World) (g : Nat) : Prop := ∀ j, j < 3 → ∃ v, W.cell? ⟨g, j, none⟩ = some v ∧ ∃ t, v = .int .i64 t ∧ True
theorem three_new (W : World) (a b c : Int) (t : TypeId) : Three (W.alloc (.cells #[.int .i64 a, .int .i64 b, .int .i64 c] t)) W.heap.size := by
  intro j hj
  refine alloc_all W _ _ (fun v => ∃ t, v = .int .i64 t ∧ True) ?_ j hj
  intro v hv
  simp at hv
  rcases hv with rfl | rfl | rfl <;> exact ⟨_, rfl, trivial⟩
theorem Three.turned {W W' : World} {B g : Nat} (h : Three W g) (ht : Turned B W W') (hg : g ≠ B) : Three W' g := fun j hj => by
  obtain ⟨v, hv, hx⟩ := h j hj
  exact ⟨v, ht.cell hv hg, hx⟩
theorem BdSt.lt {w W : World} {B m b3 : Nat} (h : BdSt w B m b3 W) : B < W.heap.size := h.1.1.lt
set_option maxHeartbeats 8000000 in
set_option maxRecDepth 20000 in
theorem board_any (w : World) (B m : Nat) (hc : Cur w B m) (hm : m ≤ 999990000) :
    Calls Try.prog 143 #[.pointer (some ⟨B, 0, none⟩)] w fun e w' => ∃ f, e = .returned (.agg (mk 16 f)) ∧ Cur w' B (m + 200) ∧ Turned B w w' := by
  have z16 := zero16
  have D0 := Lib.hid ((Dr.start hc).alloc (.cells (mk 16 fun _ => 0) 47))
  have K2 := Blk.new w 16 (fun _ => 0) 47
  have hB := hc.lt
  clear hc
  go_enter Try.func143, Try.ntmps143
  go_wp2_with fail
  refine (one_any _ B m 4 D0.out.1 (by omega) (by omega) (by omega)).mono ?_
  rintro e w1 ⟨few, rfl, hc1, ht1⟩
  have K2 := K2.turned ht1 (by omega)
  have D1 := Lib.hid (D0.out.call hc1 ht1)
  clear hc1 ht1 D0
  go_wp2_with fail
  refine (one_any _ B (m + 2) 4 D1.out.1 (by omega) (by omega) (by omega)).mono ?_
  rintro e w2 ⟨full, rfl, hc2, ht2⟩
  have K2 := K2.turned ht2 (by omega)
  have h3 : w.heap.size < w2.heap.size := K2.lt
  have K2 := K2.alloc (.cells (mk 16 fun _ => 0) 47)
  have D2 := Lib.hid ((D1.out.call hc2 ht2).alloc (.cells (mk 16 fun _ => 0) 47))
  have K3 := Blk.new w2 16 (fun _ => 0) 47
  clear hc2 ht2 D1
  have HS0 : Hid (BdSt w B (m + 4) w2.heap.size (w2.alloc (.cells (mk 16 fun _ => 0) 47))) := ⟨D2.out, K2, ⟨_, K3⟩, h3⟩
  clear D2 K2 K3
  go_wp2_with fail
  generalize w2.alloc (.cells (mk 16 fun _ => 0) 47) = w3 at *
  generalize w2.heap.size = b3 at *
  go_loopg [6] 4 (fun g s6 wr => ∃ r m' : Nat, r + g = 4 ∧ s6 = .int .i64 r ∧ m' ≤ m + 4 + r * 4 * 6 ∧ BdSt w B m' b3 wr)
  case atStart => exact ⟨0, _, by omega, rfl, by omega, HS0.out⟩
  case round =>
    obtain ⟨r, m1, hrg, rfl, hm1, hs⟩ := hrel
    clear HS0
    cases gk with
    | zero =>
      have hr : ¬ ((r : Int) < 4) := by omega
      obtain rfl : r = 4 := by omega
      clear hrg hr
      have HS := Lib.hid hs
      go_wp2_with fail
      have hs := HS.out
      clear HS
      refine (pick_any _ B m1 40 hs.1.1 (by omega) (by omega) (by omega)).mono ?_
      rintro e w5 ⟨k, hk, rfl, hc2, ht2⟩
      have hs := hs.call hc2 ht2
      clear hc2 ht2
      have hk0 : (0 : Int) ≤ (k : Int) := by omega
      rcases (by omega : k = 0 ∨ k = 1 ∨ k = 2 ∨ k = 3 ∨ k = 4 ∨ 5 ≤ k) with hk1 | hk1 | hk1 | hk1 | hk1 | hk1
      · have q0 : ((k : Int) == 0) = true := by simp; omega
        clear hk1
        have HS := Lib.hid hs
        clear hs
        go_wp2_with fail
        have hs := HS.out.drew
        clear HS
        refine wp_region_held_drew (S := fun _ => True) (by kernel_rfl) trivial (fun hHeld => ?_)
        generalize w5.drew = x0 at *
        refine wpAnyH_take (i := 0) (oi := { dst := some 52, op := _, type := _, pos := _, after := _, guard := _ }) (v := ?v15) rfl (by kernel_rfl) (by kernel_rfl) (by kernel_rfl) (fun _ _ _ h => h) (Or.inl ⟨by rfl, ?hy15⟩) trivial ?rest15
        case hy15 => (intro w hSw; clear hSw; go_simp; (try with_reducible rfl))
        try simp only [Act.put, List.setIfInBounds_toArray, List.set_cons_zero, List.set_cons_succ]
        refine wpAnyH_take (i := 2) (oi := { dst := some 54, op := _, type := _, pos := _, after := _, guard := _ }) (v := ?v16) rfl (by kernel_rfl) (by kernel_rfl) (by kernel_rfl) (fun _ _ _ h => h) (Or.inl ⟨by rfl, ?hy16⟩) trivial ?rest16
        case hy16 => (intro w hSw; clear hSw; go_simp; (try with_reducible rfl))
        try simp only [Act.put, List.setIfInBounds_toArray, List.set_cons_zero, List.set_cons_succ]
        refine wpAnyH_take (i := 4) (oi := { dst := some 56, op := _, type := _, pos := _, after := _, guard := _ }) (v := ?v17) rfl (by kernel_rfl) (by kernel_rfl) (by kernel_rfl) (fun _ _ _ h => h) (Or.inl ⟨by rfl, ?hy17⟩) trivial ?rest17
        case hy17 => (intro w hSw; clear hSw; go_simp; (try with_reducible rfl))
        try simp only [Act.put, List.setIfInBounds_toArray, List.set_cons_zero, List.set_cons_succ]
        refine wpAnyH_take (i := 7) (oi := { dst := some 59, op := _, type := _, pos := _, after := _, guard := _ }) (v := ?v18) rfl (by kernel_rfl) (by kernel_rfl) (by kernel_rfl) (fun _ _ _ h => h) (Or.inl ⟨by rfl, ?hy18⟩) trivial ?rest18
        case hy18 => (intro w hSw; clear hSw; go_simp; (try with_reducible rfl))
        try simp only [Act.put, List.setIfInBounds_toArray, List.set_cons_zero, List.set_cons_succ]
        refine wpAnyH_ready (rs := [1, 5]) (by kernel_rfl) (by simp) ?_
        refine AllReadyH.cons rfl (fun K hK => ?_) (AllReadyH.cons rfl (fun K hK => ?_) AllReadyH.nil)
        · go_simp
          refine (pick_any _ B (m1 + 2) 4 hs.1.1 (by omega) (by omega) (by omega)).mono ?_
          rintro e x1 ⟨k1, hk1, rfl, hc2, ht2⟩
          have hs := hs.call hc2 ht2
          clear hc2 ht2
          go_wp2_with fail
          refine hK.out _ _ trivial (fun hHeld => ?_)
          clear hK K
          try simp only [Act.put, List.setIfInBounds_toArray, List.set_cons_zero, List.set_cons_succ]
          have z1 : (0 : Int) ≤ (k1 : Int) := by omega
          refine wpAnyH_take (i := 8) (oi := { dst := some 60, op := _, type := _, pos := _, after := _, guard := _ }) (v := ?v19) rfl (by kernel_rfl) (by kernel_rfl) (by kernel_rfl) (fun _ _ _ h => h) (Or.inl ⟨by rfl, ?hy19⟩) trivial ?rest19
          case hy19 => (intro w hSw; clear hSw; go_simp; (try with_reducible rfl))
          try simp only [Act.put, List.setIfInBounds_toArray, List.set_cons_zero, List.set_cons_succ]
          refine wpAnyH_ready (rs := [3, 5]) (by kernel_rfl) (by simp) ?_
          refine AllReadyH.cons rfl (fun K hK => ?_) (AllReadyH.cons rfl (fun K hK => ?_) AllReadyH.nil)
          · go_simp
            refine (pick_any _ B (m1 + 2 + 2) 4 hs.1.1 (by omega) (by omega) (by omega)).mono ?_
            rintro e x1q ⟨k2, hk2, rfl, hc2, ht2⟩
            have hs := hs.call hc2 ht2
            clear hc2 ht2
            go_wp2_with fail
            refine hK.out _ _ trivial (fun hHeld => ?_)
            clear hK K
            try simp only [Act.put, List.setIfInBounds_toArray, List.set_cons_zero, List.set_cons_succ]
            have z2 : (0 : Int) ≤ (k2 : Int) := by omega
            refine wpAnyH_ready (rs := [5]) (by kernel_rfl) (by simp) ?_
            refine AllReadyH.cons rfl (fun K hK => ?_) AllReadyH.nil
            go_simp
            have hP := three_new x1q (-1) 18 4611686018427387904 3
            have hg : x1q.heap.size ≠ B := by have := hs.lt; omega
            have hs := hs.alloc (.cells #[.int .i64 (-1), .int .i64 18, .int .i64 4611686018427387904] 3)
            generalize x1q.alloc (.cells #[.int .i64 (-1), .int .i64 18, .int .i64 4611686018427387904] 3) = x1qb at *
            generalize x1q.heap.size = gA at *
            refine hK.out _ _ trivial (fun hHeld => ?_)
            clear hK K
            try simp only [Act.put, List.setIfInBounds_toArray, List.set_cons_zero, List.set_cons_succ]
            refine wpAnyH_ready (rs := [6]) (by kernel_rfl) (by simp) ?_
            refine AllReadyH.cons rfl (fun K hK => ?_) AllReadyH.nil
            go_simp
            refine (among_any _ B (m1 + 2 + 2 + 2) gA 3 3 (fun _ => True) hs.1.1 (by omega) (by omega) (by omega) (by have := hs.1.2.2; omega) hP).mono ?_
            rintro e x1qbf ⟨tA, _, rfl, hc2, ht2⟩
            have hs := hs.call hc2 ht2
            clear hc2 ht2
            go_wp2_with fail
            refine hK.out _ _ trivial (fun hHeld => ?_)
            clear hK K
            try simp only [Act.put, List.setIfInBounds_toArray, List.set_cons_zero, List.set_cons_succ]
            refine wpAnyH_take (i := 9) (oi := { dst := some 61, op := _, type := _, pos := _, after := _, guard := _ }) (v := ?v20) rfl (by kernel_rfl) (by kernel_rfl) (by kernel_rfl) (fun _ _ _ h => h) (Or.inl ⟨by rfl, ?hy20⟩) trivial ?rest20
            case hy20 => (intro w hSw; clear hSw; go_simp; (try with_reducible rfl))
            try simp only [Act.put, List.setIfInBounds_toArray, List.set_cons_zero, List.set_cons_succ]
            obtain ⟨y4, c4⟩ := hs.cell (i := k1 * 4 + k2) (by omega)
            have f4 := hs.free (k1 * 4 + k2)
            refine wpAnyH_ready (rs := [10]) (by kernel_rfl) (by simp) ?_
            refine AllReadyH.cons rfl (fun K hK => ?_) AllReadyH.nil
            go_simp
            have hs := hs.set (i := k1 * 4 + k2) (by omega) tA
            refine hK.out _ _ trivial (fun hHeld => ?_)
            clear hK K c4 f4
            refine wpAnyH_done (by kernel_rfl) ?_ _
            obtain ⟨h1, h2, ⟨f, h3⟩, h4⟩ := hs
            have HD := Lib.hid h1
            clear h1
            go_wp2_with (first | ((with_reducible show wpList _ _ _ (Oper.mk _ (Op.load 47 _) _ _ _ _ :: _) _ _); refine loadB (h3) rfl rfl rfl ?_) | ((with_reducible show wpList _ _ _ (Oper.mk _ (Op.store 47 _ _) _ _ _ _ :: _) _ _); refine storeB (h2) rfl rfl rfl rfl ?_))
            try simp only [Exit.inBlock, Exit.then]
            exact retcB (h2.row 16 _) rfl rfl rfl ⟨_, rfl, (HD.out.row (Nat.le_refl _) _).1.more (by omega), (HD.out.row (Nat.le_refl _) _).2.1⟩
          · go_simp
            have hP := three_new x1 (-1) 18 4611686018427387904 3
            have hg : x1.heap.size ≠ B := by have := hs.lt; omega
            have hs := hs.alloc (.cells #[.int .i64 (-1), .int .i64 18, .int .i64 4611686018427387904] 3)
            generalize x1.alloc (.cells #[.int .i64 (-1), .int .i64 18, .int .i64 4611686018427387904] 3) = x1b at *
            generalize x1.heap.size = gA at *
            refine hK.out _ _ trivial (fun hHeld => ?_)
            clear hK K
            try simp only [Act.put, List.setIfInBounds_toArray, List.set_cons_zero, List.set_cons_succ]
            refine wpAnyH_ready (rs := [3]) (by kernel_rfl) (by simp) ?_
            refine AllReadyH.cons rfl (fun K hK => ?_) AllReadyH.nil
            go_simp
            refine (pick_any _ B (m1 + 2 + 2) 4 hs.1.1 (by omega) (by omega) (by omega)).mono ?_
            rintro e x1bq ⟨k2, hk2, rfl, hc2, ht2⟩
            have hs := hs.call hc2 ht2
            have hP := hP.turned ht2 hg
            clear hc2 ht2
            go_wp2_with fail
            refine hK.out _ _ trivial (fun hHeld => ?_)
            clear hK K
            try simp only [Act.put, List.setIfInBounds_toArray, List.set_cons_zero, List.set_cons_succ]
            have z2 : (0 : Int) ≤ (k2 : Int) := by omega
            refine wpAnyH_ready (rs := [6]) (by kernel_rfl) (by simp) ?_
            refine AllReadyH.cons rfl (fun K hK => ?_) AllReadyH.nil
            go_simp
            refine (among_any _ B (m1 + 2 + 2 + 2) gA 3 3 (fun _ => True) hs.1.1 (by omega) (by omega) (by omega) (by have := hs.1.2.2; omega) hP).mono ?_
            rintro e x1bqf ⟨tA, _, rfl, hc2, ht2⟩
            have hs := hs.call hc2 ht2
            clear hc2 ht2
            go_wp2_with fail
            refine hK.out _ _ trivial (fun hHeld => ?_)
            clear hK K
            try simp only [Act.put, List.setIfInBounds_toArray, List.set_cons_zero, List.set_cons_succ]
            refine wpAnyH_take (i := 9) (oi := { dst := some 61, op := _, type := _, pos := _, after := _, guard := _ }) (v := ?v21) rfl (by kernel_rfl) (by kernel_rfl) (by kernel_rfl) (fun _ _ _ h => h) (Or.inl ⟨by rfl, ?hy21⟩) trivial ?rest21
            case hy21 => (intro w hSw; clear hSw; go_simp; (try with_reducible rfl))
            try simp only [Act.put, List.setIfInBounds_toArray, List.set_cons_zero, List.set_cons_succ]
            obtain ⟨y4, c4⟩ := hs.cell (i := k1 * 4 + k2) (by omega)
            have f4 := hs.free (k1 * 4 + k2)
            refine wpAnyH_ready (rs := [10]) (by kernel_rfl) (by simp) ?_
            refine AllReadyH.cons rfl (fun K hK => ?_) AllReadyH.nil
            go_simp
            have hs := hs.set (i := k1 * 4 + k2) (by omega) tA
            refine hK.out _ _ trivial (fun hHeld => ?_)
            clear hK K c4 f4
            refine wpAnyH_done (by kernel_rfl) ?_ _
            obtain ⟨h1, h2, ⟨f, h3⟩, h4⟩ := hs
            have HD := Lib.hid h1
            clear h1
            go_wp2_with (first | ((with_reducible show wpList _ _ _ (Oper.mk _ (Op.load 47 _) _ _ _ _ :: _) _ _); refine loadB (h3) rfl rfl rfl ?_) | ((with_reducible show wpList _ _ _ (Oper.mk _ (Op.store 47 _ _) _ _ _ _ :: _) _ _); refine storeB (h2) rfl rfl rfl rfl ?_))
            try simp only [Exit.inBlock, Exit.then]
            exact retcB (h2.row 16 _) rfl rfl rfl ⟨_, rfl, (HD.out.row (Nat.le_refl _) _).1.more (by omega), (HD.out.row (Nat.le_refl _) _).2.1⟩
        · go_simp
          have hP := three_new x0 (-1) 18 4611686018427387904 3
          have hg : x0.heap.size ≠ B := by have := hs.lt; omega
          have hs := hs.alloc (.cells #[.int .i64 (-1), .int .i64 18, .int .i64 4611686018427387904] 3)
          generalize x0.alloc (.cells #[.int .i64 (-1), .int .i64 18, .int .i64 4611686018427387904] 3) = x0b at *
          generalize x0.heap.size = gA at *
          refine hK.out _ _ trivial (fun hHeld => ?_)
          clear hK K
          try simp only [Act.put, List.setIfInBounds_toArray, List.set_cons_zero, List.set_cons_succ]
          refine wpAnyH_ready (rs := [1]) (by kernel_rfl) (by simp) ?_
          refine AllReadyH.cons rfl (fun K hK => ?_) AllReadyH.nil
          go_simp
          refine (pick_any _ B (m1 + 2) 4 hs.1.1 (by omega) (by omega) (by omega)).mono ?_
          rintro e x0bp ⟨k1, hk1, rfl, hc2, ht2⟩
          have hs := hs.call hc2 ht2
          have hP := hP.turned ht2 hg
          clear hc2 ht2
          go_wp2_with fail
          refine hK.out _ _ trivial (fun hHeld => ?_)
          clear hK K
          try simp only [Act.put, List.setIfInBounds_toArray, List.set_cons_zero, List.set_cons_succ]
          have z1 : (0 : Int) ≤ (k1 : Int) := by omega
          refine wpAnyH_take (i := 8) (oi := { dst := some 60, op := _, type := _, pos := _, after := _, guard := _ }) (v := ?v22) rfl (by kernel_rfl) (by kernel_rfl) (by kernel_rfl) (fun _ _ _ h => h) (Or.inl ⟨by rfl, ?hy22⟩) trivial ?rest22
          case hy22 => (intro w hSw; clear hSw; go_simp; (try with_reducible rfl))
          try simp only [Act.put, List.setIfInBounds_toArray, List.set_cons_zero, List.set_cons_succ]
          refine wpAnyH_ready (rs := [3]) (by kernel_rfl) (by simp) ?_
          refine AllReadyH.cons rfl (fun K hK => ?_) AllReadyH.nil
          go_simp
          refine (pick_any _ B (m1 + 2 + 2) 4 hs.1.1 (by omega) (by omega) (by omega)).mono ?_
          rintro e x0bpq ⟨k2, hk2, rfl, hc2, ht2⟩
          have hs := hs.call hc2 ht2
          have hP := hP.turned ht2 hg
          clear hc2 ht2
          go_wp2_with fail
          refine hK.out _ _ trivial (fun hHeld => ?_)
          clear hK K
          try simp only [Act.put, List.setIfInBounds_toArray, List.set_cons_zero, List.set_cons_succ]
          have z2 : (0 : Int) ≤ (k2 : Int) := by omega
          refine wpAnyH_ready (rs := [6]) (by kernel_rfl) (by simp) ?_
          refine AllReadyH.cons rfl (fun K hK => ?_) AllReadyH.nil
          go_simp
          refine (among_any _ B (m1 + 2 + 2 + 2) gA 3 3 (fun _ => True) hs.1.1 (by omega) (by omega) (by omega) (by have := hs.1.2.2; omega) hP).mono ?_
          rintro e x0bpqf ⟨tA, _, rfl, hc2, ht2⟩
          have hs := hs.call hc2 ht2
          clear hc2 ht2
          go_wp2_with fail
          refine hK.out _ _ trivial (fun hHeld => ?_)
          clear hK K
          try simp only [Act.put, List.setIfInBounds_toArray, List.set_cons_zero, List.set_cons_succ]
          refine wpAnyH_take (i := 9) (oi := { dst := some 61, op := _, type := _, pos := _, after := _, guard := _ }) (v := ?v23) rfl (by kernel_rfl) (by kernel_rfl) (by kernel_rfl) (fun _ _ _ h => h) (Or.inl ⟨by rfl, ?hy23⟩) trivial ?rest23
          case hy23 => (intro w hSw; clear hSw; go_simp; (try with_reducible rfl))
          try simp only [Act.put, List.setIfInBounds_toArray, List.set_cons_zero, List.set_cons_succ]
          obtain ⟨y4, c4⟩ := hs.cell (i := k1 * 4 + k2) (by omega)
          have f4 := hs.free (k1 * 4 + k2)
          refine wpAnyH_ready (rs := [10]) (by kernel_rfl) (by simp) ?_
          refine AllReadyH.cons rfl (fun K hK => ?_) AllReadyH.nil
          go_simp
          have hs := hs.set (i := k1 * 4 + k2) (by omega) tA
          refine hK.out _ _ trivial (fun hHeld => ?_)
          clear hK K c4 f4
          refine wpAnyH_done (by kernel_rfl) ?_ _
          obtain ⟨h1, h2, ⟨f, h3⟩, h4⟩ := hs
          have HD := Lib.hid h1
          clear h1
          go_wp2_with (first | ((with_reducible show wpList _ _ _ (Oper.mk _ (Op.load 47 _) _ _ _ _ :: _) _ _); refine loadB (h3) rfl rfl rfl ?_) | ((with_reducible show wpList _ _ _ (Oper.mk _ (Op.store 47 _ _) _ _ _ _ :: _) _ _); refine storeB (h2) rfl rfl rfl rfl ?_))
          try simp only [Exit.inBlock, Exit.then]
          exact retcB (h2.row 16 _) rfl rfl rfl ⟨_, rfl, (HD.out.row (Nat.le_refl _) _).1.more (by omega), (HD.out.row (Nat.le_refl _) _).2.1⟩
      · have q0 : ((k : Int) == 0) = false := by simp; omega
        have q1 : ((k : Int) == 1) = true := by simp; omega
        clear hk1
        have HS := Lib.hid hs
        clear hs
        go_wp2_with fail
        have hs := HS.out
        clear HS
        have hP := three_new w5 16 17 16 3
        have hg : w5.heap.size ≠ B := by have := hs.lt; omega
        have hs := hs.alloc (.cells #[.int .i64 16, .int .i64 17, .int .i64 16] 3)
        refine (among_any _ B (m1 + 2) w5.heap.size 3 3 (fun _ => True) hs.1.1 (by omega) (by omega) (by omega) hg hP).mono ?_
        rintro e w6 ⟨tA, _, rfl, hc2, ht2⟩
        have HS := Lib.hid (hs.call hc2 ht2)
        clear hc2 ht2 hs hP hg
        go_wp2_with fail
        have hs := HS.out
        clear HS
        refine (pick_any _ B (m1 + 2 + 2) 3 hs.1.1 (by omega) (by omega) (by omega)).mono ?_
        rintro e w7 ⟨k3, hk3, rfl, hc2, ht2⟩
        have HS := Lib.hid (hs.call hc2 ht2)
        clear hc2 ht2 hs
        go_wp2_with fail
        have hs := HS.out
        clear HS
        refine (pick_any _ B (m1 + 2 + 2 + 2) 4 hs.1.1 (by omega) (by omega) (by omega)).mono ?_
        rintro e w8 ⟨k1, hk1, rfl, hc2, ht2⟩
        have HS := Lib.hid (hs.call hc2 ht2)
        clear hc2 ht2 hs
        have z1 : (0 : Int) ≤ (k1 : Int) := by omega
        have n1 : k1 < 4 := by omega
        go_wp2_with fail
        have hs := HS.out
        clear HS
        refine (pick_any _ B (m1 + 2 + 2 + 2 + 2) 2 hs.1.1 (by omega) (by omega) (by omega)).mono ?_
        rintro e w9 ⟨k2, hk2, rfl, hc2, ht2⟩
        have hs := hs.call hc2 ht2
        clear hc2 ht2
        have mq := mk_quad tA tA (16 + (k2 : Int)) (k3 : Int)
        have z2 : (0 : Int) ≤ (k2 : Int) := by omega
        obtain ⟨h1, h2, ⟨f, h3⟩, h4⟩ := hs
        have HD := Lib.hid h1
        clear h1
        have k3b := fun g => h3.row 16 g
        have k2b := fun g => h2.rowOther b3 (mk 16 g) (by omega)
        have HDb := Lib.hid (fun g => HD.out.row (b := b3) (by omega) (mk 16 g))
        go_wp2_with (first | ((with_reducible show wpList _ _ _ (Oper.mk _ (Op.store 44 _ _) _ _ _ _ :: _) _ _); refine storePR (h3) (by omega) rfl rfl rfl rfl ?_) | ((with_reducible show wpList _ _ _ (Oper.mk _ (Op.load 47 _) _ _ _ _ :: _) _ _); refine loadB (k3b _) rfl rfl rfl ?_) | ((with_reducible show wpList _ _ _ (Oper.mk _ (Op.store 47 _ _) _ _ _ _ :: _) _ _); refine storeB (k2b _) rfl rfl rfl rfl ?_))
        try simp only [Exit.inBlock, Exit.then]
        exact retcB ((k2b _).row 16 _) rfl rfl rfl ⟨_, rfl, ((HDb.out _).row (Nat.le_refl _) _).1.more (by omega), ((HDb.out _).row (Nat.le_refl _) _).2.1⟩
      · have q0 : ((k : Int) == 0) = false := by simp; omega
        have q1 : ((k : Int) == 1) = false := by simp; omega
        have q2 : ((k : Int) == 2) = true := by simp; omega
        clear hk1
        have HS := Lib.hid hs
        clear hs
        go_wp2_with fail
        have hs := HS.out
        clear HS
        have hP := three_new w5 16 17 16 3
        have hg : w5.heap.size ≠ B := by have := hs.lt; omega
        have hs := hs.alloc (.cells #[.int .i64 16, .int .i64 17, .int .i64 16] 3)
        refine (among_any _ B (m1 + 2) w5.heap.size 3 3 (fun _ => True) hs.1.1 (by omega) (by omega) (by omega) hg hP).mono ?_
        rintro e w6 ⟨tA, _, rfl, hc2, ht2⟩
        have HS := Lib.hid (hs.call hc2 ht2)
        clear hc2 ht2 hs hP hg
        go_wp2_with fail
        have hs := HS.out
        clear HS
        refine (pick_any _ B (m1 + 2 + 2) 3 hs.1.1 (by omega) (by omega) (by omega)).mono ?_
        rintro e w7 ⟨k3, hk3, rfl, hc2, ht2⟩
        have HS := Lib.hid (hs.call hc2 ht2)
        clear hc2 ht2 hs
        go_wp2_with fail
        have hs := HS.out
        clear HS
        refine (pick_any _ B (m1 + 2 + 2 + 2) 4 hs.1.1 (by omega) (by omega) (by omega)).mono ?_
        rintro e w8 ⟨k1, hk1, rfl, hc2, ht2⟩
        have HS := Lib.hid (hs.call hc2 ht2)
        clear hc2 ht2 hs
        have z1 : (0 : Int) ≤ (k1 : Int) := by omega
        have n1 : k1 < 4 := by omega
        go_wp2_with fail
        have hs := HS.out
        clear HS
        refine (pick_any _ B (m1 + 2 + 2 + 2 + 2) 2 hs.1.1 (by omega) (by omega) (by omega)).mono ?_
        rintro e w9 ⟨k2, hk2, rfl, hc2, ht2⟩
        have hs := hs.call hc2 ht2
        clear hc2 ht2
        have mq := mk_quad tA tA (16 + (k2 : Int)) (k3 : Int)
        have z2 : (0 : Int) ≤ (k2 : Int) := by omega
        obtain ⟨h1, h2, ⟨f, h3⟩, h4⟩ := hs
        have HD := Lib.hid h1
        clear h1
        have k3b := fun g => h3.row 16 g
        have k2b := fun g => h2.rowOther b3 (mk 16 g) (by omega)
        have HDb := Lib.hid (fun g => HD.out.row (b := b3) (by omega) (mk 16 g))
        go_wp2_with (first | ((with_reducible show wpList _ _ _ (Oper.mk _ (Op.store 44 _ _) _ _ _ _ :: _) _ _); refine storePR (h3) (by omega) rfl rfl rfl rfl ?_) | ((with_reducible show wpList _ _ _ (Oper.mk _ (Op.load 47 _) _ _ _ _ :: _) _ _); refine loadB (k3b _) rfl rfl rfl ?_) | ((with_reducible show wpList _ _ _ (Oper.mk _ (Op.store 47 _ _) _ _ _ _ :: _) _ _); refine storeB (k2b _) rfl rfl rfl rfl ?_))
        try simp only [Exit.inBlock, Exit.then]
        exact retcB ((k2b _).row 16 _) rfl rfl rfl ⟨_, rfl, ((HDb.out _).row (Nat.le_refl _) _).1.more (by omega), ((HDb.out _).row (Nat.le_refl _) _).2.1⟩
      · have q0 : ((k : Int) == 0) = false := by simp; omega
        have q1 : ((k : Int) == 1) = false := by simp; omega
        have q2 : ((k : Int) == 2) = false := by simp; omega
        have q3 : ((k : Int) == 3) = true := by simp; omega
        clear hk1
        obtain ⟨h1, h2, ⟨f, h3⟩, h4⟩ := hs
        have HD := Lib.hid h1
        clear h1
        go_wp2_with ((with_reducible show wpList _ _ _ (Oper.mk _ (Op.store 47 _ _) _ _ _ _ :: _) _ _); refine storeB (h2) rfl rfl rfl rfl ?_)
        try simp only [Exit.inBlock, Exit.then]
        exact retcB (h2.row 16 _) rfl rfl rfl ⟨_, rfl, (HD.out.row (Nat.le_refl _) _).1.more (by omega), (HD.out.row (Nat.le_refl _) _).2.1⟩
      · have q0 : ((k : Int) == 0) = false := by simp; omega
        have q1 : ((k : Int) == 1) = false := by simp; omega
        have q2 : ((k : Int) == 2) = false := by simp; omega
        have q3 : ((k : Int) == 3) = false := by simp; omega
        have q4 : ((k : Int) == 4) = true := by simp; omega
        clear hk1
        have HS := Lib.hid hs
        clear hs
        go_wp2_with fail
        go_loopg [11] 4 (fun g s11 wr => ∃ r m' : Nat, r + g = 4 ∧ s11 = .int .i64 r ∧ m' ≤ m1 + 2 + r * 4 * 2 ∧ BdSt w B m' b3 wr)
        case atStart => exact ⟨0, _, by omega, rfl, by omega, HS.out⟩
        case round =>
          obtain ⟨r, m3, hrg, rfl, hm3, hs⟩ := hrel
          clear HS
          cases gk with
          | zero =>
            have hr : ¬ ((r : Int) < 4) := by omega
            obtain rfl : r = 4 := by omega
            clear hrg hr
            obtain ⟨h1, h2, ⟨f, h3⟩, h4⟩ := hs
            have HD := Lib.hid h1
            clear h1
            go_wp2_with (first | ((with_reducible show wpList _ _ _ (Oper.mk _ (Op.load 47 _) _ _ _ _ :: _) _ _); refine loadB (h3) rfl rfl rfl ?_) | ((with_reducible show wpList _ _ _ (Oper.mk _ (Op.store 47 _ _) _ _ _ _ :: _) _ _); refine storeB (h2) rfl rfl rfl rfl ?_))
            try simp only [Exit.inBlock, Exit.then]
            exact retcB (h2.row 16 _) rfl rfl rfl ⟨_, rfl, (HD.out.row (Nat.le_refl _) _).1.more (by omega), (HD.out.row (Nat.le_refl _) _).2.1⟩
          | succ g =>
            have hr4 : (r : Int) < 4 := by omega
            have hr5 : r < 4 := by omega
            have hr0 : (0 : Int) ≤ (r : Int) := by omega
            have HS := Lib.hid hs
            clear hs
            go_wp2_with fail
            go_loopg [12] 4 (fun h s12 wx => ∃ c m' : Nat, c + h = 4 ∧ s12 = .int .i64 c ∧ m' ≤ m1 + 2 + (r * 4 + c) * 2 ∧ BdSt w B m' b3 wx)
            case atStart => exact ⟨0, m3, by omega, rfl, by omega, HS.out⟩
            case round =>
              obtain ⟨c, m2, hch, rfl, hm2, hs⟩ := hrel
              clear HS hm3
              cases gk with
              | zero =>
                have hcc : ¬ ((c : Int) < 4) := by omega
                obtain rfl : c = 4 := by omega
                have HS := Lib.hid hs
                clear hs hch hcc
                go_wp2_with fail
                go_roundg g
                case rel => exact ⟨r + 1, m2, by omega, by go_num, by omega, HS.out⟩
                case measure => omega
              | succ h =>
                have hcc : (c : Int) < 4 := by omega
                have hc5 : c < 4 := by omega
                have hc0 : (0 : Int) ≤ (c : Int) := by omega
                have HS := Lib.hid hs
                clear hs
                go_wp2_with fail
                have hs := HS.out.drew
                clear HS
                refine wp_region_held_drew (S := fun _ => True) (by kernel_rfl) trivial (fun hHeld => ?_)
                generalize wr.drew = x0 at *
                refine wpAnyH_take (i := 0) (oi := { dst := some 94, op := _, type := _, pos := _, after := _, guard := _ }) (v := ?v1) rfl (by kernel_rfl) (by kernel_rfl) (by kernel_rfl) (fun _ _ _ h => h) (Or.inl ⟨by rfl, ?hy1⟩) trivial ?rest1
                case hy1 => (intro w hSw; clear hSw; go_simp; (try with_reducible rfl))
                try simp only [Act.put, List.setIfInBounds_toArray, List.set_cons_zero, List.set_cons_succ]
                refine wpAnyH_take (i := 1) (oi := { dst := some 95, op := _, type := _, pos := _, after := _, guard := _ }) (v := ?v2) rfl (by kernel_rfl) (by kernel_rfl) (by kernel_rfl) (fun _ _ _ h => h) (Or.inl ⟨by rfl, ?hy2⟩) trivial ?rest2
                case hy2 => (intro w hSw; clear hSw; go_simp; (try with_reducible rfl))
                try simp only [Act.put, List.setIfInBounds_toArray, List.set_cons_zero, List.set_cons_succ]
                refine wpAnyH_take (i := 2) (oi := { dst := some 96, op := _, type := _, pos := _, after := _, guard := _ }) (v := ?v3) rfl (by kernel_rfl) (by kernel_rfl) (by kernel_rfl) (fun _ _ _ h => h) (Or.inl ⟨by rfl, ?hy3⟩) trivial ?rest3
                case hy3 => (intro w hSw; clear hSw; go_simp; (try with_reducible rfl))
                try simp only [Act.put, List.setIfInBounds_toArray, List.set_cons_zero, List.set_cons_succ]
                refine wpAnyH_take (i := 3) (oi := { dst := some 97, op := _, type := _, pos := _, after := _, guard := _ }) (v := ?v4) rfl (by kernel_rfl) (by kernel_rfl) (by kernel_rfl) (fun _ _ _ h => h) (Or.inl ⟨by rfl, ?hy4⟩) trivial ?rest4
                case hy4 => (intro w hSw; clear hSw; go_simp; (try with_reducible rfl))
                try simp only [Act.put, List.setIfInBounds_toArray, List.set_cons_zero, List.set_cons_succ]
                refine wpAnyH_take (i := 4) (oi := { dst := some 98, op := _, type := _, pos := _, after := _, guard := _ }) (v := ?v5) rfl (by kernel_rfl) (by kernel_rfl) (by kernel_rfl) (fun _ _ _ h => h) (Or.inl ⟨by rfl, ?hy5⟩) trivial ?rest5
                case hy5 => (intro w hSw; clear hSw; go_simp; (try with_reducible rfl))
                try simp only [Act.put, List.setIfInBounds_toArray, List.set_cons_zero, List.set_cons_succ]
                refine wpAnyH_take (i := 5) (oi := { dst := some 99, op := _, type := _, pos := _, after := _, guard := _ }) (v := ?v6) rfl (by kernel_rfl) (by kernel_rfl) (by kernel_rfl) (fun _ _ _ h => h) (Or.inl ⟨by rfl, ?hy6⟩) trivial ?rest6
                case hy6 => (intro w hSw; clear hSw; go_simp; (try with_reducible rfl))
                try simp only [Act.put, List.setIfInBounds_toArray, List.set_cons_zero, List.set_cons_succ]
                refine wpAnyH_take (i := 6) (oi := { dst := some 100, op := _, type := _, pos := _, after := _, guard := _ }) (v := ?v7) rfl (by kernel_rfl) (by kernel_rfl) (by kernel_rfl) (fun _ _ _ h => h) (Or.inl ⟨by rfl, ?hy7⟩) trivial ?rest7
                case hy7 => (intro w hSw; clear hSw; go_simp; (try with_reducible rfl))
                try simp only [Act.put, List.setIfInBounds_toArray, List.set_cons_zero, List.set_cons_succ]
                refine wpAnyH_take (i := 7) (oi := { dst := some 101, op := _, type := _, pos := _, after := _, guard := _ }) (v := ?v8) rfl (by kernel_rfl) (by kernel_rfl) (by kernel_rfl) (fun _ _ _ h => h) (Or.inl ⟨by rfl, ?hy8⟩) trivial ?rest8
                case hy8 => (intro w hSw; clear hSw; go_simp; (try with_reducible rfl))
                try simp only [Act.put, List.setIfInBounds_toArray, List.set_cons_zero, List.set_cons_succ]
                refine wpAnyH_take (i := 12) (oi := { dst := some 106, op := _, type := _, pos := _, after := _, guard := _ }) (v := ?v9) rfl (by kernel_rfl) (by kernel_rfl) (by kernel_rfl) (fun _ _ _ h => h) (Or.inl ⟨by rfl, ?hy9⟩) trivial ?rest9
                case hy9 => (intro w hSw; clear hSw; go_simp; (try with_reducible rfl))
                try simp only [Act.put, List.setIfInBounds_toArray, List.set_cons_zero, List.set_cons_succ]
                refine wpAnyH_take (i := 13) (oi := { dst := some 107, op := _, type := _, pos := _, after := _, guard := _ }) (v := ?v10) rfl (by kernel_rfl) (by kernel_rfl) (by kernel_rfl) (fun _ _ _ h => h) (Or.inl ⟨by rfl, ?hy10⟩) trivial ?rest10
                case hy10 => (intro w hSw; clear hSw; go_simp; (try with_reducible rfl))
                try simp only [Act.put, List.setIfInBounds_toArray, List.set_cons_zero, List.set_cons_succ]
                refine wpAnyH_ready (rs := [8]) (by kernel_rfl) (by simp) ?_
                refine AllReadyH.cons rfl (fun K hK => ?_) AllReadyH.nil
                go_simp
                refine (pick_any _ B (m2) 12 hs.1.1 (by omega) (by omega) (by omega)).mono ?_
                rintro e x1 ⟨k1, hk1, rfl, hc2, ht2⟩
                have hs := hs.call hc2 ht2
                clear hc2 ht2
                go_wp2_with fail
                refine hK.out _ _ trivial (fun hHeld => ?_)
                clear hK K
                try simp only [Act.put, List.setIfInBounds_toArray, List.set_cons_zero, List.set_cons_succ]
                refine wpAnyH_take (i := 9) (oi := { dst := some 103, op := _, type := _, pos := _, after := _, guard := _ }) (v := ?v11) rfl (by kernel_rfl) (by kernel_rfl) (by kernel_rfl) (fun _ _ _ h => h) (Or.inl ⟨by rfl, ?hy11⟩) trivial ?rest11
                case hy11 => (intro w hSw; clear hSw; go_simp; (try with_reducible rfl))
                try simp only [Act.put, List.setIfInBounds_toArray, List.set_cons_zero, List.set_cons_succ]
                refine wpAnyH_take (i := 10) (oi := { dst := some 104, op := _, type := _, pos := _, after := _, guard := _ }) (v := ?v12) rfl (by kernel_rfl) (by kernel_rfl) (by kernel_rfl) (fun _ _ _ h => h) (Or.inl ⟨by rfl, ?hy12⟩) trivial ?rest12
                case hy12 => (intro w hSw; clear hSw; go_simp; (try with_reducible rfl))
                try simp only [Act.put, List.setIfInBounds_toArray, List.set_cons_zero, List.set_cons_succ]
                refine wpAnyH_take (i := 11) (oi := { dst := some 105, op := _, type := _, pos := _, after := _, guard := _ }) (v := ?v13) rfl (by kernel_rfl) (by kernel_rfl) (by kernel_rfl) (fun _ _ _ h => h) (Or.inl ⟨by rfl, ?hy13⟩) trivial ?rest13
                case hy13 => (intro w hSw; clear hSw; go_simp; (try with_reducible rfl))
                try simp only [Act.put, List.setIfInBounds_toArray, List.set_cons_zero, List.set_cons_succ]
                refine wpAnyH_take (i := 14) (oi := { dst := some 108, op := _, type := _, pos := _, after := _, guard := _ }) (v := ?v14) rfl (by kernel_rfl) (by kernel_rfl) (by kernel_rfl) (fun _ _ _ h => h) (Or.inl ⟨by rfl, ?hy14⟩) trivial ?rest14
                case hy14 => (intro w hSw; clear hSw; go_simp; (try with_reducible rfl))
                try simp only [Act.put, List.setIfInBounds_toArray, List.set_cons_zero, List.set_cons_succ]
                obtain ⟨y4, c4⟩ := hs.cell (i := r * 4 + c) (by omega)
                have f4 := hs.free (r * 4 + c)
                refine wpAnyH_ready (rs := [15]) (by kernel_rfl) (by simp) ?_
                refine AllReadyH.cons rfl (fun K hK => ?_) AllReadyH.nil
                go_simp
                have HS : Hid (∃ v, BdSt w B (m2 + 2) b3 (x1.setCell ⟨b3, r * 4 + c, none⟩ (.int .i64 v)) → True) := ⟨0, fun _ => trivial⟩
                clear HS
                refine hK.out _ _ trivial (fun hHeld => ?_)
                clear hK K c4 f4
                refine wpAnyH_done (by kernel_rfl) ?_ _
                have HS := Lib.hid hs
                clear hs
                go_wp2_with fail
                go_roundg h
                case rel => exact ⟨c + 1, _, by omega, by go_num, by omega, HS.out.set (by omega) _⟩
                case measure => omega
      · have q0 : ((k : Int) == 0) = false := by simp; omega
        have q1 : ((k : Int) == 1) = false := by simp; omega
        have q2 : ((k : Int) == 2) = false := by simp; omega
        have q3 : ((k : Int) == 3) = false := by simp; omega
        have q4 : ((k : Int) == 4) = false := by simp; omega
        clear hk1
        obtain ⟨h1, h2, ⟨f, h3⟩, h4⟩ := hs
        have HD := Lib.hid h1
        clear h1
        go_wp2_with (first | ((with_reducible show wpList _ _ _ (Oper.mk _ (Op.load 47 _) _ _ _ _ :: _) _ _); refine loadB (h3) rfl rfl rfl ?_) | ((with_reducible show wpList _ _ _ (Oper.mk _ (Op.store 47 _ _) _ _ _ _ :: _) _ _); refine storeB (h2) rfl rfl rfl rfl ?_))
        try simp only [Exit.inBlock, Exit.then]
        exact retcB (h2.row 16 _) rfl rfl rfl ⟨_, rfl, (HD.out.row (Nat.le_refl _) _).1.more (by omega), (HD.out.row (Nat.le_refl _) _).2.1⟩
    | succ g =>
      have hr4 : (r : Int) < 4 := by omega
      have hr5 : r < 4 := by omega
      have HS := Lib.hid hs
      clear hs
      go_wp2_with fail
      go_loopg [7] 4 (fun h s7 wx => ∃ c m' : Nat, c + h = 4 ∧ s7 = .int .i64 c ∧ m' ≤ m + 4 + (r * 4 + c) * 6 ∧ BdSt w B m' b3 wx)
      case atStart => exact ⟨0, m1, by omega, rfl, by omega, HS.out⟩
      case round =>
        obtain ⟨c, m2, hch, rfl, hm2, hs⟩ := hrel
        clear HS hm1
        cases gk with
        | zero =>
          have hcc : ¬ ((c : Int) < 4) := by omega
          obtain rfl : c = 4 := by omega
          have HS := Lib.hid hs
          clear hs hch hcc
          go_wp2_with fail
          go_roundg g
          case rel => exact ⟨r + 1, m2, by omega, by go_num, by omega, HS.out⟩
          case measure => omega
        | succ h =>
          have hcc : (c : Int) < 4 := by omega
          have hc5 : c < 4 := by omega
          have hr0 : (0 : Int) ≤ (r : Int) := by omega
          have hc0 : (0 : Int) ≤ (c : Int) := by omega
          have HS := Lib.hid hs
          clear hs
          go_wp2_with fail
          have hs := HS.out
          clear HS
          refine (tile_any _ B m2 hs.1.1 (by omega)).mono ?_
          rintro e w5 ⟨t, rfl, hc2, ht2⟩
          have hs := hs.call hc2 ht2
          clear hc2 ht2
          cases few with
          | false =>
            cases full with
            | false =>
              obtain ⟨y4, c4⟩ := hs.cell (i := r * 4 + c) (by omega)
              have f4 := hs.free (r * 4 + c)
              have HS := Lib.hid hs
              have HM : Hid (m2+2 ≤ m + 4 + (r * 4 + (c + 1)) * 6) := by show _ ≤ _; omega
              clear hs
              go_wp2_with fail
              go_roundg h
              case rel => exact ⟨c + 1, _, by omega, by go_num, HM.out, HS.out.set (by omega) _⟩
              case measure => omega
            | true =>
              by_cases h0 : t = (0 : Int)
              · have q0 : (t == (0 : Int)) = true := by simpa using h0
                have HS := Lib.hid hs
                go_wp2_with fail
                have hs := HS.out
                clear HS
                refine (pick_any _ B (m2+2) 3 hs.1.1 (by omega) (by omega) (by omega)).mono ?_
                rintro e wz ⟨k, hk, rfl, hc2, ht2⟩
                have hs := hs.call hc2 ht2
                clear hc2 ht2
                obtain ⟨y4, c4⟩ := hs.cell (i := r * 4 + c) (by omega)
                have f4 := hs.free (r * 4 + c)
                have HS := Lib.hid hs
                have HM : Hid (m2+2+2 ≤ m + 4 + (r * 4 + (c + 1)) * 6) := by show _ ≤ _; omega
                clear hs
                go_wp2_with fail
                go_roundg h
                case rel => exact ⟨c + 1, _, by omega, by go_num, HM.out, HS.out.set (by omega) _⟩
                case measure => omega
              · have q0 : (t == (0 : Int)) = false := by simpa using h0
                obtain ⟨y4, c4⟩ := hs.cell (i := r * 4 + c) (by omega)
                have f4 := hs.free (r * 4 + c)
                have HS := Lib.hid hs
                have HM : Hid (m2+2 ≤ m + 4 + (r * 4 + (c + 1)) * 6) := by show _ ≤ _; omega
                clear hs
                go_wp2_with fail
                go_roundg h
                case rel => exact ⟨c + 1, _, by omega, by go_num, HM.out, HS.out.set (by omega) _⟩
                case measure => omega
          | true =>
            have HS := Lib.hid hs
            clear hs
            go_wp2_with fail
            have hs := HS.out
            clear HS
            refine (one_any _ B (m2 + 2) 3 hs.1.1 (by omega) (by omega) (by omega)).mono ?_
            rintro e w6 ⟨b, rfl, hc2, ht2⟩
            have hs := hs.call hc2 ht2
            clear hc2 ht2
            cases b with
            | true =>
              cases full with
              | false =>
                obtain ⟨y4, c4⟩ := hs.cell (i := r * 4 + c) (by omega)
                have f4 := hs.free (r * 4 + c)
                have HS := Lib.hid hs
                have HM : Hid (m2+2+2 ≤ m + 4 + (r * 4 + (c + 1)) * 6) := by show _ ≤ _; omega
                clear hs
                go_wp2_with fail
                go_roundg h
                case rel => exact ⟨c + 1, _, by omega, by go_num, HM.out, HS.out.set (by omega) _⟩
                case measure => omega
              | true =>
                by_cases h0 : t = (0 : Int)
                · have q0 : (t == (0 : Int)) = true := by simpa using h0
                  have HS := Lib.hid hs
                  go_wp2_with fail
                  have hs := HS.out
                  clear HS
                  refine (pick_any _ B (m2+2+2) 3 hs.1.1 (by omega) (by omega) (by omega)).mono ?_
                  rintro e wz ⟨k, hk, rfl, hc2, ht2⟩
                  have hs := hs.call hc2 ht2
                  clear hc2 ht2
                  obtain ⟨y4, c4⟩ := hs.cell (i := r * 4 + c) (by omega)
                  have f4 := hs.free (r * 4 + c)
                  have HS := Lib.hid hs
                  have HM : Hid (m2+2+2+2 ≤ m + 4 + (r * 4 + (c + 1)) * 6) := by show _ ≤ _; omega
                  clear hs
                  go_wp2_with fail
                  go_roundg h
                  case rel => exact ⟨c + 1, _, by omega, by go_num, HM.out, HS.out.set (by omega) _⟩
                  case measure => omega
                · have q0 : (t == (0 : Int)) = false := by simpa using h0
                  obtain ⟨y4, c4⟩ := hs.cell (i := r * 4 + c) (by omega)
                  have f4 := hs.free (r * 4 + c)
                  have HS := Lib.hid hs
                  have HM : Hid (m2+2+2 ≤ m + 4 + (r * 4 + (c + 1)) * 6) := by show _ ≤ _; omega
                  clear hs
                  go_wp2_with fail
                  go_roundg h
                  case rel => exact ⟨c + 1, _, by omega, by go_num, HM.out, HS.out.set (by omega) _⟩
                  case measure => omega
            | false =>
              cases full with
              | false =>
                obtain ⟨y4, c4⟩ := hs.cell (i := r * 4 + c) (by omega)
                have f4 := hs.free (r * 4 + c)
                have HS := Lib.hid hs
                have HM : Hid (m2+2+2 ≤ m + 4 + (r * 4 + (c + 1)) * 6) := by show _ ≤ _; omega
                clear hs
                go_wp2_with fail
                go_roundg h
                case rel => exact ⟨c + 1, _, by omega, by go_num, HM.out, HS.out.set (by omega) _⟩
                case measure => omega
              | true =>
                have HS := Lib.hid hs
                clear hs
                go_wp2_with fail
                have hs := HS.out
                clear HS
                refine (pick_any _ B (m2+2+2) 3 hs.1.1 (by omega) (by omega) (by omega)).mono ?_
                rintro e wz ⟨k, hk, rfl, hc2, ht2⟩
                have hs := hs.call hc2 ht2
                clear hc2 ht2
                obtain ⟨y4, c4⟩ := hs.cell (i := r * 4 + c) (by omega)
                have f4 := hs.free (r * 4 + c)
                have HS := Lib.hid hs
                have HM : Hid (m2+2+2+2 ≤ m + 4 + (r * 4 + (c + 1)) * 6) := by show _ ≤ _; omega
                clear hs
                go_wp2_with fail
                go_roundg h
                case rel => exact ⟨c + 1, _, by omega, by go_num, HM.out, HS.out.set (by omega) _⟩
                case measure => omega
end Go.Proofs.Ytblcojacmjbjcab
namespace Go.Proofs.Ytblcojacmjbjcab
open Go.RowKit Plain
attribute [local go_sem] store_new
set_option linter.unusedSimpArgs false

def g16 (t : Int) : Nat → Int := fun j => [t, 1, 2, t, 2, 0, 0, 1, 1, 0, 0, 2, t, 2, 1, t].getD j 0
theorem mk_g16 (t : Int) : (#[.int .i64 t, .int .i64 1, .int .i64 2, .int .i64 t, .int .i64 2, .int .i64 0, .int .i64 0, .int .i64 1, .int .i64 1, .int .i64 0, .int .i64 0, .int .i64 2, .int .i64 t, .int .i64 2, .int .i64 1, .int .i64 t] : Array Value) = mk 16 (g16 t) := rfl
end Go.Proofs.Ytblcojacmjbjcab
namespace Go.Proofs.Ytblcojacmjbjcab
open Go.RowKit Plain
attribute [local go_sem] store_new
set_option linter.unusedSimpArgs false

theorem IsRow.code {w : World} {a : Option Addr} {len cap : Nat} {z : List Int} (h : IsRow .u8 w a len cap z) : CodeRow w a len w.heap.size := by
  rcases h with ⟨_, h, _, _⟩ | ⟨x, rfl, h1, h2, h3, h4, h5⟩
  · exact .inl h
  · by_cases h0 : len = 0
    · exact .inl h0
    · obtain ⟨b, o, sp⟩ := x
      have hc := h4 0 (by omega)
      have hsp : sp = none := by simpa [Addr.add] using World.cell?_spot hc
      subst hsp
      have hb : b < w.heap.size := by simpa [Addr.add] using World.block_lt_of_cell? w _ hc
      refine .inr ⟨b, o, rfl, hb, fun j hj => ?_⟩
      have := h4 j (by omega)
      have e : (⟨b, o, none⟩ : Addr).add j = ⟨b, o + j, none⟩ := by unfold Addr.add; split <;> simp_all
      rw [e, List.getD_eq_getElem?_getD, List.getElem?_eq_getElem (by omega)] at this
      have hw := h5 z[j] (List.getElem_mem _)
      have e1 : IntKind.u8.min = 0 := rfl
      have e2 : IntKind.u8.max = 255 := rfl
      simp [Lit.wf, e1, e2] at hw
      obtain ⟨n, hn⟩ := Int.eq_ofNat_of_zero_le hw.1
      exact ⟨n, by omega, by rw [this, ← hn]; rfl⟩
theorem vBig_any (a : Option Addr) (len cap : Nat) (w : World) : Calls Try.prog 53 #[.slice a len cap] w fun e w' => e = .returned (.bool (decide ((65536 : Int) < (len : Int)))) ∧ w = w' := by
  go_enter Try.func53, Try.ntmps53
  go_wp2
  go_ret
  exact ⟨rfl, rfl⟩
theorem rBig_any (a : Option Addr) (len cap : Nat) (w : World) : Calls Try.prog 15 #[.slice a len cap] w fun e w' => e = .returned (.bool (decide ((65536 : Int) < (len : Int)))) ∧ w = w' := by
  go_enter Try.func15, Try.ntmps15
  go_wp2
  go_ret
  exact ⟨rfl, rfl⟩
theorem below_two {w w2 : World} {o : Obj} {p : Obj} {B : Nat} (hB : B = w.heap.size + 1) (h : Turned B ((w.alloc o).alloc p) w2) : Below w.heap.size w w2 :=
  (((Below.refl w.heap.size w).alloc (Nat.le_refl _) o).alloc (by simp) p).trans (h.below (by simp; omega) (by omega))
theorem below_one {w w2 : World} {p : Obj} {B : Nat} (hB : B = w.heap.size) (h : Turned B (w.alloc p) w2) : Below w.heap.size w w2 :=
  ((Below.refl w.heap.size w).alloc (Nat.le_refl _) p).trans (h.below (by simp) (by omega))
/-- A code's bytes, as numbers. -/
theorem CodeRow.fn {w : World} {b o len B : Nat} (h : CodeRow w (some ⟨b, o, none⟩) len B) : ∃ g : Nat → Nat, ∀ j, j < len → g j < 256 ∧ w.cell? ⟨b, o + j, none⟩ = some (.int .u8 (g j : Int)) := by
  rcases h with h | ⟨b', o', ha, _, hc⟩
  · exact ⟨fun _ => 0, fun j hj => by omega⟩
  · cases ha
    refine ⟨fun j => if hj : j < len then Classical.choose (hc j hj) else 0, fun j hj => ?_⟩
    have := Classical.choose_spec (hc j hj)
    simp only [hj, dif_pos]
    exact this
theorem infoU8c : (Try.prog.info? 5).map (fun i => (i.zero, i.size, i.bytes)) = some (some (.int .u8 0), 1, 1) := by kernel_rfl
theorem own_code {w : World} {base g m cap : Nat} {xs : List Value} (h : w.ownsRow base 5 1 (.slice (some ⟨g, 0, none⟩) m cap) m xs) (hl : xs.length = m) (hx : ∀ v ∈ xs, ∃ n : Nat, n < 256 ∧ v = .int .u8 (n : Int)) :
    CodeRow w (some ⟨g, 0, none⟩) m w.heap.size := by
  refine .inr ⟨g, 0, rfl, (h.lt g rfl).2, fun j hj => ?_⟩
  obtain ⟨n, hn, hv⟩ := hx xs[j] (List.getElem_mem _)
  refine ⟨n, hn, ?_⟩
  rw [Nat.zero_add, h.cellAt j (by omega), List.getElem?_eq_getElem (by omega), hv]
/-- How vCut ends. -/
def CutPost (w : World) (e : Ending) (w' : World) : Prop := ∃ g m c, e = .returned (.slice (some ⟨g, 0, none⟩) m c) ∧ m ≤ 65536 ∧ CodeRow w' (some ⟨g, 0, none⟩) m w'.heap.size ∧ Below w.heap.size w w'
set_option maxHeartbeats 2000000 in
set_option maxRecDepth 20000 in
theorem vCut1_ge (b o len cap : Nat) (w : World) (hl : len ≤ 65536) (hn : 1 < len) (hcap : len ≤ cap) (hr : CodeRow w (some ⟨b, o, none⟩) len w.heap.size) :
    Calls Try.prog 58 #[.slice (some ⟨b, o, none⟩) len cap, .int .i64 1] w (CutPost w) := by
  obtain ⟨i0, hi, hz0, hz1, hz2⟩ := info_parts infoU8c
  obtain ⟨h, hh⟩ := (hr.later ((Below.refl _ w).alloc (Nat.le_refl _) (.cells #[] 5))).fn
  have HO : (w.alloc (.cells #[] 5)).ownsRow w.heap.size 5 1 (.slice (some ⟨w.heap.size, 0, none⟩) 0 0) 0 [] :=
    World.ownsRow_made (base := w.heap.size) (e := 5) (size := 1) w #[] 0 (Nat.le_refl _) (by decide) rfl
  clear hr
  have hn2 : (1 : Int) ≤ (len : Int) := by omega
  have hnl : ¬ ((len : Int) < 1) := by omega
  have hlc : (len : Int) ≤ (cap : Int) := by omega
  go_enter Try.func58, Try.ntmps58
  go_wp2_with (at_builtin; refine wpList_append_own _ rfl _ _ 22 rfl w.heap.size 5 i0 (.int .u8 0) 1 1 Try.underlying22 hi hz0 hz1 hz2 rfl (by decide) _ _ _ rfl HO ⟨b, o + 1, none⟩ (len - 1) (cap - 1) ((List.range (len - 1)).map fun j => Value.int .u8 (h (1 + j) : Int)) rfl (by simp) ?c1 ?c2 ?c3 ?c4 ?c5 ?_)
  case c1 => exact (fun j u hj => by obtain ⟨hlt, heq⟩ := List.getElem?_eq_some_iff.1 hj; have hj2 : j < len - 1 := (by simpa using hlt); rw [List.getElem_range] at heq; subst heq; have := (hh (1 + j) (by omega)).2; rw [show o + 1 + j = o + (1 + j) from Nat.add_assoc _ _ _]; simpa using this)
  case c2 => exact (fun _ _ => rfl)
  case c3 => unfold maxLen; omega
  case c4 => omega

  intro v1 w1 hown1 hgrow1 _
  have hb1 : Below w.heap.size w w1 := ((Below.refl w.heap.size w).alloc (Nat.le_refl _) _).grown hgrow1 (by simp) (fun j hj => by have := (HO.lt j hj).1; omega)
  have hs1 := hb1.size
  clear hgrow1
  go_wp2_with (at_builtin; refine wpList_append_own _ rfl _ _ 22 rfl w.heap.size 5 i0 (.int .u8 0) 1 1 Try.underlying22 hi hz0 hz1 hz2 rfl (by decide) _ _ _ rfl (hown1.alloc _) ⟨w1.heap.size, 0, none⟩ 1 1 [.int .u8 1] rfl rfl ?d1 ?d2 ?d3 ?d4 ?d5 ?_)
  case d1 => exact cell_one_new _ _ _
  case d2 => simp [Value.oneCell']
  case d3 => unfold maxLen; omega
  case d4 => omega
  case d5 => simp; omega
  intro v2 w2 hown2 hgrow2 _
  obtain ⟨gg, cap2, hv2⟩ := ownsRow_succ hown2
  subst hv2
  have hb2 : Below w.heap.size w w2 := (hb1.alloc hs1 _).grown hgrow2 (by simp; omega) (fun j hj => by have := (hown1.lt j hj).1; omega)
  have HR := Lib.hid (own_code hown2 (by simp ) (by
    intro v hv
    (simp at hv; rcases hv with ⟨j, hj, rfl⟩ | rfl; exact ⟨_, (hh (1 + j) (by omega)).1, rfl⟩; exact ⟨1, by omega, rfl⟩)))
  have HB := Lib.hid hb2
  clear hown2 hgrow2 hb2 hown1 hb1
  go_wp2_with fail
  go_ret
  exact ⟨gg, _, _, rfl, by omega, HR.out, HB.out⟩
set_option maxHeartbeats 2000000 in
set_option maxRecDepth 20000 in
theorem vCut2_ge (b o len cap : Nat) (w : World) (hl : len ≤ 65536) (hn : 2 < len) (hcap : len ≤ cap) (hr : CodeRow w (some ⟨b, o, none⟩) len w.heap.size) :
    Calls Try.prog 58 #[.slice (some ⟨b, o, none⟩) len cap, .int .i64 2] w (CutPost w) := by
  obtain ⟨i0, hi, hz0, hz1, hz2⟩ := info_parts infoU8c
  obtain ⟨h, hh⟩ := (hr.later ((Below.refl _ w).alloc (Nat.le_refl _) (.cells #[] 5))).fn
  have HO : (w.alloc (.cells #[] 5)).ownsRow w.heap.size 5 1 (.slice (some ⟨w.heap.size, 0, none⟩) 0 0) 0 [] :=
    World.ownsRow_made (base := w.heap.size) (e := 5) (size := 1) w #[] 0 (Nat.le_refl _) (by decide) rfl
  clear hr
  have hn2 : (2 : Int) ≤ (len : Int) := by omega
  have hnl : ¬ ((len : Int) < 2) := by omega
  have hlc : (len : Int) ≤ (cap : Int) := by omega
  go_enter Try.func58, Try.ntmps58
  go_wp2_with (at_builtin; refine wpList_append_own _ rfl _ _ 22 rfl w.heap.size 5 i0 (.int .u8 0) 1 1 Try.underlying22 hi hz0 hz1 hz2 rfl (by decide) _ _ _ rfl HO ⟨b, o + 2, none⟩ (len - 2) (cap - 2) ((List.range (len - 2)).map fun j => Value.int .u8 (h (2 + j) : Int)) rfl (by simp) ?c1 ?c2 ?c3 ?c4 ?c5 ?_)
  case c1 => exact (fun j u hj => by obtain ⟨hlt, heq⟩ := List.getElem?_eq_some_iff.1 hj; have hj2 : j < len - 2 := (by simpa using hlt); rw [List.getElem_range] at heq; subst heq; have := (hh (2 + j) (by omega)).2; rw [show o + 2 + j = o + (2 + j) from Nat.add_assoc _ _ _]; simpa using this)
  case c2 => exact (fun _ _ => rfl)
  case c3 => unfold maxLen; omega
  case c4 => omega

  intro v1 w1 hown1 hgrow1 _
  have hb1 : Below w.heap.size w w1 := ((Below.refl w.heap.size w).alloc (Nat.le_refl _) _).grown hgrow1 (by simp) (fun j hj => by have := (HO.lt j hj).1; omega)
  have hs1 := hb1.size
  clear hgrow1
  go_wp2_with (at_builtin; refine wpList_append_own _ rfl _ _ 22 rfl w.heap.size 5 i0 (.int .u8 0) 1 1 Try.underlying22 hi hz0 hz1 hz2 rfl (by decide) _ _ _ rfl (hown1.alloc _) ⟨w1.heap.size, 0, none⟩ 1 1 [.int .u8 2] rfl rfl ?d1 ?d2 ?d3 ?d4 ?d5 ?_)
  case d1 => exact cell_one_new _ _ _
  case d2 => simp [Value.oneCell']
  case d3 => unfold maxLen; omega
  case d4 => omega
  case d5 => simp; omega
  intro v2 w2 hown2 hgrow2 _
  obtain ⟨gg, cap2, hv2⟩ := ownsRow_succ hown2
  subst hv2
  have hb2 : Below w.heap.size w w2 := (hb1.alloc hs1 _).grown hgrow2 (by simp; omega) (fun j hj => by have := (hown1.lt j hj).1; omega)
  have HR := Lib.hid (own_code hown2 (by simp ) (by
    intro v hv
    (simp at hv; rcases hv with ⟨j, hj, rfl⟩ | rfl; exact ⟨_, (hh (2 + j) (by omega)).1, rfl⟩; exact ⟨2, by omega, rfl⟩)))
  have HB := Lib.hid hb2
  clear hown2 hgrow2 hb2 hown1 hb1
  go_wp2_with fail
  go_ret
  exact ⟨gg, _, _, rfl, by omega, HR.out, HB.out⟩
set_option maxHeartbeats 2000000 in
set_option maxRecDepth 20000 in
theorem vCut1_0e (x : Addr) (w : World) :
    Calls Try.prog 58 #[.slice (some x) 0 0, .int .i64 1] w (CutPost w) := by
  obtain ⟨b, o, sp⟩ := x
  obtain ⟨i0, hi, hz0, hz1, hz2⟩ := info_parts infoU8c
  have HO : (w.alloc (.cells #[] 5)).ownsRow w.heap.size 5 1 (.slice (some ⟨w.heap.size, 0, none⟩) 0 0) 0 [] :=
    World.ownsRow_made (base := w.heap.size) (e := 5) (size := 1) w #[] 0 (Nat.le_refl _) (by decide) rfl
  skip
  go_enter Try.func58, Try.ntmps58
  go_wp2_with (at_builtin; refine wpList_append_own _ rfl _ _ 22 rfl w.heap.size 5 i0 (.int .u8 0) 1 1 Try.underlying22 hi hz0 hz1 hz2 rfl (by decide) _ _ _ rfl HO _ 0 _ [] rfl rfl ?c1 ?c2 ?c3 ?c4 ?c5 ?_)
  case c1 => exact (fun j u hj => by simp at hj)
  case c2 => exact (fun u hu => by simp at hu)
  case c3 => unfold maxLen; omega
  case c4 => omega
  case c5 => simp
  intro v1 w1 hown1 hgrow1 _
  have hb1 : Below w.heap.size w w1 := ((Below.refl w.heap.size w).alloc (Nat.le_refl _) _).grown hgrow1 (by simp) (fun j hj => by have := (HO.lt j hj).1; omega)
  have hs1 := hb1.size
  clear hgrow1
  go_wp2_with (at_builtin; refine wpList_append_own _ rfl _ _ 22 rfl w.heap.size 5 i0 (.int .u8 0) 1 1 Try.underlying22 hi hz0 hz1 hz2 rfl (by decide) _ _ _ rfl (hown1.alloc _) ⟨w1.heap.size, 0, none⟩ 1 1 [.int .u8 0] rfl rfl ?d1 ?d2 ?d3 ?d4 ?d5 ?_)
  case d1 => exact cell_one_new _ _ _
  case d2 => simp [Value.oneCell']
  case d3 => unfold maxLen; omega
  case d4 => omega
  case d5 => simp; omega
  intro v2 w2 hown2 hgrow2 _
  obtain ⟨gg, cap2, hv2⟩ := ownsRow_succ hown2
  subst hv2
  have hb2 : Below w.heap.size w w2 := (hb1.alloc hs1 _).grown hgrow2 (by simp; omega) (fun j hj => by have := (hown1.lt j hj).1; omega)
  have HR := Lib.hid (own_code hown2 (by simp ) (by
    intro v hv
    (simp at hv; subst hv; exact ⟨0, by omega, rfl⟩)))
  have HB := Lib.hid hb2
  clear hown2 hgrow2 hb2 hown1 hb1
  go_wp2_with fail
  go_ret
  exact ⟨gg, _, _, rfl, by omega, HR.out, HB.out⟩
set_option maxHeartbeats 2000000 in
set_option maxRecDepth 20000 in
theorem vCut1_0m (x : Addr) (cap : Nat) (hcap : 0 < cap) (w : World) :
    Calls Try.prog 58 #[.slice (some x) 0 cap, .int .i64 1] w (CutPost w) := by
  obtain ⟨b, o, sp⟩ := x
  obtain ⟨i0, hi, hz0, hz1, hz2⟩ := info_parts infoU8c
  have HO : (w.alloc (.cells #[] 5)).ownsRow w.heap.size 5 1 (.slice (some ⟨w.heap.size, 0, none⟩) 0 0) 0 [] :=
    World.ownsRow_made (base := w.heap.size) (e := 5) (size := 1) w #[] 0 (Nat.le_refl _) (by decide) rfl
  have hcz : ¬ (cap - 0 = 0) := by omega
  go_enter Try.func58, Try.ntmps58
  go_wp2_with (at_builtin; refine wpList_append_own _ rfl _ _ 22 rfl w.heap.size 5 i0 (.int .u8 0) 1 1 Try.underlying22 hi hz0 hz1 hz2 rfl (by decide) _ _ _ rfl HO _ 0 _ [] rfl rfl ?c1 ?c2 ?c3 ?c4 ?c5 ?_)
  case c1 => exact (fun j u hj => by simp at hj)
  case c2 => exact (fun u hu => by simp at hu)
  case c3 => unfold maxLen; omega
  case c4 => omega
  case c5 => simp
  intro v1 w1 hown1 hgrow1 _
  have hb1 : Below w.heap.size w w1 := ((Below.refl w.heap.size w).alloc (Nat.le_refl _) _).grown hgrow1 (by simp) (fun j hj => by have := (HO.lt j hj).1; omega)
  have hs1 := hb1.size
  clear hgrow1
  go_wp2_with (at_builtin; refine wpList_append_own _ rfl _ _ 22 rfl w.heap.size 5 i0 (.int .u8 0) 1 1 Try.underlying22 hi hz0 hz1 hz2 rfl (by decide) _ _ _ rfl (hown1.alloc _) ⟨w1.heap.size, 0, none⟩ 1 1 [.int .u8 0] rfl rfl ?d1 ?d2 ?d3 ?d4 ?d5 ?_)
  case d1 => exact cell_one_new _ _ _
  case d2 => simp [Value.oneCell']
  case d3 => unfold maxLen; omega
  case d4 => omega
  case d5 => simp; omega
  intro v2 w2 hown2 hgrow2 _
  obtain ⟨gg, cap2, hv2⟩ := ownsRow_succ hown2
  subst hv2
  have hb2 : Below w.heap.size w w2 := (hb1.alloc hs1 _).grown hgrow2 (by simp; omega) (fun j hj => by have := (hown1.lt j hj).1; omega)
  have HR := Lib.hid (own_code hown2 (by simp ) (by
    intro v hv
    (simp at hv; subst hv; exact ⟨0, by omega, rfl⟩)))
  have HB := Lib.hid hb2
  clear hown2 hgrow2 hb2 hown1 hb1
  go_wp2_with fail
  go_ret
  exact ⟨gg, _, _, rfl, by omega, HR.out, HB.out⟩
set_option maxHeartbeats 2000000 in
set_option maxRecDepth 20000 in
theorem vCut1_1e (x : Addr) (w : World) :
    Calls Try.prog 58 #[.slice (some x) 1 1, .int .i64 1] w (CutPost w) := by
  obtain ⟨b, o, sp⟩ := x
  obtain ⟨i0, hi, hz0, hz1, hz2⟩ := info_parts infoU8c
  have HO : (w.alloc (.cells #[] 5)).ownsRow w.heap.size 5 1 (.slice (some ⟨w.heap.size, 0, none⟩) 0 0) 0 [] :=
    World.ownsRow_made (base := w.heap.size) (e := 5) (size := 1) w #[] 0 (Nat.le_refl _) (by decide) rfl
  skip
  go_enter Try.func58, Try.ntmps58
  go_wp2_with (at_builtin; refine wpList_append_own _ rfl _ _ 22 rfl w.heap.size 5 i0 (.int .u8 0) 1 1 Try.underlying22 hi hz0 hz1 hz2 rfl (by decide) _ _ _ rfl HO _ 0 _ [] rfl rfl ?c1 ?c2 ?c3 ?c4 ?c5 ?_)
  case c1 => exact (fun j u hj => by simp at hj)
  case c2 => exact (fun u hu => by simp at hu)
  case c3 => unfold maxLen; omega
  case c4 => omega
  case c5 => simp
  intro v1 w1 hown1 hgrow1 _
  have hb1 : Below w.heap.size w w1 := ((Below.refl w.heap.size w).alloc (Nat.le_refl _) _).grown hgrow1 (by simp) (fun j hj => by have := (HO.lt j hj).1; omega)
  have hs1 := hb1.size
  clear hgrow1
  go_wp2_with (at_builtin; refine wpList_append_own _ rfl _ _ 22 rfl w.heap.size 5 i0 (.int .u8 0) 1 1 Try.underlying22 hi hz0 hz1 hz2 rfl (by decide) _ _ _ rfl (hown1.alloc _) ⟨w1.heap.size, 0, none⟩ 1 1 [.int .u8 1] rfl rfl ?d1 ?d2 ?d3 ?d4 ?d5 ?_)
  case d1 => exact cell_one_new _ _ _
  case d2 => simp [Value.oneCell']
  case d3 => unfold maxLen; omega
  case d4 => omega
  case d5 => simp; omega
  intro v2 w2 hown2 hgrow2 _
  obtain ⟨gg, cap2, hv2⟩ := ownsRow_succ hown2
  subst hv2
  have hb2 : Below w.heap.size w w2 := (hb1.alloc hs1 _).grown hgrow2 (by simp; omega) (fun j hj => by have := (hown1.lt j hj).1; omega)
  have HR := Lib.hid (own_code hown2 (by simp ) (by
    intro v hv
    (simp at hv; subst hv; exact ⟨1, by omega, rfl⟩)))
  have HB := Lib.hid hb2
  clear hown2 hgrow2 hb2 hown1 hb1
  go_wp2_with fail
  go_ret
  exact ⟨gg, _, _, rfl, by omega, HR.out, HB.out⟩
set_option maxHeartbeats 2000000 in
set_option maxRecDepth 20000 in
theorem vCut1_1m (x : Addr) (cap : Nat) (hcap : 1 < cap) (w : World) :
    Calls Try.prog 58 #[.slice (some x) 1 cap, .int .i64 1] w (CutPost w) := by
  obtain ⟨b, o, sp⟩ := x
  obtain ⟨i0, hi, hz0, hz1, hz2⟩ := info_parts infoU8c
  have HO : (w.alloc (.cells #[] 5)).ownsRow w.heap.size 5 1 (.slice (some ⟨w.heap.size, 0, none⟩) 0 0) 0 [] :=
    World.ownsRow_made (base := w.heap.size) (e := 5) (size := 1) w #[] 0 (Nat.le_refl _) (by decide) rfl
  have hcz : ¬ (cap - 1 = 0) := by omega
  go_enter Try.func58, Try.ntmps58
  go_wp2_with (at_builtin; refine wpList_append_own _ rfl _ _ 22 rfl w.heap.size 5 i0 (.int .u8 0) 1 1 Try.underlying22 hi hz0 hz1 hz2 rfl (by decide) _ _ _ rfl HO _ 0 _ [] rfl rfl ?c1 ?c2 ?c3 ?c4 ?c5 ?_)
  case c1 => exact (fun j u hj => by simp at hj)
  case c2 => exact (fun u hu => by simp at hu)
  case c3 => unfold maxLen; omega
  case c4 => omega
  case c5 => simp
  intro v1 w1 hown1 hgrow1 _
  have hb1 : Below w.heap.size w w1 := ((Below.refl w.heap.size w).alloc (Nat.le_refl _) _).grown hgrow1 (by simp) (fun j hj => by have := (HO.lt j hj).1; omega)
  have hs1 := hb1.size
  clear hgrow1
  go_wp2_with (at_builtin; refine wpList_append_own _ rfl _ _ 22 rfl w.heap.size 5 i0 (.int .u8 0) 1 1 Try.underlying22 hi hz0 hz1 hz2 rfl (by decide) _ _ _ rfl (hown1.alloc _) ⟨w1.heap.size, 0, none⟩ 1 1 [.int .u8 1] rfl rfl ?d1 ?d2 ?d3 ?d4 ?d5 ?_)
  case d1 => exact cell_one_new _ _ _
  case d2 => simp [Value.oneCell']
  case d3 => unfold maxLen; omega
  case d4 => omega
  case d5 => simp; omega
  intro v2 w2 hown2 hgrow2 _
  obtain ⟨gg, cap2, hv2⟩ := ownsRow_succ hown2
  subst hv2
  have hb2 : Below w.heap.size w w2 := (hb1.alloc hs1 _).grown hgrow2 (by simp; omega) (fun j hj => by have := (hown1.lt j hj).1; omega)
  have HR := Lib.hid (own_code hown2 (by simp ) (by
    intro v hv
    (simp at hv; subst hv; exact ⟨1, by omega, rfl⟩)))
  have HB := Lib.hid hb2
  clear hown2 hgrow2 hb2 hown1 hb1
  go_wp2_with fail
  go_ret
  exact ⟨gg, _, _, rfl, by omega, HR.out, HB.out⟩
set_option maxHeartbeats 2000000 in
set_option maxRecDepth 20000 in
theorem vCut2_0e (x : Addr) (w : World) :
    Calls Try.prog 58 #[.slice (some x) 0 0, .int .i64 2] w (CutPost w) := by
  obtain ⟨b, o, sp⟩ := x
  obtain ⟨i0, hi, hz0, hz1, hz2⟩ := info_parts infoU8c
  have HO : (w.alloc (.cells #[] 5)).ownsRow w.heap.size 5 1 (.slice (some ⟨w.heap.size, 0, none⟩) 0 0) 0 [] :=
    World.ownsRow_made (base := w.heap.size) (e := 5) (size := 1) w #[] 0 (Nat.le_refl _) (by decide) rfl
  skip
  go_enter Try.func58, Try.ntmps58
  go_wp2_with (at_builtin; refine wpList_append_own _ rfl _ _ 22 rfl w.heap.size 5 i0 (.int .u8 0) 1 1 Try.underlying22 hi hz0 hz1 hz2 rfl (by decide) _ _ _ rfl HO _ 0 _ [] rfl rfl ?c1 ?c2 ?c3 ?c4 ?c5 ?_)
  case c1 => exact (fun j u hj => by simp at hj)
  case c2 => exact (fun u hu => by simp at hu)
  case c3 => unfold maxLen; omega
  case c4 => omega
  case c5 => simp
  intro v1 w1 hown1 hgrow1 _
  have hb1 : Below w.heap.size w w1 := ((Below.refl w.heap.size w).alloc (Nat.le_refl _) _).grown hgrow1 (by simp) (fun j hj => by have := (HO.lt j hj).1; omega)
  have hs1 := hb1.size
  clear hgrow1
  go_wp2_with (at_builtin; refine wpList_append_own _ rfl _ _ 22 rfl w.heap.size 5 i0 (.int .u8 0) 1 1 Try.underlying22 hi hz0 hz1 hz2 rfl (by decide) _ _ _ rfl (hown1.alloc _) ⟨w1.heap.size, 0, none⟩ 1 1 [.int .u8 0] rfl rfl ?d1 ?d2 ?d3 ?d4 ?d5 ?_)
  case d1 => exact cell_one_new _ _ _
  case d2 => simp [Value.oneCell']
  case d3 => unfold maxLen; omega
  case d4 => omega
  case d5 => simp; omega
  intro v2 w2 hown2 hgrow2 _
  obtain ⟨gg, cap2, hv2⟩ := ownsRow_succ hown2
  subst hv2
  have hb2 : Below w.heap.size w w2 := (hb1.alloc hs1 _).grown hgrow2 (by simp; omega) (fun j hj => by have := (hown1.lt j hj).1; omega)
  have HR := Lib.hid (own_code hown2 (by simp ) (by
    intro v hv
    (simp at hv; subst hv; exact ⟨0, by omega, rfl⟩)))
  have HB := Lib.hid hb2
  clear hown2 hgrow2 hb2 hown1 hb1
  go_wp2_with fail
  go_ret
  exact ⟨gg, _, _, rfl, by omega, HR.out, HB.out⟩
set_option maxHeartbeats 2000000 in
set_option maxRecDepth 20000 in
theorem vCut2_0m (x : Addr) (cap : Nat) (hcap : 0 < cap) (w : World) :
    Calls Try.prog 58 #[.slice (some x) 0 cap, .int .i64 2] w (CutPost w) := by
  obtain ⟨b, o, sp⟩ := x
  obtain ⟨i0, hi, hz0, hz1, hz2⟩ := info_parts infoU8c
  have HO : (w.alloc (.cells #[] 5)).ownsRow w.heap.size 5 1 (.slice (some ⟨w.heap.size, 0, none⟩) 0 0) 0 [] :=
    World.ownsRow_made (base := w.heap.size) (e := 5) (size := 1) w #[] 0 (Nat.le_refl _) (by decide) rfl
  have hcz : ¬ (cap - 0 = 0) := by omega
  go_enter Try.func58, Try.ntmps58
  go_wp2_with (at_builtin; refine wpList_append_own _ rfl _ _ 22 rfl w.heap.size 5 i0 (.int .u8 0) 1 1 Try.underlying22 hi hz0 hz1 hz2 rfl (by decide) _ _ _ rfl HO _ 0 _ [] rfl rfl ?c1 ?c2 ?c3 ?c4 ?c5 ?_)
  case c1 => exact (fun j u hj => by simp at hj)
  case c2 => exact (fun u hu => by simp at hu)
  case c3 => unfold maxLen; omega
  case c4 => omega
  case c5 => simp
  intro v1 w1 hown1 hgrow1 _
  have hb1 : Below w.heap.size w w1 := ((Below.refl w.heap.size w).alloc (Nat.le_refl _) _).grown hgrow1 (by simp) (fun j hj => by have := (HO.lt j hj).1; omega)
  have hs1 := hb1.size
  clear hgrow1
  go_wp2_with (at_builtin; refine wpList_append_own _ rfl _ _ 22 rfl w.heap.size 5 i0 (.int .u8 0) 1 1 Try.underlying22 hi hz0 hz1 hz2 rfl (by decide) _ _ _ rfl (hown1.alloc _) ⟨w1.heap.size, 0, none⟩ 1 1 [.int .u8 0] rfl rfl ?d1 ?d2 ?d3 ?d4 ?d5 ?_)
  case d1 => exact cell_one_new _ _ _
  case d2 => simp [Value.oneCell']
  case d3 => unfold maxLen; omega
  case d4 => omega
  case d5 => simp; omega
  intro v2 w2 hown2 hgrow2 _
  obtain ⟨gg, cap2, hv2⟩ := ownsRow_succ hown2
  subst hv2
  have hb2 : Below w.heap.size w w2 := (hb1.alloc hs1 _).grown hgrow2 (by simp; omega) (fun j hj => by have := (hown1.lt j hj).1; omega)
  have HR := Lib.hid (own_code hown2 (by simp ) (by
    intro v hv
    (simp at hv; subst hv; exact ⟨0, by omega, rfl⟩)))
  have HB := Lib.hid hb2
  clear hown2 hgrow2 hb2 hown1 hb1
  go_wp2_with fail
  go_ret
  exact ⟨gg, _, _, rfl, by omega, HR.out, HB.out⟩
set_option maxHeartbeats 2000000 in
set_option maxRecDepth 20000 in
theorem vCut2_1e (x : Addr) (w : World) :
    Calls Try.prog 58 #[.slice (some x) 1 1, .int .i64 2] w (CutPost w) := by
  obtain ⟨b, o, sp⟩ := x
  obtain ⟨i0, hi, hz0, hz1, hz2⟩ := info_parts infoU8c
  have HO : (w.alloc (.cells #[] 5)).ownsRow w.heap.size 5 1 (.slice (some ⟨w.heap.size, 0, none⟩) 0 0) 0 [] :=
    World.ownsRow_made (base := w.heap.size) (e := 5) (size := 1) w #[] 0 (Nat.le_refl _) (by decide) rfl
  skip
  go_enter Try.func58, Try.ntmps58
  go_wp2_with (at_builtin; refine wpList_append_own _ rfl _ _ 22 rfl w.heap.size 5 i0 (.int .u8 0) 1 1 Try.underlying22 hi hz0 hz1 hz2 rfl (by decide) _ _ _ rfl HO _ 0 _ [] rfl rfl ?c1 ?c2 ?c3 ?c4 ?c5 ?_)
  case c1 => exact (fun j u hj => by simp at hj)
  case c2 => exact (fun u hu => by simp at hu)
  case c3 => unfold maxLen; omega
  case c4 => omega
  case c5 => simp
  intro v1 w1 hown1 hgrow1 _
  have hb1 : Below w.heap.size w w1 := ((Below.refl w.heap.size w).alloc (Nat.le_refl _) _).grown hgrow1 (by simp) (fun j hj => by have := (HO.lt j hj).1; omega)
  have hs1 := hb1.size
  clear hgrow1
  go_wp2_with (at_builtin; refine wpList_append_own _ rfl _ _ 22 rfl w.heap.size 5 i0 (.int .u8 0) 1 1 Try.underlying22 hi hz0 hz1 hz2 rfl (by decide) _ _ _ rfl (hown1.alloc _) ⟨w1.heap.size, 0, none⟩ 1 1 [.int .u8 1] rfl rfl ?d1 ?d2 ?d3 ?d4 ?d5 ?_)
  case d1 => exact cell_one_new _ _ _
  case d2 => simp [Value.oneCell']
  case d3 => unfold maxLen; omega
  case d4 => omega
  case d5 => simp; omega
  intro v2 w2 hown2 hgrow2 _
  obtain ⟨gg, cap2, hv2⟩ := ownsRow_succ hown2
  subst hv2
  have hb2 : Below w.heap.size w w2 := (hb1.alloc hs1 _).grown hgrow2 (by simp; omega) (fun j hj => by have := (hown1.lt j hj).1; omega)
  have HR := Lib.hid (own_code hown2 (by simp ) (by
    intro v hv
    (simp at hv; subst hv; exact ⟨1, by omega, rfl⟩)))
  have HB := Lib.hid hb2
  clear hown2 hgrow2 hb2 hown1 hb1
  go_wp2_with fail
  go_ret
  exact ⟨gg, _, _, rfl, by omega, HR.out, HB.out⟩
set_option maxHeartbeats 2000000 in
set_option maxRecDepth 20000 in
theorem vCut2_1m (x : Addr) (cap : Nat) (hcap : 1 < cap) (w : World) :
    Calls Try.prog 58 #[.slice (some x) 1 cap, .int .i64 2] w (CutPost w) := by
  obtain ⟨b, o, sp⟩ := x
  obtain ⟨i0, hi, hz0, hz1, hz2⟩ := info_parts infoU8c
  have HO : (w.alloc (.cells #[] 5)).ownsRow w.heap.size 5 1 (.slice (some ⟨w.heap.size, 0, none⟩) 0 0) 0 [] :=
    World.ownsRow_made (base := w.heap.size) (e := 5) (size := 1) w #[] 0 (Nat.le_refl _) (by decide) rfl
  have hcz : ¬ (cap - 1 = 0) := by omega
  go_enter Try.func58, Try.ntmps58
  go_wp2_with (at_builtin; refine wpList_append_own _ rfl _ _ 22 rfl w.heap.size 5 i0 (.int .u8 0) 1 1 Try.underlying22 hi hz0 hz1 hz2 rfl (by decide) _ _ _ rfl HO _ 0 _ [] rfl rfl ?c1 ?c2 ?c3 ?c4 ?c5 ?_)
  case c1 => exact (fun j u hj => by simp at hj)
  case c2 => exact (fun u hu => by simp at hu)
  case c3 => unfold maxLen; omega
  case c4 => omega
  case c5 => simp
  intro v1 w1 hown1 hgrow1 _
  have hb1 : Below w.heap.size w w1 := ((Below.refl w.heap.size w).alloc (Nat.le_refl _) _).grown hgrow1 (by simp) (fun j hj => by have := (HO.lt j hj).1; omega)
  have hs1 := hb1.size
  clear hgrow1
  go_wp2_with (at_builtin; refine wpList_append_own _ rfl _ _ 22 rfl w.heap.size 5 i0 (.int .u8 0) 1 1 Try.underlying22 hi hz0 hz1 hz2 rfl (by decide) _ _ _ rfl (hown1.alloc _) ⟨w1.heap.size, 0, none⟩ 1 1 [.int .u8 1] rfl rfl ?d1 ?d2 ?d3 ?d4 ?d5 ?_)
  case d1 => exact cell_one_new _ _ _
  case d2 => simp [Value.oneCell']
  case d3 => unfold maxLen; omega
  case d4 => omega
  case d5 => simp; omega
  intro v2 w2 hown2 hgrow2 _
  obtain ⟨gg, cap2, hv2⟩ := ownsRow_succ hown2
  subst hv2
  have hb2 : Below w.heap.size w w2 := (hb1.alloc hs1 _).grown hgrow2 (by simp; omega) (fun j hj => by have := (hown1.lt j hj).1; omega)
  have HR := Lib.hid (own_code hown2 (by simp ) (by
    intro v hv
    (simp at hv; subst hv; exact ⟨1, by omega, rfl⟩)))
  have HB := Lib.hid hb2
  clear hown2 hgrow2 hb2 hown1 hb1
  go_wp2_with fail
  go_ret
  exact ⟨gg, _, _, rfl, by omega, HR.out, HB.out⟩
set_option maxHeartbeats 2000000 in
set_option maxRecDepth 20000 in
theorem vCut2_2e (x : Addr) (w : World) :
    Calls Try.prog 58 #[.slice (some x) 2 2, .int .i64 2] w (CutPost w) := by
  obtain ⟨b, o, sp⟩ := x
  obtain ⟨i0, hi, hz0, hz1, hz2⟩ := info_parts infoU8c
  have HO : (w.alloc (.cells #[] 5)).ownsRow w.heap.size 5 1 (.slice (some ⟨w.heap.size, 0, none⟩) 0 0) 0 [] :=
    World.ownsRow_made (base := w.heap.size) (e := 5) (size := 1) w #[] 0 (Nat.le_refl _) (by decide) rfl
  skip
  go_enter Try.func58, Try.ntmps58
  go_wp2_with (at_builtin; refine wpList_append_own _ rfl _ _ 22 rfl w.heap.size 5 i0 (.int .u8 0) 1 1 Try.underlying22 hi hz0 hz1 hz2 rfl (by decide) _ _ _ rfl HO _ 0 _ [] rfl rfl ?c1 ?c2 ?c3 ?c4 ?c5 ?_)
  case c1 => exact (fun j u hj => by simp at hj)
  case c2 => exact (fun u hu => by simp at hu)
  case c3 => unfold maxLen; omega
  case c4 => omega
  case c5 => simp
  intro v1 w1 hown1 hgrow1 _
  have hb1 : Below w.heap.size w w1 := ((Below.refl w.heap.size w).alloc (Nat.le_refl _) _).grown hgrow1 (by simp) (fun j hj => by have := (HO.lt j hj).1; omega)
  have hs1 := hb1.size
  clear hgrow1
  go_wp2_with (at_builtin; refine wpList_append_own _ rfl _ _ 22 rfl w.heap.size 5 i0 (.int .u8 0) 1 1 Try.underlying22 hi hz0 hz1 hz2 rfl (by decide) _ _ _ rfl (hown1.alloc _) ⟨w1.heap.size, 0, none⟩ 1 1 [.int .u8 2] rfl rfl ?d1 ?d2 ?d3 ?d4 ?d5 ?_)
  case d1 => exact cell_one_new _ _ _
  case d2 => simp [Value.oneCell']
  case d3 => unfold maxLen; omega
  case d4 => omega
  case d5 => simp; omega
  intro v2 w2 hown2 hgrow2 _
  obtain ⟨gg, cap2, hv2⟩ := ownsRow_succ hown2
  subst hv2
  have hb2 : Below w.heap.size w w2 := (hb1.alloc hs1 _).grown hgrow2 (by simp; omega) (fun j hj => by have := (hown1.lt j hj).1; omega)
  have HR := Lib.hid (own_code hown2 (by simp ) (by
    intro v hv
    (simp at hv; subst hv; exact ⟨2, by omega, rfl⟩)))
  have HB := Lib.hid hb2
  clear hown2 hgrow2 hb2 hown1 hb1
  go_wp2_with fail
  go_ret
  exact ⟨gg, _, _, rfl, by omega, HR.out, HB.out⟩
set_option maxHeartbeats 2000000 in
set_option maxRecDepth 20000 in
theorem vCut2_2m (x : Addr) (cap : Nat) (hcap : 2 < cap) (w : World) :
    Calls Try.prog 58 #[.slice (some x) 2 cap, .int .i64 2] w (CutPost w) := by
  obtain ⟨b, o, sp⟩ := x
  obtain ⟨i0, hi, hz0, hz1, hz2⟩ := info_parts infoU8c
  have HO : (w.alloc (.cells #[] 5)).ownsRow w.heap.size 5 1 (.slice (some ⟨w.heap.size, 0, none⟩) 0 0) 0 [] :=
    World.ownsRow_made (base := w.heap.size) (e := 5) (size := 1) w #[] 0 (Nat.le_refl _) (by decide) rfl
  have hcz : ¬ (cap - 2 = 0) := by omega
  go_enter Try.func58, Try.ntmps58
  go_wp2_with (at_builtin; refine wpList_append_own _ rfl _ _ 22 rfl w.heap.size 5 i0 (.int .u8 0) 1 1 Try.underlying22 hi hz0 hz1 hz2 rfl (by decide) _ _ _ rfl HO _ 0 _ [] rfl rfl ?c1 ?c2 ?c3 ?c4 ?c5 ?_)
  case c1 => exact (fun j u hj => by simp at hj)
  case c2 => exact (fun u hu => by simp at hu)
  case c3 => unfold maxLen; omega
  case c4 => omega
  case c5 => simp
  intro v1 w1 hown1 hgrow1 _
  have hb1 : Below w.heap.size w w1 := ((Below.refl w.heap.size w).alloc (Nat.le_refl _) _).grown hgrow1 (by simp) (fun j hj => by have := (HO.lt j hj).1; omega)
  have hs1 := hb1.size
  clear hgrow1
  go_wp2_with (at_builtin; refine wpList_append_own _ rfl _ _ 22 rfl w.heap.size 5 i0 (.int .u8 0) 1 1 Try.underlying22 hi hz0 hz1 hz2 rfl (by decide) _ _ _ rfl (hown1.alloc _) ⟨w1.heap.size, 0, none⟩ 1 1 [.int .u8 2] rfl rfl ?d1 ?d2 ?d3 ?d4 ?d5 ?_)
  case d1 => exact cell_one_new _ _ _
  case d2 => simp [Value.oneCell']
  case d3 => unfold maxLen; omega
  case d4 => omega
  case d5 => simp; omega
  intro v2 w2 hown2 hgrow2 _
  obtain ⟨gg, cap2, hv2⟩ := ownsRow_succ hown2
  subst hv2
  have hb2 : Below w.heap.size w w2 := (hb1.alloc hs1 _).grown hgrow2 (by simp; omega) (fun j hj => by have := (hown1.lt j hj).1; omega)
  have HR := Lib.hid (own_code hown2 (by simp ) (by
    intro v hv
    (simp at hv; subst hv; exact ⟨2, by omega, rfl⟩)))
  have HB := Lib.hid hb2
  clear hown2 hgrow2 hb2 hown1 hb1
  go_wp2_with fail
  go_ret
  exact ⟨gg, _, _, rfl, by omega, HR.out, HB.out⟩
set_option maxHeartbeats 2000000 in
set_option maxRecDepth 20000 in
theorem vCut1_nil (w : World) :
    Calls Try.prog 58 #[.slice none 0 0, .int .i64 1] w (CutPost w) := by
  obtain ⟨i0, hi, hz0, hz1, hz2⟩ := info_parts infoU8c
  have hown1 : (w.alloc (.cells #[] 5)).ownsRow w.heap.size 5 1 (.slice (some ⟨w.heap.size, 0, none⟩) 0 0) 0 [] :=
    World.ownsRow_made (base := w.heap.size) (e := 5) (size := 1) w #[] 0 (Nat.le_refl _) (by decide) rfl
  have hb1 : Below w.heap.size w (w.alloc (.cells #[] 5)) := (Below.refl w.heap.size w).alloc (Nat.le_refl _) _
  have hs1 := hb1.size
  go_enter Try.func58, Try.ntmps58
  go_wp2_with (first | (at_builtin; refine wpList_append_own_none rfl _ _ 22 rfl w.heap.size 5 i0 1 Try.underlying22 hi _ 0 [] rfl hown1 rfl ?_) | (at_builtin; refine wpList_append_own _ rfl _ _ 22 rfl w.heap.size 5 i0 (.int .u8 0) 1 1 Try.underlying22 hi hz0 hz1 hz2 rfl (by decide) _ _ _ rfl (hown1.alloc _) ⟨w.heap.size + 1, 0, none⟩ 1 1 [.int .u8 0] rfl rfl ?d1 ?d2 ?d3 ?d4 ?d5 ?_))
  case d1 =>
    have := cell_one_new (w.alloc (.cells #[] 5)) (.int .u8 0) 5
    simpa only [World.size_alloc] using this
  case d2 => simp [Value.oneCell']
  case d3 => unfold maxLen; omega
  case d4 => omega
  case d5 => simp; omega
  intro v2 w2 hown2 hgrow2 _
  obtain ⟨gg, cap2, hv2⟩ := ownsRow_succ hown2
  subst hv2
  have hb2 : Below w.heap.size w w2 := (hb1.alloc hs1 _).grown hgrow2 (by simp; omega) (fun j hj => by have := (hown1.lt j hj).1; omega)
  have HR := Lib.hid (own_code hown2 (by simp) (by
    intro v hv
    simp at hv; subst hv; exact ⟨0, by omega, rfl⟩))
  have HB := Lib.hid hb2
  clear hown2 hgrow2 hb2 hown1 hb1
  go_wp2_with fail
  go_ret
  exact ⟨gg, _, _, rfl, by omega, HR.out, HB.out⟩
set_option maxHeartbeats 2000000 in
set_option maxRecDepth 20000 in
theorem vCut2_nil (w : World) :
    Calls Try.prog 58 #[.slice none 0 0, .int .i64 2] w (CutPost w) := by
  obtain ⟨i0, hi, hz0, hz1, hz2⟩ := info_parts infoU8c
  have hown1 : (w.alloc (.cells #[] 5)).ownsRow w.heap.size 5 1 (.slice (some ⟨w.heap.size, 0, none⟩) 0 0) 0 [] :=
    World.ownsRow_made (base := w.heap.size) (e := 5) (size := 1) w #[] 0 (Nat.le_refl _) (by decide) rfl
  have hb1 : Below w.heap.size w (w.alloc (.cells #[] 5)) := (Below.refl w.heap.size w).alloc (Nat.le_refl _) _
  have hs1 := hb1.size
  go_enter Try.func58, Try.ntmps58
  go_wp2_with (first | (at_builtin; refine wpList_append_own_none rfl _ _ 22 rfl w.heap.size 5 i0 1 Try.underlying22 hi _ 0 [] rfl hown1 rfl ?_) | (at_builtin; refine wpList_append_own _ rfl _ _ 22 rfl w.heap.size 5 i0 (.int .u8 0) 1 1 Try.underlying22 hi hz0 hz1 hz2 rfl (by decide) _ _ _ rfl (hown1.alloc _) ⟨w.heap.size + 1, 0, none⟩ 1 1 [.int .u8 0] rfl rfl ?d1 ?d2 ?d3 ?d4 ?d5 ?_))
  case d1 =>
    have := cell_one_new (w.alloc (.cells #[] 5)) (.int .u8 0) 5
    simpa only [World.size_alloc] using this
  case d2 => simp [Value.oneCell']
  case d3 => unfold maxLen; omega
  case d4 => omega
  case d5 => simp; omega
  intro v2 w2 hown2 hgrow2 _
  obtain ⟨gg, cap2, hv2⟩ := ownsRow_succ hown2
  subst hv2
  have hb2 : Below w.heap.size w w2 := (hb1.alloc hs1 _).grown hgrow2 (by simp; omega) (fun j hj => by have := (hown1.lt j hj).1; omega)
  have HR := Lib.hid (own_code hown2 (by simp) (by
    intro v hv
    simp at hv; subst hv; exact ⟨0, by omega, rfl⟩))
  have HB := Lib.hid hb2
  clear hown2 hgrow2 hb2 hown1 hb1
  go_wp2_with fail
  go_ret
  exact ⟨gg, _, _, rfl, by omega, HR.out, HB.out⟩
theorem vCut1_any (a : Option Addr) (len cap : Nat) (z : List Int) (w : World) (hl : len ≤ 65536) (hr : IsRow .u8 w a len cap z) :
    Calls Try.prog 58 #[.slice a len cap, .int .i64 1] w (CutPost w) := by
  have hcode := hr.code
  rcases hr with ⟨rfl, rfl, rfl, _⟩ | ⟨x, rfl, h1, _⟩
  · exact vCut1_nil w
  · by_cases h : 1 < len
    · rcases hcode with h0 | ⟨b, o, ha, hb, hc⟩
      · omega
      · cases ha
        exact vCut1_ge b o len cap w hl h h1 (.inr ⟨b, o, rfl, hb, hc⟩)
    · rcases (by omega : len = 0 ∨ len = 1) with rfl | rfl
      · by_cases hc : cap = 0
        · subst hc; exact vCut1_0e x w
        · exact vCut1_0m x cap (by omega) w
      · by_cases hc : cap = 1
        · subst hc; exact vCut1_1e x w
        · exact vCut1_1m x cap (by omega) w
theorem vCut2_any (a : Option Addr) (len cap : Nat) (z : List Int) (w : World) (hl : len ≤ 65536) (hr : IsRow .u8 w a len cap z) :
    Calls Try.prog 58 #[.slice a len cap, .int .i64 2] w (CutPost w) := by
  have hcode := hr.code
  rcases hr with ⟨rfl, rfl, rfl, _⟩ | ⟨x, rfl, h1, _⟩
  · exact vCut2_nil w
  · by_cases h : 2 < len
    · rcases hcode with h0 | ⟨b, o, ha, hb, hc⟩
      · omega
      · cases ha
        exact vCut2_ge b o len cap w hl h h1 (.inr ⟨b, o, rfl, hb, hc⟩)
    · rcases (by omega : len = 0 ∨ len = 1 ∨ len = 2) with rfl | rfl | rfl
      · by_cases hc : cap = 0
        · subst hc; exact vCut2_0e x w
        · exact vCut2_0m x cap (by omega) w
      · by_cases hc : cap = 1
        · subst hc; exact vCut2_1e x w
        · exact vCut2_1m x cap (by omega) w
      · by_cases hc : cap = 2
        · subst hc; exact vCut2_2e x w
        · exact vCut2_2m x cap (by omega) w
end Go.Proofs.Ytblcojacmjbjcab
