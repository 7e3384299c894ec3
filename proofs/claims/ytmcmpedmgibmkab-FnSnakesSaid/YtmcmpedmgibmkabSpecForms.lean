/-
  The contracts of the forms of a board in the reference: a quarter, the mirror, the form k, and FormBoard. No condition but that k is the number of a form where it is said.
-/
import Derived.Test.YtmcmpedmgibmkabBaseA
import Derived.Test.YtmcmpedmgibmkabPlainA
namespace Go.Proofs.Ytmcmpedmgibmkab
open Go.RowKit Plain
attribute [local go_sem] store_new

/-- Turning by a quarter, cell by cell. -/
def quF (f : Nat → Int) (r c : Nat) : Nat → Int := fun j => if 3 - j % 4 < r ∨ (3 - j % 4 = r ∧ j / 4 < c) then f ((3 - j % 4) * 4 + j / 4) else 0
theorem quF_step (f : Nat → Int) {r c k : Nat} (hr : r + k = 3) (_ : c < 4) : ∀ j, j < 16 → upd (quF f r c) (c * 4 + k) (f (r * 4 + c)) j = quF f r (c + 1) j := by
  intro j hj
  unfold upd quF
  by_cases e : j = c * 4 + k
  · subst e
    rw [if_pos rfl, if_pos (by omega), show 3 - (c * 4 + k) % 4 = r by omega, show (c * 4 + k) / 4 = c by omega]
  · rw [if_neg e]
    by_cases h : 3 - j % 4 < r ∨ (3 - j % 4 = r ∧ j / 4 < c)
    · rw [if_pos h, if_pos (by omega)]
    · rw [if_neg h, if_neg (by omega)]
theorem quF_row (f : Nat → Int) (r : Nat) : ∀ j, j < 16 → quF f r 4 j = quF f (r + 1) 0 j := by
  intro j hj; unfold quF; split <;> split <;> first | rfl | omega
theorem quF_all (f : Nat → Int) : ∀ j, j < 16 → quF f 4 0 j = f ((3 - j % 4) * 4 + j / 4) := by
  intro j hj; unfold quF; rw [if_pos (by omega)]
theorem quF_zero (f : Nat → Int) (j : Nat) : quF f 0 0 j = 0 := by simp [quF]
theorem miF_step2 (f : Nat → Int) {r c k : Nat} (hr : c + k = 3) (_ : r < 4) : ∀ j, j < 16 → upd (miF f r c) (r * 4 + k) (f (r * 4 + c)) j = miF f r (c + 1) j := miF_step f hr

set_option maxHeartbeats 1000000 in
theorem l3Quarter_any (f : Nat → Int) (w : World) :
    Calls Try.prog 59 #[.agg (mk 16 f)] w fun e w' => e = .returned (.agg (mk 16 (fun j => f ((3 - j % 4) * 4 + j / 4)))) ∧ Below w.heap.size w w' := by
  have z16 := zero16
  have K1 := ((Blk.new w 16 f 35).alloc (.cells (mk 16 fun _ => 0) 35)).alloc (.cells (mk 16 fun _ => 0) 35)
  have K2 := (Blk.new (w.alloc (.cells (mk 16 f) 35)) 16 (fun _ => 0) 35).alloc (.cells (mk 16 fun _ => 0) 35)
  have K3 := Blk.new ((w.alloc (.cells (mk 16 f) 35)).alloc (.cells (mk 16 fun _ => 0) 35)) 16 (fun _ => 0) 35
  have HB := Lib.hid ((((Below.refl w.heap.size w).alloc (Nat.le_refl _) (.cells (mk 16 f) 35)).alloc (by simp) (.cells (mk 16 fun _ => 0) 35)).alloc (by simp; omega) (.cells (mk 16 fun _ => 0) 35))
  simp only [World.size_alloc] at K2 K3
  have sr := World.setRow_alloc_new
  go_enter Try.func59, Try.ntmps59
  go_wp2_with fail
  generalize ((w.alloc (.cells (mk 16 f) 35)).alloc (.cells (mk 16 fun _ => 0) 35)).alloc (.cells (mk 16 fun _ => 0) 35) = w1 at *
  go_loopg [4] 4 (fun g s4 wr => ∃ r : Nat, r + g = 4 ∧ s4 = .int .i64 r ∧ Blk wr w.heap.size 16 f 35 ∧ Blk wr (w.heap.size + 1) 16 (fun _ => 0) 35 ∧ Blk wr (w.heap.size + 1 + 1) 16 (quF f r 0) 35 ∧ Hid (Below w.heap.size w wr))
  case atStart => exact ⟨0, by omega, rfl, K1, K2, K3.congr fun j _ => (quF_zero f j).symm, HB⟩
  case round =>
    obtain ⟨r, hrg, rfl, k1, k2, k3, hb⟩ := hrel
    cases gk with
    | zero =>
      have hr : ¬ ((r : Int) < 4) := by omega
      obtain rfl : r = 4 := by omega
      clear hrg hr
      go_wp2_with (first | ((with_reducible show wpList _ _ _ (Oper.mk _ (Op.load 35 _) _ _ _ _ :: _) _ _); refine loadB (k3) rfl rfl rfl ?_) | ((with_reducible show wpList _ _ _ (Oper.mk _ (Op.store 35 _ _) _ _ _ _ :: _) _ _); refine storeB (k2) rfl rfl rfl rfl ?_))
      try simp only [Exit.inBlock, Exit.then]
      refine retcB (k2.row 16 _) rfl rfl rfl ⟨?_, below_setRow hb.out (by omega) _⟩
      rw [mk_congr (quF_all f)]
    | succ g =>
      have hr4 : (r : Int) < 4 := by omega
      have hr5 : r < 4 := by omega
      have hr0 : (0 : Int) ≤ (r : Int) := by omega
      go_wp2_with fail
      go_loopg [5] 4 (fun h s5 wx => ∃ c : Nat, c + h = 4 ∧ s5 = .int .i64 c ∧ Blk wx w.heap.size 16 f 35 ∧ Blk wx (w.heap.size + 1) 16 (fun _ => 0) 35 ∧ Blk wx (w.heap.size + 1 + 1) 16 (quF f r c) 35 ∧ Hid (Below w.heap.size w wx))
      case atStart => exact ⟨0, by omega, rfl, k1, k2, k3, hb⟩
      case round =>
        obtain ⟨c, hch, rfl, k1, k2, k3, hb⟩ := hrel
        cases gk with
        | zero =>
          have hc : ¬ ((c : Int) < 4) := by omega
          obtain rfl : c = 4 := by omega
          clear hch hc
          go_wp2_with fail
          go_roundg g
          case rel => exact ⟨r + 1, by omega, by go_num, k1, k2, k3.congr (quF_row f r), hb⟩
          case measure => omega
        | succ h =>
          have hc : (c : Int) < 4 := by omega
          have hc5 : c < 4 := by omega
          have hc0 : (0 : Int) ≤ (c : Int) := by omega
          obtain ⟨k, hk⟩ : ∃ k, r + k = 3 := ⟨3 - r, by omega⟩
          have ek : IntKind.i64.wrap (3 - (r : Int)) = (k : Int) := by
            rw [show (3 : Int) - (r : Int) = (k : Int) by omega]
            exact IntWalk.i64_in _ (by omega)
          have hk0 : (0 : Int) ≤ (k : Int) := by omega
          have hk4 : (k : Int) < 4 := by omega
          have c1 := k1.cell (i := r * 4 + c) (by omega)
          have c3 := k3.cell (i := c * 4 + k) (by omega)
          have f3 := k3.free (c * 4 + k)
          go_wp2_with fail
          go_region
          all_goals
            go_wp2_with fail
            go_roundg h
            case rel => exact ⟨c + 1, by omega, by go_num, k1.drew.setOther _ _ (by dsimp only; omega), k2.drew.setOther _ _ (by dsimp only; omega), (k3.drew.set (by omega) _).congr (quF_step f (by omega) (by omega)), hb.out.drew.setCell (by dsimp only; omega) _⟩
            case measure => omega
set_option maxHeartbeats 1000000 in
theorem l3Mirror_any (f : Nat → Int) (w : World) :
    Calls Try.prog 60 #[.agg (mk 16 f)] w fun e w' => e = .returned (.agg (mk 16 (fun j => f (j / 4 * 4 + (3 - j % 4))))) ∧ Below w.heap.size w w' := by
  have z16 := zero16
  have K1 := ((Blk.new w 16 f 35).alloc (.cells (mk 16 fun _ => 0) 35)).alloc (.cells (mk 16 fun _ => 0) 35)
  have K2 := (Blk.new (w.alloc (.cells (mk 16 f) 35)) 16 (fun _ => 0) 35).alloc (.cells (mk 16 fun _ => 0) 35)
  have K3 := Blk.new ((w.alloc (.cells (mk 16 f) 35)).alloc (.cells (mk 16 fun _ => 0) 35)) 16 (fun _ => 0) 35
  have HB := Lib.hid ((((Below.refl w.heap.size w).alloc (Nat.le_refl _) (.cells (mk 16 f) 35)).alloc (by simp) (.cells (mk 16 fun _ => 0) 35)).alloc (by simp; omega) (.cells (mk 16 fun _ => 0) 35))
  simp only [World.size_alloc] at K2 K3
  have sr := World.setRow_alloc_new
  go_enter Try.func60, Try.ntmps60
  go_wp2_with fail
  generalize ((w.alloc (.cells (mk 16 f) 35)).alloc (.cells (mk 16 fun _ => 0) 35)).alloc (.cells (mk 16 fun _ => 0) 35) = w1 at *
  go_loopg [4] 4 (fun g s4 wr => ∃ r : Nat, r + g = 4 ∧ s4 = .int .i64 r ∧ Blk wr w.heap.size 16 f 35 ∧ Blk wr (w.heap.size + 1) 16 (fun _ => 0) 35 ∧ Blk wr (w.heap.size + 1 + 1) 16 (miF f r 0) 35 ∧ Hid (Below w.heap.size w wr))
  case atStart => exact ⟨0, by omega, rfl, K1, K2, K3.congr fun j _ => (miF_zero f j).symm, HB⟩
  case round =>
    obtain ⟨r, hrg, rfl, k1, k2, k3, hb⟩ := hrel
    cases gk with
    | zero =>
      have hr : ¬ ((r : Int) < 4) := by omega
      obtain rfl : r = 4 := by omega
      clear hrg hr
      go_wp2_with (first | ((with_reducible show wpList _ _ _ (Oper.mk _ (Op.load 35 _) _ _ _ _ :: _) _ _); refine loadB (k3) rfl rfl rfl ?_) | ((with_reducible show wpList _ _ _ (Oper.mk _ (Op.store 35 _ _) _ _ _ _ :: _) _ _); refine storeB (k2) rfl rfl rfl rfl ?_))
      try simp only [Exit.inBlock, Exit.then]
      refine retcB (k2.row 16 _) rfl rfl rfl ⟨?_, below_setRow hb.out (by omega) _⟩
      rw [mk_congr (miF_all f)]
    | succ g =>
      have hr4 : (r : Int) < 4 := by omega
      have hr5 : r < 4 := by omega
      have hr0 : (0 : Int) ≤ (r : Int) := by omega
      go_wp2_with fail
      go_loopg [5] 4 (fun h s5 wx => ∃ c : Nat, c + h = 4 ∧ s5 = .int .i64 c ∧ Blk wx w.heap.size 16 f 35 ∧ Blk wx (w.heap.size + 1) 16 (fun _ => 0) 35 ∧ Blk wx (w.heap.size + 1 + 1) 16 (miF f r c) 35 ∧ Hid (Below w.heap.size w wx))
      case atStart => exact ⟨0, by omega, rfl, k1, k2, k3, hb⟩
      case round =>
        obtain ⟨c, hch, rfl, k1, k2, k3, hb⟩ := hrel
        cases gk with
        | zero =>
          have hc : ¬ ((c : Int) < 4) := by omega
          obtain rfl : c = 4 := by omega
          clear hch hc
          go_wp2_with fail
          go_roundg g
          case rel => exact ⟨r + 1, by omega, by go_num, k1, k2, k3.congr (miF_row f r), hb⟩
          case measure => omega
        | succ h =>
          have hc : (c : Int) < 4 := by omega
          have hc5 : c < 4 := by omega
          have hc0 : (0 : Int) ≤ (c : Int) := by omega
          obtain ⟨k, hk⟩ : ∃ k, c + k = 3 := ⟨3 - c, by omega⟩
          have ek : IntKind.i64.wrap (3 - (c : Int)) = (k : Int) := by
            rw [show (3 : Int) - (c : Int) = (k : Int) by omega]
            exact IntWalk.i64_in _ (by omega)
          have hk0 : (0 : Int) ≤ (k : Int) := by omega
          have hk4 : (k : Int) < 4 := by omega
          have c1 := k1.cell (i := r * 4 + c) (by omega)
          have c3 := k3.cell (i := r * 4 + k) (by omega)
          have f3 := k3.free (r * 4 + k)
          go_wp2_with fail
          go_region
          all_goals
            go_wp2_with fail
            go_roundg h
            case rel => exact ⟨c + 1, by omega, by go_num, k1.drew.setOther _ _ (by dsimp only; omega), k2.drew.setOther _ _ (by dsimp only; omega), (k3.drew.set (by omega) _).congr (miF_step2 f (by omega) (by omega)), hb.out.drew.setCell (by dsimp only; omega) _⟩
            case measure => omega
end Go.Proofs.Ytmcmpedmgibmkab
