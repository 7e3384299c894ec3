/-
  The contract of the reference's list of empty cells, for every board.
-/
import Derived.Test.YtpiegllffkjneaaValid
import Derived.Test.YtpiegllffkjneaaEmptyPlain
import Derived.Maps.AppendAt
import Derived.RangeFuncBox
namespace Go.Proofs.Ytpiegllffkjneaa
open Go.RowKit Plain
attribute [local go_sem] store_new

/-- The slice value v owns a row of n cells, told by their numbers, in blocks from base on. -/
def OwnsCells (w : World) (base : Nat) (v : Value) (n : Nat) (xs : List Int) : Prop := w.ownsRow base 49 2 v n (xs.map (Value.int .i64))
theorem infoCell : (Try.prog.info? 49).map (fun i => (i.zero, i.size, i.bytes)) = some (some (.agg #[.int .i64 0, .int .i64 0]), 2, 16) := by kernel_rfl
theorem Blk.grown {w w' : World} {b n : Nat} {f : Nat → Int} {t : TypeId} {row : Option Nat} (h : Blk w b n f t) (hg : w.grownBy w' row) (hne : some b ≠ row) : Blk w' b n f t := (hg.block b h.lt hne).trans h

theorem ownsRow_wide {w : World} {b b' size n : Nat} {e : TypeId} {v : Value} {xs : List Value} (h : w.ownsRow b e size v n xs) (hb : b' ≤ b) : w.ownsRow b' e size v n xs := by
  refine ⟨h.1, ?_⟩
  rcases h.2 with hn | ⟨g, cap, cur, rfl, hg, rest⟩
  · exact .inl hn
  · exact .inr ⟨g, cap, cur, rfl, by omega, rest⟩
/-- The two numbers of a cell, laid in a new block, lie there. -/
theorem cell_two_new (w : World) (x y : Value) (t : TypeId) : ∀ j u, [x, y][j]? = some u → (w.alloc (.cells #[x, y] t)).cell? ((⟨w.heap.size, 0, none⟩ : Addr).add j) = some u := by
  intro j u hj
  have hh := heap_alloc_new w (.cells #[x, y] t)
  match j, hj with
  | 0, hj => simp at hj; subst hj; exact cell_of_row _ _ _ _ _ _ hh
  | 1, hj => simp at hj; subst hj; exact cell_of_row _ _ _ _ _ _ hh
  | n + 2, hj => simp at hj

set_option maxHeartbeats 1000000 in
theorem l2Empty_any (f : Nat → Int) (w : World) :
    Calls Try.prog 108 #[.agg (mk 16 f)] w fun e w' => ∃ g cap, e = .returned (.slice (some ⟨g, 0, none⟩) (empN f 16) cap) ∧
      OwnsCells w' w.heap.size (.slice (some ⟨g, 0, none⟩) (empN f 16) cap) (empN f 16) (empL f 16) ∧ Below w.heap.size w w' := by
  obtain ⟨i0, hi, hz0, hz1, hz2⟩ := info_parts infoCell
  have K1 := (Blk.new w 16 f 27).alloc (.cells #[] 49)
  have HB := Lib.hid (((Below.refl w.heap.size w).alloc (Nat.le_refl _) (.cells (mk 16 f) 27)).alloc (by simp) (.cells #[] 49))
  have HO : OwnsCells ((w.alloc (.cells (mk 16 f) 27)).alloc (.cells #[] 49)) (w.heap.size + 1) (.slice (some ⟨w.heap.size + 1, 0, none⟩) 0 0) 0 [] := by
    have := World.ownsRow_made (base := w.heap.size + 1) (e := 49) (size := 2) (w.alloc (.cells (mk 16 f) 27)) #[] 0 (by simp) (by decide) rfl
    simp only [World.size_alloc] at this
    exact this
  go_enter Try.func108, Try.ntmps108
  go_wp2_with fail
  go_loopg [3, 4] 4 (fun g s3 s4 wr => ∃ (r : Nat) (v : Value), r + g = 4 ∧ s4 = .int .i64 r ∧ v = s3 ∧ (∃ gg cap, v = .slice (some ⟨gg, 0, none⟩) (empN f (r * 4)) cap) ∧ OwnsCells wr (w.heap.size + 1) v (empN f (r * 4)) (empL f (r * 4)) ∧ Blk wr w.heap.size 16 f 27 ∧ Hid (Below w.heap.size w wr))
  case atStart => exact ⟨0, _, by omega, rfl, rfl, ⟨_, _, rfl⟩, HO, K1, HB⟩
  case round =>
    obtain ⟨r, v, hrg, rfl, rfl, hv, ho, k1, hb⟩ := hrel
    cases gk with
    | zero =>
      have hr : ¬ ((r : Int) < 4) := by omega
      obtain rfl : r = 4 := by omega
      clear hrg hr
      obtain ⟨gg, cap, rfl⟩ := hv
      go_wp2_with fail
      go_ret
      exact ⟨gg, cap, rfl, ownsRow_wide ho (by omega), hb.out⟩
    | succ g =>
      have hr4 : (r : Int) < 4 := by omega
      go_wp2_with fail
      go_loopg [3, 5] 4 (fun h s3 s5 wx => ∃ (c : Nat) (v : Value), c + h = 4 ∧ s5 = .int .i64 c ∧ v = s3 ∧ (∃ gg cap, v = .slice (some ⟨gg, 0, none⟩) (empN f (r * 4 + c)) cap) ∧ OwnsCells wx (w.heap.size + 1) v (empN f (r * 4 + c)) (empL f (r * 4 + c)) ∧ Blk wx w.heap.size 16 f 27 ∧ Hid (Below w.heap.size w wx))
      case atStart => exact ⟨0, _, by omega, rfl, rfl, hv, ho, k1, hb⟩
      case round =>
        obtain ⟨c, v, hch, rfl, rfl, hv, ho, k1, hb⟩ := hrel
        cases gk with
        | zero =>
          have hc : ¬ ((c : Int) < 4) := by omega
          have HC : Hid (r * 4 + c = (r + 1) * 4) := by show _ = _; omega
          go_wp2_with fail
          go_roundg g
          case rel => exact ⟨r + 1, _, by omega, by go_num, rfl, by rw [HC.out] at hv; exact hv, by rw [HC.out] at ho; exact ho, k1, hb⟩
          case measure => omega
        | succ h =>
          have hc : (c : Int) < 4 := by omega
          have c1 := k1.cell (i := r * 4 + c) (by omega)
          have hn := empN_le f (r * 4 + c)
          have hn16 : empN f (r * 4 + c) ≤ 16 := by omega
          by_cases h0 : f (r * 4 + c) = 0
          · obtain ⟨y1, y2⟩ := emp_yes h0
            have Y1 := Lib.hid y1
            have Y2 := Lib.hid y2
            have HQ : Hid ((r * 4 + c) / 4 = r ∧ (r * 4 + c) % 4 = c) := by show _ ∧ _; omega
            clear y1 y2
            rw [h0] at c1
            clear h0
            have ho0 : wr.ownsRow (w.heap.size + 1) 49 2 v (empN f (r * 4 + c)) ((empL f (r * 4 + c)).map (Value.int .i64)) := ho
            clear ho
            have hsz := hb.out.size
            go_wp2_with (at_builtin; refine wpList_append_own _ rfl _ _ 56 rfl (w.heap.size + 1) 49 i0 (.agg #[.int .i64 0, .int .i64 0]) 2 16 Try.underlying56 hi hz0 hz1 hz2 rfl (by decide) _ _ _ rfl (ho0.alloc _) ⟨wr.heap.size, 0, none⟩ 1 1 [.int .i64 r, .int .i64 c] rfl rfl ?c1 ?c2 ?c3 ?c4 ?c5 ?_)
            case c1 => exact cell_two_new _ _ _ _
            case c2 => simp [Value.oneCell']
            case c3 => unfold maxLen; omega
            case c4 => omega
            case c5 => simp; omega
            intro v' w2 hown' hgrow' _
            obtain ⟨gg, cap, hv'⟩ := ownsRow_succ hown'
            have HV' : Hid (∃ gg cap, v' = .slice (some ⟨gg, 0, none⟩) (empN f (r * 4 + c) + 1) cap) := ⟨gg, cap, hv'⟩
            have HB2 : Hid (Below w.heap.size w w2) := ((hb.out).alloc hsz _).grown hgrow' (by simp; omega) (fun j hj => by have := (ho0.lt j hj).1; omega)
            have K2 := (k1.alloc (.cells #[.int .i64 r, .int .i64 c] 49)).grown hgrow' (fun e => by have := (ho0.lt _ e.symm).1; omega)
            have HO : Hid (OwnsCells w2 (w.heap.size + 1) v' (empN f (r * 4 + c) + 1) (empL f (r * 4 + c) ++ [(r : Int), (c : Int)])) := by
              show OwnsCells _ _ _ _ _
              unfold OwnsCells
              rw [List.map_append]
              exact hown'
            clear hown' hgrow' ho0 hv' k1
            go_wp2_with fail
            go_roundg h
            case rel => exact ⟨c + 1, _, by omega, by go_num, rfl, by rw [show r * 4 + (c + 1) = r * 4 + c + 1 by omega, Y2.out]; exact HV'.out, by rw [show r * 4 + (c + 1) = r * 4 + c + 1 by omega, Y1.out, Y2.out, HQ.out.1, HQ.out.2]; exact HO.out, K2, HB2⟩
            case measure => omega
          · obtain ⟨y1, y2⟩ := emp_no h0
            have Y1 := Lib.hid y1
            have Y2 := Lib.hid y2
            have q0 : (f (r * 4 + c) == 0) = false := by simpa using h0
            clear y1 y2 h0
            go_wp2_with fail
            go_roundg h
            case rel => exact ⟨c + 1, _, by omega, by go_num, rfl, by rw [show r * 4 + (c + 1) = r * 4 + c + 1 by omega, Y2.out]; exact hv, by rw [show r * 4 + (c + 1) = r * 4 + c + 1 by omega, Y1.out, Y2.out]; exact ho, k1, hb⟩
            case measure => omega
end Go.Proofs.Ytpiegllffkjneaa
