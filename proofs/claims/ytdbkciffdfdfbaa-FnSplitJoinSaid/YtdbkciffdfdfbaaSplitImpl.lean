/-
  The contract of impl.SplitString: the parts of a text of at most 4000 bytes at a separator of one byte, in a new row; else it fails.
-/
import Derived.Test.YtdbkciffdfdfbaaParts
import Derived.Test.YtdbkciffdfdfbaaShelf
import Derived.RangeFuncBound
import Derived.RangeFuncCalls
import Derived.Shelf.RegionOpen
import Derived.Maps.OwnIn
import Derived.Test.YtdbkciffdfdfbaaJoin
namespace Go.Proofs.Ytdbkciffdfdfbaa
open Go.RowKit Go.Shelf Plain

attribute [local go_sem] Oper.semAt_some

set_option maxHeartbeats 1000000 in
theorem partsOf_in (F : Fence) (n : Nat) (h5 : F.fn 27) (hro : F.round = none) (s : ByteArray) (b : Int) (w : World) :
    CallsIn F n Try.prog 27 #[.string s, .int .u8 b] w fun e w' => e = .returned (.func (.func 37) #[] #[.pointer (some ⟨w.heap.size, 0, none⟩), .pointer (some ⟨w.heap.size + 1, 0, none⟩)]) ∧ w' = (w.alloc (.cells #[.string s] 9)).alloc (.cells #[.int .u8 b] 5) := by
  refine callsIn_of_wp Try.func27 rfl h5 ?_ hro
  simp only [Try.ntmps27, List.size_toArray, List.length_cons, List.length_nil, Nat.reduceAdd, Nat.reduceSub, Array.replicate_succ, Array.replicate_zero, List.push_toArray, List.append_toArray, List.nil_append, List.cons_append]
  gi_wp2
  go_ret
  exact ⟨rfl, rfl⟩

theorem parts_stops (F : Fence) (n : Nat) (hf : F.fn 37) (hro : F.round = none) (hn : 1 ≤ n) (B1 B2 : Nat) (s : ByteArray) (b : UInt8) (hs : s.size ≤ 4000) (w : World) (hB1 : B1 < w.heap.size) (hB2 : B2 < w.heap.size)
    (h1 : w.cell? ⟨B1, 0, none⟩ = some (.string s)) (h2 : w.cell? ⟨B2, 0, none⟩ = some (.int .u8 (b.toNat : Int))) :
    SeqStopsK F n Try.prog 37 #[.pointer (some ⟨B1, 0, none⟩), .pointer (some ⟨B2, 0, none⟩)] (fun x : Part => #[Value.string x.1]) (KeepsAt B1 B2) (fun ys => ys.map listOf = parts b s.data.toList) (fun _ => True) (s.size + 1) w := fun l J Jx W hW hA _ hY h0 =>
  parts1_in F n hf hro hn l B1 B2 s b hs J Jx (fun pre V k hJ => hA pre V (V.drewN k) none hJ ⟨rfl, rfl, rfl, Nat.le_refl _, fun _ _ _ => rfl⟩ (fun r e => by cases e)) hY W
    ((hW.cell (p := ⟨B1, 0, none⟩) hB1).trans h1) ((hW.cell (p := ⟨B2, 0, none⟩) hB2).trans h2) h0

theorem row_below {B : Nat} {e : TypeId} {k : Nat} {v : Value} {n : Nat} {xs : List Value} {w w' : World} (h : w.ownsRow B e k v n xs) (hb : Below w.heap.size w w') : w'.ownsRow B e k v n xs :=
  h.kept (row := none) ⟨hb.os, hb.tape, hb.output, hb.size, fun j hj _ => hb.block j hj⟩ (by cases hv : v.ownBlock <;> simp)
theorem box_below {W W' : World} {B : Nat} {t : TypeId} {v : Value} (h : Boxed W B t v) (hb : Below W.heap.size W W') : Boxed W' B t v := (hb.block B h.lt).trans h
theorem others_below {W W' : World} (hb : Below W.heap.size W W') : KeepsOthers W W' := ⟨hb.size, fun k _ hk _ => (hb.block k (Array.getElem?_eq_some_iff.1 hk).1).trans hk⟩
theorem keepsAt_below {n₀ B1 B2 : Nat} {W W' : World} (hb : Below n₀ W W') (h1 : B1 < n₀) (h2 : B2 < n₀) : KeepsAt B1 B2 W W' := ⟨hb.block B1 h1, hb.block B2 h2⟩

theorem body_keeps {w1 w2 : World} {B B1 : Nat} {tmp : Obj} {row : Option Nat} (hgrow : (w1.alloc tmp).grownBy w2 row) (hlt : B1 < w1.heap.size) (hne : row ≠ some B1) (hB : B1 ≠ B) (u : Value) : (w2.setCell ⟨B, 0, none⟩ u).heap[B1]? = w1.heap[B1]? := by
  have h1 : B1 < (w1.alloc tmp).heap.size := by rw [World.size_alloc]; omega
  have h2 := hgrow.size
  refine ((grownBy_setCell' w2 B u).block B1 (by omega) (fun e => hB (Option.some.inj e))).trans ?_
  exact (hgrow.block B1 h1 (fun e => hne e.symm)).trans ((World.grownBy_alloc w1 tmp none).block B1 hlt (fun e => by cases e))

set_option maxRecDepth 100000 in
set_option maxHeartbeats 2000000 in
theorem split_yes (s sep : ByteArray) (hs : s.size ≤ 4000) (hp : 0 < sep.size) (H1 : Hid (sep.size = 1)) (w : World) :
    Calls Try.prog 10 #[.string s, .string sep] w fun e W' => ∃ g cap, e = .returned (.tuple #[.slice (some ⟨g, 0, none⟩) (parts sep[0] s.data.toList).length cap, .bool true]) ∧
      OwnsStrs W' w.heap.size (.slice (some ⟨g, 0, none⟩) (parts sep[0] s.data.toList).length cap) (parts sep[0] s.data.toList) ∧ Below w.heap.size w W' := by
  refine (callsIn_wide (n := 6)).1 ?_
  have h1 : 1 ≤ 6 := by omega
  have hq : ((sep.size : Int) == 1) = true := by rw [H1.out]; rfl
  have hq2 : ((sep.size : Int) != 1) = false := by rw [H1.out]; rfl
  have hk1 : (0 : Int) < (sep.size : Int) := by omega
  obtain ⟨i0, hi, hz0, hz1, hz2⟩ := info_parts infoStr
  refine callsIn_of_wp_marks Try.func10 rfl trivial ?_ rfl
  simp only [Try.ntmps10, List.size_toArray, List.length_cons, List.length_nil, Nat.reduceAdd, Nat.reduceSub, Array.replicate_succ, Array.replicate_zero, List.push_toArray, List.append_toArray, List.nil_append, List.cons_append]
  gi_wp2_with (refine ⟨trivial, ?_⟩; gi_at_call 27; refine (partsOf_in Fence.wide _ trivial rfl _ _ _).mono ?_; rintro e w' ⟨rfl, rfl⟩)
  have bO := Boxed.new (w.alloc (.cells #[] 9)) 26 (.slice (some ⟨w.heap.size, 0, none⟩) 0 0)
  rw [World.size_alloc] at bO
  have bO' := (bO.alloc (.cells #[.string s] 9)).alloc (.cells #[.int .u8 (sep[0].toNat : Int)] 5)
  have rO := (((World.ownsRow_made (base := w.heap.size) (e := 9) (size := 1) w #[] 0 (Nat.le_refl _) (by decide) rfl).alloc (.cells #[.slice (some ⟨w.heap.size, 0, none⟩) 0 0] 26)).alloc (.cells #[.string s] 9)).alloc (.cells #[.int .u8 (sep[0].toNat : Int)] 5)
  have cS := (((Boxed.new ((w.alloc (.cells #[] 9)).alloc (.cells #[.slice (some ⟨w.heap.size, 0, none⟩) 0 0] 26)) 9 (.string s)).alloc (.cells #[.int .u8 (sep[0].toNat : Int)] 5))).cell
  have cB := (Boxed.new (((w.alloc (.cells #[] 9)).alloc (.cells #[.slice (some ⟨w.heap.size, 0, none⟩) 0 0] 26)).alloc (.cells #[.string s] 9)) 5 (.int .u8 (sep[0].toNat : Int))).cell
  simp only [World.size_alloc] at cS cB
  have hB0 : Below w.heap.size w ((((w.alloc (.cells #[] 9)).alloc (.cells #[.slice (some ⟨w.heap.size, 0, none⟩) 0 0] 26)).alloc (.cells #[.string s] 9)).alloc (.cells #[.int .u8 (sep[0].toNat : Int)] 5)) := ((((Below.refl _ w).alloc (Nat.le_refl _) _).alloc (by simp only [World.size_alloc]; omega) _).alloc (by simp only [World.size_alloc]; omega) _).alloc (by simp only [World.size_alloc]; omega) _
  have hsz : ((((w.alloc (.cells #[] 9)).alloc (.cells #[.slice (some ⟨w.heap.size, 0, none⟩) 0 0] 26)).alloc (.cells #[.string s] 9)).alloc (.cells #[.int .u8 (sep[0].toNat : Int)] 5)).heap.size = w.heap.size + 4 := by simp only [World.size_alloc]
  obtain ⟨W0, hW0⟩ : ∃ W0, ((((w.alloc (.cells #[] 9)).alloc (.cells #[.slice (some ⟨w.heap.size, 0, none⟩) 0 0] 26)).alloc (.cells #[.string s] 9)).alloc (.cells #[.int .u8 (sep[0].toNat : Int)] 5)) = W0 := ⟨_, rfl⟩
  rw [hW0] at bO' rO cS cB hB0 hsz ⊢
  clear hW0 bO
  refine wpIn_rangeFunc_ownG rfl h1 (gf := 37) (lb := #[.pointer (some ⟨w.heap.size + 1 + 1, 0, none⟩), .pointer (some ⟨w.heap.size + 1 + 1 + 1, 0, none⟩)]) rfl trivial (enters_of Try.func37 (by kernel_rfl) rfl)
    (parts_stops Fence.wide (6 - 1) trivial rfl (by omega) (w.heap.size + 1 + 1) (w.heap.size + 1 + 1 + 1) s sep[0] hs W0 (by omega) (by omega) cS cB) (fun h k => KeepsAt.trans h k) (KeepsAt.put (by omega) (by omega)) (Below.refl _ _) (fun _ => rfl)
    (fun pre W => (∃ v, Boxed W (w.heap.size + 1) 26 v ∧ W.ownsRow w.heap.size 9 1 v pre.length (pre.map fun x => Value.string x.1) ∧ (v.ownBlock ≠ some (w.heap.size + 1 + 1) ∧ v.ownBlock ≠ some (w.heap.size + 1 + 1 + 1))) ∧ Below w.heap.size W0 W)
    (fun _ _ _ => False)
    (OwnFrom.and (Own.from (holdsRow_own w.heap.size (w.heap.size + 1) 26 9 1 (fun pre : List Part => pre.length) (fun pre => pre.map fun x => Value.string x.1) (fun _ v => v.ownBlock ≠ some (w.heap.size + 1 + 1) ∧ v.ownBlock ≠ some (w.heap.size + 1 + 1 + 1))) _) (ownFrom_below (by omega) (by omega)))
    (fun _ _ _ _ _ hs _ _ => hs)
    ⟨⟨_, bO', rO, by simp [Value.ownBlock]; omega, by simp [Value.ownBlock]; omega⟩, Below.refl _ _⟩
    ?a1 ?assign ?body ?done ?stop
  case assign =>
    intro l x W K hK
    gi_wp2
    exact hK
  case body =>
    rintro l pre x W ⟨⟨v, hv, hrow, hn1, hn2⟩, hB⟩ hlt
    have hc := hv.cell
    have hx := x.2
    have hWs := hB.size
    have hd : 1 ≤ 6 - 1 - 1 := by omega
    have hmx : Try.prog.follows .mixedOrders = true := by kernel_rfl
    have hvd : Boxed W.drew (w.heap.size + 1) 26 v := hv
    have hrowd : W.drew.ownsRow w.heap.size 9 1 v pre.length (pre.map fun x => Value.string x.1) := hrow
    have hfn : Fence.wide.fn 28 := trivial
    gi_wp2
    gi_region_with_o (first
      | (gi_at_call 28; refine (CallsIn.inRound l (callsIn_wide.2 (clone_str x.1 _ (by omega)))).mono ?_; rintro e w1 ⟨rfl, hb1⟩; have hv1 := box_below hvd hb1; have hrow1 := row_below hrowd hb1; have hc1 := hv1.cell; have hc1a := (hv1.alloc (.cells #[.string x.1] 9)).cell; have hs1 : W.heap.size ≤ w1.heap.size := hb1.size; obtain ⟨v', w2, hrun, hown', hgrow, _, hwh⟩ := run_append_own_at (P := Try.prog) (w := w1.alloc (.cells #[.string x.1] 9)) w.heap.size 26 26 9 i0 (.string ByteArray.empty) 1 16 Try.underlying26 hi hz0 hz1 hz2 rfl (by decide) v pre.length _ (hrow1.alloc _) ⟨w1.heap.size, 0, none⟩ 1 1 [.string x.1] rfl (cell_one_new _ _ _) (by simp [Value.oneCell']) (by unfold maxLen; omega) (by omega) (by simp only [World.size_alloc]; omega); obtain ⟨g', cap', rfl⟩ := ownsRow_succ hown'; simp [go_sem] at hrun; obtain ⟨hv2, hv3, hr3, hk3, hb3⟩ := hv1.appended (by decide) hrow1 (by omega) (by omega) hown' hgrow; have hc2 := hv2.cell; have hf2 := hv2.frozen))
    all_goals (
      have hgr := hgrow
      clear hrun
      have hs2 : (w1.alloc (.cells #[.string x.1] 9)).heap.size = w1.heap.size + 1 := World.size_alloc _ _
      have hsd : W.drew.heap.size = W.heap.size := rfl
      have k1 : KeepsFrom W0.heap.size W (w2.setCell ⟨w.heap.size + 1, 0, none⟩ (.slice (some ⟨g', 0, none⟩) (pre.length + 1) cap')) := ((KeepsOthers.drew W).trans ((others_below hb1).trans hk3)).from _
      have k2 : KeepsAt (w.heap.size + 1 + 1) (w.heap.size + 1 + 1 + 1) W (w2.setCell ⟨w.heap.size + 1, 0, none⟩ (.slice (some ⟨g', 0, none⟩) (pre.length + 1) cap')) := ⟨(body_keeps hgr (by omega) hn1 (by omega) _).trans (hb1.block _ (by omega)), (body_keeps hgr (by omega) hn2 (by omega) _).trans (hb1.block _ (by omega))⟩
      have k3 : (w2.setCell ⟨w.heap.size + 1, 0, none⟩ (.slice (some ⟨g', 0, none⟩) (pre.length + 1) cap')).ownsRow w.heap.size 9 1 (.slice (some ⟨g', 0, none⟩) (pre.length + 1) cap') (pre ++ [x]).length ((pre ++ [x]).map fun x => Value.string x.1) := by
        rw [List.length_append, List.map_append]; exact hr3
      have k4 : (Value.slice (some ⟨g', 0, none⟩) (pre.length + 1) cap').ownBlock ≠ some (w.heap.size + 1 + 1) ∧ (Value.slice (some ⟨g', 0, none⟩) (pre.length + 1) cap').ownBlock ≠ some (w.heap.size + 1 + 1 + 1) := by
        rcases hwh with e | e
        · rw [e]; exact ⟨hn1, hn2⟩
        · rw [e]
          exact ⟨fun e2 => by have := Option.some.inj e2; omega, fun e2 => by have := Option.some.inj e2; omega⟩
      have k5 : Below w.heap.size W0 (w2.setCell ⟨w.heap.size + 1, 0, none⟩ (.slice (some ⟨g', 0, none⟩) (pre.length + 1) cap')) := hB.drew.trans ((hb1.mono (by omega)).trans hb3)
      exact And.intro k1 (And.intro k2 (And.intro ⟨_, hv3, k3, k4⟩ k5)))
  case done =>
    rintro D ys W hD hys ⟨⟨v, hv, hrow, _⟩, hB⟩ hK
    have hc := hv.cell
    have hlen : ys.length = (parts sep[0] s.data.toList).length := by rw [← hys, List.length_map]
    have hmap : (ys.map fun x => Value.string x.1) = (parts sep[0] s.data.toList).map strv := by rw [← hys, List.map_map]; rfl
    rw [hlen, hmap] at hrow
    have hl : (parts sep[0] s.data.toList).length = (sp sep[0] s.data.toList).1.length + 1 := by simp [parts]
    obtain ⟨g, cap, rfl⟩ : ∃ g cap, v = .slice (some ⟨g, 0, none⟩) (parts sep[0] s.data.toList).length cap := by
      rw [hl] at hrow ⊢; exact ownsRow_succ hrow
    clear hl hmap hlen hys
    gi_wp2
    refine ⟨by simp, .inl ⟨_, _, rfl, run_takeDeferred hK, ?_⟩⟩
    exact ⟨_, results_tmp2 rfl _ _ _, g, cap, rfl, ownsRow_putObj hrow _ hK rfl, (hB0.trans hB).trans (belowK_b (w := w) (Nat.le_refl _) W D _ _ (by omega) hK rfl rfl)⟩
  case stop =>
    rintro D c pre W _ _ h _
    exact h.elim

/-- What a failing SplitString hands back. -/
def SplitNone (w : World) (e : Ending) (w' : World) : Prop := ∃ g cap, e = .returned (.tuple #[.slice (some ⟨g, 0, none⟩) 0 cap, .bool false]) ∧ OwnsStrs w' w.heap.size (.slice (some ⟨g, 0, none⟩) 0 cap) [] ∧ Below w.heap.size w w'
theorem none_new (w : World) : OwnsStrs (w.alloc (.cells #[] 9)) w.heap.size (.slice (some ⟨w.heap.size, 0, none⟩) 0 0) [] := World.ownsRow_made w #[] 0 (Nat.le_refl _) (by decide) rfl

theorem split_big (s sep : ByteArray) (_hm : s.size ≤ maxLen) (hs : 4000 < s.size) (w : World) : Calls Try.prog 10 #[.string s, .string sep] w (SplitNone w) := by
  unfold maxLen at _hm
  go_enter Try.func10, Try.ntmps10
  go_wp2
  go_ret2
  exact ⟨_, _, rfl, none_new w, (Below.refl _ _).alloc (Nat.le_refl _) _⟩
theorem split_sep (s sep : ByteArray) (_hm : sep.size ≤ maxLen) (hs : s.size ≤ 4000) (h : sep.size ≠ 1) (w : World) : Calls Try.prog 10 #[.string s, .string sep] w (SplitNone w) := by
  unfold maxLen at _hm
  have hq : ((sep.size : Int) == 1) = false := by rw [beq_eq_false_iff_ne]; omega
  have hq2 : ((sep.size : Int) != 1) = true := by rw [bne_iff_ne]; omega
  clear h
  go_enter Try.func10, Try.ntmps10
  go_wp2
  go_ret2
  exact ⟨_, _, rfl, none_new w, (Below.refl _ _).alloc (Nat.le_refl _) _⟩
end Go.Proofs.Ytdbkciffdfdfbaa
