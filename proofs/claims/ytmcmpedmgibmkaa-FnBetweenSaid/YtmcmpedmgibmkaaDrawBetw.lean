/-
  The draws of chapter 7 about two boards: those of MovesBetween and of ScoreBetween, and that of IsPackedBoard.
-/
import Derived.Test.YtmcmpedmgibmkaaDrawSums
import Derived.Test.YtmcmpedmgibmkaaDrawSteps
import Derived.Test.YtmcmpedmgibmkaaPlaySteps
import Derived.Test.YtmcmpedmgibmkaaSpecLeast
import Derived.Test.YtmcmpedmgibmkaaRowsKit
import Derived.Test.YtmcmpedmgibmkaaDrawCell
namespace Go.Proofs.Ytmcmpedmgibmkaa
open Go.RowKit Plain
attribute [local go_sem] store_new Oper.semAt_some
set_option linter.unusedVariables false
set_option linter.unusedSimpArgs false
theorem wp_ldB8 {o : Oper} {a : Act} {w : World} {K : Act → World → Prop} {Q : Exit → Act → World → Prop} {x : Operand} {b : Nat} {f : Nat → Int} {t : TypeId} (hg : Blk w b 16 f t) (ho : o.op = .load 28 x) (hx : a.eval x = .pointer (some ⟨b, 0, none⟩))
    (h : K (a.put o.dst (.agg (mk 16 f))) w) : o.wp Try.prog a w K Q :=
  wp_load_row _ x ho b hx t _ _ _ hg Try.underlying28 rfl (by rw [mk_size]; exact sizeB) h
theorem turned_low {w w' : World} {B : Nat} (h : RowKit.Below w.heap.size w w') : Turned B w w' := ⟨h.os, h.tape, h.output, h.size, fun k hk _ => h.block k hk⟩
set_option maxHeartbeats 4000000 in
set_option maxRecDepth 20000 in
theorem drawMoves_any (a : Option Addr) (len cap : Nat) (w : World) (hl : len ≤ 65536) (hr : CodeRow w a len w.heap.size) :
    Calls Try.prog 35 #[.slice a len cap] w fun e w' => ∃ f g : Nat → Int, e = .returned (.tuple #[.agg (mk 16 f), .agg (mk 16 g)]) ∧ Below w.heap.size w w' := by
  have z16 := zero16
  have K2 := ((Blk.new w 16 (fun _ => 0) 28).alloc (.cells (mk 16 fun _ => 0) 28)).alloc (.cells #[.slice a len cap, .int .i64 0, .int .u64 0] 85)
  have K3 := (Blk.new (w.alloc (.cells (mk 16 fun _ => 0) 28)) 16 (fun _ => 0) 28).alloc (.cells #[.slice a len cap, .int .i64 0, .int .u64 0] 85)
  have h1 : (w.alloc (.cells (mk 16 fun _ => 0) 28)).heap.size = w.heap.size + 1 := by simp
  rw [h1] at K3
  have hr1 := hr.later (((Below.refl _ w).alloc (Nat.le_refl _) (.cells (mk 16 fun _ => 0) 28)).alloc (by simp) (.cells (mk 16 fun _ => 0) 28))
  have HC := Lib.hid (Cur.new ((w.alloc (.cells (mk 16 fun _ => 0) 28)).alloc (.cells (mk 16 fun _ => 0) 28)) a len cap hl hr1)
  have hs : ((w.alloc (.cells (mk 16 fun _ => 0) 28)).alloc (.cells (mk 16 fun _ => 0) 28)).heap.size = w.heap.size + 2 := by simp
  rw [hs] at HC
  clear hr hr1
  go_enter Try.func35, Try.ntmps35
  go_wp2_with fail
  refine (board_any _ (w.heap.size + 2) 0 HC.out (by omega)).mono ?_
  rintro e w2 ⟨f, rfl, hc2, ht2⟩
  have K2 := K2.turned ht2 (by omega)
  have K3 := K3.turned ht2 (by omega)
  have HC := Lib.hid hc2
  have HT := Lib.hid ht2
  clear hc2 ht2
  go_wp2_with fail
  refine (board_any _ (w.heap.size + 2) _ HC.out (by omega)).mono ?_
  rintro e w3 ⟨g, rfl, hc2, ht2⟩
  have K2 := K2.turned ht2 (by omega)
  have K3 := K3.turned ht2 (by omega)
  have HC := Lib.hid hc2
  have HT := Lib.hid (HT.out.trans ht2)
  have hsz := HC.out.lt
  clear hc2 ht2
  have KA := (Blk.new w3 16 (fun _ => 0) 28).alloc (.cells (mk 16 fun _ => 0) 28)
  have KB := Blk.new (w3.alloc (.cells (mk 16 fun _ => 0) 28)) 16 (fun _ => 0) 28
  have hB1 : (w3.alloc (.cells (mk 16 fun _ => 0) 28)).heap.size = w3.heap.size + 1 := by simp
  rw [hB1] at KB
  have KB2 := KB.rowOther w3.heap.size (mk 16 f) (by omega)
  go_wp2_with (first | ((with_reducible show wpList _ _ _ (Oper.mk _ (Op.store 28 _ _) _ _ _ _ :: _) _ _); refine storeB (KA) rfl rfl rfl rfl ?_) | ((with_reducible show wpList _ _ _ (Oper.mk _ (Op.store 28 _ _) _ _ _ _ :: _) _ _); refine storeB (KB2) rfl rfl rfl rfl ?_))
  have HC := Lib.hid ((((HC.out.alloc (.cells (mk 16 fun _ => 0) 28)).alloc (.cells (mk 16 fun _ => 0) 28)).rowNew (c := w3.heap.size) (by omega) (mk 16 f)).rowNew (c := w3.heap.size + 1) (by omega) (mk 16 g))
  have HT := Lib.hid ((((HT.out.alloc (.cells (mk 16 fun _ => 0) 28)).alloc (.cells (mk 16 fun _ => 0) 28)).rowNew (b := w3.heap.size) (by simp; omega) (mk 16 f)).rowNew (b := w3.heap.size + 1) (by simp; omega) (mk 16 g))
  have K2 := (((K2.alloc (.cells (mk 16 fun _ => 0) 28)).alloc (.cells (mk 16 fun _ => 0) 28)).rowOther w3.heap.size (mk 16 f) (by omega)).rowOther (w3.heap.size + 1) (mk 16 g) (by omega)
  have K3 := (((K3.alloc (.cells (mk 16 fun _ => 0) 28)).alloc (.cells (mk 16 fun _ => 0) 28)).rowOther w3.heap.size (mk 16 f) (by omega)).rowOther (w3.heap.size + 1) (mk 16 g) (by omega)
  have KA := (KA.row 16 f).rowOther (w3.heap.size + 1) (mk 16 g) (by omega)
  have KB := KB2.row 16 g
  clear KB2 hB1
  have HN : Hid (w.heap.size + 2 < w3.heap.size ∧ w3.heap.size + 1 < ((((w3.alloc (.cells (mk 16 fun _ => 0) 28)).alloc (.cells (mk 16 fun _ => 0) 28)).setRow w3.heap.size (mk 16 f)).setRow (w3.heap.size + 1) (mk 16 g)).heap.size) := ⟨by omega, KB.lt⟩
  clear hsz
  generalize (((w3.alloc (.cells (mk 16 fun _ => 0) 28)).alloc (.cells (mk 16 fun _ => 0) 28)).setRow w3.heap.size (mk 16 f)).setRow (w3.heap.size + 1) (mk 16 g) = WW at *
  generalize w3.heap.size = bA at *
  refine (one_any _ (w.heap.size + 2) _ 2 HC.out (by omega) (by omega) (by omega)).mono ?_
  rintro e w4 ⟨b, rfl, hc2, ht2⟩
  have K2 := K2.turned ht2 (by have := HN.out; omega)
  have K3 := K3.turned ht2 (by have := HN.out; omega)
  have KA := KA.turned ht2 (by have := HN.out; omega)
  have KB := KB.turned ht2 (by have := HN.out; omega)
  have HC := Lib.hid hc2
  have HT := Lib.hid (HT.out.trans ht2)
  have HN : Hid (w.heap.size + 2 < bA ∧ bA + 1 < w4.heap.size) := ⟨HN.out.1, KB.lt⟩
  clear hc2 ht2
  obtain ⟨M, hM⟩ : ∃ M, M = 20000 := ⟨_, rfl⟩
  have HC : Hid (Cur w4 (w.heap.size + 2) M) := HC.out.more (by omega)
  cases b with
  | true =>
    go_wp2_with fail
    refine wp_region_held_drew (S := fun W => Blk W bA 16 f 28 ∧ True) (by kernel_rfl) (⟨KA.drew, trivial⟩) (fun hHeld => ?_)
    have K2 := K2.drew
    have K3 := K3.drew
    have KA := KA.drew
    have KB := KB.drew
    have HC : Hid (Cur w4.drew (w.heap.size + 2) M) := HC.out.drew
    have HT := Lib.hid (HT.out.draws 1)
    have HN : Hid (w.heap.size + 2 < bA ∧ bA + 1 < w4.drew.heap.size) := HN.out
    have hdr : w4.drewN 1 = w4.drew := rfl
    rw [hdr] at HT
    clear hdr
    generalize w4.drew = x0 at *
    refine wpAnyH_take (i := 0) (oi := { dst := some 17, op := _, type := _, pos := _, after := _, guard := _ }) (v := .agg (mk 16 f)) rfl (by kernel_rfl) (by kernel_rfl) (by kernel_rfl) (fun _ _ _ h => h) (Or.inl ⟨by rfl, fun _ q => execB q.1 rfl rfl⟩) (by assumption) ?_
    try simp only [Act.put, List.setIfInBounds_toArray, List.set_cons_zero, List.set_cons_succ]
    refine wpAnyH_take (i := 1) (oi := { dst := some 18, op := _, type := _, pos := _, after := _, guard := _ }) (v := .pointer (some ⟨w.heap.size + 2, 0, none⟩)) rfl (by kernel_rfl) (by kernel_rfl) (by kernel_rfl) (fun _ _ _ h => h) (Or.inl ⟨by rfl, by intro w hSw; clear hSw; go_simp; (try with_reducible rfl)⟩) (by assumption) ?_
    try simp only [Act.put, List.setIfInBounds_toArray, List.set_cons_zero, List.set_cons_succ]
    refine wpAnyH_take (i := 2) (oi := { dst := some 19, op := _, type := _, pos := _, after := _, guard := _ }) (v := .agg (mk 16 f)) rfl (by kernel_rfl) (by kernel_rfl) (by kernel_rfl) (fun _ _ _ h => h) (Or.inl ⟨by rfl, fun _ q => execB q.1 rfl rfl⟩) (by assumption) ?_
    try simp only [Act.put, List.setIfInBounds_toArray, List.set_cons_zero, List.set_cons_succ]
    refine wpAnyH_ready (rs := [3]) (by kernel_rfl) (by simp) ?_
    refine AllReadyH.cons rfl (fun K hK => ?_) AllReadyH.nil
    go_simp
    refine (step5_any f _ (w.heap.size + 2) M HC.out (by omega)).mono ?_
    rintro e x1 ⟨s, rfl, hc2, ht2⟩
    have K2 := K2.turned ht2 (by have := HN.out; omega)
    have K3 := K3.turned ht2 (by have := HN.out; omega)
    have KA := KA.turned ht2 (by have := HN.out; omega)
    have KB := KB.turned ht2 (by have := HN.out; omega)
    have HC := Lib.hid (hc2.more (show _ ≤ M + 30 by omega))
    have HT := Lib.hid (HT.out.trans ht2)
    have HN : Hid (w.heap.size + 2 < bA ∧ bA + 1 < x1.heap.size) := ⟨HN.out.1, KB.lt⟩
    clear hc2 ht2
    clear hHeld
    go_wp2_with fail
    refine hK.out _ _ ⟨KA, trivial⟩ (fun hHeld => ?_)
    clear hK K
    try simp only [Act.put, List.setIfInBounds_toArray, List.set_cons_zero, List.set_cons_succ]
    refine wpAnyH_ready (rs := [4]) (by kernel_rfl) (by simp) ?_
    refine AllReadyH.cons rfl (fun K hK => ?_) AllReadyH.nil
    rw [if_pos (by rfl)]
    refine wp_buildT _ rfl rfl ?_
    have KR : KRow 4 (x1.alloc (.cells (mk 4 s) 90)) (.slice (some ⟨x1.heap.size, 0, none⟩) 1 1) 1 s := ⟨_, 1, rfl, Nat.le_refl _, (Blk.new x1 4 s 90).at⟩
    have K2 := K2.alloc (.cells (mk 4 s) 90)
    have K3 := K3.alloc (.cells (mk 4 s) 90)
    have KA := KA.alloc (.cells (mk 4 s) 90)
    have KB := KB.alloc (.cells (mk 4 s) 90)
    have HT := Lib.hid (HT.out.alloc (.cells (mk 4 s) 90))
    have HN : Hid (w.heap.size + 2 < bA ∧ bA + 1 < (x1.alloc (.cells (mk 4 s) 90)).heap.size) := ⟨HN.out.1, KB.lt⟩
    generalize x1.alloc (.cells (mk 4 s) 90) = x2 at *
    generalize x1.heap.size = b9 at *
    clear hHeld
    refine hK.out _ _ ⟨KA, trivial⟩ (fun hHeld => ?_)
    clear hK K
    try simp only [Act.put, List.setIfInBounds_toArray, List.set_cons_zero, List.set_cons_succ]
    refine wpAnyH_ready (rs := [5]) (by kernel_rfl) (by simp) ?_
    refine AllReadyH.cons rfl (fun K hK => ?_) AllReadyH.nil
    go_simp
    refine (specPl_any f _ 1 s _ KR (by omega)).mono ?_
    rintro e x3 ⟨rfl, hb⟩
    have K2 := K2.below hb K2.lt
    have K3 := K3.below hb K3.lt
    have KA := KA.below hb KA.lt
    have KB := KB.below hb KB.lt
    have HT := Lib.hid (HT.out.trans (turned_low hb))
    have HN : Hid (w.heap.size + 2 < bA ∧ bA + 1 < x3.heap.size) := ⟨HN.out.1, KB.lt⟩
    clear hb KR
    generalize plRB f s 1 = g at *
    generalize plRS f s 1 = gs at *
    generalize plRN f s 1 = gn at *
    generalize vdO f = go at *
    clear hHeld
    go_wp2_with fail
    refine hK.out _ _ ⟨KA, trivial⟩ (fun hHeld => ?_)
    clear hK K
    try simp only [Act.put, List.setIfInBounds_toArray, List.set_cons_zero, List.set_cons_succ]
    refine wpAnyH_take (i := 6) (oi := { dst := some 16, op := _, type := _, pos := _, after := _, guard := _ }) (v := .tuple #[.agg (mk 16 g), .int .i64 gs, .int .i64 gn, .bool go]) rfl (by kernel_rfl) (by kernel_rfl) (by kernel_rfl) (fun _ _ _ h => h) (Or.inl ⟨by rfl, by intro w hSw; clear hSw; go_simp; (try with_reducible rfl)⟩) (by assumption) ?_
    try simp only [Act.put, List.setIfInBounds_toArray, List.set_cons_zero, List.set_cons_succ]
    refine wpAnyH_take (i := 7) (oi := { dst := some 23, op := _, type := _, pos := _, after := _, guard := _ }) (v := .agg (mk 16 g)) rfl (by kernel_rfl) (by kernel_rfl) (by kernel_rfl) (fun _ _ _ h => h) (Or.inl ⟨by rfl, by intro w hSw; clear hSw; go_simp; (try with_reducible rfl)⟩) (by assumption) ?_
    try simp only [Act.put, List.setIfInBounds_toArray, List.set_cons_zero, List.set_cons_succ]
    refine wpAnyH_take (i := 8) (oi := { dst := some 24, op := _, type := _, pos := _, after := _, guard := _ }) (v := .int .i64 gs) rfl (by kernel_rfl) (by kernel_rfl) (by kernel_rfl) (fun _ _ _ h => h) (Or.inl ⟨by rfl, by intro w hSw; clear hSw; go_simp; (try with_reducible rfl)⟩) (by assumption) ?_
    try simp only [Act.put, List.setIfInBounds_toArray, List.set_cons_zero, List.set_cons_succ]
    refine wpAnyH_take (i := 9) (oi := { dst := some 25, op := _, type := _, pos := _, after := _, guard := _ }) (v := .int .i64 gn) rfl (by kernel_rfl) (by kernel_rfl) (by kernel_rfl) (fun _ _ _ h => h) (Or.inl ⟨by rfl, by intro w hSw; clear hSw; go_simp; (try with_reducible rfl)⟩) (by assumption) ?_
    try simp only [Act.put, List.setIfInBounds_toArray, List.set_cons_zero, List.set_cons_succ]
    refine wpAnyH_take (i := 10) (oi := { dst := some 26, op := _, type := _, pos := _, after := _, guard := _ }) (v := .bool go) rfl (by kernel_rfl) (by kernel_rfl) (by kernel_rfl) (fun _ _ _ h => h) (Or.inl ⟨by rfl, by intro w hSw; clear hSw; go_simp; (try with_reducible rfl)⟩) (by assumption) ?_
    try simp only [Act.put, List.setIfInBounds_toArray, List.set_cons_zero, List.set_cons_succ]
    refine wpAnyH_ready (rs := [11]) (by kernel_rfl) (by simp) ?_
    refine AllReadyH.cons rfl (fun K hK => ?_) AllReadyH.nil
    have st1 := run_store_blk (P := Try.prog) (g := g) KB
    have ms1 : (mk 16 g).size = 16 := mk_size 16 _
    go_simp
    clear st1 ms1
    have K2 := K2.rowOther (bA + 1) (mk 16 g) (by have := HN.out; omega)
    have K3 := K3.rowOther (bA + 1) (mk 16 g) (by have := HN.out; omega)
    have KA := KA.rowOther (bA + 1) (mk 16 g) (by have := HN.out; omega)
    have KB := KB.row 16 g
    have HT := Lib.hid (HT.out.rowNew (b := bA + 1) (by have := HN.out; simp; omega) (mk 16 g))
    generalize x3.setRow (bA + 1) (mk 16 g) = x4 at *
    refine hK.out _ _ ⟨KA, trivial⟩ (fun hHeld => ?_)
    clear hK K
    try simp only [Act.put, List.setIfInBounds_toArray, List.set_cons_zero, List.set_cons_succ]
    refine wpAnyH_done (by kernel_rfl) ?_ _
    clear hHeld
    go_wp2_with fail
    refine wp_region_held_drew (S := fun W => Blk W bA 16 f 28 ∧ Blk W (bA + 1) 16 g 28) (by kernel_rfl) (⟨KA.drew, KB.drew⟩) (fun hHeld => ?_)
    refine wpAnyH_take (i := 0) (oi := { dst := some 27, op := _, type := _, pos := _, after := _, guard := _ }) (v := .agg (mk 16 f)) rfl (by kernel_rfl) (by kernel_rfl) (by kernel_rfl) (fun _ _ _ h => h) (Or.inl ⟨by rfl, fun _ q => execB q.1 rfl rfl⟩) (by assumption) ?_
    try simp only [Act.put, List.setIfInBounds_toArray, List.set_cons_zero, List.set_cons_succ]
    refine wpAnyH_take (i := 1) (oi := { dst := some 28, op := _, type := _, pos := _, after := _, guard := _ }) (v := .agg (mk 16 g)) rfl (by kernel_rfl) (by kernel_rfl) (by kernel_rfl) (fun _ _ _ h => h) (Or.inl ⟨by rfl, fun _ q => execB q.2 rfl rfl⟩) (by assumption) ?_
    try simp only [Act.put, List.setIfInBounds_toArray, List.set_cons_zero, List.set_cons_succ]
    have K2 := K2.drew
    have K3 := K3.drew
    have KA := KA.drew
    have KB := KB.drew
    have HT : RowKit.Below w.heap.size w x4.drew := below_three rfl (HT.out.draws 1)
    generalize x4.drew = y1 at *
    refine wpAnyH_ready (rs := [2]) (by kernel_rfl) (by simp) ?_
    refine AllReadyH.cons rfl (fun K hK => ?_) AllReadyH.nil
    have st1 := run_store_blk (P := Try.prog) (g := f) K2
    have ms1 : (mk 16 f).size = 16 := mk_size 16 _
    go_simp
    clear st1 ms1
    have K3 := K3.rowOther (w.heap.size) (mk 16 f) (by have := HN.out; omega)
    have KA := KA.rowOther (w.heap.size) (mk 16 f) (by have := HN.out; omega)
    have KB := KB.rowOther (w.heap.size) (mk 16 f) (by have := HN.out; omega)
    have K2 := K2.row 16 f
    have HT := below_setRow HT (show w.heap.size ≤ w.heap.size by omega) (mk 16 f)
    generalize y1.setRow (w.heap.size) (mk 16 f) = y2 at *
    refine hK.out _ _ ⟨KA, KB⟩ (fun hHeld => ?_)
    clear hK K
    try simp only [Act.put, List.setIfInBounds_toArray, List.set_cons_zero, List.set_cons_succ]
    refine wpAnyH_ready (rs := [3]) (by kernel_rfl) (by simp) ?_
    refine AllReadyH.cons rfl (fun K hK => ?_) AllReadyH.nil
    have st1 := run_store_blk (P := Try.prog) (g := g) K3
    have ms1 : (mk 16 g).size = 16 := mk_size 16 _
    go_simp
    clear st1 ms1
    have K2 := K2.rowOther (w.heap.size + 1) (mk 16 g) (by have := HN.out; omega)
    have KA := KA.rowOther (w.heap.size + 1) (mk 16 g) (by have := HN.out; omega)
    have KB := KB.rowOther (w.heap.size + 1) (mk 16 g) (by have := HN.out; omega)
    have K3 := K3.row 16 g
    have HT := below_setRow HT (show w.heap.size ≤ w.heap.size + 1 by omega) (mk 16 g)
    generalize y2.setRow (w.heap.size + 1) (mk 16 g) = y3 at *
    refine hK.out _ _ ⟨KA, KB⟩ (fun hHeld => ?_)
    clear hK K
    try simp only [Act.put, List.setIfInBounds_toArray, List.set_cons_zero, List.set_cons_succ]
    refine wpAnyH_done (by kernel_rfl) ?_ _
    clear hHeld KA KB
    go_wp2_with fail
    try simp only [Exit.inBlock, Exit.then]
    exact ret_cc Try.underlying28 rfl sizeB Try.underlying28 rfl sizeB rfl rfl rfl rfl K2 K3 ⟨f, g, rfl, HT⟩
  | false =>
    go_wp2_with fail
    refine wp_region_held_drew (S := fun W => Blk W bA 16 f 28 ∧ Blk W (bA + 1) 16 g 28) (by kernel_rfl) (⟨KA.drew, KB.drew⟩) (fun hHeld => ?_)
    refine wpAnyH_take (i := 0) (oi := { dst := some 27, op := _, type := _, pos := _, after := _, guard := _ }) (v := .agg (mk 16 f)) rfl (by kernel_rfl) (by kernel_rfl) (by kernel_rfl) (fun _ _ _ h => h) (Or.inl ⟨by rfl, fun _ q => execB q.1 rfl rfl⟩) (by assumption) ?_
    try simp only [Act.put, List.setIfInBounds_toArray, List.set_cons_zero, List.set_cons_succ]
    refine wpAnyH_take (i := 1) (oi := { dst := some 28, op := _, type := _, pos := _, after := _, guard := _ }) (v := .agg (mk 16 g)) rfl (by kernel_rfl) (by kernel_rfl) (by kernel_rfl) (fun _ _ _ h => h) (Or.inl ⟨by rfl, fun _ q => execB q.2 rfl rfl⟩) (by assumption) ?_
    try simp only [Act.put, List.setIfInBounds_toArray, List.set_cons_zero, List.set_cons_succ]
    have K2 := K2.drew
    have K3 := K3.drew
    have KA := KA.drew
    have KB := KB.drew
    have HT : RowKit.Below w.heap.size w w4.drew := below_three rfl (HT.out.draws 1)
    generalize w4.drew = y1 at *
    refine wpAnyH_ready (rs := [2]) (by kernel_rfl) (by simp) ?_
    refine AllReadyH.cons rfl (fun K hK => ?_) AllReadyH.nil
    have st1 := run_store_blk (P := Try.prog) (g := f) K2
    have ms1 : (mk 16 f).size = 16 := mk_size 16 _
    go_simp
    clear st1 ms1
    have K3 := K3.rowOther (w.heap.size) (mk 16 f) (by have := HN.out; omega)
    have KA := KA.rowOther (w.heap.size) (mk 16 f) (by have := HN.out; omega)
    have KB := KB.rowOther (w.heap.size) (mk 16 f) (by have := HN.out; omega)
    have K2 := K2.row 16 f
    have HT := below_setRow HT (show w.heap.size ≤ w.heap.size by omega) (mk 16 f)
    generalize y1.setRow (w.heap.size) (mk 16 f) = y2 at *
    refine hK.out _ _ ⟨KA, KB⟩ (fun hHeld => ?_)
    clear hK K
    try simp only [Act.put, List.setIfInBounds_toArray, List.set_cons_zero, List.set_cons_succ]
    refine wpAnyH_ready (rs := [3]) (by kernel_rfl) (by simp) ?_
    refine AllReadyH.cons rfl (fun K hK => ?_) AllReadyH.nil
    have st1 := run_store_blk (P := Try.prog) (g := g) K3
    have ms1 : (mk 16 g).size = 16 := mk_size 16 _
    go_simp
    clear st1 ms1
    have K2 := K2.rowOther (w.heap.size + 1) (mk 16 g) (by have := HN.out; omega)
    have KA := KA.rowOther (w.heap.size + 1) (mk 16 g) (by have := HN.out; omega)
    have KB := KB.rowOther (w.heap.size + 1) (mk 16 g) (by have := HN.out; omega)
    have K3 := K3.row 16 g
    have HT := below_setRow HT (show w.heap.size ≤ w.heap.size + 1 by omega) (mk 16 g)
    generalize y2.setRow (w.heap.size + 1) (mk 16 g) = y3 at *
    refine hK.out _ _ ⟨KA, KB⟩ (fun hHeld => ?_)
    clear hK K
    try simp only [Act.put, List.setIfInBounds_toArray, List.set_cons_zero, List.set_cons_succ]
    refine wpAnyH_done (by kernel_rfl) ?_ _
    clear hHeld KA KB
    go_wp2_with fail
    try simp only [Exit.inBlock, Exit.then]
    exact ret_cc Try.underlying28 rfl sizeB Try.underlying28 rfl sizeB rfl rfl rfl rfl K2 K3 ⟨f, g, rfl, HT⟩
set_option maxHeartbeats 4000000 in
set_option maxRecDepth 20000 in
theorem drawScore_any (a : Option Addr) (len cap : Nat) (w : World) (hl : len ≤ 65536) (hr : CodeRow w a len w.heap.size) :
    Calls Try.prog 36 #[.slice a len cap] w fun e w' => ∃ (f g : Nat → Int) (t : Int), e = .returned (.tuple #[.agg (mk 16 f), .agg (mk 16 g), .int .i64 t]) ∧ Below w.heap.size w w' := by
  have z16 := zero16
  have K2 := ((Blk.new w 16 (fun _ => 0) 28).alloc (.cells (mk 16 fun _ => 0) 28)).alloc (.cells #[.slice a len cap, .int .i64 0, .int .u64 0] 85)
  have K3 := (Blk.new (w.alloc (.cells (mk 16 fun _ => 0) 28)) 16 (fun _ => 0) 28).alloc (.cells #[.slice a len cap, .int .i64 0, .int .u64 0] 85)
  have h1 : (w.alloc (.cells (mk 16 fun _ => 0) 28)).heap.size = w.heap.size + 1 := by simp
  rw [h1] at K3
  have hr1 := hr.later (((Below.refl _ w).alloc (Nat.le_refl _) (.cells (mk 16 fun _ => 0) 28)).alloc (by simp) (.cells (mk 16 fun _ => 0) 28))
  have HC := Lib.hid (Cur.new ((w.alloc (.cells (mk 16 fun _ => 0) 28)).alloc (.cells (mk 16 fun _ => 0) 28)) a len cap hl hr1)
  have hs : ((w.alloc (.cells (mk 16 fun _ => 0) 28)).alloc (.cells (mk 16 fun _ => 0) 28)).heap.size = w.heap.size + 2 := by simp
  rw [hs] at HC
  have hr2 := hr1.later ((Below.refl _ _).alloc (Nat.le_refl _) (.cells #[.slice a len cap, .int .i64 0, .int .u64 0] 85))
  have HDM := Lib.hid (drawMoves_any a len cap _ hl hr2)
  clear hr hr1 hr2
  go_enter Try.func36, Try.ntmps36
  go_wp2_with fail
  refine HDM.out.mono ?_
  rintro e w3 ⟨f, g, rfl, hb⟩
  have K2 := K2.below hb K2.lt
  have K3 := K3.below hb K3.lt
  have HC := Lib.hid (HC.out.kept hb)
  have HT := Lib.hid (turned_low (B := w.heap.size + 2) hb)
  have hsz := HC.out.lt
  clear hb HDM
  have KA := (Blk.new w3 16 (fun _ => 0) 28).alloc (.cells (mk 16 fun _ => 0) 28)
  have KB := Blk.new (w3.alloc (.cells (mk 16 fun _ => 0) 28)) 16 (fun _ => 0) 28
  have hB1 : (w3.alloc (.cells (mk 16 fun _ => 0) 28)).heap.size = w3.heap.size + 1 := by simp
  rw [hB1] at KB
  have KB2 := KB.rowOther w3.heap.size (mk 16 f) (by omega)
  go_wp2_with (first | ((with_reducible show wpList _ _ _ (Oper.mk _ (Op.store 28 _ _) _ _ _ _ :: _) _ _); refine storeB (KA) rfl rfl rfl rfl ?_) | ((with_reducible show wpList _ _ _ (Oper.mk _ (Op.store 28 _ _) _ _ _ _ :: _) _ _); refine storeB (KB2) rfl rfl rfl rfl ?_))
  have HC := Lib.hid ((((HC.out.alloc (.cells (mk 16 fun _ => 0) 28)).alloc (.cells (mk 16 fun _ => 0) 28)).rowNew (c := w3.heap.size) (by omega) (mk 16 f)).rowNew (c := w3.heap.size + 1) (by omega) (mk 16 g))
  have HT := Lib.hid ((((HT.out.alloc (.cells (mk 16 fun _ => 0) 28)).alloc (.cells (mk 16 fun _ => 0) 28)).rowNew (b := w3.heap.size) (by simp; omega) (mk 16 f)).rowNew (b := w3.heap.size + 1) (by simp; omega) (mk 16 g))
  have K2 := (((K2.alloc (.cells (mk 16 fun _ => 0) 28)).alloc (.cells (mk 16 fun _ => 0) 28)).rowOther w3.heap.size (mk 16 f) (by omega)).rowOther (w3.heap.size + 1) (mk 16 g) (by omega)
  have K3 := (((K3.alloc (.cells (mk 16 fun _ => 0) 28)).alloc (.cells (mk 16 fun _ => 0) 28)).rowOther w3.heap.size (mk 16 f) (by omega)).rowOther (w3.heap.size + 1) (mk 16 g) (by omega)
  have KA := (KA.row 16 f).rowOther (w3.heap.size + 1) (mk 16 g) (by omega)
  have KB := KB2.row 16 g
  clear KB2 hB1
  have HN : Hid (w.heap.size + 2 < w3.heap.size ∧ w3.heap.size + 1 < ((((w3.alloc (.cells (mk 16 fun _ => 0) 28)).alloc (.cells (mk 16 fun _ => 0) 28)).setRow w3.heap.size (mk 16 f)).setRow (w3.heap.size + 1) (mk 16 g)).heap.size) := ⟨by omega, KB.lt⟩
  clear hsz
  generalize (((w3.alloc (.cells (mk 16 fun _ => 0) 28)).alloc (.cells (mk 16 fun _ => 0) 28)).setRow w3.heap.size (mk 16 f)).setRow (w3.heap.size + 1) (mk 16 g) = WW at *
  generalize w3.heap.size = bA at *
  obtain ⟨M, hM⟩ : ∃ M, M = 20000 := ⟨_, rfl⟩
  have HC : Hid (Cur WW (w.heap.size + 2) M) := HC.out.more (by omega)
  refine wp_region_held_drew (S := fun W => Blk W bA 16 f 28 ∧ Blk W (bA + 1) 16 g 28) (by kernel_rfl) (⟨KA.drew, KB.drew⟩) (fun hHeld => ?_)
  have K2 := K2.drew
  have K3 := K3.drew
  have KA := KA.drew
  have KB := KB.drew
  have HC : Hid (Cur WW.drew (w.heap.size + 2) M) := HC.out.drew
  have HT := Lib.hid (HT.out.draws 1)
  have hdr : WW.drewN 1 = WW.drew := rfl
  rw [hdr] at HT
  clear hdr
  have HN : Hid (w.heap.size + 2 < bA ∧ bA + 1 < WW.drew.heap.size) := HN.out
  generalize WW.drew = x0 at *
  refine wpAnyH_take (i := 0) (oi := { dst := some 16, op := _, type := _, pos := _, after := _, guard := _ }) (v := .agg (mk 16 f)) rfl (by kernel_rfl) (by kernel_rfl) (by kernel_rfl) (fun _ _ _ h => h) (Or.inl ⟨by rfl, fun _ q => execB q.1 rfl rfl⟩) (by assumption) ?_
  try simp only [Act.put, List.setIfInBounds_toArray, List.set_cons_zero, List.set_cons_succ]
  refine wpAnyH_take (i := 1) (oi := { dst := some 17, op := _, type := _, pos := _, after := _, guard := _ }) (v := .agg (mk 16 g)) rfl (by kernel_rfl) (by kernel_rfl) (by kernel_rfl) (fun _ _ _ h => h) (Or.inl ⟨by rfl, fun _ q => execB q.2 rfl rfl⟩) (by assumption) ?_
  try simp only [Act.put, List.setIfInBounds_toArray, List.set_cons_zero, List.set_cons_succ]
  refine wpAnyH_take (i := 2) (oi := { dst := some 18, op := _, type := _, pos := _, after := _, guard := _ }) (v := .pointer (some ⟨w.heap.size + 2, 0, none⟩)) rfl (by kernel_rfl) (by kernel_rfl) (by kernel_rfl) (fun _ _ _ h => h) (Or.inl ⟨by rfl, by intro w hSw; clear hSw; go_simp; (try with_reducible rfl)⟩) (by assumption) ?_
  try simp only [Act.put, List.setIfInBounds_toArray, List.set_cons_zero, List.set_cons_succ]
  refine wpAnyH_take (i := 4) (oi := { dst := some 20, op := _, type := _, pos := _, after := _, guard := _ }) (v := .pointer (some ⟨w.heap.size + 2, 0, none⟩)) rfl (by kernel_rfl) (by kernel_rfl) (by kernel_rfl) (fun _ _ _ h => h) (Or.inl ⟨by rfl, by intro w hSw; clear hSw; go_simp; (try with_reducible rfl)⟩) (by assumption) ?_
  try simp only [Act.put, List.setIfInBounds_toArray, List.set_cons_zero, List.set_cons_succ]
  refine wpAnyH_ready (rs := [3, 5]) (by kernel_rfl) (by simp) ?_
  refine AllReadyH.cons rfl (fun K hK => ?_) ?_
  · go_simp
    have HP : Hid (∀ j, j < 6 → ∃ v, (x0.alloc (.cells #[.int .i64 0, .int .i64 1, .int .i64 2, .int .i64 0, .int .i64 (-1), .int .i64 1099511627776] 3)).cell? ⟨x0.heap.size, j, none⟩ = some v ∧ ∃ t, v = .int .i64 t ∧ True) := fun j hj => by
      refine alloc_all x0 _ _ (fun v => ∃ t, v = .int .i64 t ∧ True) ?_ j hj
      intro v hv
      simp at hv
      rcases hv with rfl | rfl | rfl | rfl | rfl | rfl <;> exact ⟨_, rfl, trivial⟩
    have K2 := K2.alloc (.cells #[.int .i64 0, .int .i64 1, .int .i64 2, .int .i64 0, .int .i64 (-1), .int .i64 1099511627776] 3)
    have K3 := K3.alloc (.cells #[.int .i64 0, .int .i64 1, .int .i64 2, .int .i64 0, .int .i64 (-1), .int .i64 1099511627776] 3)
    have KA := KA.alloc (.cells #[.int .i64 0, .int .i64 1, .int .i64 2, .int .i64 0, .int .i64 (-1), .int .i64 1099511627776] 3)
    have KB := KB.alloc (.cells #[.int .i64 0, .int .i64 1, .int .i64 2, .int .i64 0, .int .i64 (-1), .int .i64 1099511627776] 3)
    have HC := Lib.hid (HC.out.alloc (.cells #[.int .i64 0, .int .i64 1, .int .i64 2, .int .i64 0, .int .i64 (-1), .int .i64 1099511627776] 3))
    have HT := Lib.hid (HT.out.alloc (.cells #[.int .i64 0, .int .i64 1, .int .i64 2, .int .i64 0, .int .i64 (-1), .int .i64 1099511627776] 3))
    have HG : Hid (w.heap.size + 2 < x0.heap.size) := by have := HN.out; show _ < _; omega
    have HN : Hid (w.heap.size + 2 < bA ∧ bA + 1 < (x0.alloc (.cells #[.int .i64 0, .int .i64 1, .int .i64 2, .int .i64 0, .int .i64 (-1), .int .i64 1099511627776] 3)).heap.size) := ⟨HN.out.1, KB.lt⟩
    generalize x0.alloc (.cells #[.int .i64 0, .int .i64 1, .int .i64 2, .int .i64 0, .int .i64 (-1), .int .i64 1099511627776] 3) = x1 at *
    generalize x0.heap.size = bg at *
    clear hHeld
    refine hK.out _ _ ⟨KA, KB⟩ (fun hHeld => ?_)
    clear hK K
    try simp only [Act.put, List.setIfInBounds_toArray, List.set_cons_zero, List.set_cons_succ]
    refine wpAnyH_ready (rs := [5]) (by kernel_rfl) (by simp) ?_
    refine AllReadyH.cons rfl (fun K hK => ?_) AllReadyH.nil
    go_simp
    refine (pick_any _ (w.heap.size + 2) M 24 HC.out (by omega) (by omega) (by omega)).mono ?_
    rintro e x2 ⟨k, hk, rfl, hc2, ht2⟩
    have HP : Hid (∀ j, j < 6 → ∃ v, x2.cell? ⟨bg, j, none⟩ = some v ∧ ∃ t, v = .int .i64 t ∧ True) := fun j hj => by
      obtain ⟨v, h1, h2⟩ := HP.out j hj
      exact ⟨v, ht2.cell h1 (by have := HG.out; dsimp only; omega), h2⟩
    have K2 := K2.turned ht2 (by have := HN.out; omega)
    have K3 := K3.turned ht2 (by have := HN.out; omega)
    have KA := KA.turned ht2 (by have := HN.out; omega)
    have KB := KB.turned ht2 (by have := HN.out; omega)
    have HC := Lib.hid hc2
    have HT := Lib.hid (HT.out.trans ht2)
    have HN : Hid (w.heap.size + 2 < bA ∧ bA + 1 < x2.heap.size) := ⟨HN.out.1, KB.lt⟩
    clear hc2 ht2
    have hq : (k : Int).tdiv 11 = (k : Int) / 11 := Int.tdiv_eq_ediv_of_nonneg (by omega)
    obtain ⟨q, hqq, hq3⟩ : ∃ q : Nat, (k : Int) / 11 = (q : Int) ∧ (q = 0 ∨ q = 1 ∨ q = 2) := ⟨k / 11, by omega, by omega⟩
    rw [hqq] at hq
    clear hqq hk
    obtain ⟨M2, hM2, hM3⟩ : ∃ M2, M + 2 = M2 ∧ M2 ≤ 30000 := ⟨_, rfl, by omega⟩
    replace HC := Lib.hid (HC.out.more (show _ ≤ M2 by omega))
    have hqw : IntKind.i64.wrap (q : Int) = (q : Int) := IntWalk.i64_in _ (by omega)
    have hqw2 : IntKind.i64.wrap (4 + (q : Int)) = 4 + (q : Int) := IntWalk.i64_in _ (by omega)
    clear hHeld
    go_wp2_with fail
    refine hK.out _ _ ⟨KA, KB⟩ (fun hHeld => ?_)
    clear hK K
    try simp only [Act.put, List.setIfInBounds_toArray, List.set_cons_zero, List.set_cons_succ]
    refine wpAnyH_take (i := 6) (oi := { dst := some 22, op := _, type := _, pos := _, after := _, guard := _ }) (v := .int .i64 (q : Int)) rfl (by kernel_rfl) (by kernel_rfl) (by kernel_rfl) (fun _ _ _ h => h) (Or.inl ⟨by rfl, by intro w hSw; clear hSw; go_simp; (try with_reducible rfl)⟩) (by assumption) ?_
    try simp only [Act.put, List.setIfInBounds_toArray, List.set_cons_zero, List.set_cons_succ]
    refine wpAnyH_take (i := 7) (oi := { dst := some 23, op := _, type := _, pos := _, after := _, guard := _ }) (v := .int .i64 (4 + (q : Int))) rfl (by kernel_rfl) (by kernel_rfl) (by kernel_rfl) (fun _ _ _ h => h) (Or.inl ⟨by rfl, by intro w hSw; clear hSw; go_simp; (try with_reducible rfl)⟩) (by assumption) ?_
    try simp only [Act.put, List.setIfInBounds_toArray, List.set_cons_zero, List.set_cons_succ]
    refine wpAnyH_take (i := 8) (oi := { dst := some 24, op := _, type := _, pos := _, after := _, guard := _ }) (v := .slice (some ⟨bg, 0, none⟩) (4 + q) 6) rfl (by kernel_rfl) (by kernel_rfl) (by kernel_rfl) (fun _ _ _ h => h) (Or.inl ⟨by rfl, by intro W hSw; clear hSw hq hqw hqw2; rcases hq3 with rfl | rfl | rfl <;> (go_simp; (try rfl))⟩) (by assumption) ?_
    try simp only [Act.put, List.setIfInBounds_toArray, List.set_cons_zero, List.set_cons_succ]
    clear hq hqw hqw2
    refine wpAnyH_ready (rs := [9]) (by kernel_rfl) (by simp) ?_
    refine AllReadyH.cons rfl (fun K hK => ?_) AllReadyH.nil
    go_simp
    refine (among_any _ (w.heap.size + 2) M2 bg (4 + q) 6 (fun _ => True) HC.out (by omega) (by omega) (by omega) (by have := HG.out; omega) (fun j hj => HP.out j (by omega))).mono ?_
    rintro e x3 ⟨t, _, rfl, hc2, ht2⟩
    have K2 := K2.turned ht2 (by have := HN.out; omega)
    have K3 := K3.turned ht2 (by have := HN.out; omega)
    have KA := KA.turned ht2 (by have := HN.out; omega)
    have KB := KB.turned ht2 (by have := HN.out; omega)
    have HC := Lib.hid hc2
    have HT := Lib.hid (HT.out.trans ht2)
    have HN : Hid (w.heap.size + 2 < bA ∧ bA + 1 < x3.heap.size) := ⟨HN.out.1, KB.lt⟩
    clear hc2 ht2
    clear HP
    clear hHeld
    go_wp2_with fail
    refine hK.out _ _ ⟨KA, KB⟩ (fun hHeld => ?_)
    clear hK K
    try simp only [Act.put, List.setIfInBounds_toArray, List.set_cons_zero, List.set_cons_succ]
    have HT : RowKit.Below w.heap.size w x3 := below_three rfl HT.out
    refine wpAnyH_ready (rs := [10]) (by kernel_rfl) (by simp) ?_
    refine AllReadyH.cons rfl (fun K hK => ?_) AllReadyH.nil
    have st1 := run_store_blk (P := Try.prog) (g := f) K2
    have ms1 : (mk 16 f).size = 16 := mk_size 16 _
    go_simp
    clear st1 ms1
    have K3 := K3.rowOther (w.heap.size) (mk 16 f) (by have := HN.out; omega)
    have KA := KA.rowOther (w.heap.size) (mk 16 f) (by have := HN.out; omega)
    have KB := KB.rowOther (w.heap.size) (mk 16 f) (by have := HN.out; omega)
    have K2 := K2.row 16 f
    have HT := below_setRow HT (show w.heap.size ≤ w.heap.size by omega) (mk 16 f)
    generalize x3.setRow (w.heap.size) (mk 16 f) = y2 at *
    refine hK.out _ _ ⟨KA, KB⟩ (fun hHeld => ?_)
    clear hK K
    try simp only [Act.put, List.setIfInBounds_toArray, List.set_cons_zero, List.set_cons_succ]
    refine wpAnyH_ready (rs := [11]) (by kernel_rfl) (by simp) ?_
    refine AllReadyH.cons rfl (fun K hK => ?_) AllReadyH.nil
    have st1 := run_store_blk (P := Try.prog) (g := g) K3
    have ms1 : (mk 16 g).size = 16 := mk_size 16 _
    go_simp
    clear st1 ms1
    have K2 := K2.rowOther (w.heap.size + 1) (mk 16 g) (by have := HN.out; omega)
    have KA := KA.rowOther (w.heap.size + 1) (mk 16 g) (by have := HN.out; omega)
    have KB := KB.rowOther (w.heap.size + 1) (mk 16 g) (by have := HN.out; omega)
    have K3 := K3.row 16 g
    have HT := below_setRow HT (show w.heap.size ≤ w.heap.size + 1 by omega) (mk 16 g)
    generalize y2.setRow (w.heap.size + 1) (mk 16 g) = y3 at *
    refine hK.out _ _ ⟨KA, KB⟩ (fun hHeld => ?_)
    clear hK K
    try simp only [Act.put, List.setIfInBounds_toArray, List.set_cons_zero, List.set_cons_succ]
    refine wpAnyH_take (i := 12) (oi := { dst := some 4, op := _, type := _, pos := _, after := _, guard := _ }) (v := .int .i64 t) rfl (by kernel_rfl) (by kernel_rfl) (by kernel_rfl) (fun _ _ _ h => h) (Or.inl ⟨by rfl, by intro w hSw; clear hSw; go_simp; (try with_reducible rfl)⟩) (by assumption) ?_
    try simp only [Act.put, List.setIfInBounds_toArray, List.set_cons_zero, List.set_cons_succ]
    refine wpAnyH_done (by kernel_rfl) ?_ _
    clear hHeld KA KB
    go_wp2_with fail
    try simp only [Exit.inBlock, Exit.then]
    exact ret_cct Try.underlying28 rfl sizeB Try.underlying28 rfl sizeB rfl rfl rfl rfl K2 K3 ⟨f, g, t, rfl, HT⟩
  refine AllReadyH.cons rfl (fun K hK => ?_) AllReadyH.nil
  go_simp
  refine (pick_any _ (w.heap.size + 2) M 24 HC.out (by omega) (by omega) (by omega)).mono ?_
  rintro e x1 ⟨k, hk, rfl, hc2, ht2⟩
  have K2 := K2.turned ht2 (by have := HN.out; omega)
  have K3 := K3.turned ht2 (by have := HN.out; omega)
  have KA := KA.turned ht2 (by have := HN.out; omega)
  have KB := KB.turned ht2 (by have := HN.out; omega)
  have HC := Lib.hid hc2
  have HT := Lib.hid (HT.out.trans ht2)
  have HN : Hid (w.heap.size + 2 < bA ∧ bA + 1 < x1.heap.size) := ⟨HN.out.1, KB.lt⟩
  clear hc2 ht2
  have hq : (k : Int).tdiv 11 = (k : Int) / 11 := Int.tdiv_eq_ediv_of_nonneg (by omega)
  obtain ⟨q, hqq, hq3⟩ : ∃ q : Nat, (k : Int) / 11 = (q : Int) ∧ (q = 0 ∨ q = 1 ∨ q = 2) := ⟨k / 11, by omega, by omega⟩
  rw [hqq] at hq
  clear hqq hk
  obtain ⟨M2, hM2, hM3⟩ : ∃ M2, M + 2 = M2 ∧ M2 ≤ 30000 := ⟨_, rfl, by omega⟩
  replace HC := Lib.hid (HC.out.more (show _ ≤ M2 by omega))
  have hqw : IntKind.i64.wrap (q : Int) = (q : Int) := IntWalk.i64_in _ (by omega)
  have hqw2 : IntKind.i64.wrap (4 + (q : Int)) = 4 + (q : Int) := IntWalk.i64_in _ (by omega)
  clear hHeld
  go_wp2_with fail
  refine hK.out _ _ ⟨KA, KB⟩ (fun hHeld => ?_)
  clear hK K
  try simp only [Act.put, List.setIfInBounds_toArray, List.set_cons_zero, List.set_cons_succ]
  refine wpAnyH_take (i := 6) (oi := { dst := some 22, op := _, type := _, pos := _, after := _, guard := _ }) (v := .int .i64 (q : Int)) rfl (by kernel_rfl) (by kernel_rfl) (by kernel_rfl) (fun _ _ _ h => h) (Or.inl ⟨by rfl, by intro w hSw; clear hSw; go_simp; (try with_reducible rfl)⟩) (by assumption) ?_
  try simp only [Act.put, List.setIfInBounds_toArray, List.set_cons_zero, List.set_cons_succ]
  refine wpAnyH_take (i := 7) (oi := { dst := some 23, op := _, type := _, pos := _, after := _, guard := _ }) (v := .int .i64 (4 + (q : Int))) rfl (by kernel_rfl) (by kernel_rfl) (by kernel_rfl) (fun _ _ _ h => h) (Or.inl ⟨by rfl, by intro w hSw; clear hSw; go_simp; (try with_reducible rfl)⟩) (by assumption) ?_
  try simp only [Act.put, List.setIfInBounds_toArray, List.set_cons_zero, List.set_cons_succ]
  refine wpAnyH_ready (rs := [3]) (by kernel_rfl) (by simp) ?_
  refine AllReadyH.cons rfl (fun K hK => ?_) AllReadyH.nil
  go_simp
  have HP : Hid (∀ j, j < 6 → ∃ v, (x1.alloc (.cells #[.int .i64 0, .int .i64 1, .int .i64 2, .int .i64 0, .int .i64 (-1), .int .i64 1099511627776] 3)).cell? ⟨x1.heap.size, j, none⟩ = some v ∧ ∃ t, v = .int .i64 t ∧ True) := fun j hj => by
    refine alloc_all x1 _ _ (fun v => ∃ t, v = .int .i64 t ∧ True) ?_ j hj
    intro v hv
    simp at hv
    rcases hv with rfl | rfl | rfl | rfl | rfl | rfl <;> exact ⟨_, rfl, trivial⟩
  have K2 := K2.alloc (.cells #[.int .i64 0, .int .i64 1, .int .i64 2, .int .i64 0, .int .i64 (-1), .int .i64 1099511627776] 3)
  have K3 := K3.alloc (.cells #[.int .i64 0, .int .i64 1, .int .i64 2, .int .i64 0, .int .i64 (-1), .int .i64 1099511627776] 3)
  have KA := KA.alloc (.cells #[.int .i64 0, .int .i64 1, .int .i64 2, .int .i64 0, .int .i64 (-1), .int .i64 1099511627776] 3)
  have KB := KB.alloc (.cells #[.int .i64 0, .int .i64 1, .int .i64 2, .int .i64 0, .int .i64 (-1), .int .i64 1099511627776] 3)
  have HC := Lib.hid (HC.out.alloc (.cells #[.int .i64 0, .int .i64 1, .int .i64 2, .int .i64 0, .int .i64 (-1), .int .i64 1099511627776] 3))
  have HT := Lib.hid (HT.out.alloc (.cells #[.int .i64 0, .int .i64 1, .int .i64 2, .int .i64 0, .int .i64 (-1), .int .i64 1099511627776] 3))
  have HG : Hid (w.heap.size + 2 < x1.heap.size) := by have := HN.out; show _ < _; omega
  have HN : Hid (w.heap.size + 2 < bA ∧ bA + 1 < (x1.alloc (.cells #[.int .i64 0, .int .i64 1, .int .i64 2, .int .i64 0, .int .i64 (-1), .int .i64 1099511627776] 3)).heap.size) := ⟨HN.out.1, KB.lt⟩
  generalize x1.alloc (.cells #[.int .i64 0, .int .i64 1, .int .i64 2, .int .i64 0, .int .i64 (-1), .int .i64 1099511627776] 3) = x2 at *
  generalize x1.heap.size = bg at *
  clear hHeld
  refine hK.out _ _ ⟨KA, KB⟩ (fun hHeld => ?_)
  clear hK K
  try simp only [Act.put, List.setIfInBounds_toArray, List.set_cons_zero, List.set_cons_succ]
  refine wpAnyH_take (i := 8) (oi := { dst := some 24, op := _, type := _, pos := _, after := _, guard := _ }) (v := .slice (some ⟨bg, 0, none⟩) (4 + q) 6) rfl (by kernel_rfl) (by kernel_rfl) (by kernel_rfl) (fun _ _ _ h => h) (Or.inl ⟨by rfl, by intro W hSw; clear hSw hq hqw hqw2; rcases hq3 with rfl | rfl | rfl <;> (go_simp; (try rfl))⟩) (by assumption) ?_
  try simp only [Act.put, List.setIfInBounds_toArray, List.set_cons_zero, List.set_cons_succ]
  clear hq hqw hqw2
  refine wpAnyH_ready (rs := [9]) (by kernel_rfl) (by simp) ?_
  refine AllReadyH.cons rfl (fun K hK => ?_) AllReadyH.nil
  go_simp
  refine (among_any _ (w.heap.size + 2) M2 bg (4 + q) 6 (fun _ => True) HC.out (by omega) (by omega) (by omega) (by have := HG.out; omega) (fun j hj => HP.out j (by omega))).mono ?_
  rintro e x3 ⟨t, _, rfl, hc2, ht2⟩
  have K2 := K2.turned ht2 (by have := HN.out; omega)
  have K3 := K3.turned ht2 (by have := HN.out; omega)
  have KA := KA.turned ht2 (by have := HN.out; omega)
  have KB := KB.turned ht2 (by have := HN.out; omega)
  have HC := Lib.hid hc2
  have HT := Lib.hid (HT.out.trans ht2)
  have HN : Hid (w.heap.size + 2 < bA ∧ bA + 1 < x3.heap.size) := ⟨HN.out.1, KB.lt⟩
  clear hc2 ht2
  clear HP
  clear hHeld
  go_wp2_with fail
  refine hK.out _ _ ⟨KA, KB⟩ (fun hHeld => ?_)
  clear hK K
  try simp only [Act.put, List.setIfInBounds_toArray, List.set_cons_zero, List.set_cons_succ]
  have HT : RowKit.Below w.heap.size w x3 := below_three rfl HT.out
  refine wpAnyH_ready (rs := [10]) (by kernel_rfl) (by simp) ?_
  refine AllReadyH.cons rfl (fun K hK => ?_) AllReadyH.nil
  have st1 := run_store_blk (P := Try.prog) (g := f) K2
  have ms1 : (mk 16 f).size = 16 := mk_size 16 _
  go_simp
  clear st1 ms1
  have K3 := K3.rowOther (w.heap.size) (mk 16 f) (by have := HN.out; omega)
  have KA := KA.rowOther (w.heap.size) (mk 16 f) (by have := HN.out; omega)
  have KB := KB.rowOther (w.heap.size) (mk 16 f) (by have := HN.out; omega)
  have K2 := K2.row 16 f
  have HT := below_setRow HT (show w.heap.size ≤ w.heap.size by omega) (mk 16 f)
  generalize x3.setRow (w.heap.size) (mk 16 f) = y2 at *
  refine hK.out _ _ ⟨KA, KB⟩ (fun hHeld => ?_)
  clear hK K
  try simp only [Act.put, List.setIfInBounds_toArray, List.set_cons_zero, List.set_cons_succ]
  refine wpAnyH_ready (rs := [11]) (by kernel_rfl) (by simp) ?_
  refine AllReadyH.cons rfl (fun K hK => ?_) AllReadyH.nil
  have st1 := run_store_blk (P := Try.prog) (g := g) K3
  have ms1 : (mk 16 g).size = 16 := mk_size 16 _
  go_simp
  clear st1 ms1
  have K2 := K2.rowOther (w.heap.size + 1) (mk 16 g) (by have := HN.out; omega)
  have KA := KA.rowOther (w.heap.size + 1) (mk 16 g) (by have := HN.out; omega)
  have KB := KB.rowOther (w.heap.size + 1) (mk 16 g) (by have := HN.out; omega)
  have K3 := K3.row 16 g
  have HT := below_setRow HT (show w.heap.size ≤ w.heap.size + 1 by omega) (mk 16 g)
  generalize y2.setRow (w.heap.size + 1) (mk 16 g) = y3 at *
  refine hK.out _ _ ⟨KA, KB⟩ (fun hHeld => ?_)
  clear hK K
  try simp only [Act.put, List.setIfInBounds_toArray, List.set_cons_zero, List.set_cons_succ]
  refine wpAnyH_take (i := 12) (oi := { dst := some 4, op := _, type := _, pos := _, after := _, guard := _ }) (v := .int .i64 t) rfl (by kernel_rfl) (by kernel_rfl) (by kernel_rfl) (fun _ _ _ h => h) (Or.inl ⟨by rfl, by intro w hSw; clear hSw; go_simp; (try with_reducible rfl)⟩) (by assumption) ?_
  try simp only [Act.put, List.setIfInBounds_toArray, List.set_cons_zero, List.set_cons_succ]
  refine wpAnyH_done (by kernel_rfl) ?_ _
  clear hHeld KA KB
  go_wp2_with fail
  try simp only [Exit.inBlock, Exit.then]
  exact ret_cct Try.underlying28 rfl sizeB Try.underlying28 rfl sizeB rfl rfl rfl rfl K2 K3 ⟨f, g, t, rfl, HT⟩
set_option maxHeartbeats 4000000 in
set_option maxRecDepth 20000 in
theorem drawPkd_any (a : Option Addr) (len cap : Nat) (w : World) (hl : len ≤ 65536) (hr : CodeRow w a len w.heap.size) :
    Calls Try.prog 38 #[.slice a len cap] w fun e w' => ∃ f : Nat → Int, e = .returned (.agg (mk 16 f)) ∧ Below w.heap.size w w' := by
  have z16 := zero16
  have K2 := (Blk.new w 16 (fun _ => 0) 28).alloc (.cells #[.slice a len cap, .int .i64 0, .int .u64 0] 85)
  have hr1 := hr.later ((Below.refl _ w).alloc (Nat.le_refl _) (.cells (mk 16 fun _ => 0) 28))
  have HC := Lib.hid (Cur.new (w.alloc (.cells (mk 16 fun _ => 0) 28)) a len cap hl hr1)
  have hs : (w.alloc (.cells (mk 16 fun _ => 0) 28)).heap.size = w.heap.size + 1 := by simp
  rw [hs] at HC
  clear hr hr1
  go_enter Try.func38, Try.ntmps38
  go_wp2_with fail
  refine (board_any _ (w.heap.size + 1) 0 HC.out (by omega)).mono ?_
  rintro e w2 ⟨f, rfl, hc2, ht2⟩
  have K2 := K2.turned ht2 (by omega)
  have HC := Lib.hid hc2
  have HT := Lib.hid ht2
  have hsz := HC.out.lt
  clear hc2 ht2
  have K4 := Blk.new w2 16 (fun _ => 0) 28
  go_wp2_with ((with_reducible show wpList _ _ _ (Oper.mk _ (Op.store 28 _ _) _ _ _ _ :: _) _ _); refine storeB (K4) rfl rfl rfl rfl ?_)
  have HC := Lib.hid ((HC.out.alloc (.cells (mk 16 fun _ => 0) 28)).rowNew (c := w2.heap.size) (by omega) (mk 16 f))
  have HT := Lib.hid ((HT.out.alloc (.cells (mk 16 fun _ => 0) 28)).rowNew (b := w2.heap.size) (by simp; omega) (mk 16 f))
  have K2 := (K2.alloc (.cells (mk 16 fun _ => 0) 28)).rowOther w2.heap.size (mk 16 f) (by omega)
  have K4 := K4.row 16 f
  have HN : Hid (w.heap.size + 1 < w2.heap.size) := hsz
  clear hsz
  generalize (w2.alloc (.cells (mk 16 fun _ => 0) 28)).setRow w2.heap.size (mk 16 f) = w3 at *
  generalize w2.heap.size = b4 at *
  refine (one_any _ (w.heap.size + 1) _ 2 HC.out (by omega) (by omega) (by omega)).mono ?_
  rintro e w4 ⟨b, rfl, hc2, ht2⟩
  have K2 := K2.turned ht2 (by omega)
  have K4 := K4.turned ht2 (by have := HN.out; omega)
  have HC := Lib.hid hc2
  have HT := Lib.hid (HT.out.trans ht2)
  clear hc2 ht2
  cases b with
  | true =>
    go_wp2_with fail
    refine (sum7_any _ (w.heap.size + 1) _ HC.out (by omega)).mono ?_
    rintro e w5 ⟨s, rfl, hc2, ht2⟩
    have K2 := K2.turned ht2 (by omega)
    have K4 := K4.turned ht2 (by have := HN.out; omega)
    have HT := Lib.hid (HT.out.trans ht2)
    clear hc2 ht2 HC
    go_wp2_with fail
    refine (specPacked_any s _).mono ?_
    rintro e w6 ⟨rfl, hb⟩
    have K2 := K2.below hb K2.lt
    have K4 := K4.below hb K4.lt
    have HT := Lib.hid (HT.out.trans (turned_low hb))
    clear hb
    generalize pkR s = g at *
    generalize lsO s = o at *
    have K4f := K4.row 16 g
    have K2f := K2.rowOther b4 (mk 16 g) (by have := HN.out; omega)
    have HT := Lib.hid (HT.out.rowNew (b := b4) (by have := HN.out; simp; omega) (mk 16 g))
    go_wp2_with (first | ((with_reducible show wpList _ _ _ (Oper.mk _ (Op.store 28 _ _) _ _ _ _ :: _) _ _); refine storeB (K4) rfl rfl rfl rfl ?_) | ((with_reducible show wpList _ _ _ (Oper.mk _ (Op.load 28 _) _ _ _ _ :: _) _ _); refine loadB (K4f) rfl rfl rfl ?_) | ((with_reducible show wpList _ _ _ (Oper.mk _ (Op.store 28 _ _) _ _ _ _ :: _) _ _); refine storeB (K2f) rfl rfl rfl rfl ?_))
    refine retcB (p := 2) (t := 28) (b := w.heap.size) (f := g) ?_ ?_ ?_ ?_ ?_
    · exact K2f.row 16 g
    · rfl
    · rfl
    · rfl
    · exact ⟨g, rfl, below_setRow (below_two rfl HT.out) (Nat.le_refl _) (mk 16 g)⟩
  | false =>
    go_wp2_with (first | ((with_reducible show wpList _ _ _ (Oper.mk _ (Op.load 28 _) _ _ _ _ :: _) _ _); refine loadB (K4) rfl rfl rfl ?_) | ((with_reducible show wpList _ _ _ (Oper.mk _ (Op.store 28 _ _) _ _ _ _ :: _) _ _); refine storeB (K2) rfl rfl rfl rfl ?_))
    refine retcB (p := 2) (t := 28) (b := w.heap.size) (f := f) ?_ ?_ ?_ ?_ ?_
    · exact K2.row 16 f
    · rfl
    · rfl
    · rfl
    · exact ⟨f, rfl, below_setRow (below_two rfl HT.out) (Nat.le_refl _) (mk 16 f)⟩
end Go.Proofs.Ytmcmpedmgibmkaa
