/-
  The contract of the reference's draw of two boards.
-/
import Derived.Test.YtpiegllffkjneaaDrawPut
import Derived.Deep.RegionHeld3
namespace Go.Proofs.Ytpiegllffkjneaa
open Go.RowKit Plain
attribute [local go_sem] Oper.semAt_some
set_option linter.unusedSimpArgs false

set_option maxHeartbeats 1000000 in
set_option maxRecDepth 20000 in
theorem drawLessBoard_any (a : Option Addr) (len cap : Nat) (w : World) (hl : len ≤ 65536) (hr : CodeRow w a len w.heap.size) :
    Calls Try.prog 49 #[.slice a len cap] w fun e w' => ∃ f g : Nat → Int, e = .returned (.tuple #[.agg (mk 16 f), .agg (mk 16 g)]) ∧ Below w.heap.size w w' := by
  have z16 := zero16
  have K2 := ((Blk.new w 16 (fun _ => 0) 27).alloc (.cells (mk 16 fun _ => 0) 27)).alloc (.cells #[.slice a len cap, .int .i64 0, .int .u64 0] 97)
  have K3 := (Blk.new (w.alloc (.cells (mk 16 fun _ => 0) 27)) 16 (fun _ => 0) 27).alloc (.cells #[.slice a len cap, .int .i64 0, .int .u64 0] 97)
  have h1 : (w.alloc (.cells (mk 16 fun _ => 0) 27)).heap.size = w.heap.size + 1 := by simp
  rw [h1] at K3
  have hr1 := hr.later (((Below.refl _ w).alloc (Nat.le_refl _) (.cells (mk 16 fun _ => 0) 27)).alloc (by simp) (.cells (mk 16 fun _ => 0) 27))
  have HC := Lib.hid (Cur.new ((w.alloc (.cells (mk 16 fun _ => 0) 27)).alloc (.cells (mk 16 fun _ => 0) 27)) a len cap hl hr1)
  have hs : ((w.alloc (.cells (mk 16 fun _ => 0) 27)).alloc (.cells (mk 16 fun _ => 0) 27)).heap.size = w.heap.size + 2 := by simp
  rw [hs] at HC
  clear hr hr1
  go_enter Try.func49, Try.ntmps49
  go_wp2_with fail
  refine (board_any _ (w.heap.size + 2) 0 HC.out (by omega)).mono ?_
  rintro e w2 ⟨f, rfl, hc2, ht2⟩
  have K2 := K2.turned ht2 (by omega)
  have K3 := K3.turned ht2 (by omega)
  have HC := Lib.hid hc2
  have HT := Lib.hid ht2
  have hsz := ht2.size
  simp at hsz
  clear hc2 ht2
  have KA := Blk.new w2 16 (fun _ => 0) 27
  have KB := Blk.new ((w2.alloc (.cells (mk 16 fun _ => 0) 27)).setRow w2.heap.size (mk 16 f)) 16 (fun _ => 0) 27
  have hB1 : ((w2.alloc (.cells (mk 16 fun _ => 0) 27)).setRow w2.heap.size (mk 16 f)).heap.size = w2.heap.size + 1 := by simp
  rw [hB1] at KB
  have KA2 := KA.row 16 f
  have KA3 := KA2.alloc (.cells (mk 16 fun _ => 0) 27)
  go_wp2_with (first | ((with_reducible show wpList _ _ _ (Oper.mk _ (Op.store 27 _ _) _ _ _ _ :: _) _ _); refine storeB (KA) rfl rfl rfl rfl ?_) | ((with_reducible show wpList _ _ _ (Oper.mk _ (Op.load 27 _) _ _ _ _ :: _) _ _); refine loadB (KA2) rfl rfl rfl ?_) | ((with_reducible show wpList _ _ _ (Oper.mk _ (Op.load 27 _) _ _ _ _ :: _) _ _); refine loadB (KA3) rfl rfl rfl ?_) | ((with_reducible show wpList _ _ _ (Oper.mk _ (Op.store 27 _ _) _ _ _ _ :: _) _ _); refine storeB (KB) rfl rfl rfl rfl ?_))
  have HC := Lib.hid ((((HC.out.alloc (.cells (mk 16 fun _ => 0) 27)).rowNew (c := w2.heap.size) (by omega) (mk 16 f)).alloc (.cells (mk 16 fun _ => 0) 27)).rowNew (c := w2.heap.size + 1) (by omega) (mk 16 f))
  have HT := Lib.hid ((((HT.out.alloc (.cells (mk 16 fun _ => 0) 27)).rowNew (b := w2.heap.size) (by simp; omega) (mk 16 f)).alloc (.cells (mk 16 fun _ => 0) 27)).rowNew (b := w2.heap.size + 1) (by simp; omega) (mk 16 f))
  have K2 := (((K2.alloc (.cells (mk 16 fun _ => 0) 27)).rowOther w2.heap.size (mk 16 f) (by omega)).alloc (.cells (mk 16 fun _ => 0) 27)).rowOther (w2.heap.size + 1) (mk 16 f) (by omega)
  have K3 := (((K3.alloc (.cells (mk 16 fun _ => 0) 27)).rowOther w2.heap.size (mk 16 f) (by omega)).alloc (.cells (mk 16 fun _ => 0) 27)).rowOther (w2.heap.size + 1) (mk 16 f) (by omega)
  have KA := KA3.rowOther (w2.heap.size + 1) (mk 16 f) (by omega)
  have KB := KB.row 16 f
  clear KA2 KA3 hB1
  generalize (((w2.alloc (.cells (mk 16 fun _ => 0) 27)).setRow w2.heap.size (mk 16 f)).alloc (.cells (mk 16 fun _ => 0) 27)).setRow (w2.heap.size + 1) (mk 16 f) = W at *
  refine (one_any _ (w.heap.size + 2) _ 3 HC.out (by omega) (by omega) (by omega)).mono ?_
  rintro e w3 ⟨b, rfl, hc2, ht2⟩
  have K2 := K2.turned ht2 (by omega)
  have K3 := K3.turned ht2 (by omega)
  have KA := KA.turned ht2 (by omega)
  have KB := KB.turned ht2 (by omega)
  have HC := Lib.hid hc2
  have HT := Lib.hid (HT.out.trans ht2)
  clear hc2 ht2
  cases b with
  | true =>
    go_wp2_with fail
    refine (board_any _ (w.heap.size + 2) _ HC.out (by omega)).mono ?_
    rintro e w4 ⟨h, rfl, hc2, ht2⟩
    have K2 := K2.turned ht2 (by omega)
    have K3 := K3.turned ht2 (by omega)
    have KA := KA.turned ht2 (by omega)
    have KB := KB.turned ht2 (by omega)
    have HC := Lib.hid hc2
    have HT := Lib.hid (HT.out.trans ht2)
    clear hc2 ht2
    go_wp2_with ((with_reducible show wpList _ _ _ (Oper.mk _ (Op.store 27 _ _) _ _ _ _ :: _) _ _); refine storeB (KB) rfl rfl rfl rfl ?_)
    have HT := Lib.hid (HT.out.rowNew (b := w2.heap.size + 1) (by simp; omega) (mk 16 h))
    have K2 := K2.rowOther (w2.heap.size + 1) (mk 16 h) (by omega)
    have K3 := K3.rowOther (w2.heap.size + 1) (mk 16 h) (by omega)
    have KA := KA.rowOther (w2.heap.size + 1) (mk 16 h) (by omega)
    have KB := KB.row 16 h
    clear HC
    generalize w4.setRow (w2.heap.size + 1) (mk 16 h) = w5 at *
    simp only [Act.put]
    go_wp2_with fail
    have hS : (fun W => Blk W w2.heap.size 16 f 27 ∧ Blk W (w2.heap.size + 1) 16 h 27) w5.drew := ⟨KA.drew, KB.drew⟩
    refine wp_region_held_drew (S := fun W => Blk W w2.heap.size 16 f 27 ∧ Blk W (w2.heap.size + 1) 16 h 27) (by kernel_rfl) hS (fun hHeld => ?_)
    clear hS
    refine wpAnyH_take (i := 0) (oi := { dst := some 29, op := _, type := _, pos := _, after := _, guard := _ }) (v := .agg (mk 16 f)) rfl (by kernel_rfl) (by kernel_rfl) (by kernel_rfl) (fun _ _ _ h => h) (Or.inl ⟨by rfl, fun _ h => execB h.1 rfl rfl⟩) (by assumption) ?_
    try simp only [Act.put, List.setIfInBounds_toArray, List.set_cons_zero, List.set_cons_succ]
    refine wpAnyH_take (i := 1) (oi := { dst := some 30, op := _, type := _, pos := _, after := _, guard := _ }) (v := .agg (mk 16 h)) rfl (by kernel_rfl) (by kernel_rfl) (by kernel_rfl) (fun _ _ _ h => h) (Or.inl ⟨by rfl, fun _ h => execB h.2 rfl rfl⟩) (by assumption) ?_
    try simp only [Act.put, List.setIfInBounds_toArray, List.set_cons_zero, List.set_cons_succ]
    have KA := KA.drew
    have KB := KB.drew
    have K2 := K2.drew
    have K3 := K3.drew
    have HT : Turned _ _ w5.drew := HT.out.draws 1
    generalize w5.drew = y1 at *
    refine wpAnyH_ready (rs := [2]) (by kernel_rfl) (by simp) ?_
    refine AllReadyH.cons rfl (fun K hK => ?_) AllReadyH.nil
    have st1 := run_store_blk (P := Try.prog) (g := f) K2
    have ms1 : (mk 16 f).size = 16 := mk_size 16 f
    go_simp
    clear st1 ms1
    have K3 := K3.rowOther w.heap.size (mk 16 f) (by omega)
    have KA := KA.rowOther w.heap.size (mk 16 f) (by omega)
    have KB := KB.rowOther w.heap.size (mk 16 f) (by omega)
    have K2 := K2.row 16 f
    have HT := below_setRow (below_three rfl HT) (Nat.le_refl _) (mk 16 f)
    generalize y1.setRow w.heap.size (mk 16 f) = y2 at *
    refine hK.out _ _ ⟨KA, KB⟩ (fun hHeld => ?_)
    clear hK K
    try simp only [Act.put, List.setIfInBounds_toArray, List.set_cons_zero, List.set_cons_succ]
    refine wpAnyH_ready (rs := [3]) (by kernel_rfl) (by simp) ?_
    refine AllReadyH.cons rfl (fun K hK => ?_) AllReadyH.nil
    have st1 := run_store_blk (P := Try.prog) (g := h) K3
    have ms1 : (mk 16 h).size = 16 := mk_size 16 h
    go_simp
    clear st1 ms1
    have KA := KA.rowOther (w.heap.size + 1) (mk 16 h) (by omega)
    have KB := KB.rowOther (w.heap.size + 1) (mk 16 h) (by omega)
    have K2 := K2.rowOther (w.heap.size + 1) (mk 16 h) (by omega)
    have K3 := K3.row 16 h
    have HT := below_setRow HT (show w.heap.size ≤ w.heap.size + 1 by omega) (mk 16 h)
    generalize y2.setRow (w.heap.size + 1) (mk 16 h) = y3 at *
    refine hK.out _ _ ⟨KA, KB⟩ (fun hHeld => ?_)
    clear hK K
    refine wpAnyH_done (by kernel_rfl) ?_ _
    clear hHeld KA KB
    go_wp2_with fail
    try simp only [Exit.inBlock, Exit.then]
    exact ret_cc Try.underlying27 rfl sizeB Try.underlying27 rfl sizeB rfl rfl rfl rfl K2 K3 ⟨f, h, rfl, HT⟩
  | false =>
    go_wp2_with fail
    refine (one_any _ (w.heap.size + 2) _ 4 HC.out (by omega) (by omega) (by omega)).mono ?_
    rintro e w4 ⟨b, rfl, hc2, ht2⟩
    have K2 := K2.turned ht2 (by omega)
    have K3 := K3.turned ht2 (by omega)
    have KA := KA.turned ht2 (by omega)
    have KB := KB.turned ht2 (by omega)
    have HC := Lib.hid hc2
    have HT := Lib.hid (HT.out.trans ht2)
    clear hc2 ht2
    cases b with
    | true =>
      go_wp2_with fail
      have hS : (fun W => Blk W w2.heap.size 16 f 27 ∧ Blk W (w2.heap.size + 1) 16 f 27) w4.drew := ⟨KA.drew, KB.drew⟩
      refine wp_region_held_drew (S := fun W => Blk W w2.heap.size 16 f 27 ∧ Blk W (w2.heap.size + 1) 16 f 27) (by kernel_rfl) hS (fun hHeld => ?_)
      clear hS
      refine wpAnyH_take (i := 0) (oi := { dst := some 29, op := _, type := _, pos := _, after := _, guard := _ }) (v := .agg (mk 16 f)) rfl (by kernel_rfl) (by kernel_rfl) (by kernel_rfl) (fun _ _ _ h => h) (Or.inl ⟨by rfl, fun _ h => execB h.1 rfl rfl⟩) (by assumption) ?_
      try simp only [Act.put, List.setIfInBounds_toArray, List.set_cons_zero, List.set_cons_succ]
      refine wpAnyH_take (i := 1) (oi := { dst := some 30, op := _, type := _, pos := _, after := _, guard := _ }) (v := .agg (mk 16 f)) rfl (by kernel_rfl) (by kernel_rfl) (by kernel_rfl) (fun _ _ _ h => h) (Or.inl ⟨by rfl, fun _ h => execB h.2 rfl rfl⟩) (by assumption) ?_
      try simp only [Act.put, List.setIfInBounds_toArray, List.set_cons_zero, List.set_cons_succ]
      have KA := KA.drew
      have KB := KB.drew
      have K2 := K2.drew
      have K3 := K3.drew
      have HT : Turned _ _ w4.drew := HT.out.draws 1
      generalize w4.drew = y1 at *
      refine wpAnyH_ready (rs := [2]) (by kernel_rfl) (by simp) ?_
      refine AllReadyH.cons rfl (fun K hK => ?_) AllReadyH.nil
      have st1 := run_store_blk (P := Try.prog) (g := f) K2
      have ms1 : (mk 16 f).size = 16 := mk_size 16 f
      go_simp
      clear st1 ms1
      have K3 := K3.rowOther w.heap.size (mk 16 f) (by omega)
      have KA := KA.rowOther w.heap.size (mk 16 f) (by omega)
      have KB := KB.rowOther w.heap.size (mk 16 f) (by omega)
      have K2 := K2.row 16 f
      have HT := below_setRow (below_three rfl HT) (Nat.le_refl _) (mk 16 f)
      generalize y1.setRow w.heap.size (mk 16 f) = y2 at *
      refine hK.out _ _ ⟨KA, KB⟩ (fun hHeld => ?_)
      clear hK K
      try simp only [Act.put, List.setIfInBounds_toArray, List.set_cons_zero, List.set_cons_succ]
      refine wpAnyH_ready (rs := [3]) (by kernel_rfl) (by simp) ?_
      refine AllReadyH.cons rfl (fun K hK => ?_) AllReadyH.nil
      have st1 := run_store_blk (P := Try.prog) (g := f) K3
      have ms1 : (mk 16 f).size = 16 := mk_size 16 f
      go_simp
      clear st1 ms1
      have KA := KA.rowOther (w.heap.size + 1) (mk 16 f) (by omega)
      have KB := KB.rowOther (w.heap.size + 1) (mk 16 f) (by omega)
      have K2 := K2.rowOther (w.heap.size + 1) (mk 16 f) (by omega)
      have K3 := K3.row 16 f
      have HT := below_setRow HT (show w.heap.size ≤ w.heap.size + 1 by omega) (mk 16 f)
      generalize y2.setRow (w.heap.size + 1) (mk 16 f) = y3 at *
      refine hK.out _ _ ⟨KA, KB⟩ (fun hHeld => ?_)
      clear hK K
      refine wpAnyH_done (by kernel_rfl) ?_ _
      clear hHeld KA KB
      go_wp2_with fail
      try simp only [Exit.inBlock, Exit.then]
      exact ret_cc Try.underlying27 rfl sizeB Try.underlying27 rfl sizeB rfl rfl rfl rfl K2 K3 ⟨f, f, rfl, HT⟩
    | false =>
      go_wp2_with fail
      have HC := HC.out.drew
      have HT : Turned _ _ w4.drew := HT.out.draws 1
      have K2 := K2.drew
      have K3 := K3.drew
      have KA := KA.drew
      have KB := KB.drew
      refine wp_region_held_drew (S := fun _ => True) (by kernel_rfl) trivial (fun hHeld => ?_)
      generalize w4.drew = x0 at *
      refine wpAnyH_take (i := 0) (oi := { dst := some 20, op := _, type := _, pos := _, after := _, guard := _ }) (v := ?v1) rfl (by kernel_rfl) (by kernel_rfl) (by kernel_rfl) (fun _ _ _ h => h) (Or.inl ⟨by rfl, ?hy1⟩) trivial ?rest1
      case hy1 => (intro w hSw; clear hSw; go_simp; (try with_reducible rfl))
      try simp only [Act.put, List.setIfInBounds_toArray, List.set_cons_zero, List.set_cons_succ]
      refine wpAnyH_take (i := 2) (oi := { dst := some 22, op := _, type := _, pos := _, after := _, guard := _ }) (v := ?v2) rfl (by kernel_rfl) (by kernel_rfl) (by kernel_rfl) (fun _ _ _ h => h) (Or.inl ⟨by rfl, ?hy2⟩) trivial ?rest2
      case hy2 => (intro w hSw; clear hSw; go_simp; (try with_reducible rfl))
      try simp only [Act.put, List.setIfInBounds_toArray, List.set_cons_zero, List.set_cons_succ]
      refine wpAnyH_take (i := 4) (oi := { dst := some 24, op := _, type := _, pos := _, after := _, guard := _ }) (v := ?v3) rfl (by kernel_rfl) (by kernel_rfl) (by kernel_rfl) (fun _ _ _ h => h) (Or.inl ⟨by rfl, ?hy3⟩) trivial ?rest3
      case hy3 => (intro w hSw; clear hSw; go_simp; (try with_reducible rfl))
      try simp only [Act.put, List.setIfInBounds_toArray, List.set_cons_zero, List.set_cons_succ]
      refine wpAnyH_take (i := 6) (oi := { dst := some 26, op := _, type := _, pos := _, after := _, guard := _ }) (v := ?v4) rfl (by kernel_rfl) (by kernel_rfl) (by kernel_rfl) (fun _ _ _ h => h) (Or.inl ⟨by rfl, ?hy4⟩) trivial ?rest4
      case hy4 => (intro w hSw; clear hSw; go_simp; (try with_reducible rfl))
      try simp only [Act.put, List.setIfInBounds_toArray, List.set_cons_zero, List.set_cons_succ]
      refine wpAnyH_ready (rs := [1]) (by kernel_rfl) (by simp) ?_
      refine AllReadyH.cons rfl (fun K hK => ?_) AllReadyH.nil
      go_simp
      refine (pick_any _ (w.heap.size + 2) _ 4 HC (by omega) (by omega) (by omega)).mono ?_
      rintro e x1 ⟨k1, hk1, rfl, hc2, ht2⟩
      have K2 := K2.turned ht2 (by omega)
      have K3 := K3.turned ht2 (by omega)
      have KA := KA.turned ht2 (by omega)
      have KB := KB.turned ht2 (by omega)
      have HC := hc2
      have HT := HT.trans ht2
      clear hc2 ht2
      go_wp2_with fail
      refine hK.out _ _ trivial (fun hHeld => ?_)
      clear hK K
      try simp only [Act.put, List.setIfInBounds_toArray, List.set_cons_zero, List.set_cons_succ]
      have z1 : (0 : Int) ≤ (k1 : Int) := by omega
      refine wpAnyH_take (i := 7) (oi := { dst := some 27, op := _, type := _, pos := _, after := _, guard := _ }) (v := ?v5) rfl (by kernel_rfl) (by kernel_rfl) (by kernel_rfl) (fun _ _ _ h => h) (Or.inl ⟨by rfl, ?hy5⟩) trivial ?rest5
      case hy5 => (intro w hSw; clear hSw; go_simp; (try with_reducible rfl))
      try simp only [Act.put, List.setIfInBounds_toArray, List.set_cons_zero, List.set_cons_succ]
      refine wpAnyH_ready (rs := [3]) (by kernel_rfl) (by simp) ?_
      refine AllReadyH.cons rfl (fun K hK => ?_) AllReadyH.nil
      go_simp
      refine (pick_any _ (w.heap.size + 2) _ 4 HC (by omega) (by omega) (by omega)).mono ?_
      rintro e x2 ⟨k2, hk2, rfl, hc2, ht2⟩
      have K2 := K2.turned ht2 (by omega)
      have K3 := K3.turned ht2 (by omega)
      have KA := KA.turned ht2 (by omega)
      have KB := KB.turned ht2 (by omega)
      have HC := hc2
      have HT := HT.trans ht2
      clear hc2 ht2
      go_wp2_with fail
      refine hK.out _ _ trivial (fun hHeld => ?_)
      clear hK K
      try simp only [Act.put, List.setIfInBounds_toArray, List.set_cons_zero, List.set_cons_succ]
      have z2 : (0 : Int) ≤ (k2 : Int) := by omega
      refine wpAnyH_ready (rs := [5]) (by kernel_rfl) (by simp) ?_
      refine AllReadyH.cons rfl (fun K hK => ?_) AllReadyH.nil
      go_simp
      refine (tile_any _ (w.heap.size + 2) _ HC (by omega)).mono ?_
      rintro e x3 ⟨tA, rfl, hc2, ht2⟩
      have K2 := K2.turned ht2 (by omega)
      have K3 := K3.turned ht2 (by omega)
      have KA := KA.turned ht2 (by omega)
      have KB := KB.turned ht2 (by omega)
      have HC := hc2
      have HT := HT.trans ht2
      clear hc2 ht2
      go_wp2_with fail
      refine hK.out _ _ trivial (fun hHeld => ?_)
      clear hK K
      try simp only [Act.put, List.setIfInBounds_toArray, List.set_cons_zero, List.set_cons_succ]
      refine wpAnyH_take (i := 8) (oi := { dst := some 28, op := _, type := _, pos := _, after := _, guard := _ }) (v := ?v6) rfl (by kernel_rfl) (by kernel_rfl) (by kernel_rfl) (fun _ _ _ h => h) (Or.inl ⟨by rfl, ?hy6⟩) trivial ?rest6
      case hy6 => (intro w hSw; clear hSw; go_simp; (try with_reducible rfl))
      try simp only [Act.put, List.setIfInBounds_toArray, List.set_cons_zero, List.set_cons_succ]
      have c4 := KB.cell (i := k1 * 4 + k2) (by omega)
      have f4 := KB.free (k1 * 4 + k2)
      refine wpAnyH_ready (rs := [9]) (by kernel_rfl) (by simp) ?_
      refine AllReadyH.cons rfl (fun K hK => ?_) AllReadyH.nil
      go_simp
      clear c4 f4
      have HT := Lib.hid (HT.setNew (p := ⟨w2.heap.size + 1, k1 * 4 + k2, none⟩) (by simp; omega) (.int .i64 tA))
      have K2 := K2.setOther ⟨w2.heap.size + 1, k1 * 4 + k2, none⟩ (.int .i64 tA) (by dsimp only; omega)
      have K3 := K3.setOther ⟨w2.heap.size + 1, k1 * 4 + k2, none⟩ (.int .i64 tA) (by dsimp only; omega)
      have KA := KA.setOther ⟨w2.heap.size + 1, k1 * 4 + k2, none⟩ (.int .i64 tA) (by dsimp only; omega)
      have KB := KB.set (i := k1 * 4 + k2) (by omega) tA
      generalize hy4 : x3.setCell ⟨w2.heap.size + 1, k1 * 4 + k2, none⟩ (.int .i64 tA) = x4 at *
      generalize upd f (k1 * 4 + k2) tA = h at *
      clear hy4
      refine hK.out _ _ trivial (fun hHeld => ?_)
      clear hK K HC
      refine wpAnyH_done (by kernel_rfl) ?_ _
      clear hHeld
      go_wp2_with fail
      have hS : (fun W => Blk W w2.heap.size 16 f 27 ∧ Blk W (w2.heap.size + 1) 16 h 27) x4.drew := ⟨KA.drew, KB.drew⟩
      refine wp_region_held_drew (S := fun W => Blk W w2.heap.size 16 f 27 ∧ Blk W (w2.heap.size + 1) 16 h 27) (by kernel_rfl) hS (fun hHeld => ?_)
      clear hS
      refine wpAnyH_take (i := 0) (oi := { dst := some 29, op := _, type := _, pos := _, after := _, guard := _ }) (v := .agg (mk 16 f)) rfl (by kernel_rfl) (by kernel_rfl) (by kernel_rfl) (fun _ _ _ h => h) (Or.inl ⟨by rfl, fun _ h => execB h.1 rfl rfl⟩) (by assumption) ?_
      try simp only [Act.put, List.setIfInBounds_toArray, List.set_cons_zero, List.set_cons_succ]
      refine wpAnyH_take (i := 1) (oi := { dst := some 30, op := _, type := _, pos := _, after := _, guard := _ }) (v := .agg (mk 16 h)) rfl (by kernel_rfl) (by kernel_rfl) (by kernel_rfl) (fun _ _ _ h => h) (Or.inl ⟨by rfl, fun _ h => execB h.2 rfl rfl⟩) (by assumption) ?_
      try simp only [Act.put, List.setIfInBounds_toArray, List.set_cons_zero, List.set_cons_succ]
      have KA := KA.drew
      have KB := KB.drew
      have K2 := K2.drew
      have K3 := K3.drew
      have HT : Turned _ _ x4.drew := HT.out.draws 1
      generalize x4.drew = y1 at *
      refine wpAnyH_ready (rs := [2]) (by kernel_rfl) (by simp) ?_
      refine AllReadyH.cons rfl (fun K hK => ?_) AllReadyH.nil
      have st1 := run_store_blk (P := Try.prog) (g := f) K2
      have ms1 : (mk 16 f).size = 16 := mk_size 16 f
      go_simp
      clear st1 ms1
      have K3 := K3.rowOther w.heap.size (mk 16 f) (by omega)
      have KA := KA.rowOther w.heap.size (mk 16 f) (by omega)
      have KB := KB.rowOther w.heap.size (mk 16 f) (by omega)
      have K2 := K2.row 16 f
      have HT := below_setRow (below_three rfl HT) (Nat.le_refl _) (mk 16 f)
      generalize y1.setRow w.heap.size (mk 16 f) = y2 at *
      refine hK.out _ _ ⟨KA, KB⟩ (fun hHeld => ?_)
      clear hK K
      try simp only [Act.put, List.setIfInBounds_toArray, List.set_cons_zero, List.set_cons_succ]
      refine wpAnyH_ready (rs := [3]) (by kernel_rfl) (by simp) ?_
      refine AllReadyH.cons rfl (fun K hK => ?_) AllReadyH.nil
      have st1 := run_store_blk (P := Try.prog) (g := h) K3
      have ms1 : (mk 16 h).size = 16 := mk_size 16 h
      go_simp
      clear st1 ms1
      have KA := KA.rowOther (w.heap.size + 1) (mk 16 h) (by omega)
      have KB := KB.rowOther (w.heap.size + 1) (mk 16 h) (by omega)
      have K2 := K2.rowOther (w.heap.size + 1) (mk 16 h) (by omega)
      have K3 := K3.row 16 h
      have HT := below_setRow HT (show w.heap.size ≤ w.heap.size + 1 by omega) (mk 16 h)
      generalize y2.setRow (w.heap.size + 1) (mk 16 h) = y3 at *
      refine hK.out _ _ ⟨KA, KB⟩ (fun hHeld => ?_)
      clear hK K
      refine wpAnyH_done (by kernel_rfl) ?_ _
      clear hHeld KA KB
      go_wp2_with fail
      try simp only [Exit.inBlock, Exit.then]
      exact ret_cc Try.underlying27 rfl sizeB Try.underlying27 rfl sizeB rfl rfl rfl rfl K2 K3 ⟨f, h, rfl, HT⟩
end Go.Proofs.Ytpiegllffkjneaa
