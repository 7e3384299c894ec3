/-
  The contract of the reference's draw of a board, a cell and a tile.
-/
import Derived.Test.YtpiegllffkjneaaDrawCell
import Derived.Test.YtpiegllffkjneaaBaseA
namespace Go.Proofs.Ytpiegllffkjneaa
open Go.RowKit Plain
attribute [local go_sem] Oper.semAt_some
set_option linter.unusedSimpArgs false

theorem turned_of_below {w w' : World} {B : Nat} (h : Below w.heap.size w w') : Turned B w w' :=
  ⟨h.os, h.tape, h.output, h.size, fun b hb _ => h.block b hb⟩
set_option maxHeartbeats 2000000 in
set_option maxRecDepth 20000 in
theorem drawPutTile_any (a : Option Addr) (len cap : Nat) (w : World) (hl : len ≤ 65536) (hr : CodeRow w a len w.heap.size) :
    Calls Try.prog 33 #[.slice a len cap] w fun e w' => ∃ (f g : Nat → Int) (t : Int), e = .returned (.tuple #[.agg (mk 16 f), .agg (mk 2 g), .int .i64 t]) ∧ Below w.heap.size w w' := by
  have z16 := zero16
  have z2 := zero2
  have K2 := ((Blk.new w 16 (fun _ => 0) 27).alloc (.cells (mk 2 fun _ => 0) 49)).alloc (.cells #[.slice a len cap, .int .i64 0, .int .u64 0] 97)
  have K3 := (Blk.new (w.alloc (.cells (mk 16 fun _ => 0) 27)) 2 (fun _ => 0) 49).alloc (.cells #[.slice a len cap, .int .i64 0, .int .u64 0] 97)
  have h1 : (w.alloc (.cells (mk 16 fun _ => 0) 27)).heap.size = w.heap.size + 1 := by simp
  rw [h1] at K3
  have hr1 := hr.later (((Below.refl _ w).alloc (Nat.le_refl _) (.cells (mk 16 fun _ => 0) 27)).alloc (by simp) (.cells (mk 2 fun _ => 0) 49))
  have HC := Lib.hid (Cur.new ((w.alloc (.cells (mk 16 fun _ => 0) 27)).alloc (.cells (mk 2 fun _ => 0) 49)) a len cap hl hr1)
  have hs : ((w.alloc (.cells (mk 16 fun _ => 0) 27)).alloc (.cells (mk 2 fun _ => 0) 49)).heap.size = w.heap.size + 2 := by simp
  rw [hs] at HC
  clear hr hr1
  go_enter Try.func33, Try.ntmps33
  go_wp2_with fail
  refine (board_any _ (w.heap.size + 2) 0 HC.out (by omega)).mono ?_
  rintro e w2 ⟨f, rfl, hc2, ht2⟩
  have K2 := K2.turned ht2 (by omega)
  have K3 := K3.turned ht2 (by omega)
  have HC := Lib.hid hc2
  have HT := Lib.hid ht2
  have hsz := ht2.size
  simp at hsz
  clear hc2 ht2
  have KA := Blk.new w2 16 (fun _ => 0) 27
  go_wp2_with ((with_reducible show wpList _ _ _ (Oper.mk _ (Op.store 27 _ _) _ _ _ _ :: _) _ _); refine storeB (KA) rfl rfl rfl rfl ?_)
  have HC := Lib.hid ((HC.out.alloc (.cells (mk 16 fun _ => 0) 27)).rowNew (c := w2.heap.size) (by omega) (mk 16 f))
  have HT := Lib.hid ((HT.out.alloc (.cells (mk 16 fun _ => 0) 27)).rowNew (b := w2.heap.size) (by simp; omega) (mk 16 f))
  have K2 := (K2.alloc (.cells (mk 16 fun _ => 0) 27)).rowOther w2.heap.size (mk 16 f) (by omega)
  have K3 := (K3.alloc (.cells (mk 16 fun _ => 0) 27)).rowOther w2.heap.size (mk 16 f) (by omega)
  have KA := KA.row 16 f
  generalize hW : (w2.alloc (.cells (mk 16 fun _ => 0) 27)).setRow w2.heap.size (mk 16 f) = W at *
  have hWs : W.heap.size = w2.heap.size + 1 := by rw [← hW]; simp
  clear hW
  refine (cell_any _ (w.heap.size + 2) _ HC.out (by omega)).mono ?_
  rintro e w3 ⟨g, rfl, hc2, ht2⟩
  have K2 := K2.turned ht2 (by omega)
  have K3 := K3.turned ht2 (by omega)
  have KA := KA.turned ht2 (by omega)
  have HC := Lib.hid hc2
  have HT := Lib.hid (HT.out.trans ht2)
  have hs3 := ht2.size
  clear hc2 ht2
  have KC := Blk.new w3 2 (fun _ => 0) 49
  have KA := (KA.alloc (.cells (mk 2 fun _ => 0) 49))
  go_wp2_with (first | ((with_reducible show wpList _ _ _ (Oper.mk _ (Op.store 49 _ _) _ _ _ _ :: _) _ _); refine storeC (KC) rfl rfl rfl rfl ?_) | ((with_reducible show wpList _ _ _ (Oper.mk _ (Op.load 27 _) _ _ _ _ :: _) _ _); refine loadB (KA.rowOther _ _ (by omega)) rfl rfl rfl ?_))
  have HC := Lib.hid ((HC.out.alloc (.cells (mk 2 fun _ => 0) 49)).rowNew (c := w3.heap.size) (by omega) (mk 2 g))
  have HT := Lib.hid ((HT.out.alloc (.cells (mk 2 fun _ => 0) 49)).rowNew (b := w3.heap.size) (by simp; omega) (mk 2 g))
  have K2 := (K2.alloc (.cells (mk 2 fun _ => 0) 49)).rowOther w3.heap.size (mk 2 g) (by omega)
  have K3 := (K3.alloc (.cells (mk 2 fun _ => 0) 49)).rowOther w3.heap.size (mk 2 g) (by omega)
  have KA := KA.rowOther w3.heap.size (mk 2 g) (by omega)
  have KC := KC.row 2 g
  generalize hV : (w3.alloc (.cells (mk 2 fun _ => 0) 49)).setRow w3.heap.size (mk 2 g) = V at *
  have hVs : V.heap.size = w3.heap.size + 1 := by rw [← hV]; simp
  clear hV
  refine (l2Empty_any f _).mono ?_
  rintro e w4 ⟨q, cq, rfl, ho, hb⟩
  have hs4 := hb.size
  have K2 := K2.below hb K2.lt
  have K3 := K3.below hb K3.lt
  have KA := KA.below hb KA.lt
  have KC := KC.below hb KC.lt
  have HC := Lib.hid (HC.out.kept hb)
  have HT := Lib.hid (HT.out.trans (turned_of_below hb (B := w.heap.size + 2)))
  clear hb
  have hn := empN_le f 16
  by_cases h0 : empN f 16 = 0
  · have q0 : ¬ ((0 : Int) < ((empN f 16 : Nat) : Int)) := by omega
    rw [h0] at *
    go_wp2_with fail
    have hS : (fun W => Blk W w2.heap.size 16 f 27 ∧ Blk W w3.heap.size 2 g 49) w4.drew := ⟨KA.drew, KC.drew⟩
    refine wp_region_held_drew (S := fun W => Blk W w2.heap.size 16 f 27 ∧ Blk W w3.heap.size 2 g 49) (by kernel_rfl) hS (fun hHeld => ?_)
    refine wpAnyH_take (i := 0) (oi := { dst := some 33, op := _, type := _, pos := _, after := _, guard := _ }) (v := .agg (mk 16 f)) rfl (by kernel_rfl) (by kernel_rfl) (by kernel_rfl) (fun _ _ _ h => h) (Or.inl ⟨by rfl, fun _ h => execB h.1 rfl rfl⟩) (by assumption) ?_
    try simp only [Act.put, List.setIfInBounds_toArray, List.set_cons_zero, List.set_cons_succ]
    refine wpAnyH_take (i := 1) (oi := { dst := some 34, op := _, type := _, pos := _, after := _, guard := _ }) (v := .agg (mk 2 g)) rfl (by kernel_rfl) (by kernel_rfl) (by kernel_rfl) (fun _ _ _ h => h) (Or.inl ⟨by rfl, fun _ h => execC h.2 rfl rfl⟩) (by assumption) ?_
    try simp only [Act.put, List.setIfInBounds_toArray, List.set_cons_zero, List.set_cons_succ]
    refine wpAnyH_take (i := 2) (oi := { dst := some 35, op := _, type := _, pos := _, after := _, guard := _ }) (v := .pointer (some ⟨w.heap.size + 2, 0, none⟩)) rfl (by kernel_rfl) (by kernel_rfl) (by kernel_rfl) (fun _ _ _ h => h) (Or.inl ⟨by rfl, by intro w hSw; clear hSw; go_simp; (try with_reducible rfl)⟩) (by assumption) ?_
    try simp only [Act.put, List.setIfInBounds_toArray, List.set_cons_zero, List.set_cons_succ]
    refine wpAnyH_ready (rs := [3]) (by kernel_rfl) (by simp) ?_
    refine AllReadyH.cons rfl (fun K hK => ?_) AllReadyH.nil
    go_simp
    have hP : ∀ j, j < 8 → ∃ v, (w4.alloc (.cells #[.int .i64 1, .int .i64 2, .int .i64 1, .int .i64 17, .int .i64 5, .int .i64 0, .int .i64 18, .int .i64 (-1)] 3)).drew.cell? ⟨w4.heap.size, j, none⟩ = some v ∧ ∃ t, v = .int .i64 t ∧ True := by
      intro j hj
      refine alloc_all w4 _ _ (fun v => ∃ t, v = .int .i64 t ∧ True) ?_ j hj
      intro v hv
      simp at hv
      rcases hv with rfl | rfl | rfl | rfl | rfl | rfl | rfl | rfl <;> exact ⟨_, rfl, trivial⟩
    have HC := (HC.out.alloc (.cells #[.int .i64 1, .int .i64 2, .int .i64 1, .int .i64 17, .int .i64 5, .int .i64 0, .int .i64 18, .int .i64 (-1)] 3)).drew
    have HT : Turned _ _ (w4.alloc (.cells #[.int .i64 1, .int .i64 2, .int .i64 1, .int .i64 17, .int .i64 5, .int .i64 0, .int .i64 18, .int .i64 (-1)] 3)).drew := (HT.out.alloc (.cells #[.int .i64 1, .int .i64 2, .int .i64 1, .int .i64 17, .int .i64 5, .int .i64 0, .int .i64 18, .int .i64 (-1)] 3)).draws 1
    have K2 := (K2.alloc (.cells #[.int .i64 1, .int .i64 2, .int .i64 1, .int .i64 17, .int .i64 5, .int .i64 0, .int .i64 18, .int .i64 (-1)] 3)).drew
    have K3 := (K3.alloc (.cells #[.int .i64 1, .int .i64 2, .int .i64 1, .int .i64 17, .int .i64 5, .int .i64 0, .int .i64 18, .int .i64 (-1)] 3)).drew
    have KA := (KA.alloc (.cells #[.int .i64 1, .int .i64 2, .int .i64 1, .int .i64 17, .int .i64 5, .int .i64 0, .int .i64 18, .int .i64 (-1)] 3)).drew
    have KC := (KC.alloc (.cells #[.int .i64 1, .int .i64 2, .int .i64 1, .int .i64 17, .int .i64 5, .int .i64 0, .int .i64 18, .int .i64 (-1)] 3)).drew
    generalize hy : (w4.alloc (.cells #[.int .i64 1, .int .i64 2, .int .i64 1, .int .i64 17, .int .i64 5, .int .i64 0, .int .i64 18, .int .i64 (-1)] 3)).drew = y0 at *
    refine hK.out _ _ ⟨KA, KC⟩ (fun hHeld => ?_)
    clear hK K hS
    try simp only [Act.put, List.setIfInBounds_toArray, List.set_cons_zero, List.set_cons_succ]
    refine wpAnyH_ready (rs := [4]) (by kernel_rfl) (by simp) ?_
    refine AllReadyH.cons rfl (fun K hK => ?_) AllReadyH.nil
    go_simp
    try rw [hs7] at hP
    refine (among_any _ (w.heap.size + 2) _ w4.heap.size 8 8 (fun _ => True) HC (by omega) (by omega) (by omega) (by omega) hP).mono ?_
    rintro e y1 ⟨t, _, rfl, hc2, ht2⟩
    have K2 := K2.turned ht2 (by omega)
    have K3 := K3.turned ht2 (by omega)
    have KA := KA.turned ht2 (by omega)
    have KC := KC.turned ht2 (by omega)
    have HT := HT.trans ht2
    clear hc2 ht2 HC hP
    go_wp2_with fail
    refine hK.out _ _ ⟨KA, KC⟩ (fun hHeld => ?_)
    clear hK K
    try simp only [Act.put, List.setIfInBounds_toArray, List.set_cons_zero, List.set_cons_succ]
    refine wpAnyH_ready (rs := [5]) (by kernel_rfl) (by simp) ?_
    refine AllReadyH.cons rfl (fun K hK => ?_) AllReadyH.nil
    have st1 := run_store_blk (P := Try.prog) (g := f) K2
    have ms1 : (mk 16 f).size = 16 := mk_size 16 f
    go_simp
    clear st1 ms1
    have K3 := K3.rowOther w.heap.size (mk 16 f) (by omega)
    have KA := KA.rowOther w.heap.size (mk 16 f) (by omega)
    have KC := KC.rowOther w.heap.size (mk 16 f) (by omega)
    have K2 := K2.row 16 f
    have HT := below_setRow (below_three rfl HT) (Nat.le_refl _) (mk 16 f)
    generalize y1.setRow w.heap.size (mk 16 f) = y2 at *
    refine hK.out _ _ ⟨KA, KC⟩ (fun hHeld => ?_)
    clear hK K
    try simp only [Act.put, List.setIfInBounds_toArray, List.set_cons_zero, List.set_cons_succ]
    refine wpAnyH_ready (rs := [6]) (by kernel_rfl) (by simp) ?_
    refine AllReadyH.cons rfl (fun K hK => ?_) AllReadyH.nil
    have st1 := run_store_blk (P := Try.prog) (g := g) K3
    have ms1 : (mk 2 g).size = 2 := mk_size 2 g
    go_simp
    clear st1 ms1
    have KA := KA.rowOther (w.heap.size + 1) (mk 2 g) (by omega)
    have KC := KC.rowOther (w.heap.size + 1) (mk 2 g) (by omega)
    have K2 := K2.rowOther (w.heap.size + 1) (mk 2 g) (by omega)
    have K3 := K3.row 2 g
    have HT := below_setRow HT (show w.heap.size ≤ w.heap.size + 1 by omega) (mk 2 g)
    generalize y2.setRow (w.heap.size + 1) (mk 2 g) = y3 at *
    refine hK.out _ _ ⟨KA, KC⟩ (fun hHeld => ?_)
    clear hK K
    try simp only [Act.put, List.setIfInBounds_toArray, List.set_cons_zero, List.set_cons_succ]
    refine wpAnyH_ready (rs := [7]) (by kernel_rfl) (by simp) ?_
    refine AllReadyH.cons rfl (fun K hK => ?_) AllReadyH.nil
    go_simp
    refine hK.out _ _ ⟨KA, KC⟩ (fun hHeld => ?_)
    clear hK K
    refine wpAnyH_done (by kernel_rfl) ?_ _
    clear hHeld KA KC
    go_wp2_with fail
    try simp only [Exit.inBlock, Exit.then]
    exact ret_cct Try.underlying27 rfl sizeB Try.underlying49 rfl sizeC rfl rfl rfl rfl K2 K3 ⟨f, g, t, rfl, HT⟩
  · have q0 : (0 : Int) < ((empN f 16 : Nat) : Int) := by omega
    have hl4 := (ho.lt q rfl).1
    have HE : Hid (∀ j, j < empN f 16 * 2 → w4.cell? ⟨q, j, none⟩ = some (.int .i64 ((empL f 16).getD j 0))) := Lib.hid fun j hj => by
      have hl := emp_len f 16
      rw [ho.cellAt j hj, List.getElem?_map, List.getD_eq_getElem?_getD, List.getElem?_eq_getElem (by omega)]
      rfl
    clear ho
    generalize empN f 16 = n at *
    go_wp2_with fail
    refine (one_any _ (w.heap.size + 2) _ 4 HC.out (by omega) (by omega) (by omega)).mono ?_
    rintro e w5 ⟨b, rfl, hc2, ht2⟩
    have K2 := K2.turned ht2 (by omega)
    have K3 := K3.turned ht2 (by omega)
    have KA := KA.turned ht2 (by omega)
    have KC := KC.turned ht2 (by omega)
    have HC := Lib.hid hc2
    have HT := Lib.hid (HT.out.trans ht2)
    have HE : Hid (∀ j, j < n * 2 → w5.cell? ⟨q, j, none⟩ = some (.int .i64 ((empL f 16).getD j 0))) := Lib.hid fun j hj => ht2.cell (HE.out j hj) (by show q ≠ _; omega)
    have hs5 := ht2.size
    clear hc2 ht2
    cases b with
    | true =>
      go_wp2_with fail
      have hS : (fun W => Blk W w2.heap.size 16 f 27 ∧ Blk W w3.heap.size 2 g 49) w5.drew := ⟨KA.drew, KC.drew⟩
      refine wp_region_held_drew (S := fun W => Blk W w2.heap.size 16 f 27 ∧ Blk W w3.heap.size 2 g 49) (by kernel_rfl) hS (fun hHeld => ?_)
      refine wpAnyH_take (i := 0) (oi := { dst := some 33, op := _, type := _, pos := _, after := _, guard := _ }) (v := .agg (mk 16 f)) rfl (by kernel_rfl) (by kernel_rfl) (by kernel_rfl) (fun _ _ _ h => h) (Or.inl ⟨by rfl, fun _ h => execB h.1 rfl rfl⟩) (by assumption) ?_
      try simp only [Act.put, List.setIfInBounds_toArray, List.set_cons_zero, List.set_cons_succ]
      refine wpAnyH_take (i := 1) (oi := { dst := some 34, op := _, type := _, pos := _, after := _, guard := _ }) (v := .agg (mk 2 g)) rfl (by kernel_rfl) (by kernel_rfl) (by kernel_rfl) (fun _ _ _ h => h) (Or.inl ⟨by rfl, fun _ h => execC h.2 rfl rfl⟩) (by assumption) ?_
      try simp only [Act.put, List.setIfInBounds_toArray, List.set_cons_zero, List.set_cons_succ]
      refine wpAnyH_take (i := 2) (oi := { dst := some 35, op := _, type := _, pos := _, after := _, guard := _ }) (v := .pointer (some ⟨w.heap.size + 2, 0, none⟩)) rfl (by kernel_rfl) (by kernel_rfl) (by kernel_rfl) (fun _ _ _ h => h) (Or.inl ⟨by rfl, by intro w hSw; clear hSw; go_simp; (try with_reducible rfl)⟩) (by assumption) ?_
      try simp only [Act.put, List.setIfInBounds_toArray, List.set_cons_zero, List.set_cons_succ]
      refine wpAnyH_ready (rs := [3]) (by kernel_rfl) (by simp) ?_
      refine AllReadyH.cons rfl (fun K hK => ?_) AllReadyH.nil
      go_simp
      have hP : ∀ j, j < 8 → ∃ v, (w5.alloc (.cells #[.int .i64 1, .int .i64 2, .int .i64 1, .int .i64 17, .int .i64 5, .int .i64 0, .int .i64 18, .int .i64 (-1)] 3)).drew.cell? ⟨w5.heap.size, j, none⟩ = some v ∧ ∃ t, v = .int .i64 t ∧ True := by
        intro j hj
        refine alloc_all w5 _ _ (fun v => ∃ t, v = .int .i64 t ∧ True) ?_ j hj
        intro v hv
        simp at hv
        rcases hv with rfl | rfl | rfl | rfl | rfl | rfl | rfl | rfl <;> exact ⟨_, rfl, trivial⟩
      have HC := (HC.out.alloc (.cells #[.int .i64 1, .int .i64 2, .int .i64 1, .int .i64 17, .int .i64 5, .int .i64 0, .int .i64 18, .int .i64 (-1)] 3)).drew
      have HT : Turned _ _ (w5.alloc (.cells #[.int .i64 1, .int .i64 2, .int .i64 1, .int .i64 17, .int .i64 5, .int .i64 0, .int .i64 18, .int .i64 (-1)] 3)).drew := (HT.out.alloc (.cells #[.int .i64 1, .int .i64 2, .int .i64 1, .int .i64 17, .int .i64 5, .int .i64 0, .int .i64 18, .int .i64 (-1)] 3)).draws 1
      have K2 := (K2.alloc (.cells #[.int .i64 1, .int .i64 2, .int .i64 1, .int .i64 17, .int .i64 5, .int .i64 0, .int .i64 18, .int .i64 (-1)] 3)).drew
      have K3 := (K3.alloc (.cells #[.int .i64 1, .int .i64 2, .int .i64 1, .int .i64 17, .int .i64 5, .int .i64 0, .int .i64 18, .int .i64 (-1)] 3)).drew
      have KA := (KA.alloc (.cells #[.int .i64 1, .int .i64 2, .int .i64 1, .int .i64 17, .int .i64 5, .int .i64 0, .int .i64 18, .int .i64 (-1)] 3)).drew
      have KC := (KC.alloc (.cells #[.int .i64 1, .int .i64 2, .int .i64 1, .int .i64 17, .int .i64 5, .int .i64 0, .int .i64 18, .int .i64 (-1)] 3)).drew
      generalize hy : (w5.alloc (.cells #[.int .i64 1, .int .i64 2, .int .i64 1, .int .i64 17, .int .i64 5, .int .i64 0, .int .i64 18, .int .i64 (-1)] 3)).drew = y0 at *
      refine hK.out _ _ ⟨KA, KC⟩ (fun hHeld => ?_)
      clear hK K hS
      try simp only [Act.put, List.setIfInBounds_toArray, List.set_cons_zero, List.set_cons_succ]
      refine wpAnyH_ready (rs := [4]) (by kernel_rfl) (by simp) ?_
      refine AllReadyH.cons rfl (fun K hK => ?_) AllReadyH.nil
      go_simp
      try rw [hs7] at hP
      refine (among_any _ (w.heap.size + 2) _ w5.heap.size 8 8 (fun _ => True) HC (by omega) (by omega) (by omega) (by omega) hP).mono ?_
      rintro e y1 ⟨t, _, rfl, hc2, ht2⟩
      have K2 := K2.turned ht2 (by omega)
      have K3 := K3.turned ht2 (by omega)
      have KA := KA.turned ht2 (by omega)
      have KC := KC.turned ht2 (by omega)
      have HT := HT.trans ht2
      clear hc2 ht2 HC hP
      go_wp2_with fail
      refine hK.out _ _ ⟨KA, KC⟩ (fun hHeld => ?_)
      clear hK K
      try simp only [Act.put, List.setIfInBounds_toArray, List.set_cons_zero, List.set_cons_succ]
      refine wpAnyH_ready (rs := [5]) (by kernel_rfl) (by simp) ?_
      refine AllReadyH.cons rfl (fun K hK => ?_) AllReadyH.nil
      have st1 := run_store_blk (P := Try.prog) (g := f) K2
      have ms1 : (mk 16 f).size = 16 := mk_size 16 f
      go_simp
      clear st1 ms1
      have K3 := K3.rowOther w.heap.size (mk 16 f) (by omega)
      have KA := KA.rowOther w.heap.size (mk 16 f) (by omega)
      have KC := KC.rowOther w.heap.size (mk 16 f) (by omega)
      have K2 := K2.row 16 f
      have HT := below_setRow (below_three rfl HT) (Nat.le_refl _) (mk 16 f)
      generalize y1.setRow w.heap.size (mk 16 f) = y2 at *
      refine hK.out _ _ ⟨KA, KC⟩ (fun hHeld => ?_)
      clear hK K
      try simp only [Act.put, List.setIfInBounds_toArray, List.set_cons_zero, List.set_cons_succ]
      refine wpAnyH_ready (rs := [6]) (by kernel_rfl) (by simp) ?_
      refine AllReadyH.cons rfl (fun K hK => ?_) AllReadyH.nil
      have st1 := run_store_blk (P := Try.prog) (g := g) K3
      have ms1 : (mk 2 g).size = 2 := mk_size 2 g
      go_simp
      clear st1 ms1
      have KA := KA.rowOther (w.heap.size + 1) (mk 2 g) (by omega)
      have KC := KC.rowOther (w.heap.size + 1) (mk 2 g) (by omega)
      have K2 := K2.rowOther (w.heap.size + 1) (mk 2 g) (by omega)
      have K3 := K3.row 2 g
      have HT := below_setRow HT (show w.heap.size ≤ w.heap.size + 1 by omega) (mk 2 g)
      generalize y2.setRow (w.heap.size + 1) (mk 2 g) = y3 at *
      refine hK.out _ _ ⟨KA, KC⟩ (fun hHeld => ?_)
      clear hK K
      try simp only [Act.put, List.setIfInBounds_toArray, List.set_cons_zero, List.set_cons_succ]
      refine wpAnyH_ready (rs := [7]) (by kernel_rfl) (by simp) ?_
      refine AllReadyH.cons rfl (fun K hK => ?_) AllReadyH.nil
      go_simp
      refine hK.out _ _ ⟨KA, KC⟩ (fun hHeld => ?_)
      clear hK K
      refine wpAnyH_done (by kernel_rfl) ?_ _
      clear hHeld KA KC
      go_wp2_with fail
      try simp only [Exit.inBlock, Exit.then]
      exact ret_cct Try.underlying27 rfl sizeB Try.underlying49 rfl sizeC rfl rfl rfl rfl K2 K3 ⟨f, g, t, rfl, HT⟩
    | false =>
      have hn1 : (1 : Int) ≤ (n : Int) := by omega
      go_wp2_with fail
      refine (pick_any _ (w.heap.size + 2) _ n HC.out (by omega) (by omega) (by omega)).mono ?_
      rintro e w6 ⟨k, hk, rfl, hc2, ht2⟩
      have K2 := K2.turned ht2 (by omega)
      have K3 := K3.turned ht2 (by omega)
      have KA := KA.turned ht2 (by omega)
      have KC := KC.turned ht2 (by omega)
      have HC := Lib.hid hc2
      have HT := Lib.hid (HT.out.trans ht2)
      have a0 := ht2.cell (HE.out (k * 2) (by omega)) (by show q ≠ _; omega)
      have a1 := ht2.cell (HE.out (k * 2 + 1) (by omega)) (by show q ≠ _; omega)
      have hs6 := ht2.size
      clear hc2 ht2
      have hk0 : (0 : Int) ≤ (k : Int) := by omega
      generalize (empL f 16).getD (k * 2) 0 = x0 at *
      generalize (empL f 16).getD (k * 2 + 1) 0 = x1 at *
      have e2 : (#[.int .i64 x0, .int .i64 x1] : Array Value) = mk 2 (fun j => if j = 0 then x0 else x1) := rfl
      generalize hg2 : (fun j => if j = 0 then x0 else x1) = g2 at *
      go_wp2_with ((with_reducible show wpList _ _ _ (Oper.mk _ (Op.store 49 _ _) _ _ _ _ :: _) _ _); refine storeC (KC) rfl rfl rfl rfl ?_)
      have HC := Lib.hid (HC.out.rowNew (c := w3.heap.size) (by omega) (mk 2 g2))
      have HT := Lib.hid (HT.out.rowNew (b := w3.heap.size) (by simp; omega) (mk 2 g2))
      have K2 := K2.rowOther w3.heap.size (mk 2 g2) (by omega)
      have K3 := K3.rowOther w3.heap.size (mk 2 g2) (by omega)
      have KA := KA.rowOther w3.heap.size (mk 2 g2) (by omega)
      have KC := KC.row 2 g2
      have hs7 : (w6.setRow w3.heap.size (mk 2 g2)).heap.size = w6.heap.size := by simp
      clear a0 a1 e2 hg2
      generalize w6.setRow w3.heap.size (mk 2 g2) = w7 at *
      simp only [Act.put]
      go_wp2_with fail
      have hS : (fun W => Blk W w2.heap.size 16 f 27 ∧ Blk W w3.heap.size 2 g2 49) w7.drew := ⟨KA.drew, KC.drew⟩
      refine wp_region_held_drew (S := fun W => Blk W w2.heap.size 16 f 27 ∧ Blk W w3.heap.size 2 g2 49) (by kernel_rfl) hS (fun hHeld => ?_)
      refine wpAnyH_take (i := 0) (oi := { dst := some 33, op := _, type := _, pos := _, after := _, guard := _ }) (v := .agg (mk 16 f)) rfl (by kernel_rfl) (by kernel_rfl) (by kernel_rfl) (fun _ _ _ h => h) (Or.inl ⟨by rfl, fun _ h => execB h.1 rfl rfl⟩) (by assumption) ?_
      try simp only [Act.put, List.setIfInBounds_toArray, List.set_cons_zero, List.set_cons_succ]
      refine wpAnyH_take (i := 1) (oi := { dst := some 34, op := _, type := _, pos := _, after := _, guard := _ }) (v := .agg (mk 2 g2)) rfl (by kernel_rfl) (by kernel_rfl) (by kernel_rfl) (fun _ _ _ h => h) (Or.inl ⟨by rfl, fun _ h => execC h.2 rfl rfl⟩) (by assumption) ?_
      try simp only [Act.put, List.setIfInBounds_toArray, List.set_cons_zero, List.set_cons_succ]
      refine wpAnyH_take (i := 2) (oi := { dst := some 35, op := _, type := _, pos := _, after := _, guard := _ }) (v := .pointer (some ⟨w.heap.size + 2, 0, none⟩)) rfl (by kernel_rfl) (by kernel_rfl) (by kernel_rfl) (fun _ _ _ h => h) (Or.inl ⟨by rfl, by intro w hSw; clear hSw; go_simp; (try with_reducible rfl)⟩) (by assumption) ?_
      try simp only [Act.put, List.setIfInBounds_toArray, List.set_cons_zero, List.set_cons_succ]
      refine wpAnyH_ready (rs := [3]) (by kernel_rfl) (by simp) ?_
      refine AllReadyH.cons rfl (fun K hK => ?_) AllReadyH.nil
      go_simp
      have hP : ∀ j, j < 8 → ∃ v, (w7.alloc (.cells #[.int .i64 1, .int .i64 2, .int .i64 1, .int .i64 17, .int .i64 5, .int .i64 0, .int .i64 18, .int .i64 (-1)] 3)).drew.cell? ⟨w7.heap.size, j, none⟩ = some v ∧ ∃ t, v = .int .i64 t ∧ True := by
        intro j hj
        refine alloc_all w7 _ _ (fun v => ∃ t, v = .int .i64 t ∧ True) ?_ j hj
        intro v hv
        simp at hv
        rcases hv with rfl | rfl | rfl | rfl | rfl | rfl | rfl | rfl <;> exact ⟨_, rfl, trivial⟩
      have HC := (HC.out.alloc (.cells #[.int .i64 1, .int .i64 2, .int .i64 1, .int .i64 17, .int .i64 5, .int .i64 0, .int .i64 18, .int .i64 (-1)] 3)).drew
      have HT : Turned _ _ (w7.alloc (.cells #[.int .i64 1, .int .i64 2, .int .i64 1, .int .i64 17, .int .i64 5, .int .i64 0, .int .i64 18, .int .i64 (-1)] 3)).drew := (HT.out.alloc (.cells #[.int .i64 1, .int .i64 2, .int .i64 1, .int .i64 17, .int .i64 5, .int .i64 0, .int .i64 18, .int .i64 (-1)] 3)).draws 1
      have K2 := (K2.alloc (.cells #[.int .i64 1, .int .i64 2, .int .i64 1, .int .i64 17, .int .i64 5, .int .i64 0, .int .i64 18, .int .i64 (-1)] 3)).drew
      have K3 := (K3.alloc (.cells #[.int .i64 1, .int .i64 2, .int .i64 1, .int .i64 17, .int .i64 5, .int .i64 0, .int .i64 18, .int .i64 (-1)] 3)).drew
      have KA := (KA.alloc (.cells #[.int .i64 1, .int .i64 2, .int .i64 1, .int .i64 17, .int .i64 5, .int .i64 0, .int .i64 18, .int .i64 (-1)] 3)).drew
      have KC := (KC.alloc (.cells #[.int .i64 1, .int .i64 2, .int .i64 1, .int .i64 17, .int .i64 5, .int .i64 0, .int .i64 18, .int .i64 (-1)] 3)).drew
      generalize hy : (w7.alloc (.cells #[.int .i64 1, .int .i64 2, .int .i64 1, .int .i64 17, .int .i64 5, .int .i64 0, .int .i64 18, .int .i64 (-1)] 3)).drew = y0 at *
      refine hK.out _ _ ⟨KA, KC⟩ (fun hHeld => ?_)
      clear hK K hS
      try simp only [Act.put, List.setIfInBounds_toArray, List.set_cons_zero, List.set_cons_succ]
      refine wpAnyH_ready (rs := [4]) (by kernel_rfl) (by simp) ?_
      refine AllReadyH.cons rfl (fun K hK => ?_) AllReadyH.nil
      go_simp
      try rw [hs7] at hP
      refine (among_any _ (w.heap.size + 2) _ w6.heap.size 8 8 (fun _ => True) HC (by omega) (by omega) (by omega) (by omega) hP).mono ?_
      rintro e y1 ⟨t, _, rfl, hc2, ht2⟩
      have K2 := K2.turned ht2 (by omega)
      have K3 := K3.turned ht2 (by omega)
      have KA := KA.turned ht2 (by omega)
      have KC := KC.turned ht2 (by omega)
      have HT := HT.trans ht2
      clear hc2 ht2 HC hP
      go_wp2_with fail
      refine hK.out _ _ ⟨KA, KC⟩ (fun hHeld => ?_)
      clear hK K
      try simp only [Act.put, List.setIfInBounds_toArray, List.set_cons_zero, List.set_cons_succ]
      refine wpAnyH_ready (rs := [5]) (by kernel_rfl) (by simp) ?_
      refine AllReadyH.cons rfl (fun K hK => ?_) AllReadyH.nil
      have st1 := run_store_blk (P := Try.prog) (g := f) K2
      have ms1 : (mk 16 f).size = 16 := mk_size 16 f
      go_simp
      clear st1 ms1
      have K3 := K3.rowOther w.heap.size (mk 16 f) (by omega)
      have KA := KA.rowOther w.heap.size (mk 16 f) (by omega)
      have KC := KC.rowOther w.heap.size (mk 16 f) (by omega)
      have K2 := K2.row 16 f
      have HT := below_setRow (below_three rfl HT) (Nat.le_refl _) (mk 16 f)
      generalize y1.setRow w.heap.size (mk 16 f) = y2 at *
      refine hK.out _ _ ⟨KA, KC⟩ (fun hHeld => ?_)
      clear hK K
      try simp only [Act.put, List.setIfInBounds_toArray, List.set_cons_zero, List.set_cons_succ]
      refine wpAnyH_ready (rs := [6]) (by kernel_rfl) (by simp) ?_
      refine AllReadyH.cons rfl (fun K hK => ?_) AllReadyH.nil
      have st1 := run_store_blk (P := Try.prog) (g := g2) K3
      have ms1 : (mk 2 g2).size = 2 := mk_size 2 g2
      go_simp
      clear st1 ms1
      have KA := KA.rowOther (w.heap.size + 1) (mk 2 g2) (by omega)
      have KC := KC.rowOther (w.heap.size + 1) (mk 2 g2) (by omega)
      have K2 := K2.rowOther (w.heap.size + 1) (mk 2 g2) (by omega)
      have K3 := K3.row 2 g2
      have HT := below_setRow HT (show w.heap.size ≤ w.heap.size + 1 by omega) (mk 2 g2)
      generalize y2.setRow (w.heap.size + 1) (mk 2 g2) = y3 at *
      refine hK.out _ _ ⟨KA, KC⟩ (fun hHeld => ?_)
      clear hK K
      try simp only [Act.put, List.setIfInBounds_toArray, List.set_cons_zero, List.set_cons_succ]
      refine wpAnyH_ready (rs := [7]) (by kernel_rfl) (by simp) ?_
      refine AllReadyH.cons rfl (fun K hK => ?_) AllReadyH.nil
      go_simp
      refine hK.out _ _ ⟨KA, KC⟩ (fun hHeld => ?_)
      clear hK K
      refine wpAnyH_done (by kernel_rfl) ?_ _
      clear hHeld KA KC
      go_wp2_with fail
      try simp only [Exit.inBlock, Exit.then]
      exact ret_cct Try.underlying27 rfl sizeB Try.underlying49 rfl sizeC rfl rfl rfl rfl K2 K3 ⟨f, g2, t, rfl, HT⟩
end Go.Proofs.Ytpiegllffkjneaa
