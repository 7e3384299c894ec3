/-
  The contracts of the reference's draws of FirstForm and AreSameForm: some boards come out, and nothing that lay there before turns.
-/
import Derived.Test.YtpiegllffkjneaaDrawPut
import Derived.Test.YtpiegllffkjneaaSpecMade
import Derived.Deep.RegionHeld3
namespace Go.Proofs.Ytpiegllffkjneaa
open Go.RowKit Plain
attribute [local go_sem] Oper.semAt_some store_new
set_option linter.unusedSimpArgs false
set_option linter.unusedVariables false

set_option maxHeartbeats 400000 in
theorem drawFirstForm_any (a : Option Addr) (len cap : Nat) (w : World) (hl : len ≤ 65536) (hr : CodeRow w a len w.heap.size) :
    Calls Try.prog 12 #[.slice a len cap] w fun e w' => ∃ f : Nat → Int, e = .returned (.agg (mk 16 f)) ∧ Below w.heap.size w w' := by
  have z16 := zero16
  have K2 := (Blk.new w 16 (fun _ => 0) 27).alloc (.cells #[.slice a len cap, .int .i64 0, .int .u64 0] 97)
  have hr1 := hr.later ((Below.refl _ w).alloc (Nat.le_refl _) (.cells (mk 16 fun _ => 0) 27))
  have HC := Lib.hid (Cur.new (w.alloc (.cells (mk 16 fun _ => 0) 27)) a len cap hl hr1)
  have hs : (w.alloc (.cells (mk 16 fun _ => 0) 27)).heap.size = w.heap.size + 1 := by simp
  rw [hs] at HC
  clear hr hr1
  go_enter Try.func12, Try.ntmps12
  go_wp2_with fail
  refine (formed3_any _ (w.heap.size + 1) 0 HC.out (by omega)).mono ?_
  rintro e w2 ⟨f, rfl, hc2, ht2⟩
  have K2 := K2.turned ht2 (by omega)
  have HT := Lib.hid ht2
  clear hc2 ht2
  go_wp2_with ((with_reducible show wpList _ _ _ (Oper.mk _ (Op.store 27 _ _) _ _ _ _ :: _) _ _); refine storeB (K2) rfl rfl rfl rfl ?_)
  try simp only [Exit.inBlock, Exit.then]
  exact retcB (K2.row 16 _) rfl rfl rfl ⟨f, rfl, below_setRow (below_two rfl HT.out) (Nat.le_refl _) _⟩

set_option maxHeartbeats 1000000 in
set_option maxRecDepth 20000 in
theorem drawAreSameForm_any (a : Option Addr) (len cap : Nat) (w : World) (hl : len ≤ 65536) (hr : CodeRow w a len w.heap.size) :
    Calls Try.prog 23 #[.slice a len cap] w fun e w' => ∃ f g : Nat → Int, e = .returned (.tuple #[.agg (mk 16 f), .agg (mk 16 g)]) ∧ Below w.heap.size w w' := by
  have z16 := zero16
  have K2 := ((Blk.new w 16 (fun _ => 0) 27).alloc (.cells (mk 16 fun _ => 0) 27)).alloc (.cells #[.slice a len cap, .int .i64 0, .int .u64 0] 97)
  have K3 := (Blk.new (w.alloc (.cells (mk 16 fun _ => 0) 27)) 16 (fun _ => 0) 27).alloc (.cells #[.slice a len cap, .int .i64 0, .int .u64 0] 97)
  have h1 : (w.alloc (.cells (mk 16 fun _ => 0) 27)).heap.size = w.heap.size + 1 := by simp
  rw [h1] at K3
  have hr1 := hr.later (((Below.refl _ w).alloc (Nat.le_refl _) (.cells (mk 16 fun _ => 0) 27)).alloc (by simp) (.cells (mk 16 fun _ => 0) 27))
  have HC := Lib.hid (Cur.new ((w.alloc (.cells (mk 16 fun _ => 0) 27)).alloc (.cells (mk 16 fun _ => 0) 27)) a len cap hl hr1)
  have hs : ((w.alloc (.cells (mk 16 fun _ => 0) 27)).alloc (.cells (mk 16 fun _ => 0) 27)).heap.size = w.heap.size + 2 := by simp
  rw [hs] at HC
  clear hr hr1
  go_enter Try.func23, Try.ntmps23
  go_wp2_with fail
  refine (formed3_any _ (w.heap.size + 2) 0 HC.out (by omega)).mono ?_
  rintro e w2 ⟨f, rfl, hc2, ht2⟩
  have K2 := K2.turned ht2 (by omega)
  have K3 := K3.turned ht2 (by omega)
  have hsz := ht2.size
  simp at hsz
  have HC := Lib.hid (hc2.alloc (.cells (mk 16 f) 27))
  have HT := Lib.hid (ht2.alloc (.cells (mk 16 f) 27))
  clear hc2 ht2
  have KA := Blk.new w2 16 f 27
  have K2 := K2.alloc (.cells (mk 16 f) 27)
  have K3 := K3.alloc (.cells (mk 16 f) 27)
  go_wp2_with ((with_reducible show wpList _ _ _ (Oper.mk _ (Op.load 27 _) _ _ _ _ :: _) _ _); refine loadB (KA) rfl rfl rfl ?_)
  generalize w2.alloc (.cells (mk 16 f) 27) = W at *
  by_cases hV : Vd f
  · refine (l2Board_yes _ _ hV).mono ?_
    rintro e w3 ⟨rfl, hb⟩
    have K2 := K2.below hb K2.lt
    have K3 := K3.below hb K3.lt
    have KA := KA.below hb KA.lt
    have HC := Lib.hid (HC.out.kept hb)
    have HT := Lib.hid (HT.out.trans (turned_of_below hb))
    clear hb hV
    go_wp2_with fail
    refine (one_any _ (w.heap.size + 2) _ 3 HC.out (by omega) (by omega) (by omega)).mono ?_
    rintro e w4 ⟨b, rfl, hc2, ht2⟩
    have K2 := K2.turned ht2 (by omega)
    have K3 := K3.turned ht2 (by omega)
    have KA := KA.turned ht2 (by omega)
    have HC := Lib.hid hc2
    have HT := Lib.hid (HT.out.trans ht2)
    clear hc2 ht2 z16
    cases b with
    | true =>
      go_wp2_with fail
      have HC := HC.out.drew
      have HT : Turned _ _ w4.drew := HT.out.draws 1
      have K2 := K2.drew
      have K3 := K3.drew
      have KA := KA.drew
      refine wp_region_held_drew (S := fun W => Blk W w2.heap.size 16 f 27) (by kernel_rfl) (KA) (fun hHeld => ?_)
      generalize w4.drew = x0 at *
      refine wpAnyH_take (i := 0) (oi := { dst := some 23, op := _, type := _, pos := _, after := _, guard := _ }) (v := .agg (mk 16 f)) rfl (by kernel_rfl) (by kernel_rfl) (by kernel_rfl) (fun _ _ _ h => h) (Or.inl ⟨by rfl, fun _ q => execB q rfl rfl⟩) (by assumption) ?_
      try simp only [Act.put, List.setIfInBounds_toArray, List.set_cons_zero, List.set_cons_succ]
      refine wpAnyH_take (i := 1) (oi := { dst := some 24, op := _, type := _, pos := _, after := _, guard := _ }) (v := .pointer (some ⟨w.heap.size + 2, 0, none⟩)) rfl (by kernel_rfl) (by kernel_rfl) (by kernel_rfl) (fun _ _ _ h => h) (Or.inl ⟨by rfl, by intro w hSw; clear hSw; go_simp; (try with_reducible rfl)⟩) (by assumption) ?_
      try simp only [Act.put, List.setIfInBounds_toArray, List.set_cons_zero, List.set_cons_succ]
      refine wpAnyH_ready (rs := [2]) (by kernel_rfl) (by simp) ?_
      refine AllReadyH.cons rfl (fun K hK => ?_) AllReadyH.nil
      go_simp
      refine (formed3_any _ (w.heap.size + 2) _ HC (by omega)).mono ?_
      rintro e x2 ⟨g, rfl, hc2, ht2⟩
      have K2 := K2.turned ht2 (by omega)
      have K3 := K3.turned ht2 (by omega)
      have KA := KA.turned ht2 (by omega)
      have HC := hc2
      have HT := HT.trans ht2
      clear hc2 ht2
      go_wp2_with fail
      refine hK.out _ _ KA (fun hHeld => ?_)
      clear hK K
      try simp only [Act.put, List.setIfInBounds_toArray, List.set_cons_zero, List.set_cons_succ]
      have HT := below_three rfl HT
      refine wpAnyH_ready (rs := [3]) (by kernel_rfl) (by simp) ?_
      refine AllReadyH.cons rfl (fun K hK => ?_) AllReadyH.nil
      have st1 := run_store_blk (P := Try.prog) (g := f) K2
      have ms1 : (mk 16 f).size = 16 := mk_size 16 f
      go_simp
      clear st1 ms1
      have K3 := K3.rowOther w.heap.size (mk 16 f) (by omega)
      have KA := KA.rowOther w.heap.size (mk 16 f) (by omega)
      have K2 := K2.row 16 f
      have HT := below_setRow HT (Nat.le_refl _) (mk 16 f)
      generalize x2.setRow w.heap.size (mk 16 f) = y2 at *
      refine hK.out _ _ KA (fun hHeld => ?_)
      clear hK K
      try simp only [Act.put, List.setIfInBounds_toArray, List.set_cons_zero, List.set_cons_succ]
      refine wpAnyH_ready (rs := [4]) (by kernel_rfl) (by simp) ?_
      refine AllReadyH.cons rfl (fun K hK => ?_) AllReadyH.nil
      have st1 := run_store_blk (P := Try.prog) (g := g) K3
      have ms1 : (mk 16 g).size = 16 := mk_size 16 g
      go_simp
      clear st1 ms1
      have K2 := K2.rowOther (w.heap.size + 1) (mk 16 g) (by omega)
      have KA := KA.rowOther (w.heap.size + 1) (mk 16 g) (by omega)
      have K3 := K3.row 16 g
      have HT := below_setRow HT (show w.heap.size ≤ w.heap.size + 1 by omega) (mk 16 g)
      generalize y2.setRow (w.heap.size + 1) (mk 16 g) = y3 at *
      refine hK.out _ _ KA (fun hHeld => ?_)
      clear hK K
      try simp only [Act.put, List.setIfInBounds_toArray, List.set_cons_zero, List.set_cons_succ]
      refine wpAnyH_done (by kernel_rfl) ?_ _
      clear hHeld KA
      go_wp2_with fail
      try simp only [Exit.inBlock, Exit.then]
      exact ret_cc Try.underlying27 rfl sizeB Try.underlying27 rfl sizeB rfl rfl rfl rfl K2 K3 ⟨f, g, rfl, HT⟩
    | false =>
      go_wp2_with fail
      have HC := HC.out.drew
      have HT : Turned _ _ w4.drew := HT.out.draws 1
      have K2 := K2.drew
      have K3 := K3.drew
      have KA := KA.drew
      refine wp_region_held_drew (S := fun W => Blk W w2.heap.size 16 f 27) (by kernel_rfl) (KA) (fun hHeld => ?_)
      generalize w4.drew = x0 at *
      refine wpAnyH_take (i := 0) (oi := { dst := some 18, op := _, type := _, pos := _, after := _, guard := _ }) (v := .agg (mk 16 f)) rfl (by kernel_rfl) (by kernel_rfl) (by kernel_rfl) (fun _ _ _ h => h) (Or.inl ⟨by rfl, fun _ q => execB q rfl rfl⟩) (by assumption) ?_
      try simp only [Act.put, List.setIfInBounds_toArray, List.set_cons_zero, List.set_cons_succ]
      refine wpAnyH_take (i := 1) (oi := { dst := some 19, op := _, type := _, pos := _, after := _, guard := _ }) (v := .agg (mk 16 f)) rfl (by kernel_rfl) (by kernel_rfl) (by kernel_rfl) (fun _ _ _ h => h) (Or.inl ⟨by rfl, fun _ q => execB q rfl rfl⟩) (by assumption) ?_
      try simp only [Act.put, List.setIfInBounds_toArray, List.set_cons_zero, List.set_cons_succ]
      refine wpAnyH_take (i := 2) (oi := { dst := some 20, op := _, type := _, pos := _, after := _, guard := _ }) (v := .pointer (some ⟨w.heap.size + 2, 0, none⟩)) rfl (by kernel_rfl) (by kernel_rfl) (by kernel_rfl) (fun _ _ _ h => h) (Or.inl ⟨by rfl, by intro w hSw; clear hSw; go_simp; (try with_reducible rfl)⟩) (by assumption) ?_
      try simp only [Act.put, List.setIfInBounds_toArray, List.set_cons_zero, List.set_cons_succ]
      refine wpAnyH_ready (rs := [3]) (by kernel_rfl) (by simp) ?_
      refine AllReadyH.cons rfl (fun K hK => ?_) AllReadyH.nil
      go_simp
      refine (pick_any _ (w.heap.size + 2) _ 8 HC (by omega) (by omega) (by omega)).mono ?_
      rintro e x1 ⟨q, hq, rfl, hc2, ht2⟩
      have K2 := K2.turned ht2 (by omega)
      have K3 := K3.turned ht2 (by omega)
      have KA := KA.turned ht2 (by omega)
      have HC := hc2
      have HT := HT.trans ht2
      clear hc2 ht2
      go_wp2_with fail
      refine hK.out _ _ KA (fun hHeld => ?_)
      clear hK K
      try simp only [Act.put, List.setIfInBounds_toArray, List.set_cons_zero, List.set_cons_succ]
      refine wpAnyH_ready (rs := [4]) (by kernel_rfl) (by simp) ?_
      refine AllReadyH.cons rfl (fun K hK => ?_) AllReadyH.nil
      go_simp
      refine (l3Made_any f q _ (by omega)).mono ?_
      rintro e x2 ⟨rfl, hb⟩
      have hc2 := HC.kept hb
      have ht2 := turned_of_below (B := w.heap.size + 2) hb
      clear hb
      have K2 := K2.turned ht2 (by omega)
      have K3 := K3.turned ht2 (by omega)
      have KA := KA.turned ht2 (by omega)
      have HC := hc2
      have HT := HT.trans ht2
      clear hc2 ht2
      go_wp2_with fail
      refine hK.out _ _ KA (fun hHeld => ?_)
      clear hK K
      try simp only [Act.put, List.setIfInBounds_toArray, List.set_cons_zero, List.set_cons_succ]
      have HT := below_three rfl HT
      generalize formF f q = g at *
      refine wpAnyH_ready (rs := [5]) (by kernel_rfl) (by simp) ?_
      refine AllReadyH.cons rfl (fun K hK => ?_) AllReadyH.nil
      have st1 := run_store_blk (P := Try.prog) (g := f) K2
      have ms1 : (mk 16 f).size = 16 := mk_size 16 f
      go_simp
      clear st1 ms1
      have K3 := K3.rowOther w.heap.size (mk 16 f) (by omega)
      have KA := KA.rowOther w.heap.size (mk 16 f) (by omega)
      have K2 := K2.row 16 f
      have HT := below_setRow HT (Nat.le_refl _) (mk 16 f)
      generalize x2.setRow w.heap.size (mk 16 f) = y2 at *
      refine hK.out _ _ KA (fun hHeld => ?_)
      clear hK K
      try simp only [Act.put, List.setIfInBounds_toArray, List.set_cons_zero, List.set_cons_succ]
      refine wpAnyH_ready (rs := [6]) (by kernel_rfl) (by simp) ?_
      refine AllReadyH.cons rfl (fun K hK => ?_) AllReadyH.nil
      have st1 := run_store_blk (P := Try.prog) (g := g) K3
      have ms1 : (mk 16 g).size = 16 := mk_size 16 g
      go_simp
      clear st1 ms1
      have K2 := K2.rowOther (w.heap.size + 1) (mk 16 g) (by omega)
      have KA := KA.rowOther (w.heap.size + 1) (mk 16 g) (by omega)
      have K3 := K3.row 16 g
      have HT := below_setRow HT (show w.heap.size ≤ w.heap.size + 1 by omega) (mk 16 g)
      generalize y2.setRow (w.heap.size + 1) (mk 16 g) = y3 at *
      refine hK.out _ _ KA (fun hHeld => ?_)
      clear hK K
      try simp only [Act.put, List.setIfInBounds_toArray, List.set_cons_zero, List.set_cons_succ]
      refine wpAnyH_done (by kernel_rfl) ?_ _
      clear hHeld KA
      go_wp2_with fail
      try simp only [Exit.inBlock, Exit.then]
      exact ret_cc Try.underlying27 rfl sizeB Try.underlying27 rfl sizeB rfl rfl rfl rfl K2 K3 ⟨f, g, rfl, HT⟩
  · refine (l2Board_no _ _ hV).mono ?_
    rintro e w3 ⟨rfl, hb⟩
    have K2 := K2.below hb K2.lt
    have K3 := K3.below hb K3.lt
    have KA := KA.below hb KA.lt
    have HC := Lib.hid (HC.out.kept hb)
    have HT := Lib.hid (HT.out.trans (turned_of_below hb))
    clear hb hV z16
    go_wp2_with fail
    have HC := HC.out.drew
    have HT : Turned _ _ w3.drew := HT.out.draws 1
    have K2 := K2.drew
    have K3 := K3.drew
    have KA := KA.drew
    refine wp_region_held_drew (S := fun W => Blk W w2.heap.size 16 f 27) (by kernel_rfl) (KA) (fun hHeld => ?_)
    generalize w3.drew = x0 at *
    refine wpAnyH_take (i := 0) (oi := { dst := some 23, op := _, type := _, pos := _, after := _, guard := _ }) (v := .agg (mk 16 f)) rfl (by kernel_rfl) (by kernel_rfl) (by kernel_rfl) (fun _ _ _ h => h) (Or.inl ⟨by rfl, fun _ q => execB q rfl rfl⟩) (by assumption) ?_
    try simp only [Act.put, List.setIfInBounds_toArray, List.set_cons_zero, List.set_cons_succ]
    refine wpAnyH_take (i := 1) (oi := { dst := some 24, op := _, type := _, pos := _, after := _, guard := _ }) (v := .pointer (some ⟨w.heap.size + 2, 0, none⟩)) rfl (by kernel_rfl) (by kernel_rfl) (by kernel_rfl) (fun _ _ _ h => h) (Or.inl ⟨by rfl, by intro w hSw; clear hSw; go_simp; (try with_reducible rfl)⟩) (by assumption) ?_
    try simp only [Act.put, List.setIfInBounds_toArray, List.set_cons_zero, List.set_cons_succ]
    refine wpAnyH_ready (rs := [2]) (by kernel_rfl) (by simp) ?_
    refine AllReadyH.cons rfl (fun K hK => ?_) AllReadyH.nil
    go_simp
    refine (formed3_any _ (w.heap.size + 2) _ HC (by omega)).mono ?_
    rintro e x2 ⟨g, rfl, hc2, ht2⟩
    have K2 := K2.turned ht2 (by omega)
    have K3 := K3.turned ht2 (by omega)
    have KA := KA.turned ht2 (by omega)
    have HC := hc2
    have HT := HT.trans ht2
    clear hc2 ht2
    go_wp2_with fail
    refine hK.out _ _ KA (fun hHeld => ?_)
    clear hK K
    try simp only [Act.put, List.setIfInBounds_toArray, List.set_cons_zero, List.set_cons_succ]
    have HT := below_three rfl HT
    refine wpAnyH_ready (rs := [3]) (by kernel_rfl) (by simp) ?_
    refine AllReadyH.cons rfl (fun K hK => ?_) AllReadyH.nil
    have st1 := run_store_blk (P := Try.prog) (g := f) K2
    have ms1 : (mk 16 f).size = 16 := mk_size 16 f
    go_simp
    clear st1 ms1
    have K3 := K3.rowOther w.heap.size (mk 16 f) (by omega)
    have KA := KA.rowOther w.heap.size (mk 16 f) (by omega)
    have K2 := K2.row 16 f
    have HT := below_setRow HT (Nat.le_refl _) (mk 16 f)
    generalize x2.setRow w.heap.size (mk 16 f) = y2 at *
    refine hK.out _ _ KA (fun hHeld => ?_)
    clear hK K
    try simp only [Act.put, List.setIfInBounds_toArray, List.set_cons_zero, List.set_cons_succ]
    refine wpAnyH_ready (rs := [4]) (by kernel_rfl) (by simp) ?_
    refine AllReadyH.cons rfl (fun K hK => ?_) AllReadyH.nil
    have st1 := run_store_blk (P := Try.prog) (g := g) K3
    have ms1 : (mk 16 g).size = 16 := mk_size 16 g
    go_simp
    clear st1 ms1
    have K2 := K2.rowOther (w.heap.size + 1) (mk 16 g) (by omega)
    have KA := KA.rowOther (w.heap.size + 1) (mk 16 g) (by omega)
    have K3 := K3.row 16 g
    have HT := below_setRow HT (show w.heap.size ≤ w.heap.size + 1 by omega) (mk 16 g)
    generalize y2.setRow (w.heap.size + 1) (mk 16 g) = y3 at *
    refine hK.out _ _ KA (fun hHeld => ?_)
    clear hK K
    try simp only [Act.put, List.setIfInBounds_toArray, List.set_cons_zero, List.set_cons_succ]
    refine wpAnyH_done (by kernel_rfl) ?_ _
    clear hHeld KA
    go_wp2_with fail
    try simp only [Exit.inBlock, Exit.then]
    exact ret_cc Try.underlying27 rfl sizeB Try.underlying27 rfl sizeB rfl rfl rfl rfl K2 K3 ⟨f, g, rfl, HT⟩
end Go.Proofs.Ytpiegllffkjneaa
