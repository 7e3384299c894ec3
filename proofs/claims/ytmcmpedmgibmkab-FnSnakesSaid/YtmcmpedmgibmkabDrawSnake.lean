/-
  The draws of chapter 7 about snakes: those of SnakePath, of SnakesOf and of SnakeBoard.
-/
import Derived.Test.YtmcmpedmgibmkabDrawsA
import Derived.Test.YtmcmpedmgibmkabSpecSbd
import Derived.Test.YtmcmpedmgibmkabRowsKit
import Derived.Deep.CutRange
namespace Go.Proofs.Ytmcmpedmgibmkab
open Go.RowKit Plain
attribute [local go_sem] store_new Oper.semAt_some
set_option linter.unusedVariables false
set_option linter.unusedSimpArgs false
theorem turned_lowS {w w' : World} {B : Nat} (h : RowKit.Below w.heap.size w w') : Turned B w w' := ⟨h.os, h.tape, h.output, h.size, fun k hk _ => h.block k hk⟩
theorem wp_allocS {w : World} {o : Oper} {a : Act} {K : Act → World → Prop} {Q : Exit → Act → World → Prop} (ho : o.op = .alloc 35)
    (h : K (a.put o.dst (.pointer (some ⟨w.heap.size, 0, none⟩))) (w.alloc (.cells (mk 16 fun _ => 0) 35))) : o.wp Try.prog a w K Q := by
  have z16 := zero16
  unfold Oper.wp
  go_simp
  exact h
theorem drawPath_any (a : Option Addr) (len cap : Nat) (w : World) (hl : len ≤ 65536) (hr : CodeRow w a len w.heap.size) :
    Calls Try.prog 20 #[.slice a len cap] w fun e w' => ∃ x : Int, e = .returned (.int .i64 x) ∧ Below w.heap.size w w' := by
  have HC := Lib.hid (Cur.new w a len cap hl hr)
  clear hr
  go_enter Try.func20, Try.ntmps20
  go_wp2_with fail
  refine (drawF3_any _ w.heap.size 0 HC.out (by omega)).mono ?_
  rintro e w2 ⟨x, rfl, hc2, ht2⟩
  have HT := Lib.hid ht2
  clear hc2 ht2 HC
  go_wp2_with fail
  go_ret
  exact ⟨x, rfl, below_one rfl HT.out⟩
set_option maxHeartbeats 1000000 in
theorem drawSbd_any (a : Option Addr) (len cap : Nat) (w : World) (hl : len ≤ 65536) (hr : CodeRow w a len w.heap.size) :
    Calls Try.prog 23 #[.slice a len cap] w fun e w' => ∃ (f : Nat → Int) (k : Int), e = .returned (.tuple #[.agg (mk 16 f), .int .i64 k]) ∧ Below w.heap.size w w' := by
  have z16 := zero16
  have K2 := (Blk.new w 16 (fun _ => 0) 35).alloc (.cells #[.slice a len cap, .int .i64 0, .int .u64 0] 69)
  have hr1 := hr.later ((Below.refl _ w).alloc (Nat.le_refl _) (.cells (mk 16 fun _ => 0) 35))
  have HC := Lib.hid (Cur.new (w.alloc (.cells (mk 16 fun _ => 0) 35)) a len cap hl hr1)
  have hs : (w.alloc (.cells (mk 16 fun _ => 0) 35)).heap.size = w.heap.size + 1 := by simp
  rw [hs] at HC
  clear hr hr1
  go_enter Try.func23, Try.ntmps23
  go_wp2_with fail
  refine (board_any _ (w.heap.size + 1) 0 HC.out (by omega)).mono ?_
  rintro e w2 ⟨f, rfl, hc2, ht2⟩
  have K2 := K2.turned ht2 (by omega)
  have HC := Lib.hid hc2
  have HT := Lib.hid ht2
  clear hc2 ht2
  go_wp2_with fail
  refine (drawF3_any _ (w.heap.size + 1) _ HC.out (by omega)).mono ?_
  rintro e w3 ⟨k, rfl, hc2, ht2⟩
  have K2 := K2.turned ht2 (by omega)
  have HT := Lib.hid (HT.out.trans ht2)
  clear hc2 ht2 HC
  go_wp2_with ((with_reducible show wpList _ _ _ (Oper.mk _ (Op.store 35 _ _) _ _ _ _ :: _) _ _); refine storeB (K2) rfl rfl rfl rfl ?_)
  try simp only [Exit.inBlock, Exit.then]
  exact retctB (K2.row 16 _) rfl rfl rfl ⟨f, k, rfl, below_setRow (below_two rfl HT.out) (Nat.le_refl _) _⟩
set_option maxHeartbeats 4000000 in
set_option maxRecDepth 20000 in
theorem drawSnakes_any (a : Option Addr) (len cap : Nat) (w : World) (hl : len ≤ 65536) (hr : CodeRow w a len w.heap.size) :
    Calls Try.prog 21 #[.slice a len cap] w fun e w' => ∃ f : Nat → Int, e = .returned (.agg (mk 16 f)) ∧ Below w.heap.size w w' := by
  have z16 := zero16
  have K2 := (Blk.new w 16 (fun _ => 0) 35).alloc (.cells #[.slice a len cap, .int .i64 0, .int .u64 0] 69)
  have hr1 := hr.later ((Below.refl _ w).alloc (Nat.le_refl _) (.cells (mk 16 fun _ => 0) 35))
  have HC := Lib.hid (Cur.new (w.alloc (.cells (mk 16 fun _ => 0) 35)) a len cap hl hr1)
  have hs : (w.alloc (.cells (mk 16 fun _ => 0) 35)).heap.size = w.heap.size + 1 := by simp
  rw [hs] at HC
  clear hr hr1
  go_enter Try.func21, Try.ntmps21
  go_wp2_with fail
  refine (board_any _ (w.heap.size + 1) 0 HC.out (by omega)).mono ?_
  rintro e w2 ⟨f, rfl, hc2, ht2⟩
  have K2 := K2.turned ht2 (by omega)
  have HC := Lib.hid hc2
  have HT := Lib.hid ht2
  have hsz := HC.out.lt
  clear hc2 ht2
  have K4 := Blk.new w2 16 (fun _ => 0) 35
  go_wp2_with ((with_reducible show wpList _ _ _ (Oper.mk _ (Op.store 35 _ _) _ _ _ _ :: _) _ _); refine storeB (K4) rfl rfl rfl rfl ?_)
  have HC := Lib.hid ((HC.out.alloc (.cells (mk 16 fun _ => 0) 35)).rowNew (c := w2.heap.size) (by omega) (mk 16 f))
  have HT := Lib.hid ((HT.out.alloc (.cells (mk 16 fun _ => 0) 35)).rowNew (b := w2.heap.size) (by simp; omega) (mk 16 f))
  have K2 := (K2.alloc (.cells (mk 16 fun _ => 0) 35)).rowOther w2.heap.size (mk 16 f) (by omega)
  have K4 := K4.row 16 f
  have HN : Hid (w.heap.size + 1 < w2.heap.size ∧ w2.heap.size < ((w2.alloc (.cells (mk 16 fun _ => 0) 35)).setRow w2.heap.size (mk 16 f)).heap.size) := ⟨hsz, K4.lt⟩
  clear hsz
  generalize (w2.alloc (.cells (mk 16 fun _ => 0) 35)).setRow w2.heap.size (mk 16 f) = w3 at *
  generalize w2.heap.size = b4 at *
  refine wp_region_held_drew (S := fun W => Blk W b4 16 f 35) (by kernel_rfl) (K4.drew) (fun hHeld => ?_)
  have K2 := K2.drew
  have K4 := K4.drew
  have HC := Lib.hid HC.out.drew
  have HT := Lib.hid (HT.out.draws 1)
  have HN := Lib.hid HN.out
  have hdr : w3.drewN 1 = w3.drew := rfl
  rw [hdr] at HT
  clear hdr
  have HN : Hid (w.heap.size + 1 < b4 ∧ b4 < w3.drew.heap.size) := ⟨HN.out.1, K4.lt⟩
  generalize w3.drew = x0 at *
  refine wpAnyH_take (i := 0) (oi := { dst := some 13, op := _, type := _, pos := _, after := _, guard := _ }) (v := .agg (mk 16 f)) rfl (by kernel_rfl) (by kernel_rfl) (by kernel_rfl) (fun _ _ _ h => h) (Or.inl ⟨by rfl, fun _ q => execB q rfl rfl⟩) (by assumption) ?_
  try simp only [Act.put, List.setIfInBounds_toArray, List.set_cons_zero, List.set_cons_succ]
  refine wpAnyH_take (i := 1) (oi := { dst := some 14, op := _, type := _, pos := _, after := _, guard := _ }) (v := .pointer (some ⟨w.heap.size + 1, 0, none⟩)) rfl (by kernel_rfl) (by kernel_rfl) (by kernel_rfl) (fun _ _ _ h => h) (Or.inl ⟨by rfl, by intro w hSw; clear hSw; go_simp; (try with_reducible rfl)⟩) (by assumption) ?_
  try simp only [Act.put, List.setIfInBounds_toArray, List.set_cons_zero, List.set_cons_succ]
  refine wpAnyH_ready (rs := [2, 7]) (by kernel_rfl) (by simp) ?_
  refine AllReadyH.cons rfl (fun K hK => ?_) ?_
  · go_simp
    refine (pick_any _ (w.heap.size + 1) _ 8 HC.out (by omega) (by omega) (by omega)).mono ?_
    rintro e x1 ⟨k, hk, rfl, hc2, ht2⟩
    have K2 := K2.turned ht2 (by have := HN.out; omega)
    have K4 := K4.turned ht2 (by have := HN.out; omega)
    have HC := Lib.hid hc2
    have HT := Lib.hid (HT.out.trans ht2)
    have HN : Hid (w.heap.size + 1 < b4 ∧ b4 < x1.heap.size) := ⟨HN.out.1, K4.lt⟩
    clear hc2 ht2
    clear hHeld
    go_wp2_with fail
    refine hK.out _ _ K4 (fun hHeld => ?_)
    clear hK K
    try simp only [Act.put, List.setIfInBounds_toArray, List.set_cons_zero, List.set_cons_succ]
    refine wpAnyH_ready (rs := [3, 7]) (by kernel_rfl) (by simp) ?_
    refine AllReadyH.cons rfl (fun K hK => ?_) ?_
    · go_simp
      refine (specSbd_any f (k : Int) _).mono ?_
      rintro e x2 ⟨rfl, hb⟩
      have K2 := K2.below hb K2.lt
      have K4 := K4.below hb K4.lt
      have HC := Lib.hid (HC.out.kept hb)
      have HT := Lib.hid (HT.out.trans (turned_lowS hb))
      have HN : Hid (w.heap.size + 1 < b4 ∧ b4 < x2.heap.size) := ⟨HN.out.1, K4.lt⟩
      clear hb
      generalize sbdR f (k : Int) = g at *
      generalize sbdO f (k : Int) = o at *
      clear hHeld
      go_wp2_with fail
      refine hK.out _ _ K4 (fun hHeld => ?_)
      clear hK K
      try simp only [Act.put, List.setIfInBounds_toArray, List.set_cons_zero, List.set_cons_succ]
      refine wpAnyH_take (i := 4) (oi := { dst := some 12, op := _, type := _, pos := _, after := _, guard := _ }) (v := .tuple #[.agg (mk 16 g), .bool o]) rfl (by kernel_rfl) (by kernel_rfl) (by kernel_rfl) (fun _ _ _ h => h) (Or.inl ⟨by rfl, by intro w hSw; clear hSw; go_simp; (try with_reducible rfl)⟩) (by assumption) ?_
      try simp only [Act.put, List.setIfInBounds_toArray, List.set_cons_zero, List.set_cons_succ]
      refine wpAnyH_take (i := 5) (oi := { dst := some 17, op := _, type := _, pos := _, after := _, guard := _ }) (v := .agg (mk 16 g)) rfl (by kernel_rfl) (by kernel_rfl) (by kernel_rfl) (fun _ _ _ h => h) (Or.inl ⟨by rfl, by intro w hSw; clear hSw; go_simp; (try with_reducible rfl)⟩) (by assumption) ?_
      try simp only [Act.put, List.setIfInBounds_toArray, List.set_cons_zero, List.set_cons_succ]
      refine wpAnyH_take (i := 6) (oi := { dst := some 18, op := _, type := _, pos := _, after := _, guard := _ }) (v := .bool o) rfl (by kernel_rfl) (by kernel_rfl) (by kernel_rfl) (fun _ _ _ h => h) (Or.inl ⟨by rfl, by intro w hSw; clear hSw; go_simp; (try with_reducible rfl)⟩) (by assumption) ?_
      try simp only [Act.put, List.setIfInBounds_toArray, List.set_cons_zero, List.set_cons_succ]
      refine wpAnyH_ready (rs := [7]) (by kernel_rfl) (by simp) ?_
      refine AllReadyH.cons rfl (fun K hK => ?_) AllReadyH.nil
      rw [if_pos (by rfl)]
      refine wp_allocS rfl ?_
      have K5 := Blk.new x2 16 (fun _ => 0) 35
      have HN : Hid (w.heap.size + 1 < b4 ∧ b4 < (x2.alloc (.cells (mk 16 fun _ => 0) 35)).heap.size ∧ b4 < x2.heap.size) := ⟨HN.out.1, by simp; have := HN.out.2; omega, HN.out.2⟩
      have K2 := K2.alloc (.cells (mk 16 fun _ => 0) 35)
      have K4 := K4.alloc (.cells (mk 16 fun _ => 0) 35)
      have HC := Lib.hid (HC.out.alloc (.cells (mk 16 fun _ => 0) 35))
      have HT := Lib.hid (HT.out.alloc (.cells (mk 16 fun _ => 0) 35))
      generalize x2.alloc (.cells (mk 16 fun _ => 0) 35) = x3 at *
      generalize x2.heap.size = b5 at *
      clear hHeld
      refine hK.out _ _ K4 (fun hHeld => ?_)
      clear hK K
      try simp only [Act.put, List.setIfInBounds_toArray, List.set_cons_zero, List.set_cons_succ]
      refine wpAnyH_ready (rs := [8]) (by kernel_rfl) (by simp) ?_
      refine AllReadyH.cons rfl (fun K hK => ?_) AllReadyH.nil
      have st1 := run_store_blk (P := Try.prog) (g := g) K5
      have ms1 : (mk 16 g).size = 16 := mk_size 16 _
      go_simp
      clear st1 ms1
      have K2 := K2.rowOther b5 (mk 16 g) (by have := HN.out; omega)
      have K4 := K4.rowOther b5 (mk 16 g) (by have := HN.out; omega)
      have HC := Lib.hid (HC.out.rowNew (c := b5) (by have := HN.out; omega) (mk 16 g))
      have HT := Lib.hid (HT.out.rowNew (b := b5) (by have := HN.out; simp; omega) (mk 16 g))
      have K5 := K5.row 16 g
      generalize x3.setRow b5 (mk 16 g) = y9 at *
      clear hHeld
      refine hK.out _ _ K4 (fun hHeld => ?_)
      clear hK K
      try simp only [Act.put, List.setIfInBounds_toArray, List.set_cons_zero, List.set_cons_succ]
      refine wpAnyH_take (i := 9) (oi := { dst := some 6, op := _, type := _, pos := _, after := _, guard := _ }) (v := .bool o) rfl (by kernel_rfl) (by kernel_rfl) (by kernel_rfl) (fun _ _ _ h => h) (Or.inl ⟨by rfl, by intro w hSw; clear hSw; go_simp; (try with_reducible rfl)⟩) (by assumption) ?_
      try simp only [Act.put, List.setIfInBounds_toArray, List.set_cons_zero, List.set_cons_succ]
      refine wpAnyH_done (by kernel_rfl) ?_ _
      clear hHeld
      cases o with
      | false =>
        go_wp2_with (first | ((with_reducible show wpList _ _ _ (Oper.mk _ (Op.load 35 _) _ _ _ _ :: _) _ _); refine loadB (K4) rfl rfl rfl ?_) | ((with_reducible show wpList _ _ _ (Oper.mk _ (Op.store 35 _ _) _ _ _ _ :: _) _ _); refine storeB (K2) rfl rfl rfl rfl ?_))
        refine retcB (p := 2) (t := 35) (b := w.heap.size) (f := f) ?_ ?_ ?_ ?_ ?_
        · exact K2.row 16 f
        · rfl
        · rfl
        · rfl
        · exact ⟨f, rfl, below_setRow (below_two rfl HT.out) (Nat.le_refl _) (mk 16 f)⟩
      | true =>
        go_wp2_with fail
        refine (one_any _ (w.heap.size + 1) _ 3 HC.out (by omega) (by omega) (by omega)).mono ?_
        rintro e v1 ⟨b, rfl, hc2, ht2⟩
        have K2 := K2.turned ht2 (by have := HN.out; omega)
        have K4 := K4.turned ht2 (by have := HN.out; omega)
        have K5 := K5.turned ht2 (by have := HN.out; omega)
        have HC := Lib.hid hc2
        have HT := Lib.hid (HT.out.trans ht2)
        have HN : Hid (w.heap.size + 1 < b4 ∧ b4 < v1.heap.size ∧ b4 < b5) := ⟨HN.out.1, K4.lt, HN.out.2.2⟩
        clear hc2 ht2
        cases b with
        | true =>
          go_wp2_with (first | ((with_reducible show wpList _ _ _ (Oper.mk _ (Op.load 35 _) _ _ _ _ :: _) _ _); refine loadB (K4) rfl rfl rfl ?_) | ((with_reducible show wpList _ _ _ (Oper.mk _ (Op.store 35 _ _) _ _ _ _ :: _) _ _); refine storeB (K2) rfl rfl rfl rfl ?_))
          refine retcB (p := 2) (t := 35) (b := w.heap.size) (f := f) ?_ ?_ ?_ ?_ ?_
          · exact K2.row 16 f
          · rfl
          · rfl
          · rfl
          · exact ⟨f, rfl, below_setRow (below_two rfl HT.out) (Nat.le_refl _) (mk 16 f)⟩
        | false =>
          have K4f := K4.row 16 g
          go_wp2_with (first | ((with_reducible show wpList _ _ _ (Oper.mk _ (Op.load 35 _) _ _ _ _ :: _) _ _); refine loadB (K5) rfl rfl rfl ?_) | ((with_reducible show wpList _ _ _ (Oper.mk _ (Op.store 35 _ _) _ _ _ _ :: _) _ _); refine storeB (K4) rfl rfl rfl rfl ?_))
          have K2 := K2.rowOther b4 (mk 16 g) (by have := HN.out; omega)
          have HC := Lib.hid (HC.out.rowNew (c := b4) (by have := HN.out; omega) (mk 16 g))
          have HT := Lib.hid (HT.out.rowNew (b := b4) (by have := HN.out; simp; omega) (mk 16 g))
          have K4 := K4f
          have HN : Hid (w.heap.size + 1 < b4 ∧ b4 < (v1.setRow b4 (mk 16 g)).heap.size) := ⟨HN.out.1, K4.lt⟩
          clear K4f K5
          generalize v1.setRow b4 (mk 16 g) = v1b at *
          refine (one_any _ (w.heap.size + 1) _ 3 HC.out (by omega) (by omega) (by omega)).mono ?_
          rintro e v2 ⟨b, rfl, hc2, ht2⟩
          have K2 := K2.turned ht2 (by have := HN.out; omega)
          have K4 := K4.turned ht2 (by have := HN.out; omega)
          have HC := Lib.hid hc2
          have HT := Lib.hid (HT.out.trans ht2)
          have HN : Hid (w.heap.size + 1 < b4 ∧ b4 < v2.heap.size) := ⟨HN.out.1, K4.lt⟩
          clear hc2 ht2
          cases b with
          | false =>
            go_wp2_with (first | ((with_reducible show wpList _ _ _ (Oper.mk _ (Op.load 35 _) _ _ _ _ :: _) _ _); refine loadB (K4) rfl rfl rfl ?_) | ((with_reducible show wpList _ _ _ (Oper.mk _ (Op.store 35 _ _) _ _ _ _ :: _) _ _); refine storeB (K2) rfl rfl rfl rfl ?_))
            refine retcB (p := 2) (t := 35) (b := w.heap.size) (f := g) ?_ ?_ ?_ ?_ ?_
            · exact K2.row 16 g
            · rfl
            · rfl
            · rfl
            · exact ⟨g, rfl, below_setRow (below_two rfl HT.out) (Nat.le_refl _) (mk 16 g)⟩
          | true =>
            go_upto_region 7 with fail
            refine wp_region_held_drew (S := fun W => True) (by kernel_rfl) (trivial) (fun hHeld => ?_)
            have K2 := K2.drew
            have K4 := K4.drew
            have HC := Lib.hid HC.out.drew
            have HT := Lib.hid (HT.out.draws 1)
            have HN := Lib.hid HN.out
            have hdr : v2.drewN 1 = v2.drew := rfl
            rw [hdr] at HT
            clear hdr
            have HN : Hid (w.heap.size + 1 < b4 ∧ b4 < v2.drew.heap.size) := ⟨HN.out.1, K4.lt⟩
            generalize v2.drew = x0 at *
            refine wpAnyH_take (i := 1) (oi := { dst := some 29, op := _, type := _, pos := _, after := _, guard := _ }) (v := .pointer (some ⟨w.heap.size + 1, 0, none⟩)) rfl (by kernel_rfl) (by kernel_rfl) (by kernel_rfl) (fun _ _ _ h => h) (Or.inl ⟨by rfl, by intro w hSw; clear hSw; go_simp; (try with_reducible rfl)⟩) (by assumption) ?_
            try simp only [Act.put, List.setIfInBounds_toArray, List.set_cons_zero, List.set_cons_succ]
            refine wpAnyH_take (i := 3) (oi := { dst := some 31, op := _, type := _, pos := _, after := _, guard := _ }) (v := .pointer (some ⟨w.heap.size + 1, 0, none⟩)) rfl (by kernel_rfl) (by kernel_rfl) (by kernel_rfl) (fun _ _ _ h => h) (Or.inl ⟨by rfl, by intro w hSw; clear hSw; go_simp; (try with_reducible rfl)⟩) (by assumption) ?_
            try simp only [Act.put, List.setIfInBounds_toArray, List.set_cons_zero, List.set_cons_succ]
            refine wpAnyH_take (i := 6) (oi := { dst := some 34, op := _, type := _, pos := _, after := _, guard := _ }) (v := .pointer (some ⟨w.heap.size + 1, 0, none⟩)) rfl (by kernel_rfl) (by kernel_rfl) (by kernel_rfl) (fun _ _ _ h => h) (Or.inl ⟨by rfl, by intro w hSw; clear hSw; go_simp; (try with_reducible rfl)⟩) (by assumption) ?_
            try simp only [Act.put, List.setIfInBounds_toArray, List.set_cons_zero, List.set_cons_succ]
            refine wpAnyH_ready (rs := [0, 2]) (by kernel_rfl) (by simp) ?_
            refine AllReadyH.cons rfl (fun K hK => ?_) ?_
            · rw [if_pos (by rfl)]
              refine wp_ldB9 K4 rfl rfl ?_
              clear hHeld
              refine hK.out _ _ trivial (fun hHeld => ?_)
              clear hK K
              try simp only [Act.put, List.setIfInBounds_toArray, List.set_cons_zero, List.set_cons_succ]
              refine wpAnyH_ready (rs := [2]) (by kernel_rfl) (by simp) ?_
              refine AllReadyH.cons rfl (fun K hK => ?_) AllReadyH.nil
              go_simp
              refine (pick_any _ (w.heap.size + 1) _ 4 HC.out (by omega) (by omega) (by omega)).mono ?_
              rintro e x1 ⟨r, hr, rfl, hc2, ht2⟩
              have K2 := K2.turned ht2 (by have := HN.out; omega)
              have K4 := K4.turned ht2 (by have := HN.out; omega)
              have HC := Lib.hid hc2
              have HT := Lib.hid (HT.out.trans ht2)
              have HN : Hid (w.heap.size + 1 < b4 ∧ b4 < x1.heap.size) := ⟨HN.out.1, K4.lt⟩
              clear hc2 ht2
              clear hHeld
              go_wp2_with fail
              refine hK.out _ _ trivial (fun hHeld => ?_)
              clear hK K
              try simp only [Act.put, List.setIfInBounds_toArray, List.set_cons_zero, List.set_cons_succ]
              refine wpAnyH_ready (rs := [4]) (by kernel_rfl) (by simp) ?_
              refine AllReadyH.cons rfl (fun K hK => ?_) AllReadyH.nil
              go_simp
              refine (pick_any _ (w.heap.size + 1) _ 4 HC.out (by omega) (by omega) (by omega)).mono ?_
              rintro e x2 ⟨c, hc, rfl, hc2, ht2⟩
              have K2 := K2.turned ht2 (by have := HN.out; omega)
              have K4 := K4.turned ht2 (by have := HN.out; omega)
              have HC := Lib.hid hc2
              have HT := Lib.hid (HT.out.trans ht2)
              have HN : Hid (w.heap.size + 1 < b4 ∧ b4 < x2.heap.size) := ⟨HN.out.1, K4.lt⟩
              clear hc2 ht2
              clear hHeld
              go_wp2_with fail
              refine hK.out _ _ trivial (fun hHeld => ?_)
              clear hK K
              try simp only [Act.put, List.setIfInBounds_toArray, List.set_cons_zero, List.set_cons_succ]
              refine wpAnyH_take (i := 5) (oi := { dst := some 33, op := _, type := _, pos := _, after := _, guard := _ }) (v := .agg (mk 2 (two (r : Int) (c : Int)))) rfl (by kernel_rfl) (by kernel_rfl) (by kernel_rfl) (fun _ _ _ h => h) (Or.inl ⟨by rfl, by intro W hSw; clear hSw; have mt := mk_two (r : Int) (c : Int); go_simp⟩) (by assumption) ?_
              try simp only [Act.put, List.setIfInBounds_toArray, List.set_cons_zero, List.set_cons_succ]
              refine wpAnyH_ready (rs := [7]) (by kernel_rfl) (by simp) ?_
              refine AllReadyH.cons rfl (fun K hK => ?_) AllReadyH.nil
              go_simp
              refine (pick_any _ (w.heap.size + 1) _ 3 HC.out (by omega) (by omega) (by omega)).mono ?_
              rintro e x3 ⟨t, ht, rfl, hc2, ht2⟩
              have K2 := K2.turned ht2 (by have := HN.out; omega)
              have K4 := K4.turned ht2 (by have := HN.out; omega)
              have HC := Lib.hid hc2
              have HT := Lib.hid (HT.out.trans ht2)
              have HN : Hid (w.heap.size + 1 < b4 ∧ b4 < x3.heap.size) := ⟨HN.out.1, K4.lt⟩
              clear hc2 ht2
              clear hHeld
              go_wp2_with fail
              refine hK.out _ _ trivial (fun hHeld => ?_)
              clear hK K
              try simp only [Act.put, List.setIfInBounds_toArray, List.set_cons_zero, List.set_cons_succ]
              refine wpAnyH_ready (rs := [8]) (by kernel_rfl) (by simp) ?_
              refine AllReadyH.cons rfl (fun K hK => ?_) AllReadyH.nil
              go_simp
              refine (l2Put_any g (two (r : Int) (c : Int)) r c (t : Int) _ rfl rfl (by omega) (by omega)).mono ?_
              rintro e x4 ⟨rfl, hb⟩
              have K2 := K2.below hb K2.lt
              have K4 := K4.below hb K4.lt
              have HC := Lib.hid (HC.out.kept hb)
              have HT := Lib.hid (HT.out.trans (turned_lowS hb))
              have HN : Hid (w.heap.size + 1 < b4 ∧ b4 < x4.heap.size) := ⟨HN.out.1, K4.lt⟩
              clear hb
              generalize upd g (r * 4 + c) (t : Int) = g2 at *
              clear hHeld
              go_wp2_with fail
              refine hK.out _ _ trivial (fun hHeld => ?_)
              clear hK K
              try simp only [Act.put, List.setIfInBounds_toArray, List.set_cons_zero, List.set_cons_succ]
              refine wpAnyH_ready (rs := [9]) (by kernel_rfl) (by simp) ?_
              refine AllReadyH.cons rfl (fun K hK => ?_) AllReadyH.nil
              have st1 := run_store_blk (P := Try.prog) (g := g2) K4
              have ms1 : (mk 16 g2).size = 16 := mk_size 16 _
              go_simp
              clear st1 ms1
              have K2 := K2.rowOther b4 (mk 16 g2) (by have := HN.out; omega)
              have HT := Lib.hid (HT.out.rowNew (b := b4) (by have := HN.out; simp; omega) (mk 16 g2))
              have K4 := K4.row 16 g2
              generalize x4.setRow b4 (mk 16 g2) = v3 at *
              clear hHeld
              refine hK.out _ _ trivial (fun hHeld => ?_)
              clear hK K
              try simp only [Act.put, List.setIfInBounds_toArray, List.set_cons_zero, List.set_cons_succ]
              refine wpAnyH_done (by kernel_rfl) ?_ _
              clear hHeld
              go_wp2_with (first | ((with_reducible show wpList _ _ _ (Oper.mk _ (Op.load 35 _) _ _ _ _ :: _) _ _); refine loadB (K4) rfl rfl rfl ?_) | ((with_reducible show wpList _ _ _ (Oper.mk _ (Op.store 35 _ _) _ _ _ _ :: _) _ _); refine storeB (K2) rfl rfl rfl rfl ?_))
              refine retcB (p := 2) (t := 35) (b := w.heap.size) (f := g2) ?_ ?_ ?_ ?_ ?_
              · exact K2.row 16 g2
              · rfl
              · rfl
              · rfl
              · exact ⟨g2, rfl, below_setRow (below_two rfl HT.out) (Nat.le_refl _) (mk 16 g2)⟩
            refine AllReadyH.cons rfl (fun K hK => ?_) AllReadyH.nil
            go_simp
            refine (pick_any _ (w.heap.size + 1) _ 4 HC.out (by omega) (by omega) (by omega)).mono ?_
            rintro e x1 ⟨r, hr, rfl, hc2, ht2⟩
            have K2 := K2.turned ht2 (by have := HN.out; omega)
            have K4 := K4.turned ht2 (by have := HN.out; omega)
            have HC := Lib.hid hc2
            have HT := Lib.hid (HT.out.trans ht2)
            have HN : Hid (w.heap.size + 1 < b4 ∧ b4 < x1.heap.size) := ⟨HN.out.1, K4.lt⟩
            clear hc2 ht2
            clear hHeld
            go_wp2_with fail
            refine hK.out _ _ trivial (fun hHeld => ?_)
            clear hK K
            try simp only [Act.put, List.setIfInBounds_toArray, List.set_cons_zero, List.set_cons_succ]
            refine wpAnyH_ready (rs := [0, 4]) (by kernel_rfl) (by simp) ?_
            refine AllReadyH.cons rfl (fun K hK => ?_) ?_
            · rw [if_pos (by rfl)]
              refine wp_ldB9 K4 rfl rfl ?_
              clear hHeld
              refine hK.out _ _ trivial (fun hHeld => ?_)
              clear hK K
              try simp only [Act.put, List.setIfInBounds_toArray, List.set_cons_zero, List.set_cons_succ]
              refine wpAnyH_ready (rs := [4]) (by kernel_rfl) (by simp) ?_
              refine AllReadyH.cons rfl (fun K hK => ?_) AllReadyH.nil
              go_simp
              refine (pick_any _ (w.heap.size + 1) _ 4 HC.out (by omega) (by omega) (by omega)).mono ?_
              rintro e x2 ⟨c, hc, rfl, hc2, ht2⟩
              have K2 := K2.turned ht2 (by have := HN.out; omega)
              have K4 := K4.turned ht2 (by have := HN.out; omega)
              have HC := Lib.hid hc2
              have HT := Lib.hid (HT.out.trans ht2)
              have HN : Hid (w.heap.size + 1 < b4 ∧ b4 < x2.heap.size) := ⟨HN.out.1, K4.lt⟩
              clear hc2 ht2
              clear hHeld
              go_wp2_with fail
              refine hK.out _ _ trivial (fun hHeld => ?_)
              clear hK K
              try simp only [Act.put, List.setIfInBounds_toArray, List.set_cons_zero, List.set_cons_succ]
              refine wpAnyH_take (i := 5) (oi := { dst := some 33, op := _, type := _, pos := _, after := _, guard := _ }) (v := .agg (mk 2 (two (r : Int) (c : Int)))) rfl (by kernel_rfl) (by kernel_rfl) (by kernel_rfl) (fun _ _ _ h => h) (Or.inl ⟨by rfl, by intro W hSw; clear hSw; have mt := mk_two (r : Int) (c : Int); go_simp⟩) (by assumption) ?_
              try simp only [Act.put, List.setIfInBounds_toArray, List.set_cons_zero, List.set_cons_succ]
              refine wpAnyH_ready (rs := [7]) (by kernel_rfl) (by simp) ?_
              refine AllReadyH.cons rfl (fun K hK => ?_) AllReadyH.nil
              go_simp
              refine (pick_any _ (w.heap.size + 1) _ 3 HC.out (by omega) (by omega) (by omega)).mono ?_
              rintro e x3 ⟨t, ht, rfl, hc2, ht2⟩
              have K2 := K2.turned ht2 (by have := HN.out; omega)
              have K4 := K4.turned ht2 (by have := HN.out; omega)
              have HC := Lib.hid hc2
              have HT := Lib.hid (HT.out.trans ht2)
              have HN : Hid (w.heap.size + 1 < b4 ∧ b4 < x3.heap.size) := ⟨HN.out.1, K4.lt⟩
              clear hc2 ht2
              clear hHeld
              go_wp2_with fail
              refine hK.out _ _ trivial (fun hHeld => ?_)
              clear hK K
              try simp only [Act.put, List.setIfInBounds_toArray, List.set_cons_zero, List.set_cons_succ]
              refine wpAnyH_ready (rs := [8]) (by kernel_rfl) (by simp) ?_
              refine AllReadyH.cons rfl (fun K hK => ?_) AllReadyH.nil
              go_simp
              refine (l2Put_any g (two (r : Int) (c : Int)) r c (t : Int) _ rfl rfl (by omega) (by omega)).mono ?_
              rintro e x4 ⟨rfl, hb⟩
              have K2 := K2.below hb K2.lt
              have K4 := K4.below hb K4.lt
              have HC := Lib.hid (HC.out.kept hb)
              have HT := Lib.hid (HT.out.trans (turned_lowS hb))
              have HN : Hid (w.heap.size + 1 < b4 ∧ b4 < x4.heap.size) := ⟨HN.out.1, K4.lt⟩
              clear hb
              generalize upd g (r * 4 + c) (t : Int) = g2 at *
              clear hHeld
              go_wp2_with fail
              refine hK.out _ _ trivial (fun hHeld => ?_)
              clear hK K
              try simp only [Act.put, List.setIfInBounds_toArray, List.set_cons_zero, List.set_cons_succ]
              refine wpAnyH_ready (rs := [9]) (by kernel_rfl) (by simp) ?_
              refine AllReadyH.cons rfl (fun K hK => ?_) AllReadyH.nil
              have st1 := run_store_blk (P := Try.prog) (g := g2) K4
              have ms1 : (mk 16 g2).size = 16 := mk_size 16 _
              go_simp
              clear st1 ms1
              have K2 := K2.rowOther b4 (mk 16 g2) (by have := HN.out; omega)
              have HT := Lib.hid (HT.out.rowNew (b := b4) (by have := HN.out; simp; omega) (mk 16 g2))
              have K4 := K4.row 16 g2
              generalize x4.setRow b4 (mk 16 g2) = v3 at *
              clear hHeld
              refine hK.out _ _ trivial (fun hHeld => ?_)
              clear hK K
              try simp only [Act.put, List.setIfInBounds_toArray, List.set_cons_zero, List.set_cons_succ]
              refine wpAnyH_done (by kernel_rfl) ?_ _
              clear hHeld
              go_wp2_with (first | ((with_reducible show wpList _ _ _ (Oper.mk _ (Op.load 35 _) _ _ _ _ :: _) _ _); refine loadB (K4) rfl rfl rfl ?_) | ((with_reducible show wpList _ _ _ (Oper.mk _ (Op.store 35 _ _) _ _ _ _ :: _) _ _); refine storeB (K2) rfl rfl rfl rfl ?_))
              refine retcB (p := 2) (t := 35) (b := w.heap.size) (f := g2) ?_ ?_ ?_ ?_ ?_
              · exact K2.row 16 g2
              · rfl
              · rfl
              · rfl
              · exact ⟨g2, rfl, below_setRow (below_two rfl HT.out) (Nat.le_refl _) (mk 16 g2)⟩
            refine AllReadyH.cons rfl (fun K hK => ?_) AllReadyH.nil
            go_simp
            refine (pick_any _ (w.heap.size + 1) _ 4 HC.out (by omega) (by omega) (by omega)).mono ?_
            rintro e x2 ⟨c, hc, rfl, hc2, ht2⟩
            have K2 := K2.turned ht2 (by have := HN.out; omega)
            have K4 := K4.turned ht2 (by have := HN.out; omega)
            have HC := Lib.hid hc2
            have HT := Lib.hid (HT.out.trans ht2)
            have HN : Hid (w.heap.size + 1 < b4 ∧ b4 < x2.heap.size) := ⟨HN.out.1, K4.lt⟩
            clear hc2 ht2
            clear hHeld
            go_wp2_with fail
            refine hK.out _ _ trivial (fun hHeld => ?_)
            clear hK K
            try simp only [Act.put, List.setIfInBounds_toArray, List.set_cons_zero, List.set_cons_succ]
            refine wpAnyH_take (i := 5) (oi := { dst := some 33, op := _, type := _, pos := _, after := _, guard := _ }) (v := .agg (mk 2 (two (r : Int) (c : Int)))) rfl (by kernel_rfl) (by kernel_rfl) (by kernel_rfl) (fun _ _ _ h => h) (Or.inl ⟨by rfl, by intro W hSw; clear hSw; have mt := mk_two (r : Int) (c : Int); go_simp⟩) (by assumption) ?_
            try simp only [Act.put, List.setIfInBounds_toArray, List.set_cons_zero, List.set_cons_succ]
            refine wpAnyH_ready (rs := [0, 7]) (by kernel_rfl) (by simp) ?_
            refine AllReadyH.cons rfl (fun K hK => ?_) ?_
            · rw [if_pos (by rfl)]
              refine wp_ldB9 K4 rfl rfl ?_
              clear hHeld
              refine hK.out _ _ trivial (fun hHeld => ?_)
              clear hK K
              try simp only [Act.put, List.setIfInBounds_toArray, List.set_cons_zero, List.set_cons_succ]
              refine wpAnyH_ready (rs := [7]) (by kernel_rfl) (by simp) ?_
              refine AllReadyH.cons rfl (fun K hK => ?_) AllReadyH.nil
              go_simp
              refine (pick_any _ (w.heap.size + 1) _ 3 HC.out (by omega) (by omega) (by omega)).mono ?_
              rintro e x3 ⟨t, ht, rfl, hc2, ht2⟩
              have K2 := K2.turned ht2 (by have := HN.out; omega)
              have K4 := K4.turned ht2 (by have := HN.out; omega)
              have HC := Lib.hid hc2
              have HT := Lib.hid (HT.out.trans ht2)
              have HN : Hid (w.heap.size + 1 < b4 ∧ b4 < x3.heap.size) := ⟨HN.out.1, K4.lt⟩
              clear hc2 ht2
              clear hHeld
              go_wp2_with fail
              refine hK.out _ _ trivial (fun hHeld => ?_)
              clear hK K
              try simp only [Act.put, List.setIfInBounds_toArray, List.set_cons_zero, List.set_cons_succ]
              refine wpAnyH_ready (rs := [8]) (by kernel_rfl) (by simp) ?_
              refine AllReadyH.cons rfl (fun K hK => ?_) AllReadyH.nil
              go_simp
              refine (l2Put_any g (two (r : Int) (c : Int)) r c (t : Int) _ rfl rfl (by omega) (by omega)).mono ?_
              rintro e x4 ⟨rfl, hb⟩
              have K2 := K2.below hb K2.lt
              have K4 := K4.below hb K4.lt
              have HC := Lib.hid (HC.out.kept hb)
              have HT := Lib.hid (HT.out.trans (turned_lowS hb))
              have HN : Hid (w.heap.size + 1 < b4 ∧ b4 < x4.heap.size) := ⟨HN.out.1, K4.lt⟩
              clear hb
              generalize upd g (r * 4 + c) (t : Int) = g2 at *
              clear hHeld
              go_wp2_with fail
              refine hK.out _ _ trivial (fun hHeld => ?_)
              clear hK K
              try simp only [Act.put, List.setIfInBounds_toArray, List.set_cons_zero, List.set_cons_succ]
              refine wpAnyH_ready (rs := [9]) (by kernel_rfl) (by simp) ?_
              refine AllReadyH.cons rfl (fun K hK => ?_) AllReadyH.nil
              have st1 := run_store_blk (P := Try.prog) (g := g2) K4
              have ms1 : (mk 16 g2).size = 16 := mk_size 16 _
              go_simp
              clear st1 ms1
              have K2 := K2.rowOther b4 (mk 16 g2) (by have := HN.out; omega)
              have HT := Lib.hid (HT.out.rowNew (b := b4) (by have := HN.out; simp; omega) (mk 16 g2))
              have K4 := K4.row 16 g2
              generalize x4.setRow b4 (mk 16 g2) = v3 at *
              clear hHeld
              refine hK.out _ _ trivial (fun hHeld => ?_)
              clear hK K
              try simp only [Act.put, List.setIfInBounds_toArray, List.set_cons_zero, List.set_cons_succ]
              refine wpAnyH_done (by kernel_rfl) ?_ _
              clear hHeld
              go_wp2_with (first | ((with_reducible show wpList _ _ _ (Oper.mk _ (Op.load 35 _) _ _ _ _ :: _) _ _); refine loadB (K4) rfl rfl rfl ?_) | ((with_reducible show wpList _ _ _ (Oper.mk _ (Op.store 35 _ _) _ _ _ _ :: _) _ _); refine storeB (K2) rfl rfl rfl rfl ?_))
              refine retcB (p := 2) (t := 35) (b := w.heap.size) (f := g2) ?_ ?_ ?_ ?_ ?_
              · exact K2.row 16 g2
              · rfl
              · rfl
              · rfl
              · exact ⟨g2, rfl, below_setRow (below_two rfl HT.out) (Nat.le_refl _) (mk 16 g2)⟩
            refine AllReadyH.cons rfl (fun K hK => ?_) AllReadyH.nil
            go_simp
            refine (pick_any _ (w.heap.size + 1) _ 3 HC.out (by omega) (by omega) (by omega)).mono ?_
            rintro e x3 ⟨t, ht, rfl, hc2, ht2⟩
            have K2 := K2.turned ht2 (by have := HN.out; omega)
            have K4 := K4.turned ht2 (by have := HN.out; omega)
            have HC := Lib.hid hc2
            have HT := Lib.hid (HT.out.trans ht2)
            have HN : Hid (w.heap.size + 1 < b4 ∧ b4 < x3.heap.size) := ⟨HN.out.1, K4.lt⟩
            clear hc2 ht2
            clear hHeld
            go_wp2_with fail
            refine hK.out _ _ trivial (fun hHeld => ?_)
            clear hK K
            try simp only [Act.put, List.setIfInBounds_toArray, List.set_cons_zero, List.set_cons_succ]
            refine wpAnyH_ready (rs := [0]) (by kernel_rfl) (by simp) ?_
            refine AllReadyH.cons rfl (fun K hK => ?_) AllReadyH.nil
            rw [if_pos (by rfl)]
            refine wp_ldB9 K4 rfl rfl ?_
            clear hHeld
            refine hK.out _ _ trivial (fun hHeld => ?_)
            clear hK K
            try simp only [Act.put, List.setIfInBounds_toArray, List.set_cons_zero, List.set_cons_succ]
            refine wpAnyH_ready (rs := [8]) (by kernel_rfl) (by simp) ?_
            refine AllReadyH.cons rfl (fun K hK => ?_) AllReadyH.nil
            go_simp
            refine (l2Put_any g (two (r : Int) (c : Int)) r c (t : Int) _ rfl rfl (by omega) (by omega)).mono ?_
            rintro e x4 ⟨rfl, hb⟩
            have K2 := K2.below hb K2.lt
            have K4 := K4.below hb K4.lt
            have HC := Lib.hid (HC.out.kept hb)
            have HT := Lib.hid (HT.out.trans (turned_lowS hb))
            have HN : Hid (w.heap.size + 1 < b4 ∧ b4 < x4.heap.size) := ⟨HN.out.1, K4.lt⟩
            clear hb
            generalize upd g (r * 4 + c) (t : Int) = g2 at *
            clear hHeld
            go_wp2_with fail
            refine hK.out _ _ trivial (fun hHeld => ?_)
            clear hK K
            try simp only [Act.put, List.setIfInBounds_toArray, List.set_cons_zero, List.set_cons_succ]
            refine wpAnyH_ready (rs := [9]) (by kernel_rfl) (by simp) ?_
            refine AllReadyH.cons rfl (fun K hK => ?_) AllReadyH.nil
            have st1 := run_store_blk (P := Try.prog) (g := g2) K4
            have ms1 : (mk 16 g2).size = 16 := mk_size 16 _
            go_simp
            clear st1 ms1
            have K2 := K2.rowOther b4 (mk 16 g2) (by have := HN.out; omega)
            have HT := Lib.hid (HT.out.rowNew (b := b4) (by have := HN.out; simp; omega) (mk 16 g2))
            have K4 := K4.row 16 g2
            generalize x4.setRow b4 (mk 16 g2) = v3 at *
            clear hHeld
            refine hK.out _ _ trivial (fun hHeld => ?_)
            clear hK K
            try simp only [Act.put, List.setIfInBounds_toArray, List.set_cons_zero, List.set_cons_succ]
            refine wpAnyH_done (by kernel_rfl) ?_ _
            clear hHeld
            go_wp2_with (first | ((with_reducible show wpList _ _ _ (Oper.mk _ (Op.load 35 _) _ _ _ _ :: _) _ _); refine loadB (K4) rfl rfl rfl ?_) | ((with_reducible show wpList _ _ _ (Oper.mk _ (Op.store 35 _ _) _ _ _ _ :: _) _ _); refine storeB (K2) rfl rfl rfl rfl ?_))
            refine retcB (p := 2) (t := 35) (b := w.heap.size) (f := g2) ?_ ?_ ?_ ?_ ?_
            · exact K2.row 16 g2
            · rfl
            · rfl
            · rfl
            · exact ⟨g2, rfl, below_setRow (below_two rfl HT.out) (Nat.le_refl _) (mk 16 g2)⟩
    refine AllReadyH.cons rfl (fun K hK => ?_) AllReadyH.nil
    rw [if_pos (by rfl)]
    refine wp_allocS rfl ?_
    have K5 := Blk.new x1 16 (fun _ => 0) 35
    have HN : Hid (w.heap.size + 1 < b4 ∧ b4 < (x1.alloc (.cells (mk 16 fun _ => 0) 35)).heap.size ∧ b4 < x1.heap.size) := ⟨HN.out.1, by simp; have := HN.out.2; omega, HN.out.2⟩
    have K2 := K2.alloc (.cells (mk 16 fun _ => 0) 35)
    have K4 := K4.alloc (.cells (mk 16 fun _ => 0) 35)
    have HC := Lib.hid (HC.out.alloc (.cells (mk 16 fun _ => 0) 35))
    have HT := Lib.hid (HT.out.alloc (.cells (mk 16 fun _ => 0) 35))
    generalize x1.alloc (.cells (mk 16 fun _ => 0) 35) = x2 at *
    generalize x1.heap.size = b5 at *
    clear hHeld
    refine hK.out _ _ K4 (fun hHeld => ?_)
    clear hK K
    try simp only [Act.put, List.setIfInBounds_toArray, List.set_cons_zero, List.set_cons_succ]
    refine wpAnyH_ready (rs := [3]) (by kernel_rfl) (by simp) ?_
    refine AllReadyH.cons rfl (fun K hK => ?_) AllReadyH.nil
    go_simp
    refine (specSbd_any f (k : Int) _).mono ?_
    rintro e x3 ⟨rfl, hb⟩
    have K2 := K2.below hb K2.lt
    have K4 := K4.below hb K4.lt
    have K5 := K5.below hb K5.lt
    have HC := Lib.hid (HC.out.kept hb)
    have HT := Lib.hid (HT.out.trans (turned_lowS hb))
    have HN : Hid (w.heap.size + 1 < b4 ∧ b4 < x3.heap.size ∧ b4 < b5) := ⟨HN.out.1, K4.lt, HN.out.2.2⟩
    clear hb
    generalize sbdR f (k : Int) = g at *
    generalize sbdO f (k : Int) = o at *
    clear hHeld
    go_wp2_with fail
    refine hK.out _ _ K4 (fun hHeld => ?_)
    clear hK K
    try simp only [Act.put, List.setIfInBounds_toArray, List.set_cons_zero, List.set_cons_succ]
    refine wpAnyH_take (i := 4) (oi := { dst := some 12, op := _, type := _, pos := _, after := _, guard := _ }) (v := .tuple #[.agg (mk 16 g), .bool o]) rfl (by kernel_rfl) (by kernel_rfl) (by kernel_rfl) (fun _ _ _ h => h) (Or.inl ⟨by rfl, by intro w hSw; clear hSw; go_simp; (try with_reducible rfl)⟩) (by assumption) ?_
    try simp only [Act.put, List.setIfInBounds_toArray, List.set_cons_zero, List.set_cons_succ]
    refine wpAnyH_take (i := 5) (oi := { dst := some 17, op := _, type := _, pos := _, after := _, guard := _ }) (v := .agg (mk 16 g)) rfl (by kernel_rfl) (by kernel_rfl) (by kernel_rfl) (fun _ _ _ h => h) (Or.inl ⟨by rfl, by intro w hSw; clear hSw; go_simp; (try with_reducible rfl)⟩) (by assumption) ?_
    try simp only [Act.put, List.setIfInBounds_toArray, List.set_cons_zero, List.set_cons_succ]
    refine wpAnyH_take (i := 6) (oi := { dst := some 18, op := _, type := _, pos := _, after := _, guard := _ }) (v := .bool o) rfl (by kernel_rfl) (by kernel_rfl) (by kernel_rfl) (fun _ _ _ h => h) (Or.inl ⟨by rfl, by intro w hSw; clear hSw; go_simp; (try with_reducible rfl)⟩) (by assumption) ?_
    try simp only [Act.put, List.setIfInBounds_toArray, List.set_cons_zero, List.set_cons_succ]
    refine wpAnyH_ready (rs := [8]) (by kernel_rfl) (by simp) ?_
    refine AllReadyH.cons rfl (fun K hK => ?_) AllReadyH.nil
    have st1 := run_store_blk (P := Try.prog) (g := g) K5
    have ms1 : (mk 16 g).size = 16 := mk_size 16 _
    go_simp
    clear st1 ms1
    have K2 := K2.rowOther b5 (mk 16 g) (by have := HN.out; omega)
    have K4 := K4.rowOther b5 (mk 16 g) (by have := HN.out; omega)
    have HC := Lib.hid (HC.out.rowNew (c := b5) (by have := HN.out; omega) (mk 16 g))
    have HT := Lib.hid (HT.out.rowNew (b := b5) (by have := HN.out; simp; omega) (mk 16 g))
    have K5 := K5.row 16 g
    generalize x3.setRow b5 (mk 16 g) = y9 at *
    clear hHeld
    refine hK.out _ _ K4 (fun hHeld => ?_)
    clear hK K
    try simp only [Act.put, List.setIfInBounds_toArray, List.set_cons_zero, List.set_cons_succ]
    refine wpAnyH_take (i := 9) (oi := { dst := some 6, op := _, type := _, pos := _, after := _, guard := _ }) (v := .bool o) rfl (by kernel_rfl) (by kernel_rfl) (by kernel_rfl) (fun _ _ _ h => h) (Or.inl ⟨by rfl, by intro w hSw; clear hSw; go_simp; (try with_reducible rfl)⟩) (by assumption) ?_
    try simp only [Act.put, List.setIfInBounds_toArray, List.set_cons_zero, List.set_cons_succ]
    refine wpAnyH_done (by kernel_rfl) ?_ _
    clear hHeld
    cases o with
    | false =>
      go_wp2_with (first | ((with_reducible show wpList _ _ _ (Oper.mk _ (Op.load 35 _) _ _ _ _ :: _) _ _); refine loadB (K4) rfl rfl rfl ?_) | ((with_reducible show wpList _ _ _ (Oper.mk _ (Op.store 35 _ _) _ _ _ _ :: _) _ _); refine storeB (K2) rfl rfl rfl rfl ?_))
      refine retcB (p := 2) (t := 35) (b := w.heap.size) (f := f) ?_ ?_ ?_ ?_ ?_
      · exact K2.row 16 f
      · rfl
      · rfl
      · rfl
      · exact ⟨f, rfl, below_setRow (below_two rfl HT.out) (Nat.le_refl _) (mk 16 f)⟩
    | true =>
      go_wp2_with fail
      refine (one_any _ (w.heap.size + 1) _ 3 HC.out (by omega) (by omega) (by omega)).mono ?_
      rintro e v1 ⟨b, rfl, hc2, ht2⟩
      have K2 := K2.turned ht2 (by have := HN.out; omega)
      have K4 := K4.turned ht2 (by have := HN.out; omega)
      have K5 := K5.turned ht2 (by have := HN.out; omega)
      have HC := Lib.hid hc2
      have HT := Lib.hid (HT.out.trans ht2)
      have HN : Hid (w.heap.size + 1 < b4 ∧ b4 < v1.heap.size ∧ b4 < b5) := ⟨HN.out.1, K4.lt, HN.out.2.2⟩
      clear hc2 ht2
      cases b with
      | true =>
        go_wp2_with (first | ((with_reducible show wpList _ _ _ (Oper.mk _ (Op.load 35 _) _ _ _ _ :: _) _ _); refine loadB (K4) rfl rfl rfl ?_) | ((with_reducible show wpList _ _ _ (Oper.mk _ (Op.store 35 _ _) _ _ _ _ :: _) _ _); refine storeB (K2) rfl rfl rfl rfl ?_))
        refine retcB (p := 2) (t := 35) (b := w.heap.size) (f := f) ?_ ?_ ?_ ?_ ?_
        · exact K2.row 16 f
        · rfl
        · rfl
        · rfl
        · exact ⟨f, rfl, below_setRow (below_two rfl HT.out) (Nat.le_refl _) (mk 16 f)⟩
      | false =>
        have K4f := K4.row 16 g
        go_wp2_with (first | ((with_reducible show wpList _ _ _ (Oper.mk _ (Op.load 35 _) _ _ _ _ :: _) _ _); refine loadB (K5) rfl rfl rfl ?_) | ((with_reducible show wpList _ _ _ (Oper.mk _ (Op.store 35 _ _) _ _ _ _ :: _) _ _); refine storeB (K4) rfl rfl rfl rfl ?_))
        have K2 := K2.rowOther b4 (mk 16 g) (by have := HN.out; omega)
        have HC := Lib.hid (HC.out.rowNew (c := b4) (by have := HN.out; omega) (mk 16 g))
        have HT := Lib.hid (HT.out.rowNew (b := b4) (by have := HN.out; simp; omega) (mk 16 g))
        have K4 := K4f
        have HN : Hid (w.heap.size + 1 < b4 ∧ b4 < (v1.setRow b4 (mk 16 g)).heap.size) := ⟨HN.out.1, K4.lt⟩
        clear K4f K5
        generalize v1.setRow b4 (mk 16 g) = v1b at *
        refine (one_any _ (w.heap.size + 1) _ 3 HC.out (by omega) (by omega) (by omega)).mono ?_
        rintro e v2 ⟨b, rfl, hc2, ht2⟩
        have K2 := K2.turned ht2 (by have := HN.out; omega)
        have K4 := K4.turned ht2 (by have := HN.out; omega)
        have HC := Lib.hid hc2
        have HT := Lib.hid (HT.out.trans ht2)
        have HN : Hid (w.heap.size + 1 < b4 ∧ b4 < v2.heap.size) := ⟨HN.out.1, K4.lt⟩
        clear hc2 ht2
        cases b with
        | false =>
          go_wp2_with (first | ((with_reducible show wpList _ _ _ (Oper.mk _ (Op.load 35 _) _ _ _ _ :: _) _ _); refine loadB (K4) rfl rfl rfl ?_) | ((with_reducible show wpList _ _ _ (Oper.mk _ (Op.store 35 _ _) _ _ _ _ :: _) _ _); refine storeB (K2) rfl rfl rfl rfl ?_))
          refine retcB (p := 2) (t := 35) (b := w.heap.size) (f := g) ?_ ?_ ?_ ?_ ?_
          · exact K2.row 16 g
          · rfl
          · rfl
          · rfl
          · exact ⟨g, rfl, below_setRow (below_two rfl HT.out) (Nat.le_refl _) (mk 16 g)⟩
        | true =>
          go_upto_region 7 with fail
          refine wp_region_held_drew (S := fun W => True) (by kernel_rfl) (trivial) (fun hHeld => ?_)
          have K2 := K2.drew
          have K4 := K4.drew
          have HC := Lib.hid HC.out.drew
          have HT := Lib.hid (HT.out.draws 1)
          have HN := Lib.hid HN.out
          have hdr : v2.drewN 1 = v2.drew := rfl
          rw [hdr] at HT
          clear hdr
          have HN : Hid (w.heap.size + 1 < b4 ∧ b4 < v2.drew.heap.size) := ⟨HN.out.1, K4.lt⟩
          generalize v2.drew = x0 at *
          refine wpAnyH_take (i := 1) (oi := { dst := some 29, op := _, type := _, pos := _, after := _, guard := _ }) (v := .pointer (some ⟨w.heap.size + 1, 0, none⟩)) rfl (by kernel_rfl) (by kernel_rfl) (by kernel_rfl) (fun _ _ _ h => h) (Or.inl ⟨by rfl, by intro w hSw; clear hSw; go_simp; (try with_reducible rfl)⟩) (by assumption) ?_
          try simp only [Act.put, List.setIfInBounds_toArray, List.set_cons_zero, List.set_cons_succ]
          refine wpAnyH_take (i := 3) (oi := { dst := some 31, op := _, type := _, pos := _, after := _, guard := _ }) (v := .pointer (some ⟨w.heap.size + 1, 0, none⟩)) rfl (by kernel_rfl) (by kernel_rfl) (by kernel_rfl) (fun _ _ _ h => h) (Or.inl ⟨by rfl, by intro w hSw; clear hSw; go_simp; (try with_reducible rfl)⟩) (by assumption) ?_
          try simp only [Act.put, List.setIfInBounds_toArray, List.set_cons_zero, List.set_cons_succ]
          refine wpAnyH_take (i := 6) (oi := { dst := some 34, op := _, type := _, pos := _, after := _, guard := _ }) (v := .pointer (some ⟨w.heap.size + 1, 0, none⟩)) rfl (by kernel_rfl) (by kernel_rfl) (by kernel_rfl) (fun _ _ _ h => h) (Or.inl ⟨by rfl, by intro w hSw; clear hSw; go_simp; (try with_reducible rfl)⟩) (by assumption) ?_
          try simp only [Act.put, List.setIfInBounds_toArray, List.set_cons_zero, List.set_cons_succ]
          refine wpAnyH_ready (rs := [0, 2]) (by kernel_rfl) (by simp) ?_
          refine AllReadyH.cons rfl (fun K hK => ?_) ?_
          · rw [if_pos (by rfl)]
            refine wp_ldB9 K4 rfl rfl ?_
            clear hHeld
            refine hK.out _ _ trivial (fun hHeld => ?_)
            clear hK K
            try simp only [Act.put, List.setIfInBounds_toArray, List.set_cons_zero, List.set_cons_succ]
            refine wpAnyH_ready (rs := [2]) (by kernel_rfl) (by simp) ?_
            refine AllReadyH.cons rfl (fun K hK => ?_) AllReadyH.nil
            go_simp
            refine (pick_any _ (w.heap.size + 1) _ 4 HC.out (by omega) (by omega) (by omega)).mono ?_
            rintro e x1 ⟨r, hr, rfl, hc2, ht2⟩
            have K2 := K2.turned ht2 (by have := HN.out; omega)
            have K4 := K4.turned ht2 (by have := HN.out; omega)
            have HC := Lib.hid hc2
            have HT := Lib.hid (HT.out.trans ht2)
            have HN : Hid (w.heap.size + 1 < b4 ∧ b4 < x1.heap.size) := ⟨HN.out.1, K4.lt⟩
            clear hc2 ht2
            clear hHeld
            go_wp2_with fail
            refine hK.out _ _ trivial (fun hHeld => ?_)
            clear hK K
            try simp only [Act.put, List.setIfInBounds_toArray, List.set_cons_zero, List.set_cons_succ]
            refine wpAnyH_ready (rs := [4]) (by kernel_rfl) (by simp) ?_
            refine AllReadyH.cons rfl (fun K hK => ?_) AllReadyH.nil
            go_simp
            refine (pick_any _ (w.heap.size + 1) _ 4 HC.out (by omega) (by omega) (by omega)).mono ?_
            rintro e x2 ⟨c, hc, rfl, hc2, ht2⟩
            have K2 := K2.turned ht2 (by have := HN.out; omega)
            have K4 := K4.turned ht2 (by have := HN.out; omega)
            have HC := Lib.hid hc2
            have HT := Lib.hid (HT.out.trans ht2)
            have HN : Hid (w.heap.size + 1 < b4 ∧ b4 < x2.heap.size) := ⟨HN.out.1, K4.lt⟩
            clear hc2 ht2
            clear hHeld
            go_wp2_with fail
            refine hK.out _ _ trivial (fun hHeld => ?_)
            clear hK K
            try simp only [Act.put, List.setIfInBounds_toArray, List.set_cons_zero, List.set_cons_succ]
            refine wpAnyH_take (i := 5) (oi := { dst := some 33, op := _, type := _, pos := _, after := _, guard := _ }) (v := .agg (mk 2 (two (r : Int) (c : Int)))) rfl (by kernel_rfl) (by kernel_rfl) (by kernel_rfl) (fun _ _ _ h => h) (Or.inl ⟨by rfl, by intro W hSw; clear hSw; have mt := mk_two (r : Int) (c : Int); go_simp⟩) (by assumption) ?_
            try simp only [Act.put, List.setIfInBounds_toArray, List.set_cons_zero, List.set_cons_succ]
            refine wpAnyH_ready (rs := [7]) (by kernel_rfl) (by simp) ?_
            refine AllReadyH.cons rfl (fun K hK => ?_) AllReadyH.nil
            go_simp
            refine (pick_any _ (w.heap.size + 1) _ 3 HC.out (by omega) (by omega) (by omega)).mono ?_
            rintro e x3 ⟨t, ht, rfl, hc2, ht2⟩
            have K2 := K2.turned ht2 (by have := HN.out; omega)
            have K4 := K4.turned ht2 (by have := HN.out; omega)
            have HC := Lib.hid hc2
            have HT := Lib.hid (HT.out.trans ht2)
            have HN : Hid (w.heap.size + 1 < b4 ∧ b4 < x3.heap.size) := ⟨HN.out.1, K4.lt⟩
            clear hc2 ht2
            clear hHeld
            go_wp2_with fail
            refine hK.out _ _ trivial (fun hHeld => ?_)
            clear hK K
            try simp only [Act.put, List.setIfInBounds_toArray, List.set_cons_zero, List.set_cons_succ]
            refine wpAnyH_ready (rs := [8]) (by kernel_rfl) (by simp) ?_
            refine AllReadyH.cons rfl (fun K hK => ?_) AllReadyH.nil
            go_simp
            refine (l2Put_any g (two (r : Int) (c : Int)) r c (t : Int) _ rfl rfl (by omega) (by omega)).mono ?_
            rintro e x4 ⟨rfl, hb⟩
            have K2 := K2.below hb K2.lt
            have K4 := K4.below hb K4.lt
            have HC := Lib.hid (HC.out.kept hb)
            have HT := Lib.hid (HT.out.trans (turned_lowS hb))
            have HN : Hid (w.heap.size + 1 < b4 ∧ b4 < x4.heap.size) := ⟨HN.out.1, K4.lt⟩
            clear hb
            generalize upd g (r * 4 + c) (t : Int) = g2 at *
            clear hHeld
            go_wp2_with fail
            refine hK.out _ _ trivial (fun hHeld => ?_)
            clear hK K
            try simp only [Act.put, List.setIfInBounds_toArray, List.set_cons_zero, List.set_cons_succ]
            refine wpAnyH_ready (rs := [9]) (by kernel_rfl) (by simp) ?_
            refine AllReadyH.cons rfl (fun K hK => ?_) AllReadyH.nil
            have st1 := run_store_blk (P := Try.prog) (g := g2) K4
            have ms1 : (mk 16 g2).size = 16 := mk_size 16 _
            go_simp
            clear st1 ms1
            have K2 := K2.rowOther b4 (mk 16 g2) (by have := HN.out; omega)
            have HT := Lib.hid (HT.out.rowNew (b := b4) (by have := HN.out; simp; omega) (mk 16 g2))
            have K4 := K4.row 16 g2
            generalize x4.setRow b4 (mk 16 g2) = v3 at *
            clear hHeld
            refine hK.out _ _ trivial (fun hHeld => ?_)
            clear hK K
            try simp only [Act.put, List.setIfInBounds_toArray, List.set_cons_zero, List.set_cons_succ]
            refine wpAnyH_done (by kernel_rfl) ?_ _
            clear hHeld
            go_wp2_with (first | ((with_reducible show wpList _ _ _ (Oper.mk _ (Op.load 35 _) _ _ _ _ :: _) _ _); refine loadB (K4) rfl rfl rfl ?_) | ((with_reducible show wpList _ _ _ (Oper.mk _ (Op.store 35 _ _) _ _ _ _ :: _) _ _); refine storeB (K2) rfl rfl rfl rfl ?_))
            refine retcB (p := 2) (t := 35) (b := w.heap.size) (f := g2) ?_ ?_ ?_ ?_ ?_
            · exact K2.row 16 g2
            · rfl
            · rfl
            · rfl
            · exact ⟨g2, rfl, below_setRow (below_two rfl HT.out) (Nat.le_refl _) (mk 16 g2)⟩
          refine AllReadyH.cons rfl (fun K hK => ?_) AllReadyH.nil
          go_simp
          refine (pick_any _ (w.heap.size + 1) _ 4 HC.out (by omega) (by omega) (by omega)).mono ?_
          rintro e x1 ⟨r, hr, rfl, hc2, ht2⟩
          have K2 := K2.turned ht2 (by have := HN.out; omega)
          have K4 := K4.turned ht2 (by have := HN.out; omega)
          have HC := Lib.hid hc2
          have HT := Lib.hid (HT.out.trans ht2)
          have HN : Hid (w.heap.size + 1 < b4 ∧ b4 < x1.heap.size) := ⟨HN.out.1, K4.lt⟩
          clear hc2 ht2
          clear hHeld
          go_wp2_with fail
          refine hK.out _ _ trivial (fun hHeld => ?_)
          clear hK K
          try simp only [Act.put, List.setIfInBounds_toArray, List.set_cons_zero, List.set_cons_succ]
          refine wpAnyH_ready (rs := [0, 4]) (by kernel_rfl) (by simp) ?_
          refine AllReadyH.cons rfl (fun K hK => ?_) ?_
          · rw [if_pos (by rfl)]
            refine wp_ldB9 K4 rfl rfl ?_
            clear hHeld
            refine hK.out _ _ trivial (fun hHeld => ?_)
            clear hK K
            try simp only [Act.put, List.setIfInBounds_toArray, List.set_cons_zero, List.set_cons_succ]
            refine wpAnyH_ready (rs := [4]) (by kernel_rfl) (by simp) ?_
            refine AllReadyH.cons rfl (fun K hK => ?_) AllReadyH.nil
            go_simp
            refine (pick_any _ (w.heap.size + 1) _ 4 HC.out (by omega) (by omega) (by omega)).mono ?_
            rintro e x2 ⟨c, hc, rfl, hc2, ht2⟩
            have K2 := K2.turned ht2 (by have := HN.out; omega)
            have K4 := K4.turned ht2 (by have := HN.out; omega)
            have HC := Lib.hid hc2
            have HT := Lib.hid (HT.out.trans ht2)
            have HN : Hid (w.heap.size + 1 < b4 ∧ b4 < x2.heap.size) := ⟨HN.out.1, K4.lt⟩
            clear hc2 ht2
            clear hHeld
            go_wp2_with fail
            refine hK.out _ _ trivial (fun hHeld => ?_)
            clear hK K
            try simp only [Act.put, List.setIfInBounds_toArray, List.set_cons_zero, List.set_cons_succ]
            refine wpAnyH_take (i := 5) (oi := { dst := some 33, op := _, type := _, pos := _, after := _, guard := _ }) (v := .agg (mk 2 (two (r : Int) (c : Int)))) rfl (by kernel_rfl) (by kernel_rfl) (by kernel_rfl) (fun _ _ _ h => h) (Or.inl ⟨by rfl, by intro W hSw; clear hSw; have mt := mk_two (r : Int) (c : Int); go_simp⟩) (by assumption) ?_
            try simp only [Act.put, List.setIfInBounds_toArray, List.set_cons_zero, List.set_cons_succ]
            refine wpAnyH_ready (rs := [7]) (by kernel_rfl) (by simp) ?_
            refine AllReadyH.cons rfl (fun K hK => ?_) AllReadyH.nil
            go_simp
            refine (pick_any _ (w.heap.size + 1) _ 3 HC.out (by omega) (by omega) (by omega)).mono ?_
            rintro e x3 ⟨t, ht, rfl, hc2, ht2⟩
            have K2 := K2.turned ht2 (by have := HN.out; omega)
            have K4 := K4.turned ht2 (by have := HN.out; omega)
            have HC := Lib.hid hc2
            have HT := Lib.hid (HT.out.trans ht2)
            have HN : Hid (w.heap.size + 1 < b4 ∧ b4 < x3.heap.size) := ⟨HN.out.1, K4.lt⟩
            clear hc2 ht2
            clear hHeld
            go_wp2_with fail
            refine hK.out _ _ trivial (fun hHeld => ?_)
            clear hK K
            try simp only [Act.put, List.setIfInBounds_toArray, List.set_cons_zero, List.set_cons_succ]
            refine wpAnyH_ready (rs := [8]) (by kernel_rfl) (by simp) ?_
            refine AllReadyH.cons rfl (fun K hK => ?_) AllReadyH.nil
            go_simp
            refine (l2Put_any g (two (r : Int) (c : Int)) r c (t : Int) _ rfl rfl (by omega) (by omega)).mono ?_
            rintro e x4 ⟨rfl, hb⟩
            have K2 := K2.below hb K2.lt
            have K4 := K4.below hb K4.lt
            have HC := Lib.hid (HC.out.kept hb)
            have HT := Lib.hid (HT.out.trans (turned_lowS hb))
            have HN : Hid (w.heap.size + 1 < b4 ∧ b4 < x4.heap.size) := ⟨HN.out.1, K4.lt⟩
            clear hb
            generalize upd g (r * 4 + c) (t : Int) = g2 at *
            clear hHeld
            go_wp2_with fail
            refine hK.out _ _ trivial (fun hHeld => ?_)
            clear hK K
            try simp only [Act.put, List.setIfInBounds_toArray, List.set_cons_zero, List.set_cons_succ]
            refine wpAnyH_ready (rs := [9]) (by kernel_rfl) (by simp) ?_
            refine AllReadyH.cons rfl (fun K hK => ?_) AllReadyH.nil
            have st1 := run_store_blk (P := Try.prog) (g := g2) K4
            have ms1 : (mk 16 g2).size = 16 := mk_size 16 _
            go_simp
            clear st1 ms1
            have K2 := K2.rowOther b4 (mk 16 g2) (by have := HN.out; omega)
            have HT := Lib.hid (HT.out.rowNew (b := b4) (by have := HN.out; simp; omega) (mk 16 g2))
            have K4 := K4.row 16 g2
            generalize x4.setRow b4 (mk 16 g2) = v3 at *
            clear hHeld
            refine hK.out _ _ trivial (fun hHeld => ?_)
            clear hK K
            try simp only [Act.put, List.setIfInBounds_toArray, List.set_cons_zero, List.set_cons_succ]
            refine wpAnyH_done (by kernel_rfl) ?_ _
            clear hHeld
            go_wp2_with (first | ((with_reducible show wpList _ _ _ (Oper.mk _ (Op.load 35 _) _ _ _ _ :: _) _ _); refine loadB (K4) rfl rfl rfl ?_) | ((with_reducible show wpList _ _ _ (Oper.mk _ (Op.store 35 _ _) _ _ _ _ :: _) _ _); refine storeB (K2) rfl rfl rfl rfl ?_))
            refine retcB (p := 2) (t := 35) (b := w.heap.size) (f := g2) ?_ ?_ ?_ ?_ ?_
            · exact K2.row 16 g2
            · rfl
            · rfl
            · rfl
            · exact ⟨g2, rfl, below_setRow (below_two rfl HT.out) (Nat.le_refl _) (mk 16 g2)⟩
          refine AllReadyH.cons rfl (fun K hK => ?_) AllReadyH.nil
          go_simp
          refine (pick_any _ (w.heap.size + 1) _ 4 HC.out (by omega) (by omega) (by omega)).mono ?_
          rintro e x2 ⟨c, hc, rfl, hc2, ht2⟩
          have K2 := K2.turned ht2 (by have := HN.out; omega)
          have K4 := K4.turned ht2 (by have := HN.out; omega)
          have HC := Lib.hid hc2
          have HT := Lib.hid (HT.out.trans ht2)
          have HN : Hid (w.heap.size + 1 < b4 ∧ b4 < x2.heap.size) := ⟨HN.out.1, K4.lt⟩
          clear hc2 ht2
          clear hHeld
          go_wp2_with fail
          refine hK.out _ _ trivial (fun hHeld => ?_)
          clear hK K
          try simp only [Act.put, List.setIfInBounds_toArray, List.set_cons_zero, List.set_cons_succ]
          refine wpAnyH_take (i := 5) (oi := { dst := some 33, op := _, type := _, pos := _, after := _, guard := _ }) (v := .agg (mk 2 (two (r : Int) (c : Int)))) rfl (by kernel_rfl) (by kernel_rfl) (by kernel_rfl) (fun _ _ _ h => h) (Or.inl ⟨by rfl, by intro W hSw; clear hSw; have mt := mk_two (r : Int) (c : Int); go_simp⟩) (by assumption) ?_
          try simp only [Act.put, List.setIfInBounds_toArray, List.set_cons_zero, List.set_cons_succ]
          refine wpAnyH_ready (rs := [0, 7]) (by kernel_rfl) (by simp) ?_
          refine AllReadyH.cons rfl (fun K hK => ?_) ?_
          · rw [if_pos (by rfl)]
            refine wp_ldB9 K4 rfl rfl ?_
            clear hHeld
            refine hK.out _ _ trivial (fun hHeld => ?_)
            clear hK K
            try simp only [Act.put, List.setIfInBounds_toArray, List.set_cons_zero, List.set_cons_succ]
            refine wpAnyH_ready (rs := [7]) (by kernel_rfl) (by simp) ?_
            refine AllReadyH.cons rfl (fun K hK => ?_) AllReadyH.nil
            go_simp
            refine (pick_any _ (w.heap.size + 1) _ 3 HC.out (by omega) (by omega) (by omega)).mono ?_
            rintro e x3 ⟨t, ht, rfl, hc2, ht2⟩
            have K2 := K2.turned ht2 (by have := HN.out; omega)
            have K4 := K4.turned ht2 (by have := HN.out; omega)
            have HC := Lib.hid hc2
            have HT := Lib.hid (HT.out.trans ht2)
            have HN : Hid (w.heap.size + 1 < b4 ∧ b4 < x3.heap.size) := ⟨HN.out.1, K4.lt⟩
            clear hc2 ht2
            clear hHeld
            go_wp2_with fail
            refine hK.out _ _ trivial (fun hHeld => ?_)
            clear hK K
            try simp only [Act.put, List.setIfInBounds_toArray, List.set_cons_zero, List.set_cons_succ]
            refine wpAnyH_ready (rs := [8]) (by kernel_rfl) (by simp) ?_
            refine AllReadyH.cons rfl (fun K hK => ?_) AllReadyH.nil
            go_simp
            refine (l2Put_any g (two (r : Int) (c : Int)) r c (t : Int) _ rfl rfl (by omega) (by omega)).mono ?_
            rintro e x4 ⟨rfl, hb⟩
            have K2 := K2.below hb K2.lt
            have K4 := K4.below hb K4.lt
            have HC := Lib.hid (HC.out.kept hb)
            have HT := Lib.hid (HT.out.trans (turned_lowS hb))
            have HN : Hid (w.heap.size + 1 < b4 ∧ b4 < x4.heap.size) := ⟨HN.out.1, K4.lt⟩
            clear hb
            generalize upd g (r * 4 + c) (t : Int) = g2 at *
            clear hHeld
            go_wp2_with fail
            refine hK.out _ _ trivial (fun hHeld => ?_)
            clear hK K
            try simp only [Act.put, List.setIfInBounds_toArray, List.set_cons_zero, List.set_cons_succ]
            refine wpAnyH_ready (rs := [9]) (by kernel_rfl) (by simp) ?_
            refine AllReadyH.cons rfl (fun K hK => ?_) AllReadyH.nil
            have st1 := run_store_blk (P := Try.prog) (g := g2) K4
            have ms1 : (mk 16 g2).size = 16 := mk_size 16 _
            go_simp
            clear st1 ms1
            have K2 := K2.rowOther b4 (mk 16 g2) (by have := HN.out; omega)
            have HT := Lib.hid (HT.out.rowNew (b := b4) (by have := HN.out; simp; omega) (mk 16 g2))
            have K4 := K4.row 16 g2
            generalize x4.setRow b4 (mk 16 g2) = v3 at *
            clear hHeld
            refine hK.out _ _ trivial (fun hHeld => ?_)
            clear hK K
            try simp only [Act.put, List.setIfInBounds_toArray, List.set_cons_zero, List.set_cons_succ]
            refine wpAnyH_done (by kernel_rfl) ?_ _
            clear hHeld
            go_wp2_with (first | ((with_reducible show wpList _ _ _ (Oper.mk _ (Op.load 35 _) _ _ _ _ :: _) _ _); refine loadB (K4) rfl rfl rfl ?_) | ((with_reducible show wpList _ _ _ (Oper.mk _ (Op.store 35 _ _) _ _ _ _ :: _) _ _); refine storeB (K2) rfl rfl rfl rfl ?_))
            refine retcB (p := 2) (t := 35) (b := w.heap.size) (f := g2) ?_ ?_ ?_ ?_ ?_
            · exact K2.row 16 g2
            · rfl
            · rfl
            · rfl
            · exact ⟨g2, rfl, below_setRow (below_two rfl HT.out) (Nat.le_refl _) (mk 16 g2)⟩
          refine AllReadyH.cons rfl (fun K hK => ?_) AllReadyH.nil
          go_simp
          refine (pick_any _ (w.heap.size + 1) _ 3 HC.out (by omega) (by omega) (by omega)).mono ?_
          rintro e x3 ⟨t, ht, rfl, hc2, ht2⟩
          have K2 := K2.turned ht2 (by have := HN.out; omega)
          have K4 := K4.turned ht2 (by have := HN.out; omega)
          have HC := Lib.hid hc2
          have HT := Lib.hid (HT.out.trans ht2)
          have HN : Hid (w.heap.size + 1 < b4 ∧ b4 < x3.heap.size) := ⟨HN.out.1, K4.lt⟩
          clear hc2 ht2
          clear hHeld
          go_wp2_with fail
          refine hK.out _ _ trivial (fun hHeld => ?_)
          clear hK K
          try simp only [Act.put, List.setIfInBounds_toArray, List.set_cons_zero, List.set_cons_succ]
          refine wpAnyH_ready (rs := [0]) (by kernel_rfl) (by simp) ?_
          refine AllReadyH.cons rfl (fun K hK => ?_) AllReadyH.nil
          rw [if_pos (by rfl)]
          refine wp_ldB9 K4 rfl rfl ?_
          clear hHeld
          refine hK.out _ _ trivial (fun hHeld => ?_)
          clear hK K
          try simp only [Act.put, List.setIfInBounds_toArray, List.set_cons_zero, List.set_cons_succ]
          refine wpAnyH_ready (rs := [8]) (by kernel_rfl) (by simp) ?_
          refine AllReadyH.cons rfl (fun K hK => ?_) AllReadyH.nil
          go_simp
          refine (l2Put_any g (two (r : Int) (c : Int)) r c (t : Int) _ rfl rfl (by omega) (by omega)).mono ?_
          rintro e x4 ⟨rfl, hb⟩
          have K2 := K2.below hb K2.lt
          have K4 := K4.below hb K4.lt
          have HC := Lib.hid (HC.out.kept hb)
          have HT := Lib.hid (HT.out.trans (turned_lowS hb))
          have HN : Hid (w.heap.size + 1 < b4 ∧ b4 < x4.heap.size) := ⟨HN.out.1, K4.lt⟩
          clear hb
          generalize upd g (r * 4 + c) (t : Int) = g2 at *
          clear hHeld
          go_wp2_with fail
          refine hK.out _ _ trivial (fun hHeld => ?_)
          clear hK K
          try simp only [Act.put, List.setIfInBounds_toArray, List.set_cons_zero, List.set_cons_succ]
          refine wpAnyH_ready (rs := [9]) (by kernel_rfl) (by simp) ?_
          refine AllReadyH.cons rfl (fun K hK => ?_) AllReadyH.nil
          have st1 := run_store_blk (P := Try.prog) (g := g2) K4
          have ms1 : (mk 16 g2).size = 16 := mk_size 16 _
          go_simp
          clear st1 ms1
          have K2 := K2.rowOther b4 (mk 16 g2) (by have := HN.out; omega)
          have HT := Lib.hid (HT.out.rowNew (b := b4) (by have := HN.out; simp; omega) (mk 16 g2))
          have K4 := K4.row 16 g2
          generalize x4.setRow b4 (mk 16 g2) = v3 at *
          clear hHeld
          refine hK.out _ _ trivial (fun hHeld => ?_)
          clear hK K
          try simp only [Act.put, List.setIfInBounds_toArray, List.set_cons_zero, List.set_cons_succ]
          refine wpAnyH_done (by kernel_rfl) ?_ _
          clear hHeld
          go_wp2_with (first | ((with_reducible show wpList _ _ _ (Oper.mk _ (Op.load 35 _) _ _ _ _ :: _) _ _); refine loadB (K4) rfl rfl rfl ?_) | ((with_reducible show wpList _ _ _ (Oper.mk _ (Op.store 35 _ _) _ _ _ _ :: _) _ _); refine storeB (K2) rfl rfl rfl rfl ?_))
          refine retcB (p := 2) (t := 35) (b := w.heap.size) (f := g2) ?_ ?_ ?_ ?_ ?_
          · exact K2.row 16 g2
          · rfl
          · rfl
          · rfl
          · exact ⟨g2, rfl, below_setRow (below_two rfl HT.out) (Nat.le_refl _) (mk 16 g2)⟩
  refine AllReadyH.cons rfl (fun K hK => ?_) AllReadyH.nil
  rw [if_pos (by rfl)]
  refine wp_allocS rfl ?_
  have K5 := Blk.new x0 16 (fun _ => 0) 35
  have HN : Hid (w.heap.size + 1 < b4 ∧ b4 < (x0.alloc (.cells (mk 16 fun _ => 0) 35)).heap.size ∧ b4 < x0.heap.size) := ⟨HN.out.1, by simp; have := HN.out.2; omega, HN.out.2⟩
  have K2 := K2.alloc (.cells (mk 16 fun _ => 0) 35)
  have K4 := K4.alloc (.cells (mk 16 fun _ => 0) 35)
  have HC := Lib.hid (HC.out.alloc (.cells (mk 16 fun _ => 0) 35))
  have HT := Lib.hid (HT.out.alloc (.cells (mk 16 fun _ => 0) 35))
  generalize x0.alloc (.cells (mk 16 fun _ => 0) 35) = x1 at *
  generalize x0.heap.size = b5 at *
  clear hHeld
  refine hK.out _ _ K4 (fun hHeld => ?_)
  clear hK K
  try simp only [Act.put, List.setIfInBounds_toArray, List.set_cons_zero, List.set_cons_succ]
  refine wpAnyH_ready (rs := [2]) (by kernel_rfl) (by simp) ?_
  refine AllReadyH.cons rfl (fun K hK => ?_) AllReadyH.nil
  go_simp
  refine (pick_any _ (w.heap.size + 1) _ 8 HC.out (by omega) (by omega) (by omega)).mono ?_
  rintro e x2 ⟨k, hk, rfl, hc2, ht2⟩
  have K2 := K2.turned ht2 (by have := HN.out; omega)
  have K4 := K4.turned ht2 (by have := HN.out; omega)
  have K5 := K5.turned ht2 (by have := HN.out; omega)
  have HC := Lib.hid hc2
  have HT := Lib.hid (HT.out.trans ht2)
  have HN : Hid (w.heap.size + 1 < b4 ∧ b4 < x2.heap.size ∧ b4 < b5) := ⟨HN.out.1, K4.lt, HN.out.2.2⟩
  clear hc2 ht2
  clear hHeld
  go_wp2_with fail
  refine hK.out _ _ K4 (fun hHeld => ?_)
  clear hK K
  try simp only [Act.put, List.setIfInBounds_toArray, List.set_cons_zero, List.set_cons_succ]
  refine wpAnyH_ready (rs := [3]) (by kernel_rfl) (by simp) ?_
  refine AllReadyH.cons rfl (fun K hK => ?_) AllReadyH.nil
  go_simp
  refine (specSbd_any f (k : Int) _).mono ?_
  rintro e x3 ⟨rfl, hb⟩
  have K2 := K2.below hb K2.lt
  have K4 := K4.below hb K4.lt
  have K5 := K5.below hb K5.lt
  have HC := Lib.hid (HC.out.kept hb)
  have HT := Lib.hid (HT.out.trans (turned_lowS hb))
  have HN : Hid (w.heap.size + 1 < b4 ∧ b4 < x3.heap.size ∧ b4 < b5) := ⟨HN.out.1, K4.lt, HN.out.2.2⟩
  clear hb
  generalize sbdR f (k : Int) = g at *
  generalize sbdO f (k : Int) = o at *
  clear hHeld
  go_wp2_with fail
  refine hK.out _ _ K4 (fun hHeld => ?_)
  clear hK K
  try simp only [Act.put, List.setIfInBounds_toArray, List.set_cons_zero, List.set_cons_succ]
  refine wpAnyH_take (i := 4) (oi := { dst := some 12, op := _, type := _, pos := _, after := _, guard := _ }) (v := .tuple #[.agg (mk 16 g), .bool o]) rfl (by kernel_rfl) (by kernel_rfl) (by kernel_rfl) (fun _ _ _ h => h) (Or.inl ⟨by rfl, by intro w hSw; clear hSw; go_simp; (try with_reducible rfl)⟩) (by assumption) ?_
  try simp only [Act.put, List.setIfInBounds_toArray, List.set_cons_zero, List.set_cons_succ]
  refine wpAnyH_take (i := 5) (oi := { dst := some 17, op := _, type := _, pos := _, after := _, guard := _ }) (v := .agg (mk 16 g)) rfl (by kernel_rfl) (by kernel_rfl) (by kernel_rfl) (fun _ _ _ h => h) (Or.inl ⟨by rfl, by intro w hSw; clear hSw; go_simp; (try with_reducible rfl)⟩) (by assumption) ?_
  try simp only [Act.put, List.setIfInBounds_toArray, List.set_cons_zero, List.set_cons_succ]
  refine wpAnyH_take (i := 6) (oi := { dst := some 18, op := _, type := _, pos := _, after := _, guard := _ }) (v := .bool o) rfl (by kernel_rfl) (by kernel_rfl) (by kernel_rfl) (fun _ _ _ h => h) (Or.inl ⟨by rfl, by intro w hSw; clear hSw; go_simp; (try with_reducible rfl)⟩) (by assumption) ?_
  try simp only [Act.put, List.setIfInBounds_toArray, List.set_cons_zero, List.set_cons_succ]
  refine wpAnyH_ready (rs := [8]) (by kernel_rfl) (by simp) ?_
  refine AllReadyH.cons rfl (fun K hK => ?_) AllReadyH.nil
  have st1 := run_store_blk (P := Try.prog) (g := g) K5
  have ms1 : (mk 16 g).size = 16 := mk_size 16 _
  go_simp
  clear st1 ms1
  have K2 := K2.rowOther b5 (mk 16 g) (by have := HN.out; omega)
  have K4 := K4.rowOther b5 (mk 16 g) (by have := HN.out; omega)
  have HC := Lib.hid (HC.out.rowNew (c := b5) (by have := HN.out; omega) (mk 16 g))
  have HT := Lib.hid (HT.out.rowNew (b := b5) (by have := HN.out; simp; omega) (mk 16 g))
  have K5 := K5.row 16 g
  generalize x3.setRow b5 (mk 16 g) = y9 at *
  clear hHeld
  refine hK.out _ _ K4 (fun hHeld => ?_)
  clear hK K
  try simp only [Act.put, List.setIfInBounds_toArray, List.set_cons_zero, List.set_cons_succ]
  refine wpAnyH_take (i := 9) (oi := { dst := some 6, op := _, type := _, pos := _, after := _, guard := _ }) (v := .bool o) rfl (by kernel_rfl) (by kernel_rfl) (by kernel_rfl) (fun _ _ _ h => h) (Or.inl ⟨by rfl, by intro w hSw; clear hSw; go_simp; (try with_reducible rfl)⟩) (by assumption) ?_
  try simp only [Act.put, List.setIfInBounds_toArray, List.set_cons_zero, List.set_cons_succ]
  refine wpAnyH_done (by kernel_rfl) ?_ _
  clear hHeld
  cases o with
  | false =>
    go_wp2_with (first | ((with_reducible show wpList _ _ _ (Oper.mk _ (Op.load 35 _) _ _ _ _ :: _) _ _); refine loadB (K4) rfl rfl rfl ?_) | ((with_reducible show wpList _ _ _ (Oper.mk _ (Op.store 35 _ _) _ _ _ _ :: _) _ _); refine storeB (K2) rfl rfl rfl rfl ?_))
    refine retcB (p := 2) (t := 35) (b := w.heap.size) (f := f) ?_ ?_ ?_ ?_ ?_
    · exact K2.row 16 f
    · rfl
    · rfl
    · rfl
    · exact ⟨f, rfl, below_setRow (below_two rfl HT.out) (Nat.le_refl _) (mk 16 f)⟩
  | true =>
    go_wp2_with fail
    refine (one_any _ (w.heap.size + 1) _ 3 HC.out (by omega) (by omega) (by omega)).mono ?_
    rintro e v1 ⟨b, rfl, hc2, ht2⟩
    have K2 := K2.turned ht2 (by have := HN.out; omega)
    have K4 := K4.turned ht2 (by have := HN.out; omega)
    have K5 := K5.turned ht2 (by have := HN.out; omega)
    have HC := Lib.hid hc2
    have HT := Lib.hid (HT.out.trans ht2)
    have HN : Hid (w.heap.size + 1 < b4 ∧ b4 < v1.heap.size ∧ b4 < b5) := ⟨HN.out.1, K4.lt, HN.out.2.2⟩
    clear hc2 ht2
    cases b with
    | true =>
      go_wp2_with (first | ((with_reducible show wpList _ _ _ (Oper.mk _ (Op.load 35 _) _ _ _ _ :: _) _ _); refine loadB (K4) rfl rfl rfl ?_) | ((with_reducible show wpList _ _ _ (Oper.mk _ (Op.store 35 _ _) _ _ _ _ :: _) _ _); refine storeB (K2) rfl rfl rfl rfl ?_))
      refine retcB (p := 2) (t := 35) (b := w.heap.size) (f := f) ?_ ?_ ?_ ?_ ?_
      · exact K2.row 16 f
      · rfl
      · rfl
      · rfl
      · exact ⟨f, rfl, below_setRow (below_two rfl HT.out) (Nat.le_refl _) (mk 16 f)⟩
    | false =>
      have K4f := K4.row 16 g
      go_wp2_with (first | ((with_reducible show wpList _ _ _ (Oper.mk _ (Op.load 35 _) _ _ _ _ :: _) _ _); refine loadB (K5) rfl rfl rfl ?_) | ((with_reducible show wpList _ _ _ (Oper.mk _ (Op.store 35 _ _) _ _ _ _ :: _) _ _); refine storeB (K4) rfl rfl rfl rfl ?_))
      have K2 := K2.rowOther b4 (mk 16 g) (by have := HN.out; omega)
      have HC := Lib.hid (HC.out.rowNew (c := b4) (by have := HN.out; omega) (mk 16 g))
      have HT := Lib.hid (HT.out.rowNew (b := b4) (by have := HN.out; simp; omega) (mk 16 g))
      have K4 := K4f
      have HN : Hid (w.heap.size + 1 < b4 ∧ b4 < (v1.setRow b4 (mk 16 g)).heap.size) := ⟨HN.out.1, K4.lt⟩
      clear K4f K5
      generalize v1.setRow b4 (mk 16 g) = v1b at *
      refine (one_any _ (w.heap.size + 1) _ 3 HC.out (by omega) (by omega) (by omega)).mono ?_
      rintro e v2 ⟨b, rfl, hc2, ht2⟩
      have K2 := K2.turned ht2 (by have := HN.out; omega)
      have K4 := K4.turned ht2 (by have := HN.out; omega)
      have HC := Lib.hid hc2
      have HT := Lib.hid (HT.out.trans ht2)
      have HN : Hid (w.heap.size + 1 < b4 ∧ b4 < v2.heap.size) := ⟨HN.out.1, K4.lt⟩
      clear hc2 ht2
      cases b with
      | false =>
        go_wp2_with (first | ((with_reducible show wpList _ _ _ (Oper.mk _ (Op.load 35 _) _ _ _ _ :: _) _ _); refine loadB (K4) rfl rfl rfl ?_) | ((with_reducible show wpList _ _ _ (Oper.mk _ (Op.store 35 _ _) _ _ _ _ :: _) _ _); refine storeB (K2) rfl rfl rfl rfl ?_))
        refine retcB (p := 2) (t := 35) (b := w.heap.size) (f := g) ?_ ?_ ?_ ?_ ?_
        · exact K2.row 16 g
        · rfl
        · rfl
        · rfl
        · exact ⟨g, rfl, below_setRow (below_two rfl HT.out) (Nat.le_refl _) (mk 16 g)⟩
      | true =>
        go_upto_region 7 with fail
        refine wp_region_held_drew (S := fun W => True) (by kernel_rfl) (trivial) (fun hHeld => ?_)
        have K2 := K2.drew
        have K4 := K4.drew
        have HC := Lib.hid HC.out.drew
        have HT := Lib.hid (HT.out.draws 1)
        have HN := Lib.hid HN.out
        have hdr : v2.drewN 1 = v2.drew := rfl
        rw [hdr] at HT
        clear hdr
        have HN : Hid (w.heap.size + 1 < b4 ∧ b4 < v2.drew.heap.size) := ⟨HN.out.1, K4.lt⟩
        generalize v2.drew = x0 at *
        refine wpAnyH_take (i := 1) (oi := { dst := some 29, op := _, type := _, pos := _, after := _, guard := _ }) (v := .pointer (some ⟨w.heap.size + 1, 0, none⟩)) rfl (by kernel_rfl) (by kernel_rfl) (by kernel_rfl) (fun _ _ _ h => h) (Or.inl ⟨by rfl, by intro w hSw; clear hSw; go_simp; (try with_reducible rfl)⟩) (by assumption) ?_
        try simp only [Act.put, List.setIfInBounds_toArray, List.set_cons_zero, List.set_cons_succ]
        refine wpAnyH_take (i := 3) (oi := { dst := some 31, op := _, type := _, pos := _, after := _, guard := _ }) (v := .pointer (some ⟨w.heap.size + 1, 0, none⟩)) rfl (by kernel_rfl) (by kernel_rfl) (by kernel_rfl) (fun _ _ _ h => h) (Or.inl ⟨by rfl, by intro w hSw; clear hSw; go_simp; (try with_reducible rfl)⟩) (by assumption) ?_
        try simp only [Act.put, List.setIfInBounds_toArray, List.set_cons_zero, List.set_cons_succ]
        refine wpAnyH_take (i := 6) (oi := { dst := some 34, op := _, type := _, pos := _, after := _, guard := _ }) (v := .pointer (some ⟨w.heap.size + 1, 0, none⟩)) rfl (by kernel_rfl) (by kernel_rfl) (by kernel_rfl) (fun _ _ _ h => h) (Or.inl ⟨by rfl, by intro w hSw; clear hSw; go_simp; (try with_reducible rfl)⟩) (by assumption) ?_
        try simp only [Act.put, List.setIfInBounds_toArray, List.set_cons_zero, List.set_cons_succ]
        refine wpAnyH_ready (rs := [0, 2]) (by kernel_rfl) (by simp) ?_
        refine AllReadyH.cons rfl (fun K hK => ?_) ?_
        · rw [if_pos (by rfl)]
          refine wp_ldB9 K4 rfl rfl ?_
          clear hHeld
          refine hK.out _ _ trivial (fun hHeld => ?_)
          clear hK K
          try simp only [Act.put, List.setIfInBounds_toArray, List.set_cons_zero, List.set_cons_succ]
          refine wpAnyH_ready (rs := [2]) (by kernel_rfl) (by simp) ?_
          refine AllReadyH.cons rfl (fun K hK => ?_) AllReadyH.nil
          go_simp
          refine (pick_any _ (w.heap.size + 1) _ 4 HC.out (by omega) (by omega) (by omega)).mono ?_
          rintro e x1 ⟨r, hr, rfl, hc2, ht2⟩
          have K2 := K2.turned ht2 (by have := HN.out; omega)
          have K4 := K4.turned ht2 (by have := HN.out; omega)
          have HC := Lib.hid hc2
          have HT := Lib.hid (HT.out.trans ht2)
          have HN : Hid (w.heap.size + 1 < b4 ∧ b4 < x1.heap.size) := ⟨HN.out.1, K4.lt⟩
          clear hc2 ht2
          clear hHeld
          go_wp2_with fail
          refine hK.out _ _ trivial (fun hHeld => ?_)
          clear hK K
          try simp only [Act.put, List.setIfInBounds_toArray, List.set_cons_zero, List.set_cons_succ]
          refine wpAnyH_ready (rs := [4]) (by kernel_rfl) (by simp) ?_
          refine AllReadyH.cons rfl (fun K hK => ?_) AllReadyH.nil
          go_simp
          refine (pick_any _ (w.heap.size + 1) _ 4 HC.out (by omega) (by omega) (by omega)).mono ?_
          rintro e x2 ⟨c, hc, rfl, hc2, ht2⟩
          have K2 := K2.turned ht2 (by have := HN.out; omega)
          have K4 := K4.turned ht2 (by have := HN.out; omega)
          have HC := Lib.hid hc2
          have HT := Lib.hid (HT.out.trans ht2)
          have HN : Hid (w.heap.size + 1 < b4 ∧ b4 < x2.heap.size) := ⟨HN.out.1, K4.lt⟩
          clear hc2 ht2
          clear hHeld
          go_wp2_with fail
          refine hK.out _ _ trivial (fun hHeld => ?_)
          clear hK K
          try simp only [Act.put, List.setIfInBounds_toArray, List.set_cons_zero, List.set_cons_succ]
          refine wpAnyH_take (i := 5) (oi := { dst := some 33, op := _, type := _, pos := _, after := _, guard := _ }) (v := .agg (mk 2 (two (r : Int) (c : Int)))) rfl (by kernel_rfl) (by kernel_rfl) (by kernel_rfl) (fun _ _ _ h => h) (Or.inl ⟨by rfl, by intro W hSw; clear hSw; have mt := mk_two (r : Int) (c : Int); go_simp⟩) (by assumption) ?_
          try simp only [Act.put, List.setIfInBounds_toArray, List.set_cons_zero, List.set_cons_succ]
          refine wpAnyH_ready (rs := [7]) (by kernel_rfl) (by simp) ?_
          refine AllReadyH.cons rfl (fun K hK => ?_) AllReadyH.nil
          go_simp
          refine (pick_any _ (w.heap.size + 1) _ 3 HC.out (by omega) (by omega) (by omega)).mono ?_
          rintro e x3 ⟨t, ht, rfl, hc2, ht2⟩
          have K2 := K2.turned ht2 (by have := HN.out; omega)
          have K4 := K4.turned ht2 (by have := HN.out; omega)
          have HC := Lib.hid hc2
          have HT := Lib.hid (HT.out.trans ht2)
          have HN : Hid (w.heap.size + 1 < b4 ∧ b4 < x3.heap.size) := ⟨HN.out.1, K4.lt⟩
          clear hc2 ht2
          clear hHeld
          go_wp2_with fail
          refine hK.out _ _ trivial (fun hHeld => ?_)
          clear hK K
          try simp only [Act.put, List.setIfInBounds_toArray, List.set_cons_zero, List.set_cons_succ]
          refine wpAnyH_ready (rs := [8]) (by kernel_rfl) (by simp) ?_
          refine AllReadyH.cons rfl (fun K hK => ?_) AllReadyH.nil
          go_simp
          refine (l2Put_any g (two (r : Int) (c : Int)) r c (t : Int) _ rfl rfl (by omega) (by omega)).mono ?_
          rintro e x4 ⟨rfl, hb⟩
          have K2 := K2.below hb K2.lt
          have K4 := K4.below hb K4.lt
          have HC := Lib.hid (HC.out.kept hb)
          have HT := Lib.hid (HT.out.trans (turned_lowS hb))
          have HN : Hid (w.heap.size + 1 < b4 ∧ b4 < x4.heap.size) := ⟨HN.out.1, K4.lt⟩
          clear hb
          generalize upd g (r * 4 + c) (t : Int) = g2 at *
          clear hHeld
          go_wp2_with fail
          refine hK.out _ _ trivial (fun hHeld => ?_)
          clear hK K
          try simp only [Act.put, List.setIfInBounds_toArray, List.set_cons_zero, List.set_cons_succ]
          refine wpAnyH_ready (rs := [9]) (by kernel_rfl) (by simp) ?_
          refine AllReadyH.cons rfl (fun K hK => ?_) AllReadyH.nil
          have st1 := run_store_blk (P := Try.prog) (g := g2) K4
          have ms1 : (mk 16 g2).size = 16 := mk_size 16 _
          go_simp
          clear st1 ms1
          have K2 := K2.rowOther b4 (mk 16 g2) (by have := HN.out; omega)
          have HT := Lib.hid (HT.out.rowNew (b := b4) (by have := HN.out; simp; omega) (mk 16 g2))
          have K4 := K4.row 16 g2
          generalize x4.setRow b4 (mk 16 g2) = v3 at *
          clear hHeld
          refine hK.out _ _ trivial (fun hHeld => ?_)
          clear hK K
          try simp only [Act.put, List.setIfInBounds_toArray, List.set_cons_zero, List.set_cons_succ]
          refine wpAnyH_done (by kernel_rfl) ?_ _
          clear hHeld
          go_wp2_with (first | ((with_reducible show wpList _ _ _ (Oper.mk _ (Op.load 35 _) _ _ _ _ :: _) _ _); refine loadB (K4) rfl rfl rfl ?_) | ((with_reducible show wpList _ _ _ (Oper.mk _ (Op.store 35 _ _) _ _ _ _ :: _) _ _); refine storeB (K2) rfl rfl rfl rfl ?_))
          refine retcB (p := 2) (t := 35) (b := w.heap.size) (f := g2) ?_ ?_ ?_ ?_ ?_
          · exact K2.row 16 g2
          · rfl
          · rfl
          · rfl
          · exact ⟨g2, rfl, below_setRow (below_two rfl HT.out) (Nat.le_refl _) (mk 16 g2)⟩
        refine AllReadyH.cons rfl (fun K hK => ?_) AllReadyH.nil
        go_simp
        refine (pick_any _ (w.heap.size + 1) _ 4 HC.out (by omega) (by omega) (by omega)).mono ?_
        rintro e x1 ⟨r, hr, rfl, hc2, ht2⟩
        have K2 := K2.turned ht2 (by have := HN.out; omega)
        have K4 := K4.turned ht2 (by have := HN.out; omega)
        have HC := Lib.hid hc2
        have HT := Lib.hid (HT.out.trans ht2)
        have HN : Hid (w.heap.size + 1 < b4 ∧ b4 < x1.heap.size) := ⟨HN.out.1, K4.lt⟩
        clear hc2 ht2
        clear hHeld
        go_wp2_with fail
        refine hK.out _ _ trivial (fun hHeld => ?_)
        clear hK K
        try simp only [Act.put, List.setIfInBounds_toArray, List.set_cons_zero, List.set_cons_succ]
        refine wpAnyH_ready (rs := [0, 4]) (by kernel_rfl) (by simp) ?_
        refine AllReadyH.cons rfl (fun K hK => ?_) ?_
        · rw [if_pos (by rfl)]
          refine wp_ldB9 K4 rfl rfl ?_
          clear hHeld
          refine hK.out _ _ trivial (fun hHeld => ?_)
          clear hK K
          try simp only [Act.put, List.setIfInBounds_toArray, List.set_cons_zero, List.set_cons_succ]
          refine wpAnyH_ready (rs := [4]) (by kernel_rfl) (by simp) ?_
          refine AllReadyH.cons rfl (fun K hK => ?_) AllReadyH.nil
          go_simp
          refine (pick_any _ (w.heap.size + 1) _ 4 HC.out (by omega) (by omega) (by omega)).mono ?_
          rintro e x2 ⟨c, hc, rfl, hc2, ht2⟩
          have K2 := K2.turned ht2 (by have := HN.out; omega)
          have K4 := K4.turned ht2 (by have := HN.out; omega)
          have HC := Lib.hid hc2
          have HT := Lib.hid (HT.out.trans ht2)
          have HN : Hid (w.heap.size + 1 < b4 ∧ b4 < x2.heap.size) := ⟨HN.out.1, K4.lt⟩
          clear hc2 ht2
          clear hHeld
          go_wp2_with fail
          refine hK.out _ _ trivial (fun hHeld => ?_)
          clear hK K
          try simp only [Act.put, List.setIfInBounds_toArray, List.set_cons_zero, List.set_cons_succ]
          refine wpAnyH_take (i := 5) (oi := { dst := some 33, op := _, type := _, pos := _, after := _, guard := _ }) (v := .agg (mk 2 (two (r : Int) (c : Int)))) rfl (by kernel_rfl) (by kernel_rfl) (by kernel_rfl) (fun _ _ _ h => h) (Or.inl ⟨by rfl, by intro W hSw; clear hSw; have mt := mk_two (r : Int) (c : Int); go_simp⟩) (by assumption) ?_
          try simp only [Act.put, List.setIfInBounds_toArray, List.set_cons_zero, List.set_cons_succ]
          refine wpAnyH_ready (rs := [7]) (by kernel_rfl) (by simp) ?_
          refine AllReadyH.cons rfl (fun K hK => ?_) AllReadyH.nil
          go_simp
          refine (pick_any _ (w.heap.size + 1) _ 3 HC.out (by omega) (by omega) (by omega)).mono ?_
          rintro e x3 ⟨t, ht, rfl, hc2, ht2⟩
          have K2 := K2.turned ht2 (by have := HN.out; omega)
          have K4 := K4.turned ht2 (by have := HN.out; omega)
          have HC := Lib.hid hc2
          have HT := Lib.hid (HT.out.trans ht2)
          have HN : Hid (w.heap.size + 1 < b4 ∧ b4 < x3.heap.size) := ⟨HN.out.1, K4.lt⟩
          clear hc2 ht2
          clear hHeld
          go_wp2_with fail
          refine hK.out _ _ trivial (fun hHeld => ?_)
          clear hK K
          try simp only [Act.put, List.setIfInBounds_toArray, List.set_cons_zero, List.set_cons_succ]
          refine wpAnyH_ready (rs := [8]) (by kernel_rfl) (by simp) ?_
          refine AllReadyH.cons rfl (fun K hK => ?_) AllReadyH.nil
          go_simp
          refine (l2Put_any g (two (r : Int) (c : Int)) r c (t : Int) _ rfl rfl (by omega) (by omega)).mono ?_
          rintro e x4 ⟨rfl, hb⟩
          have K2 := K2.below hb K2.lt
          have K4 := K4.below hb K4.lt
          have HC := Lib.hid (HC.out.kept hb)
          have HT := Lib.hid (HT.out.trans (turned_lowS hb))
          have HN : Hid (w.heap.size + 1 < b4 ∧ b4 < x4.heap.size) := ⟨HN.out.1, K4.lt⟩
          clear hb
          generalize upd g (r * 4 + c) (t : Int) = g2 at *
          clear hHeld
          go_wp2_with fail
          refine hK.out _ _ trivial (fun hHeld => ?_)
          clear hK K
          try simp only [Act.put, List.setIfInBounds_toArray, List.set_cons_zero, List.set_cons_succ]
          refine wpAnyH_ready (rs := [9]) (by kernel_rfl) (by simp) ?_
          refine AllReadyH.cons rfl (fun K hK => ?_) AllReadyH.nil
          have st1 := run_store_blk (P := Try.prog) (g := g2) K4
          have ms1 : (mk 16 g2).size = 16 := mk_size 16 _
          go_simp
          clear st1 ms1
          have K2 := K2.rowOther b4 (mk 16 g2) (by have := HN.out; omega)
          have HT := Lib.hid (HT.out.rowNew (b := b4) (by have := HN.out; simp; omega) (mk 16 g2))
          have K4 := K4.row 16 g2
          generalize x4.setRow b4 (mk 16 g2) = v3 at *
          clear hHeld
          refine hK.out _ _ trivial (fun hHeld => ?_)
          clear hK K
          try simp only [Act.put, List.setIfInBounds_toArray, List.set_cons_zero, List.set_cons_succ]
          refine wpAnyH_done (by kernel_rfl) ?_ _
          clear hHeld
          go_wp2_with (first | ((with_reducible show wpList _ _ _ (Oper.mk _ (Op.load 35 _) _ _ _ _ :: _) _ _); refine loadB (K4) rfl rfl rfl ?_) | ((with_reducible show wpList _ _ _ (Oper.mk _ (Op.store 35 _ _) _ _ _ _ :: _) _ _); refine storeB (K2) rfl rfl rfl rfl ?_))
          refine retcB (p := 2) (t := 35) (b := w.heap.size) (f := g2) ?_ ?_ ?_ ?_ ?_
          · exact K2.row 16 g2
          · rfl
          · rfl
          · rfl
          · exact ⟨g2, rfl, below_setRow (below_two rfl HT.out) (Nat.le_refl _) (mk 16 g2)⟩
        refine AllReadyH.cons rfl (fun K hK => ?_) AllReadyH.nil
        go_simp
        refine (pick_any _ (w.heap.size + 1) _ 4 HC.out (by omega) (by omega) (by omega)).mono ?_
        rintro e x2 ⟨c, hc, rfl, hc2, ht2⟩
        have K2 := K2.turned ht2 (by have := HN.out; omega)
        have K4 := K4.turned ht2 (by have := HN.out; omega)
        have HC := Lib.hid hc2
        have HT := Lib.hid (HT.out.trans ht2)
        have HN : Hid (w.heap.size + 1 < b4 ∧ b4 < x2.heap.size) := ⟨HN.out.1, K4.lt⟩
        clear hc2 ht2
        clear hHeld
        go_wp2_with fail
        refine hK.out _ _ trivial (fun hHeld => ?_)
        clear hK K
        try simp only [Act.put, List.setIfInBounds_toArray, List.set_cons_zero, List.set_cons_succ]
        refine wpAnyH_take (i := 5) (oi := { dst := some 33, op := _, type := _, pos := _, after := _, guard := _ }) (v := .agg (mk 2 (two (r : Int) (c : Int)))) rfl (by kernel_rfl) (by kernel_rfl) (by kernel_rfl) (fun _ _ _ h => h) (Or.inl ⟨by rfl, by intro W hSw; clear hSw; have mt := mk_two (r : Int) (c : Int); go_simp⟩) (by assumption) ?_
        try simp only [Act.put, List.setIfInBounds_toArray, List.set_cons_zero, List.set_cons_succ]
        refine wpAnyH_ready (rs := [0, 7]) (by kernel_rfl) (by simp) ?_
        refine AllReadyH.cons rfl (fun K hK => ?_) ?_
        · rw [if_pos (by rfl)]
          refine wp_ldB9 K4 rfl rfl ?_
          clear hHeld
          refine hK.out _ _ trivial (fun hHeld => ?_)
          clear hK K
          try simp only [Act.put, List.setIfInBounds_toArray, List.set_cons_zero, List.set_cons_succ]
          refine wpAnyH_ready (rs := [7]) (by kernel_rfl) (by simp) ?_
          refine AllReadyH.cons rfl (fun K hK => ?_) AllReadyH.nil
          go_simp
          refine (pick_any _ (w.heap.size + 1) _ 3 HC.out (by omega) (by omega) (by omega)).mono ?_
          rintro e x3 ⟨t, ht, rfl, hc2, ht2⟩
          have K2 := K2.turned ht2 (by have := HN.out; omega)
          have K4 := K4.turned ht2 (by have := HN.out; omega)
          have HC := Lib.hid hc2
          have HT := Lib.hid (HT.out.trans ht2)
          have HN : Hid (w.heap.size + 1 < b4 ∧ b4 < x3.heap.size) := ⟨HN.out.1, K4.lt⟩
          clear hc2 ht2
          clear hHeld
          go_wp2_with fail
          refine hK.out _ _ trivial (fun hHeld => ?_)
          clear hK K
          try simp only [Act.put, List.setIfInBounds_toArray, List.set_cons_zero, List.set_cons_succ]
          refine wpAnyH_ready (rs := [8]) (by kernel_rfl) (by simp) ?_
          refine AllReadyH.cons rfl (fun K hK => ?_) AllReadyH.nil
          go_simp
          refine (l2Put_any g (two (r : Int) (c : Int)) r c (t : Int) _ rfl rfl (by omega) (by omega)).mono ?_
          rintro e x4 ⟨rfl, hb⟩
          have K2 := K2.below hb K2.lt
          have K4 := K4.below hb K4.lt
          have HC := Lib.hid (HC.out.kept hb)
          have HT := Lib.hid (HT.out.trans (turned_lowS hb))
          have HN : Hid (w.heap.size + 1 < b4 ∧ b4 < x4.heap.size) := ⟨HN.out.1, K4.lt⟩
          clear hb
          generalize upd g (r * 4 + c) (t : Int) = g2 at *
          clear hHeld
          go_wp2_with fail
          refine hK.out _ _ trivial (fun hHeld => ?_)
          clear hK K
          try simp only [Act.put, List.setIfInBounds_toArray, List.set_cons_zero, List.set_cons_succ]
          refine wpAnyH_ready (rs := [9]) (by kernel_rfl) (by simp) ?_
          refine AllReadyH.cons rfl (fun K hK => ?_) AllReadyH.nil
          have st1 := run_store_blk (P := Try.prog) (g := g2) K4
          have ms1 : (mk 16 g2).size = 16 := mk_size 16 _
          go_simp
          clear st1 ms1
          have K2 := K2.rowOther b4 (mk 16 g2) (by have := HN.out; omega)
          have HT := Lib.hid (HT.out.rowNew (b := b4) (by have := HN.out; simp; omega) (mk 16 g2))
          have K4 := K4.row 16 g2
          generalize x4.setRow b4 (mk 16 g2) = v3 at *
          clear hHeld
          refine hK.out _ _ trivial (fun hHeld => ?_)
          clear hK K
          try simp only [Act.put, List.setIfInBounds_toArray, List.set_cons_zero, List.set_cons_succ]
          refine wpAnyH_done (by kernel_rfl) ?_ _
          clear hHeld
          go_wp2_with (first | ((with_reducible show wpList _ _ _ (Oper.mk _ (Op.load 35 _) _ _ _ _ :: _) _ _); refine loadB (K4) rfl rfl rfl ?_) | ((with_reducible show wpList _ _ _ (Oper.mk _ (Op.store 35 _ _) _ _ _ _ :: _) _ _); refine storeB (K2) rfl rfl rfl rfl ?_))
          refine retcB (p := 2) (t := 35) (b := w.heap.size) (f := g2) ?_ ?_ ?_ ?_ ?_
          · exact K2.row 16 g2
          · rfl
          · rfl
          · rfl
          · exact ⟨g2, rfl, below_setRow (below_two rfl HT.out) (Nat.le_refl _) (mk 16 g2)⟩
        refine AllReadyH.cons rfl (fun K hK => ?_) AllReadyH.nil
        go_simp
        refine (pick_any _ (w.heap.size + 1) _ 3 HC.out (by omega) (by omega) (by omega)).mono ?_
        rintro e x3 ⟨t, ht, rfl, hc2, ht2⟩
        have K2 := K2.turned ht2 (by have := HN.out; omega)
        have K4 := K4.turned ht2 (by have := HN.out; omega)
        have HC := Lib.hid hc2
        have HT := Lib.hid (HT.out.trans ht2)
        have HN : Hid (w.heap.size + 1 < b4 ∧ b4 < x3.heap.size) := ⟨HN.out.1, K4.lt⟩
        clear hc2 ht2
        clear hHeld
        go_wp2_with fail
        refine hK.out _ _ trivial (fun hHeld => ?_)
        clear hK K
        try simp only [Act.put, List.setIfInBounds_toArray, List.set_cons_zero, List.set_cons_succ]
        refine wpAnyH_ready (rs := [0]) (by kernel_rfl) (by simp) ?_
        refine AllReadyH.cons rfl (fun K hK => ?_) AllReadyH.nil
        rw [if_pos (by rfl)]
        refine wp_ldB9 K4 rfl rfl ?_
        clear hHeld
        refine hK.out _ _ trivial (fun hHeld => ?_)
        clear hK K
        try simp only [Act.put, List.setIfInBounds_toArray, List.set_cons_zero, List.set_cons_succ]
        refine wpAnyH_ready (rs := [8]) (by kernel_rfl) (by simp) ?_
        refine AllReadyH.cons rfl (fun K hK => ?_) AllReadyH.nil
        go_simp
        refine (l2Put_any g (two (r : Int) (c : Int)) r c (t : Int) _ rfl rfl (by omega) (by omega)).mono ?_
        rintro e x4 ⟨rfl, hb⟩
        have K2 := K2.below hb K2.lt
        have K4 := K4.below hb K4.lt
        have HC := Lib.hid (HC.out.kept hb)
        have HT := Lib.hid (HT.out.trans (turned_lowS hb))
        have HN : Hid (w.heap.size + 1 < b4 ∧ b4 < x4.heap.size) := ⟨HN.out.1, K4.lt⟩
        clear hb
        generalize upd g (r * 4 + c) (t : Int) = g2 at *
        clear hHeld
        go_wp2_with fail
        refine hK.out _ _ trivial (fun hHeld => ?_)
        clear hK K
        try simp only [Act.put, List.setIfInBounds_toArray, List.set_cons_zero, List.set_cons_succ]
        refine wpAnyH_ready (rs := [9]) (by kernel_rfl) (by simp) ?_
        refine AllReadyH.cons rfl (fun K hK => ?_) AllReadyH.nil
        have st1 := run_store_blk (P := Try.prog) (g := g2) K4
        have ms1 : (mk 16 g2).size = 16 := mk_size 16 _
        go_simp
        clear st1 ms1
        have K2 := K2.rowOther b4 (mk 16 g2) (by have := HN.out; omega)
        have HT := Lib.hid (HT.out.rowNew (b := b4) (by have := HN.out; simp; omega) (mk 16 g2))
        have K4 := K4.row 16 g2
        generalize x4.setRow b4 (mk 16 g2) = v3 at *
        clear hHeld
        refine hK.out _ _ trivial (fun hHeld => ?_)
        clear hK K
        try simp only [Act.put, List.setIfInBounds_toArray, List.set_cons_zero, List.set_cons_succ]
        refine wpAnyH_done (by kernel_rfl) ?_ _
        clear hHeld
        go_wp2_with (first | ((with_reducible show wpList _ _ _ (Oper.mk _ (Op.load 35 _) _ _ _ _ :: _) _ _); refine loadB (K4) rfl rfl rfl ?_) | ((with_reducible show wpList _ _ _ (Oper.mk _ (Op.store 35 _ _) _ _ _ _ :: _) _ _); refine storeB (K2) rfl rfl rfl rfl ?_))
        refine retcB (p := 2) (t := 35) (b := w.heap.size) (f := g2) ?_ ?_ ?_ ?_ ?_
        · exact K2.row 16 g2
        · rfl
        · rfl
        · rfl
        · exact ⟨g2, rfl, below_setRow (below_two rfl HT.out) (Nat.le_refl _) (mk 16 g2)⟩
end Go.Proofs.Ytmcmpedmgibmkab
