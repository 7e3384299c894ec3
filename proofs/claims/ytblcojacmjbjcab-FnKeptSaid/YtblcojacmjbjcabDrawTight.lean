/-
  The contracts of the reference's draws of boards that are nearly over, and of steps: tight5, step5, DrawStepsOf, DrawDoStep, DrawStepBetween.
-/
import Derived.Test.YtblcojacmjbjcabDrawsA
import Derived.Test.YtblcojacmjbjcabDrawCell
import Derived.Test.YtblcojacmjbjcabSpecNext
import Derived.Test.YtblcojacmjbjcabSpecLine
namespace Go.Proofs.Ytblcojacmjbjcab
open Go.RowKit Plain
attribute [local go_sem] store_new
set_option linter.unusedSimpArgs false
set_option linter.unusedVariables false

theorem turned_of {B : Nat} {w w' : World} (hb : Below w.heap.size w w') : Turned B w w' := ⟨hb.os, hb.tape, hb.output, hb.size, fun k hk _ => hb.block k hk⟩
theorem run_two (a b : Int) (w : World) : (Instr.build 42 #[(0, .int .i64 a), (1, .int .i64 b)]).run Try.prog w = .ok (.agg (mk 2 (two a b))) w := by kernel_rfl
theorem exec_two {o : Oper} {ev : Operand → Value} {w : World} (x y : Operand) (ho : o.op = .build 42 #[(0, x), (1, y)]) {a b : Int}
    (hx : ev x = .int .i64 a) (hy : ev y = .int .i64 b) : (execOp ev o).run Try.prog w = .ok (.value (.agg (mk 2 (two a b)))) w := by
  have hr := run_two a b w
  simp [execOp, ho, hx, hy, hr, Result.andThen]
theorem wp_ldB {o : Oper} {a : Act} {w : World} {K : Act → World → Prop} {Q : Exit → Act → World → Prop} {x : Operand} {b : Nat} {f : Nat → Int} {t : TypeId} (hg : Blk w b 16 f t) (ho : o.op = .load 47 x) (hx : a.eval x = .pointer (some ⟨b, 0, none⟩))
    (h : K (a.put o.dst (.agg (mk 16 f))) w) : o.wp Try.prog a w K Q :=
  wp_load_row _ x ho b hx t _ _ _ hg Try.underlying47 rfl (by rw [mk_size]; exact sizeB) h
/-- Five numbers in a new row. -/
def Five (W : World) (g : Nat) : Prop := ∀ j, j < 5 → ∃ v, W.cell? ⟨g, j, none⟩ = some v ∧ ∃ t, v = .int .i64 t ∧ True
theorem five_new (W : World) (a b c d e : Int) (t : TypeId) : Five (W.alloc (.cells #[.int .i64 a, .int .i64 b, .int .i64 c, .int .i64 d, .int .i64 e] t)) W.heap.size := by
  intro j hj
  refine alloc_all W _ _ (fun v => ∃ t, v = .int .i64 t ∧ True) ?_ j hj
  intro v hv
  simp at hv
  rcases hv with rfl | rfl | rfl | rfl | rfl <;> exact ⟨_, rfl, trivial⟩
theorem five_turned {W W' : World} {B g : Nat} (h : Five W g) (ht : Turned B W W') (hg : g ≠ B) : Five W' g := fun j hj => by
  obtain ⟨v, hv, hx⟩ := h j hj
  exact ⟨v, ht.cell hv hg, hx⟩
/-- While a board is drawn and changed: the drawer, the result's block, the board's block. -/
def TS (w : World) (B m b3 : Nat) (F : Nat → Int) (W : World) : Prop := Dr w B m W ∧ Blk W w.heap.size 16 (fun _ => 0) 47 ∧ Blk W b3 16 F 47 ∧ w.heap.size < b3
section
variable {w W W' : World} {B m m' b3 : Nat} {F : Nat → Int}
theorem TS.call (h : TS w B m b3 F W) (hc : Cur W' B m') (ht : Turned B W W') : TS w B m' b3 F W' := by
  obtain ⟨h1, h2, h3, h4⟩ := h
  have := h1.2.2
  exact ⟨h1.call hc ht, h2.turned ht (by omega), h3.turned ht (by omega), h4⟩
theorem TS.below (h : TS w B m b3 F W) (hb : Below W.heap.size W W') : TS w B m b3 F W' := h.call (h.1.1.kept hb) (turned_of hb)
theorem TS.alloc (h : TS w B m b3 F W) (o : Obj) : TS w B m b3 F (W.alloc o) := by
  obtain ⟨h1, h2, h3, h4⟩ := h
  exact ⟨h1.alloc o, h2.alloc o, h3.alloc o, h4⟩
theorem TS.set (h : TS w B m b3 F W) {i : Nat} (hi : i < 16) (v : Int) : TS w B m b3 (upd F i v) (W.setCell ⟨b3, i, none⟩ (.int .i64 v)) := by
  obtain ⟨h1, h2, h3, h4⟩ := h
  exact ⟨h1.set (by dsimp only; omega) _, h2.setOther _ _ (by dsimp only; omega), h3.set hi v, h4⟩
theorem TS.put (h : TS w B m b3 F W) (g : Nat → Int) : TS w B m b3 g (W.setRow b3 (mk 16 g)) := by
  obtain ⟨h1, h2, h3, h4⟩ := h
  exact ⟨h1.row (by omega) _, h2.rowOther _ _ (by omega), h3.row 16 g, h4⟩
theorem TS.drew (h : TS w B m b3 F W) : TS w B m b3 F W.drew := by
  obtain ⟨h1, h2, h3, h4⟩ := h
  exact ⟨h1.drew, h2.drew, h3.drew, h4⟩
end
set_option maxHeartbeats 8000000 in
set_option maxRecDepth 20000 in
theorem tight5_any (w : World) (B m : Nat) (hc : Cur w B m) (hm : m ≤ 999980000) :
    Calls Try.prog 207 #[.pointer (some ⟨B, 0, none⟩)] w fun e w' => ∃ f, e = .returned (.agg (mk 16 f)) ∧ Cur w' B (m + 300) ∧ Turned B w w' := by
  have z16 := zero16
  have D0 := Lib.hid ((Dr.start hc).alloc (.cells (mk 16 fun _ => 0) 47))
  have K2 := Blk.new w 16 (fun _ => 0) 47
  have hB := hc.lt
  clear hc
  go_enter Try.func207, Try.ntmps207
  go_wp2_with fail
  refine (board_any _ B m D0.out.1 (by omega)).mono ?_
  rintro e w1 ⟨F, rfl, hc1, ht1⟩
  have K2 := K2.turned ht1 (by omega)
  have h3 : w.heap.size < w1.heap.size := K2.lt
  have hs : TS w B (m + 200) w1.heap.size F (w1.alloc (.cells (mk 16 F) 47)) := ⟨(D0.out.call hc1 ht1).alloc _, K2.alloc _, Blk.new _ _ _ _, h3⟩
  clear hc1 ht1 D0 K2 h3
  have K3 := hs.2.2.1
  have HS := Lib.hid hs
  clear hs
  go_wp2_with ((with_reducible show wpList _ _ _ (Oper.mk _ (Op.load 47 _) _ _ _ _ :: _) _ _); refine loadB (K3) rfl rfl rfl ?_)
  have hs := HS.out
  clear HS K3
  generalize w1.alloc (.cells (mk 16 F) 47) = w2 at *
  generalize w1.heap.size = b3 at *
  by_cases hV : Vd F
  · refine (l2Board_yes _ _ hV).mono ?_
    rintro e w3 ⟨rfl, hb⟩
    have HS := Lib.hid (hs.below hb)
    clear hb hs hV
    go_wp2_with fail
    have hs := HS.out
    clear HS
    refine (one_any _ B (m + 200) 3 hs.1.1 (by omega) (by omega) (by omega)).mono ?_
    rintro e w4 ⟨c, rfl, hc2, ht2⟩
    have hs := hs.call hc2 ht2
    clear hc2 ht2
    cases c with
    | true =>
      obtain ⟨h1, h2, h3, h4⟩ := hs
      have HD := Lib.hid h1
      clear h1
      go_wp2_with (first | ((with_reducible show wpList _ _ _ (Oper.mk _ (Op.load 47 _) _ _ _ _ :: _) _ _); refine loadB (h3) rfl rfl rfl ?_) | ((with_reducible show wpList _ _ _ (Oper.mk _ (Op.store 47 _ _) _ _ _ _ :: _) _ _); refine storeB (h2) rfl rfl rfl rfl ?_))
      try simp only [Exit.inBlock, Exit.then]
      first | exact retcB (h2.row 16 _) rfl rfl rfl ⟨_, rfl, (HD.out.row (Nat.le_refl _) _).1.more (by omega), (HD.out.row (Nat.le_refl _) _).2.1⟩ | exact retcB (h2.row 16 _) rfl rfl rfl ⟨⟨_, rfl⟩, (HD.out.row (Nat.le_refl _) _).1.more (by omega), (HD.out.row (Nat.le_refl _) _).2.1⟩
    | false =>
      have HS := Lib.hid hs
      clear hs
      go_wp2_with fail
      go_loopg [4] 4 (fun g s4 wr => ∃ (r : Nat) (G : Nat → Int), r + g = 4 ∧ s4 = .int .i64 r ∧ Hid (TS w B (m + 200 + 2) b3 G wr))
      case atStart => exact ⟨0, F, by omega, rfl, HS.out⟩
      case round =>
        obtain ⟨r, G, hrg, rfl, HS⟩ := hrel
        cases gk with
        | zero =>
          have hr : ¬ ((r : Int) < 4) := by omega
          obtain rfl : r = 4 := by omega
          clear hrg hr
          go_wp2_with fail
          have hs := HS.out
          clear HS
          refine (pick_any _ B (m + 200 + 2) 2 hs.1.1 (by omega) (by omega) (by omega)).mono ?_
          rintro e w5 ⟨k, hk, rfl, hc2, ht2⟩
          have HS := Lib.hid (hs.call hc2 ht2)
          clear hc2 ht2 hs
          have hk0 : (0 : Int) ≤ (k : Int) := by omega
          have hk2 : k + 1 ≤ 2 := by omega
          go_wp2_with fail
          go_loopg [6] (k + 1) (fun g s6 wr => ∃ (n m1 : Nat) (G : Nat → Int), n = g ∧ s6 = .int .i64 (n : Int) ∧ m1 + n * 6 ≤ m + 220 ∧ Hid (TS w B m1 b3 G wr))
          case atStart => exact ⟨k + 1, _, G, rfl, by go_num, by omega, HS⟩
          case round =>
            obtain ⟨n, m1, F, rfl, rfl, hm1, HS⟩ := hrel
            cases n with
            | zero =>
              have hn : ¬ ((0 : Int) < ((0 : Nat) : Int)) := by omega
              have hs := HS.out
              clear HS
              obtain ⟨h1, h2, h3, h4⟩ := hs
              have HD := Lib.hid h1
              clear h1
              go_wp2_with (first | ((with_reducible show wpList _ _ _ (Oper.mk _ (Op.load 47 _) _ _ _ _ :: _) _ _); refine loadB (h3) rfl rfl rfl ?_) | ((with_reducible show wpList _ _ _ (Oper.mk _ (Op.store 47 _ _) _ _ _ _ :: _) _ _); refine storeB (h2) rfl rfl rfl rfl ?_))
              try simp only [Exit.inBlock, Exit.then]
              first | exact retcB (h2.row 16 _) rfl rfl rfl ⟨_, rfl, (HD.out.row (Nat.le_refl _) _).1.more (by omega), (HD.out.row (Nat.le_refl _) _).2.1⟩ | exact retcB (h2.row 16 _) rfl rfl rfl ⟨⟨_, rfl⟩, (HD.out.row (Nat.le_refl _) _).1.more (by omega), (HD.out.row (Nat.le_refl _) _).2.1⟩
            | succ n =>
              have hn : (0 : Int) < ((n + 1 : Nat) : Int) := by omega
              have hn0 : (0 : Int) ≤ (n : Int) := by omega
              go_wp2_with fail
              refine wp_region_held_drew (S := fun _ => True) (by kernel_rfl) trivial (fun hHeld => ?_)
              have hs := HS.out.drew
              clear HS
              generalize wr.drew = x0 at *
              refine wpAnyH_take (i := 1) (oi := { dst := some 50, op := _, type := _, pos := _, after := _, guard := _ }) (v := .pointer (some ⟨B, 0, none⟩)) rfl (by kernel_rfl) (by kernel_rfl) (by kernel_rfl) (fun _ _ _ h => h) (Or.inl ⟨by rfl, by intro w hSw; clear hSw; go_simp; (try with_reducible rfl)⟩) trivial ?_
              try simp only [Act.put, List.setIfInBounds_toArray, List.set_cons_zero, List.set_cons_succ]
              refine wpAnyH_take (i := 3) (oi := { dst := some 52, op := _, type := _, pos := _, after := _, guard := _ }) (v := .pointer (some ⟨B, 0, none⟩)) rfl (by kernel_rfl) (by kernel_rfl) (by kernel_rfl) (fun _ _ _ h => h) (Or.inl ⟨by rfl, by intro w hSw; clear hSw; go_simp; (try with_reducible rfl)⟩) trivial ?_
              try simp only [Act.put, List.setIfInBounds_toArray, List.set_cons_zero, List.set_cons_succ]
              refine wpAnyH_take (i := 6) (oi := { dst := some 55, op := _, type := _, pos := _, after := _, guard := _ }) (v := .pointer (some ⟨B, 0, none⟩)) rfl (by kernel_rfl) (by kernel_rfl) (by kernel_rfl) (fun _ _ _ h => h) (Or.inl ⟨by rfl, by intro w hSw; clear hSw; go_simp; (try with_reducible rfl)⟩) trivial ?_
              try simp only [Act.put, List.setIfInBounds_toArray, List.set_cons_zero, List.set_cons_succ]
              refine wpAnyH_ready (rs := [0, 2, 7]) (by kernel_rfl) (by simp) ?_
              refine AllReadyH.cons rfl (fun K hK => ?_) ?_
              · rw [if_pos (by rfl)]
                refine wp_ldB hs.2.2.1 rfl rfl ?_
                refine hK.out _ _ trivial (fun hHeld => ?_)
                clear hK K
                try simp only [Act.put, List.setIfInBounds_toArray, List.set_cons_zero, List.set_cons_succ]
                refine wpAnyH_ready (rs := [2, 7]) (by kernel_rfl) (by simp) ?_
                refine AllReadyH.cons rfl (fun K hK => ?_) ?_
                · go_simp
                  refine (pick_any _ B (m1) 4 hs.1.1 (by omega) (by omega) (by omega)).mono ?_
                  rintro e y1 ⟨k1, hk1, rfl, hc2, ht2⟩
                  have hs := hs.call hc2 ht2
                  clear hc2 ht2
                  go_wp2_with fail
                  refine hK.out _ _ trivial (fun hHeld => ?_)
                  clear hK K
                  try simp only [Act.put, List.setIfInBounds_toArray, List.set_cons_zero, List.set_cons_succ]
                  refine wpAnyH_ready (rs := [4, 7]) (by kernel_rfl) (by simp) ?_
                  refine AllReadyH.cons rfl (fun K hK => ?_) ?_
                  · go_simp
                    refine (pick_any _ B (m1 + 2) 4 hs.1.1 (by omega) (by omega) (by omega)).mono ?_
                    rintro e y2 ⟨k2, hk2, rfl, hc2, ht2⟩
                    have hs := hs.call hc2 ht2
                    clear hc2 ht2
                    go_wp2_with fail
                    refine hK.out _ _ trivial (fun hHeld => ?_)
                    clear hK K
                    try simp only [Act.put, List.setIfInBounds_toArray, List.set_cons_zero, List.set_cons_succ]
                    refine wpAnyH_take (i := 5) (oi := { dst := some 54, op := _, type := _, pos := _, after := _, guard := _ }) (v := .agg (mk 2 (two (k1 : Int) (k2 : Int)))) rfl (by kernel_rfl) (by kernel_rfl) (by kernel_rfl) (fun _ _ _ h => h) (Or.inl ⟨by rfl, fun _ _ => exec_two _ _ rfl rfl rfl⟩) trivial ?_
                    try simp only [Act.put, List.setIfInBounds_toArray, List.set_cons_zero, List.set_cons_succ]
                    refine wpAnyH_ready (rs := [7]) (by kernel_rfl) (by simp) ?_
                    refine AllReadyH.cons rfl (fun K hK => ?_) AllReadyH.nil
                    go_simp
                    have hP := five_new y2 0 0 1 2 3 3
                    have hg : y2.heap.size ≠ B := by have := hs.1.1.lt; omega
                    have hs := hs.alloc (.cells #[.int .i64 0, .int .i64 0, .int .i64 1, .int .i64 2, .int .i64 3] 3)
                    generalize y2.alloc (.cells #[.int .i64 0, .int .i64 0, .int .i64 1, .int .i64 2, .int .i64 3] 3) = y3 at *
                    generalize y2.heap.size = gA at *
                    refine hK.out _ _ trivial (fun hHeld => ?_)
                    clear hK K
                    try simp only [Act.put, List.setIfInBounds_toArray, List.set_cons_zero, List.set_cons_succ]
                    refine wpAnyH_ready (rs := [8]) (by kernel_rfl) (by simp) ?_
                    refine AllReadyH.cons rfl (fun K hK => ?_) AllReadyH.nil
                    go_simp
                    refine (among_any _ B (m1 + 2 + 2) gA 5 5 (fun _ => True) hs.1.1 (by omega) (by omega) (by omega) hg hP).mono ?_
                    rintro e y4 ⟨tA, _, rfl, hc2, ht2⟩
                    have hs := hs.call hc2 ht2
                    clear hc2 ht2 hP hg
                    go_wp2_with fail
                    refine hK.out _ _ trivial (fun hHeld => ?_)
                    clear hK K
                    try simp only [Act.put, List.setIfInBounds_toArray, List.set_cons_zero, List.set_cons_succ]
                    refine wpAnyH_ready (rs := [9]) (by kernel_rfl) (by simp) ?_
                    refine AllReadyH.cons rfl (fun K hK => ?_) AllReadyH.nil
                    go_simp
                    refine (l2Put_any F (two (k1 : Int) (k2 : Int)) k1 k2 tA _ rfl rfl (by omega) (by omega)).mono ?_
                    rintro e y5 ⟨rfl, hb⟩
                    have hs := hs.below hb
                    clear hb
                    go_wp2_with fail
                    refine hK.out _ _ trivial (fun hHeld => ?_)
                    clear hK K
                    try simp only [Act.put, List.setIfInBounds_toArray, List.set_cons_zero, List.set_cons_succ]
                    refine wpAnyH_ready (rs := [10]) (by kernel_rfl) (by simp) ?_
                    refine AllReadyH.cons rfl (fun K hK => ?_) AllReadyH.nil
                    have st1 := run_store_blk (P := Try.prog) (g := upd F (k1 * 4 + k2) tA) hs.2.2.1
                    have ms1 : (mk 16 (upd F (k1 * 4 + k2) tA)).size = 16 := mk_size 16 _
                    go_simp
                    clear st1 ms1
                    have hs := hs.put (upd F (k1 * 4 + k2) tA)
                    generalize y5.setRow b3 (mk 16 (upd F (k1 * 4 + k2) tA)) = y6 at *
                    refine hK.out _ _ trivial (fun hHeld => ?_)
                    clear hK K
                    try simp only [Act.put, List.setIfInBounds_toArray, List.set_cons_zero, List.set_cons_succ]
                    refine wpAnyH_done (by kernel_rfl) ?_ _
                    have HS := Lib.hid hs
                    clear hs
                    go_wp2_with fail
                    go_roundg n
                    case rel => exact ⟨n, m1 + 2 + 2 + 2, _, rfl, by go_num, by omega, HS⟩
                    case measure => omega
                  refine AllReadyH.cons rfl (fun K hK => ?_) AllReadyH.nil
                  go_simp
                  have hP := five_new y1 0 0 1 2 3 3
                  have hg : y1.heap.size ≠ B := by have := hs.1.1.lt; omega
                  have hs := hs.alloc (.cells #[.int .i64 0, .int .i64 0, .int .i64 1, .int .i64 2, .int .i64 3] 3)
                  generalize y1.alloc (.cells #[.int .i64 0, .int .i64 0, .int .i64 1, .int .i64 2, .int .i64 3] 3) = y7 at *
                  generalize y1.heap.size = gA at *
                  refine hK.out _ _ trivial (fun hHeld => ?_)
                  clear hK K
                  try simp only [Act.put, List.setIfInBounds_toArray, List.set_cons_zero, List.set_cons_succ]
                  refine wpAnyH_ready (rs := [4]) (by kernel_rfl) (by simp) ?_
                  refine AllReadyH.cons rfl (fun K hK => ?_) AllReadyH.nil
                  go_simp
                  refine (pick_any _ B (m1 + 2) 4 hs.1.1 (by omega) (by omega) (by omega)).mono ?_
                  rintro e y8 ⟨k2, hk2, rfl, hc2, ht2⟩
                  have hs := hs.call hc2 ht2
                  have hP := five_turned hP ht2 hg
                  clear hc2 ht2
                  go_wp2_with fail
                  refine hK.out _ _ trivial (fun hHeld => ?_)
                  clear hK K
                  try simp only [Act.put, List.setIfInBounds_toArray, List.set_cons_zero, List.set_cons_succ]
                  refine wpAnyH_take (i := 5) (oi := { dst := some 54, op := _, type := _, pos := _, after := _, guard := _ }) (v := .agg (mk 2 (two (k1 : Int) (k2 : Int)))) rfl (by kernel_rfl) (by kernel_rfl) (by kernel_rfl) (fun _ _ _ h => h) (Or.inl ⟨by rfl, fun _ _ => exec_two _ _ rfl rfl rfl⟩) trivial ?_
                  try simp only [Act.put, List.setIfInBounds_toArray, List.set_cons_zero, List.set_cons_succ]
                  refine wpAnyH_ready (rs := [8]) (by kernel_rfl) (by simp) ?_
                  refine AllReadyH.cons rfl (fun K hK => ?_) AllReadyH.nil
                  go_simp
                  refine (among_any _ B (m1 + 2 + 2) gA 5 5 (fun _ => True) hs.1.1 (by omega) (by omega) (by omega) hg hP).mono ?_
                  rintro e y9 ⟨tA, _, rfl, hc2, ht2⟩
                  have hs := hs.call hc2 ht2
                  clear hc2 ht2 hP hg
                  go_wp2_with fail
                  refine hK.out _ _ trivial (fun hHeld => ?_)
                  clear hK K
                  try simp only [Act.put, List.setIfInBounds_toArray, List.set_cons_zero, List.set_cons_succ]
                  refine wpAnyH_ready (rs := [9]) (by kernel_rfl) (by simp) ?_
                  refine AllReadyH.cons rfl (fun K hK => ?_) AllReadyH.nil
                  go_simp
                  refine (l2Put_any F (two (k1 : Int) (k2 : Int)) k1 k2 tA _ rfl rfl (by omega) (by omega)).mono ?_
                  rintro e y10 ⟨rfl, hb⟩
                  have hs := hs.below hb
                  clear hb
                  go_wp2_with fail
                  refine hK.out _ _ trivial (fun hHeld => ?_)
                  clear hK K
                  try simp only [Act.put, List.setIfInBounds_toArray, List.set_cons_zero, List.set_cons_succ]
                  refine wpAnyH_ready (rs := [10]) (by kernel_rfl) (by simp) ?_
                  refine AllReadyH.cons rfl (fun K hK => ?_) AllReadyH.nil
                  have st1 := run_store_blk (P := Try.prog) (g := upd F (k1 * 4 + k2) tA) hs.2.2.1
                  have ms1 : (mk 16 (upd F (k1 * 4 + k2) tA)).size = 16 := mk_size 16 _
                  go_simp
                  clear st1 ms1
                  have hs := hs.put (upd F (k1 * 4 + k2) tA)
                  generalize y10.setRow b3 (mk 16 (upd F (k1 * 4 + k2) tA)) = y11 at *
                  refine hK.out _ _ trivial (fun hHeld => ?_)
                  clear hK K
                  try simp only [Act.put, List.setIfInBounds_toArray, List.set_cons_zero, List.set_cons_succ]
                  refine wpAnyH_done (by kernel_rfl) ?_ _
                  have HS := Lib.hid hs
                  clear hs
                  go_wp2_with fail
                  go_roundg n
                  case rel => exact ⟨n, m1 + 2 + 2 + 2, _, rfl, by go_num, by omega, HS⟩
                  case measure => omega
                refine AllReadyH.cons rfl (fun K hK => ?_) AllReadyH.nil
                go_simp
                have hP := five_new x0 0 0 1 2 3 3
                have hg : x0.heap.size ≠ B := by have := hs.1.1.lt; omega
                have hs := hs.alloc (.cells #[.int .i64 0, .int .i64 0, .int .i64 1, .int .i64 2, .int .i64 3] 3)
                generalize x0.alloc (.cells #[.int .i64 0, .int .i64 0, .int .i64 1, .int .i64 2, .int .i64 3] 3) = y12 at *
                generalize x0.heap.size = gA at *
                refine hK.out _ _ trivial (fun hHeld => ?_)
                clear hK K
                try simp only [Act.put, List.setIfInBounds_toArray, List.set_cons_zero, List.set_cons_succ]
                refine wpAnyH_ready (rs := [2]) (by kernel_rfl) (by simp) ?_
                refine AllReadyH.cons rfl (fun K hK => ?_) AllReadyH.nil
                go_simp
                refine (pick_any _ B (m1) 4 hs.1.1 (by omega) (by omega) (by omega)).mono ?_
                rintro e y13 ⟨k1, hk1, rfl, hc2, ht2⟩
                have hs := hs.call hc2 ht2
                have hP := five_turned hP ht2 hg
                clear hc2 ht2
                go_wp2_with fail
                refine hK.out _ _ trivial (fun hHeld => ?_)
                clear hK K
                try simp only [Act.put, List.setIfInBounds_toArray, List.set_cons_zero, List.set_cons_succ]
                refine wpAnyH_ready (rs := [4]) (by kernel_rfl) (by simp) ?_
                refine AllReadyH.cons rfl (fun K hK => ?_) AllReadyH.nil
                go_simp
                refine (pick_any _ B (m1 + 2) 4 hs.1.1 (by omega) (by omega) (by omega)).mono ?_
                rintro e y14 ⟨k2, hk2, rfl, hc2, ht2⟩
                have hs := hs.call hc2 ht2
                have hP := five_turned hP ht2 hg
                clear hc2 ht2
                go_wp2_with fail
                refine hK.out _ _ trivial (fun hHeld => ?_)
                clear hK K
                try simp only [Act.put, List.setIfInBounds_toArray, List.set_cons_zero, List.set_cons_succ]
                refine wpAnyH_take (i := 5) (oi := { dst := some 54, op := _, type := _, pos := _, after := _, guard := _ }) (v := .agg (mk 2 (two (k1 : Int) (k2 : Int)))) rfl (by kernel_rfl) (by kernel_rfl) (by kernel_rfl) (fun _ _ _ h => h) (Or.inl ⟨by rfl, fun _ _ => exec_two _ _ rfl rfl rfl⟩) trivial ?_
                try simp only [Act.put, List.setIfInBounds_toArray, List.set_cons_zero, List.set_cons_succ]
                refine wpAnyH_ready (rs := [8]) (by kernel_rfl) (by simp) ?_
                refine AllReadyH.cons rfl (fun K hK => ?_) AllReadyH.nil
                go_simp
                refine (among_any _ B (m1 + 2 + 2) gA 5 5 (fun _ => True) hs.1.1 (by omega) (by omega) (by omega) hg hP).mono ?_
                rintro e y15 ⟨tA, _, rfl, hc2, ht2⟩
                have hs := hs.call hc2 ht2
                clear hc2 ht2 hP hg
                go_wp2_with fail
                refine hK.out _ _ trivial (fun hHeld => ?_)
                clear hK K
                try simp only [Act.put, List.setIfInBounds_toArray, List.set_cons_zero, List.set_cons_succ]
                refine wpAnyH_ready (rs := [9]) (by kernel_rfl) (by simp) ?_
                refine AllReadyH.cons rfl (fun K hK => ?_) AllReadyH.nil
                go_simp
                refine (l2Put_any F (two (k1 : Int) (k2 : Int)) k1 k2 tA _ rfl rfl (by omega) (by omega)).mono ?_
                rintro e y16 ⟨rfl, hb⟩
                have hs := hs.below hb
                clear hb
                go_wp2_with fail
                refine hK.out _ _ trivial (fun hHeld => ?_)
                clear hK K
                try simp only [Act.put, List.setIfInBounds_toArray, List.set_cons_zero, List.set_cons_succ]
                refine wpAnyH_ready (rs := [10]) (by kernel_rfl) (by simp) ?_
                refine AllReadyH.cons rfl (fun K hK => ?_) AllReadyH.nil
                have st1 := run_store_blk (P := Try.prog) (g := upd F (k1 * 4 + k2) tA) hs.2.2.1
                have ms1 : (mk 16 (upd F (k1 * 4 + k2) tA)).size = 16 := mk_size 16 _
                go_simp
                clear st1 ms1
                have hs := hs.put (upd F (k1 * 4 + k2) tA)
                generalize y16.setRow b3 (mk 16 (upd F (k1 * 4 + k2) tA)) = y17 at *
                refine hK.out _ _ trivial (fun hHeld => ?_)
                clear hK K
                try simp only [Act.put, List.setIfInBounds_toArray, List.set_cons_zero, List.set_cons_succ]
                refine wpAnyH_done (by kernel_rfl) ?_ _
                have HS := Lib.hid hs
                clear hs
                go_wp2_with fail
                go_roundg n
                case rel => exact ⟨n, m1 + 2 + 2 + 2, _, rfl, by go_num, by omega, HS⟩
                case measure => omega
              refine AllReadyH.cons rfl (fun K hK => ?_) ?_
              · go_simp
                refine (pick_any _ B (m1) 4 hs.1.1 (by omega) (by omega) (by omega)).mono ?_
                rintro e y18 ⟨k1, hk1, rfl, hc2, ht2⟩
                have hs := hs.call hc2 ht2
                clear hc2 ht2
                go_wp2_with fail
                refine hK.out _ _ trivial (fun hHeld => ?_)
                clear hK K
                try simp only [Act.put, List.setIfInBounds_toArray, List.set_cons_zero, List.set_cons_succ]
                refine wpAnyH_ready (rs := [0, 4, 7]) (by kernel_rfl) (by simp) ?_
                refine AllReadyH.cons rfl (fun K hK => ?_) ?_
                · rw [if_pos (by rfl)]
                  refine wp_ldB hs.2.2.1 rfl rfl ?_
                  refine hK.out _ _ trivial (fun hHeld => ?_)
                  clear hK K
                  try simp only [Act.put, List.setIfInBounds_toArray, List.set_cons_zero, List.set_cons_succ]
                  refine wpAnyH_ready (rs := [4, 7]) (by kernel_rfl) (by simp) ?_
                  refine AllReadyH.cons rfl (fun K hK => ?_) ?_
                  · go_simp
                    refine (pick_any _ B (m1 + 2) 4 hs.1.1 (by omega) (by omega) (by omega)).mono ?_
                    rintro e y19 ⟨k2, hk2, rfl, hc2, ht2⟩
                    have hs := hs.call hc2 ht2
                    clear hc2 ht2
                    go_wp2_with fail
                    refine hK.out _ _ trivial (fun hHeld => ?_)
                    clear hK K
                    try simp only [Act.put, List.setIfInBounds_toArray, List.set_cons_zero, List.set_cons_succ]
                    refine wpAnyH_take (i := 5) (oi := { dst := some 54, op := _, type := _, pos := _, after := _, guard := _ }) (v := .agg (mk 2 (two (k1 : Int) (k2 : Int)))) rfl (by kernel_rfl) (by kernel_rfl) (by kernel_rfl) (fun _ _ _ h => h) (Or.inl ⟨by rfl, fun _ _ => exec_two _ _ rfl rfl rfl⟩) trivial ?_
                    try simp only [Act.put, List.setIfInBounds_toArray, List.set_cons_zero, List.set_cons_succ]
                    refine wpAnyH_ready (rs := [7]) (by kernel_rfl) (by simp) ?_
                    refine AllReadyH.cons rfl (fun K hK => ?_) AllReadyH.nil
                    go_simp
                    have hP := five_new y19 0 0 1 2 3 3
                    have hg : y19.heap.size ≠ B := by have := hs.1.1.lt; omega
                    have hs := hs.alloc (.cells #[.int .i64 0, .int .i64 0, .int .i64 1, .int .i64 2, .int .i64 3] 3)
                    generalize y19.alloc (.cells #[.int .i64 0, .int .i64 0, .int .i64 1, .int .i64 2, .int .i64 3] 3) = y20 at *
                    generalize y19.heap.size = gA at *
                    refine hK.out _ _ trivial (fun hHeld => ?_)
                    clear hK K
                    try simp only [Act.put, List.setIfInBounds_toArray, List.set_cons_zero, List.set_cons_succ]
                    refine wpAnyH_ready (rs := [8]) (by kernel_rfl) (by simp) ?_
                    refine AllReadyH.cons rfl (fun K hK => ?_) AllReadyH.nil
                    go_simp
                    refine (among_any _ B (m1 + 2 + 2) gA 5 5 (fun _ => True) hs.1.1 (by omega) (by omega) (by omega) hg hP).mono ?_
                    rintro e y21 ⟨tA, _, rfl, hc2, ht2⟩
                    have hs := hs.call hc2 ht2
                    clear hc2 ht2 hP hg
                    go_wp2_with fail
                    refine hK.out _ _ trivial (fun hHeld => ?_)
                    clear hK K
                    try simp only [Act.put, List.setIfInBounds_toArray, List.set_cons_zero, List.set_cons_succ]
                    refine wpAnyH_ready (rs := [9]) (by kernel_rfl) (by simp) ?_
                    refine AllReadyH.cons rfl (fun K hK => ?_) AllReadyH.nil
                    go_simp
                    refine (l2Put_any F (two (k1 : Int) (k2 : Int)) k1 k2 tA _ rfl rfl (by omega) (by omega)).mono ?_
                    rintro e y22 ⟨rfl, hb⟩
                    have hs := hs.below hb
                    clear hb
                    go_wp2_with fail
                    refine hK.out _ _ trivial (fun hHeld => ?_)
                    clear hK K
                    try simp only [Act.put, List.setIfInBounds_toArray, List.set_cons_zero, List.set_cons_succ]
                    refine wpAnyH_ready (rs := [10]) (by kernel_rfl) (by simp) ?_
                    refine AllReadyH.cons rfl (fun K hK => ?_) AllReadyH.nil
                    have st1 := run_store_blk (P := Try.prog) (g := upd F (k1 * 4 + k2) tA) hs.2.2.1
                    have ms1 : (mk 16 (upd F (k1 * 4 + k2) tA)).size = 16 := mk_size 16 _
                    go_simp
                    clear st1 ms1
                    have hs := hs.put (upd F (k1 * 4 + k2) tA)
                    generalize y22.setRow b3 (mk 16 (upd F (k1 * 4 + k2) tA)) = y23 at *
                    refine hK.out _ _ trivial (fun hHeld => ?_)
                    clear hK K
                    try simp only [Act.put, List.setIfInBounds_toArray, List.set_cons_zero, List.set_cons_succ]
                    refine wpAnyH_done (by kernel_rfl) ?_ _
                    have HS := Lib.hid hs
                    clear hs
                    go_wp2_with fail
                    go_roundg n
                    case rel => exact ⟨n, m1 + 2 + 2 + 2, _, rfl, by go_num, by omega, HS⟩
                    case measure => omega
                  refine AllReadyH.cons rfl (fun K hK => ?_) AllReadyH.nil
                  go_simp
                  have hP := five_new y18 0 0 1 2 3 3
                  have hg : y18.heap.size ≠ B := by have := hs.1.1.lt; omega
                  have hs := hs.alloc (.cells #[.int .i64 0, .int .i64 0, .int .i64 1, .int .i64 2, .int .i64 3] 3)
                  generalize y18.alloc (.cells #[.int .i64 0, .int .i64 0, .int .i64 1, .int .i64 2, .int .i64 3] 3) = y24 at *
                  generalize y18.heap.size = gA at *
                  refine hK.out _ _ trivial (fun hHeld => ?_)
                  clear hK K
                  try simp only [Act.put, List.setIfInBounds_toArray, List.set_cons_zero, List.set_cons_succ]
                  refine wpAnyH_ready (rs := [4]) (by kernel_rfl) (by simp) ?_
                  refine AllReadyH.cons rfl (fun K hK => ?_) AllReadyH.nil
                  go_simp
                  refine (pick_any _ B (m1 + 2) 4 hs.1.1 (by omega) (by omega) (by omega)).mono ?_
                  rintro e y25 ⟨k2, hk2, rfl, hc2, ht2⟩
                  have hs := hs.call hc2 ht2
                  have hP := five_turned hP ht2 hg
                  clear hc2 ht2
                  go_wp2_with fail
                  refine hK.out _ _ trivial (fun hHeld => ?_)
                  clear hK K
                  try simp only [Act.put, List.setIfInBounds_toArray, List.set_cons_zero, List.set_cons_succ]
                  refine wpAnyH_take (i := 5) (oi := { dst := some 54, op := _, type := _, pos := _, after := _, guard := _ }) (v := .agg (mk 2 (two (k1 : Int) (k2 : Int)))) rfl (by kernel_rfl) (by kernel_rfl) (by kernel_rfl) (fun _ _ _ h => h) (Or.inl ⟨by rfl, fun _ _ => exec_two _ _ rfl rfl rfl⟩) trivial ?_
                  try simp only [Act.put, List.setIfInBounds_toArray, List.set_cons_zero, List.set_cons_succ]
                  refine wpAnyH_ready (rs := [8]) (by kernel_rfl) (by simp) ?_
                  refine AllReadyH.cons rfl (fun K hK => ?_) AllReadyH.nil
                  go_simp
                  refine (among_any _ B (m1 + 2 + 2) gA 5 5 (fun _ => True) hs.1.1 (by omega) (by omega) (by omega) hg hP).mono ?_
                  rintro e y26 ⟨tA, _, rfl, hc2, ht2⟩
                  have hs := hs.call hc2 ht2
                  clear hc2 ht2 hP hg
                  go_wp2_with fail
                  refine hK.out _ _ trivial (fun hHeld => ?_)
                  clear hK K
                  try simp only [Act.put, List.setIfInBounds_toArray, List.set_cons_zero, List.set_cons_succ]
                  refine wpAnyH_ready (rs := [9]) (by kernel_rfl) (by simp) ?_
                  refine AllReadyH.cons rfl (fun K hK => ?_) AllReadyH.nil
                  go_simp
                  refine (l2Put_any F (two (k1 : Int) (k2 : Int)) k1 k2 tA _ rfl rfl (by omega) (by omega)).mono ?_
                  rintro e y27 ⟨rfl, hb⟩
                  have hs := hs.below hb
                  clear hb
                  go_wp2_with fail
                  refine hK.out _ _ trivial (fun hHeld => ?_)
                  clear hK K
                  try simp only [Act.put, List.setIfInBounds_toArray, List.set_cons_zero, List.set_cons_succ]
                  refine wpAnyH_ready (rs := [10]) (by kernel_rfl) (by simp) ?_
                  refine AllReadyH.cons rfl (fun K hK => ?_) AllReadyH.nil
                  have st1 := run_store_blk (P := Try.prog) (g := upd F (k1 * 4 + k2) tA) hs.2.2.1
                  have ms1 : (mk 16 (upd F (k1 * 4 + k2) tA)).size = 16 := mk_size 16 _
                  go_simp
                  clear st1 ms1
                  have hs := hs.put (upd F (k1 * 4 + k2) tA)
                  generalize y27.setRow b3 (mk 16 (upd F (k1 * 4 + k2) tA)) = y28 at *
                  refine hK.out _ _ trivial (fun hHeld => ?_)
                  clear hK K
                  try simp only [Act.put, List.setIfInBounds_toArray, List.set_cons_zero, List.set_cons_succ]
                  refine wpAnyH_done (by kernel_rfl) ?_ _
                  have HS := Lib.hid hs
                  clear hs
                  go_wp2_with fail
                  go_roundg n
                  case rel => exact ⟨n, m1 + 2 + 2 + 2, _, rfl, by go_num, by omega, HS⟩
                  case measure => omega
                refine AllReadyH.cons rfl (fun K hK => ?_) ?_
                · go_simp
                  refine (pick_any _ B (m1 + 2) 4 hs.1.1 (by omega) (by omega) (by omega)).mono ?_
                  rintro e y29 ⟨k2, hk2, rfl, hc2, ht2⟩
                  have hs := hs.call hc2 ht2
                  clear hc2 ht2
                  go_wp2_with fail
                  refine hK.out _ _ trivial (fun hHeld => ?_)
                  clear hK K
                  try simp only [Act.put, List.setIfInBounds_toArray, List.set_cons_zero, List.set_cons_succ]
                  refine wpAnyH_take (i := 5) (oi := { dst := some 54, op := _, type := _, pos := _, after := _, guard := _ }) (v := .agg (mk 2 (two (k1 : Int) (k2 : Int)))) rfl (by kernel_rfl) (by kernel_rfl) (by kernel_rfl) (fun _ _ _ h => h) (Or.inl ⟨by rfl, fun _ _ => exec_two _ _ rfl rfl rfl⟩) trivial ?_
                  try simp only [Act.put, List.setIfInBounds_toArray, List.set_cons_zero, List.set_cons_succ]
                  refine wpAnyH_ready (rs := [0, 7]) (by kernel_rfl) (by simp) ?_
                  refine AllReadyH.cons rfl (fun K hK => ?_) ?_
                  · rw [if_pos (by rfl)]
                    refine wp_ldB hs.2.2.1 rfl rfl ?_
                    refine hK.out _ _ trivial (fun hHeld => ?_)
                    clear hK K
                    try simp only [Act.put, List.setIfInBounds_toArray, List.set_cons_zero, List.set_cons_succ]
                    refine wpAnyH_ready (rs := [7]) (by kernel_rfl) (by simp) ?_
                    refine AllReadyH.cons rfl (fun K hK => ?_) AllReadyH.nil
                    go_simp
                    have hP := five_new y29 0 0 1 2 3 3
                    have hg : y29.heap.size ≠ B := by have := hs.1.1.lt; omega
                    have hs := hs.alloc (.cells #[.int .i64 0, .int .i64 0, .int .i64 1, .int .i64 2, .int .i64 3] 3)
                    generalize y29.alloc (.cells #[.int .i64 0, .int .i64 0, .int .i64 1, .int .i64 2, .int .i64 3] 3) = y30 at *
                    generalize y29.heap.size = gA at *
                    refine hK.out _ _ trivial (fun hHeld => ?_)
                    clear hK K
                    try simp only [Act.put, List.setIfInBounds_toArray, List.set_cons_zero, List.set_cons_succ]
                    refine wpAnyH_ready (rs := [8]) (by kernel_rfl) (by simp) ?_
                    refine AllReadyH.cons rfl (fun K hK => ?_) AllReadyH.nil
                    go_simp
                    refine (among_any _ B (m1 + 2 + 2) gA 5 5 (fun _ => True) hs.1.1 (by omega) (by omega) (by omega) hg hP).mono ?_
                    rintro e y31 ⟨tA, _, rfl, hc2, ht2⟩
                    have hs := hs.call hc2 ht2
                    clear hc2 ht2 hP hg
                    go_wp2_with fail
                    refine hK.out _ _ trivial (fun hHeld => ?_)
                    clear hK K
                    try simp only [Act.put, List.setIfInBounds_toArray, List.set_cons_zero, List.set_cons_succ]
                    refine wpAnyH_ready (rs := [9]) (by kernel_rfl) (by simp) ?_
                    refine AllReadyH.cons rfl (fun K hK => ?_) AllReadyH.nil
                    go_simp
                    refine (l2Put_any F (two (k1 : Int) (k2 : Int)) k1 k2 tA _ rfl rfl (by omega) (by omega)).mono ?_
                    rintro e y32 ⟨rfl, hb⟩
                    have hs := hs.below hb
                    clear hb
                    go_wp2_with fail
                    refine hK.out _ _ trivial (fun hHeld => ?_)
                    clear hK K
                    try simp only [Act.put, List.setIfInBounds_toArray, List.set_cons_zero, List.set_cons_succ]
                    refine wpAnyH_ready (rs := [10]) (by kernel_rfl) (by simp) ?_
                    refine AllReadyH.cons rfl (fun K hK => ?_) AllReadyH.nil
                    have st1 := run_store_blk (P := Try.prog) (g := upd F (k1 * 4 + k2) tA) hs.2.2.1
                    have ms1 : (mk 16 (upd F (k1 * 4 + k2) tA)).size = 16 := mk_size 16 _
                    go_simp
                    clear st1 ms1
                    have hs := hs.put (upd F (k1 * 4 + k2) tA)
                    generalize y32.setRow b3 (mk 16 (upd F (k1 * 4 + k2) tA)) = y33 at *
                    refine hK.out _ _ trivial (fun hHeld => ?_)
                    clear hK K
                    try simp only [Act.put, List.setIfInBounds_toArray, List.set_cons_zero, List.set_cons_succ]
                    refine wpAnyH_done (by kernel_rfl) ?_ _
                    have HS := Lib.hid hs
                    clear hs
                    go_wp2_with fail
                    go_roundg n
                    case rel => exact ⟨n, m1 + 2 + 2 + 2, _, rfl, by go_num, by omega, HS⟩
                    case measure => omega
                  refine AllReadyH.cons rfl (fun K hK => ?_) AllReadyH.nil
                  go_simp
                  have hP := five_new y29 0 0 1 2 3 3
                  have hg : y29.heap.size ≠ B := by have := hs.1.1.lt; omega
                  have hs := hs.alloc (.cells #[.int .i64 0, .int .i64 0, .int .i64 1, .int .i64 2, .int .i64 3] 3)
                  generalize y29.alloc (.cells #[.int .i64 0, .int .i64 0, .int .i64 1, .int .i64 2, .int .i64 3] 3) = y34 at *
                  generalize y29.heap.size = gA at *
                  refine hK.out _ _ trivial (fun hHeld => ?_)
                  clear hK K
                  try simp only [Act.put, List.setIfInBounds_toArray, List.set_cons_zero, List.set_cons_succ]
                  refine wpAnyH_ready (rs := [0, 8]) (by kernel_rfl) (by simp) ?_
                  refine AllReadyH.cons rfl (fun K hK => ?_) ?_
                  · rw [if_pos (by rfl)]
                    refine wp_ldB hs.2.2.1 rfl rfl ?_
                    refine hK.out _ _ trivial (fun hHeld => ?_)
                    clear hK K
                    try simp only [Act.put, List.setIfInBounds_toArray, List.set_cons_zero, List.set_cons_succ]
                    refine wpAnyH_ready (rs := [8]) (by kernel_rfl) (by simp) ?_
                    refine AllReadyH.cons rfl (fun K hK => ?_) AllReadyH.nil
                    go_simp
                    refine (among_any _ B (m1 + 2 + 2) gA 5 5 (fun _ => True) hs.1.1 (by omega) (by omega) (by omega) hg hP).mono ?_
                    rintro e y35 ⟨tA, _, rfl, hc2, ht2⟩
                    have hs := hs.call hc2 ht2
                    clear hc2 ht2 hP hg
                    go_wp2_with fail
                    refine hK.out _ _ trivial (fun hHeld => ?_)
                    clear hK K
                    try simp only [Act.put, List.setIfInBounds_toArray, List.set_cons_zero, List.set_cons_succ]
                    refine wpAnyH_ready (rs := [9]) (by kernel_rfl) (by simp) ?_
                    refine AllReadyH.cons rfl (fun K hK => ?_) AllReadyH.nil
                    go_simp
                    refine (l2Put_any F (two (k1 : Int) (k2 : Int)) k1 k2 tA _ rfl rfl (by omega) (by omega)).mono ?_
                    rintro e y36 ⟨rfl, hb⟩
                    have hs := hs.below hb
                    clear hb
                    go_wp2_with fail
                    refine hK.out _ _ trivial (fun hHeld => ?_)
                    clear hK K
                    try simp only [Act.put, List.setIfInBounds_toArray, List.set_cons_zero, List.set_cons_succ]
                    refine wpAnyH_ready (rs := [10]) (by kernel_rfl) (by simp) ?_
                    refine AllReadyH.cons rfl (fun K hK => ?_) AllReadyH.nil
                    have st1 := run_store_blk (P := Try.prog) (g := upd F (k1 * 4 + k2) tA) hs.2.2.1
                    have ms1 : (mk 16 (upd F (k1 * 4 + k2) tA)).size = 16 := mk_size 16 _
                    go_simp
                    clear st1 ms1
                    have hs := hs.put (upd F (k1 * 4 + k2) tA)
                    generalize y36.setRow b3 (mk 16 (upd F (k1 * 4 + k2) tA)) = y37 at *
                    refine hK.out _ _ trivial (fun hHeld => ?_)
                    clear hK K
                    try simp only [Act.put, List.setIfInBounds_toArray, List.set_cons_zero, List.set_cons_succ]
                    refine wpAnyH_done (by kernel_rfl) ?_ _
                    have HS := Lib.hid hs
                    clear hs
                    go_wp2_with fail
                    go_roundg n
                    case rel => exact ⟨n, m1 + 2 + 2 + 2, _, rfl, by go_num, by omega, HS⟩
                    case measure => omega
                  refine AllReadyH.cons rfl (fun K hK => ?_) AllReadyH.nil
                  go_simp
                  refine (among_any _ B (m1 + 2 + 2) gA 5 5 (fun _ => True) hs.1.1 (by omega) (by omega) (by omega) hg hP).mono ?_
                  rintro e y38 ⟨tA, _, rfl, hc2, ht2⟩
                  have hs := hs.call hc2 ht2
                  clear hc2 ht2 hP hg
                  go_wp2_with fail
                  refine hK.out _ _ trivial (fun hHeld => ?_)
                  clear hK K
                  try simp only [Act.put, List.setIfInBounds_toArray, List.set_cons_zero, List.set_cons_succ]
                  refine wpAnyH_ready (rs := [0]) (by kernel_rfl) (by simp) ?_
                  refine AllReadyH.cons rfl (fun K hK => ?_) AllReadyH.nil
                  rw [if_pos (by rfl)]
                  refine wp_ldB hs.2.2.1 rfl rfl ?_
                  refine hK.out _ _ trivial (fun hHeld => ?_)
                  clear hK K
                  try simp only [Act.put, List.setIfInBounds_toArray, List.set_cons_zero, List.set_cons_succ]
                  refine wpAnyH_ready (rs := [9]) (by kernel_rfl) (by simp) ?_
                  refine AllReadyH.cons rfl (fun K hK => ?_) AllReadyH.nil
                  go_simp
                  refine (l2Put_any F (two (k1 : Int) (k2 : Int)) k1 k2 tA _ rfl rfl (by omega) (by omega)).mono ?_
                  rintro e y39 ⟨rfl, hb⟩
                  have hs := hs.below hb
                  clear hb
                  go_wp2_with fail
                  refine hK.out _ _ trivial (fun hHeld => ?_)
                  clear hK K
                  try simp only [Act.put, List.setIfInBounds_toArray, List.set_cons_zero, List.set_cons_succ]
                  refine wpAnyH_ready (rs := [10]) (by kernel_rfl) (by simp) ?_
                  refine AllReadyH.cons rfl (fun K hK => ?_) AllReadyH.nil
                  have st1 := run_store_blk (P := Try.prog) (g := upd F (k1 * 4 + k2) tA) hs.2.2.1
                  have ms1 : (mk 16 (upd F (k1 * 4 + k2) tA)).size = 16 := mk_size 16 _
                  go_simp
                  clear st1 ms1
                  have hs := hs.put (upd F (k1 * 4 + k2) tA)
                  generalize y39.setRow b3 (mk 16 (upd F (k1 * 4 + k2) tA)) = y40 at *
                  refine hK.out _ _ trivial (fun hHeld => ?_)
                  clear hK K
                  try simp only [Act.put, List.setIfInBounds_toArray, List.set_cons_zero, List.set_cons_succ]
                  refine wpAnyH_done (by kernel_rfl) ?_ _
                  have HS := Lib.hid hs
                  clear hs
                  go_wp2_with fail
                  go_roundg n
                  case rel => exact ⟨n, m1 + 2 + 2 + 2, _, rfl, by go_num, by omega, HS⟩
                  case measure => omega
                refine AllReadyH.cons rfl (fun K hK => ?_) AllReadyH.nil
                go_simp
                have hP := five_new y18 0 0 1 2 3 3
                have hg : y18.heap.size ≠ B := by have := hs.1.1.lt; omega
                have hs := hs.alloc (.cells #[.int .i64 0, .int .i64 0, .int .i64 1, .int .i64 2, .int .i64 3] 3)
                generalize y18.alloc (.cells #[.int .i64 0, .int .i64 0, .int .i64 1, .int .i64 2, .int .i64 3] 3) = y41 at *
                generalize y18.heap.size = gA at *
                refine hK.out _ _ trivial (fun hHeld => ?_)
                clear hK K
                try simp only [Act.put, List.setIfInBounds_toArray, List.set_cons_zero, List.set_cons_succ]
                refine wpAnyH_ready (rs := [0, 4]) (by kernel_rfl) (by simp) ?_
                refine AllReadyH.cons rfl (fun K hK => ?_) ?_
                · rw [if_pos (by rfl)]
                  refine wp_ldB hs.2.2.1 rfl rfl ?_
                  refine hK.out _ _ trivial (fun hHeld => ?_)
                  clear hK K
                  try simp only [Act.put, List.setIfInBounds_toArray, List.set_cons_zero, List.set_cons_succ]
                  refine wpAnyH_ready (rs := [4]) (by kernel_rfl) (by simp) ?_
                  refine AllReadyH.cons rfl (fun K hK => ?_) AllReadyH.nil
                  go_simp
                  refine (pick_any _ B (m1 + 2) 4 hs.1.1 (by omega) (by omega) (by omega)).mono ?_
                  rintro e y42 ⟨k2, hk2, rfl, hc2, ht2⟩
                  have hs := hs.call hc2 ht2
                  have hP := five_turned hP ht2 hg
                  clear hc2 ht2
                  go_wp2_with fail
                  refine hK.out _ _ trivial (fun hHeld => ?_)
                  clear hK K
                  try simp only [Act.put, List.setIfInBounds_toArray, List.set_cons_zero, List.set_cons_succ]
                  refine wpAnyH_take (i := 5) (oi := { dst := some 54, op := _, type := _, pos := _, after := _, guard := _ }) (v := .agg (mk 2 (two (k1 : Int) (k2 : Int)))) rfl (by kernel_rfl) (by kernel_rfl) (by kernel_rfl) (fun _ _ _ h => h) (Or.inl ⟨by rfl, fun _ _ => exec_two _ _ rfl rfl rfl⟩) trivial ?_
                  try simp only [Act.put, List.setIfInBounds_toArray, List.set_cons_zero, List.set_cons_succ]
                  refine wpAnyH_ready (rs := [8]) (by kernel_rfl) (by simp) ?_
                  refine AllReadyH.cons rfl (fun K hK => ?_) AllReadyH.nil
                  go_simp
                  refine (among_any _ B (m1 + 2 + 2) gA 5 5 (fun _ => True) hs.1.1 (by omega) (by omega) (by omega) hg hP).mono ?_
                  rintro e y43 ⟨tA, _, rfl, hc2, ht2⟩
                  have hs := hs.call hc2 ht2
                  clear hc2 ht2 hP hg
                  go_wp2_with fail
                  refine hK.out _ _ trivial (fun hHeld => ?_)
                  clear hK K
                  try simp only [Act.put, List.setIfInBounds_toArray, List.set_cons_zero, List.set_cons_succ]
                  refine wpAnyH_ready (rs := [9]) (by kernel_rfl) (by simp) ?_
                  refine AllReadyH.cons rfl (fun K hK => ?_) AllReadyH.nil
                  go_simp
                  refine (l2Put_any F (two (k1 : Int) (k2 : Int)) k1 k2 tA _ rfl rfl (by omega) (by omega)).mono ?_
                  rintro e y44 ⟨rfl, hb⟩
                  have hs := hs.below hb
                  clear hb
                  go_wp2_with fail
                  refine hK.out _ _ trivial (fun hHeld => ?_)
                  clear hK K
                  try simp only [Act.put, List.setIfInBounds_toArray, List.set_cons_zero, List.set_cons_succ]
                  refine wpAnyH_ready (rs := [10]) (by kernel_rfl) (by simp) ?_
                  refine AllReadyH.cons rfl (fun K hK => ?_) AllReadyH.nil
                  have st1 := run_store_blk (P := Try.prog) (g := upd F (k1 * 4 + k2) tA) hs.2.2.1
                  have ms1 : (mk 16 (upd F (k1 * 4 + k2) tA)).size = 16 := mk_size 16 _
                  go_simp
                  clear st1 ms1
                  have hs := hs.put (upd F (k1 * 4 + k2) tA)
                  generalize y44.setRow b3 (mk 16 (upd F (k1 * 4 + k2) tA)) = y45 at *
                  refine hK.out _ _ trivial (fun hHeld => ?_)
                  clear hK K
                  try simp only [Act.put, List.setIfInBounds_toArray, List.set_cons_zero, List.set_cons_succ]
                  refine wpAnyH_done (by kernel_rfl) ?_ _
                  have HS := Lib.hid hs
                  clear hs
                  go_wp2_with fail
                  go_roundg n
                  case rel => exact ⟨n, m1 + 2 + 2 + 2, _, rfl, by go_num, by omega, HS⟩
                  case measure => omega
                refine AllReadyH.cons rfl (fun K hK => ?_) AllReadyH.nil
                go_simp
                refine (pick_any _ B (m1 + 2) 4 hs.1.1 (by omega) (by omega) (by omega)).mono ?_
                rintro e y46 ⟨k2, hk2, rfl, hc2, ht2⟩
                have hs := hs.call hc2 ht2
                have hP := five_turned hP ht2 hg
                clear hc2 ht2
                go_wp2_with fail
                refine hK.out _ _ trivial (fun hHeld => ?_)
                clear hK K
                try simp only [Act.put, List.setIfInBounds_toArray, List.set_cons_zero, List.set_cons_succ]
                refine wpAnyH_take (i := 5) (oi := { dst := some 54, op := _, type := _, pos := _, after := _, guard := _ }) (v := .agg (mk 2 (two (k1 : Int) (k2 : Int)))) rfl (by kernel_rfl) (by kernel_rfl) (by kernel_rfl) (fun _ _ _ h => h) (Or.inl ⟨by rfl, fun _ _ => exec_two _ _ rfl rfl rfl⟩) trivial ?_
                try simp only [Act.put, List.setIfInBounds_toArray, List.set_cons_zero, List.set_cons_succ]
                refine wpAnyH_ready (rs := [0, 8]) (by kernel_rfl) (by simp) ?_
                refine AllReadyH.cons rfl (fun K hK => ?_) ?_
                · rw [if_pos (by rfl)]
                  refine wp_ldB hs.2.2.1 rfl rfl ?_
                  refine hK.out _ _ trivial (fun hHeld => ?_)
                  clear hK K
                  try simp only [Act.put, List.setIfInBounds_toArray, List.set_cons_zero, List.set_cons_succ]
                  refine wpAnyH_ready (rs := [8]) (by kernel_rfl) (by simp) ?_
                  refine AllReadyH.cons rfl (fun K hK => ?_) AllReadyH.nil
                  go_simp
                  refine (among_any _ B (m1 + 2 + 2) gA 5 5 (fun _ => True) hs.1.1 (by omega) (by omega) (by omega) hg hP).mono ?_
                  rintro e y47 ⟨tA, _, rfl, hc2, ht2⟩
                  have hs := hs.call hc2 ht2
                  clear hc2 ht2 hP hg
                  go_wp2_with fail
                  refine hK.out _ _ trivial (fun hHeld => ?_)
                  clear hK K
                  try simp only [Act.put, List.setIfInBounds_toArray, List.set_cons_zero, List.set_cons_succ]
                  refine wpAnyH_ready (rs := [9]) (by kernel_rfl) (by simp) ?_
                  refine AllReadyH.cons rfl (fun K hK => ?_) AllReadyH.nil
                  go_simp
                  refine (l2Put_any F (two (k1 : Int) (k2 : Int)) k1 k2 tA _ rfl rfl (by omega) (by omega)).mono ?_
                  rintro e y48 ⟨rfl, hb⟩
                  have hs := hs.below hb
                  clear hb
                  go_wp2_with fail
                  refine hK.out _ _ trivial (fun hHeld => ?_)
                  clear hK K
                  try simp only [Act.put, List.setIfInBounds_toArray, List.set_cons_zero, List.set_cons_succ]
                  refine wpAnyH_ready (rs := [10]) (by kernel_rfl) (by simp) ?_
                  refine AllReadyH.cons rfl (fun K hK => ?_) AllReadyH.nil
                  have st1 := run_store_blk (P := Try.prog) (g := upd F (k1 * 4 + k2) tA) hs.2.2.1
                  have ms1 : (mk 16 (upd F (k1 * 4 + k2) tA)).size = 16 := mk_size 16 _
                  go_simp
                  clear st1 ms1
                  have hs := hs.put (upd F (k1 * 4 + k2) tA)
                  generalize y48.setRow b3 (mk 16 (upd F (k1 * 4 + k2) tA)) = y49 at *
                  refine hK.out _ _ trivial (fun hHeld => ?_)
                  clear hK K
                  try simp only [Act.put, List.setIfInBounds_toArray, List.set_cons_zero, List.set_cons_succ]
                  refine wpAnyH_done (by kernel_rfl) ?_ _
                  have HS := Lib.hid hs
                  clear hs
                  go_wp2_with fail
                  go_roundg n
                  case rel => exact ⟨n, m1 + 2 + 2 + 2, _, rfl, by go_num, by omega, HS⟩
                  case measure => omega
                refine AllReadyH.cons rfl (fun K hK => ?_) AllReadyH.nil
                go_simp
                refine (among_any _ B (m1 + 2 + 2) gA 5 5 (fun _ => True) hs.1.1 (by omega) (by omega) (by omega) hg hP).mono ?_
                rintro e y50 ⟨tA, _, rfl, hc2, ht2⟩
                have hs := hs.call hc2 ht2
                clear hc2 ht2 hP hg
                go_wp2_with fail
                refine hK.out _ _ trivial (fun hHeld => ?_)
                clear hK K
                try simp only [Act.put, List.setIfInBounds_toArray, List.set_cons_zero, List.set_cons_succ]
                refine wpAnyH_ready (rs := [0]) (by kernel_rfl) (by simp) ?_
                refine AllReadyH.cons rfl (fun K hK => ?_) AllReadyH.nil
                rw [if_pos (by rfl)]
                refine wp_ldB hs.2.2.1 rfl rfl ?_
                refine hK.out _ _ trivial (fun hHeld => ?_)
                clear hK K
                try simp only [Act.put, List.setIfInBounds_toArray, List.set_cons_zero, List.set_cons_succ]
                refine wpAnyH_ready (rs := [9]) (by kernel_rfl) (by simp) ?_
                refine AllReadyH.cons rfl (fun K hK => ?_) AllReadyH.nil
                go_simp
                refine (l2Put_any F (two (k1 : Int) (k2 : Int)) k1 k2 tA _ rfl rfl (by omega) (by omega)).mono ?_
                rintro e y51 ⟨rfl, hb⟩
                have hs := hs.below hb
                clear hb
                go_wp2_with fail
                refine hK.out _ _ trivial (fun hHeld => ?_)
                clear hK K
                try simp only [Act.put, List.setIfInBounds_toArray, List.set_cons_zero, List.set_cons_succ]
                refine wpAnyH_ready (rs := [10]) (by kernel_rfl) (by simp) ?_
                refine AllReadyH.cons rfl (fun K hK => ?_) AllReadyH.nil
                have st1 := run_store_blk (P := Try.prog) (g := upd F (k1 * 4 + k2) tA) hs.2.2.1
                have ms1 : (mk 16 (upd F (k1 * 4 + k2) tA)).size = 16 := mk_size 16 _
                go_simp
                clear st1 ms1
                have hs := hs.put (upd F (k1 * 4 + k2) tA)
                generalize y51.setRow b3 (mk 16 (upd F (k1 * 4 + k2) tA)) = y52 at *
                refine hK.out _ _ trivial (fun hHeld => ?_)
                clear hK K
                try simp only [Act.put, List.setIfInBounds_toArray, List.set_cons_zero, List.set_cons_succ]
                refine wpAnyH_done (by kernel_rfl) ?_ _
                have HS := Lib.hid hs
                clear hs
                go_wp2_with fail
                go_roundg n
                case rel => exact ⟨n, m1 + 2 + 2 + 2, _, rfl, by go_num, by omega, HS⟩
                case measure => omega
              refine AllReadyH.cons rfl (fun K hK => ?_) AllReadyH.nil
              go_simp
              have hP := five_new x0 0 0 1 2 3 3
              have hg : x0.heap.size ≠ B := by have := hs.1.1.lt; omega
              have hs := hs.alloc (.cells #[.int .i64 0, .int .i64 0, .int .i64 1, .int .i64 2, .int .i64 3] 3)
              generalize x0.alloc (.cells #[.int .i64 0, .int .i64 0, .int .i64 1, .int .i64 2, .int .i64 3] 3) = y53 at *
              generalize x0.heap.size = gA at *
              refine hK.out _ _ trivial (fun hHeld => ?_)
              clear hK K
              try simp only [Act.put, List.setIfInBounds_toArray, List.set_cons_zero, List.set_cons_succ]
              refine wpAnyH_ready (rs := [0, 2]) (by kernel_rfl) (by simp) ?_
              refine AllReadyH.cons rfl (fun K hK => ?_) ?_
              · rw [if_pos (by rfl)]
                refine wp_ldB hs.2.2.1 rfl rfl ?_
                refine hK.out _ _ trivial (fun hHeld => ?_)
                clear hK K
                try simp only [Act.put, List.setIfInBounds_toArray, List.set_cons_zero, List.set_cons_succ]
                refine wpAnyH_ready (rs := [2]) (by kernel_rfl) (by simp) ?_
                refine AllReadyH.cons rfl (fun K hK => ?_) AllReadyH.nil
                go_simp
                refine (pick_any _ B (m1) 4 hs.1.1 (by omega) (by omega) (by omega)).mono ?_
                rintro e y54 ⟨k1, hk1, rfl, hc2, ht2⟩
                have hs := hs.call hc2 ht2
                have hP := five_turned hP ht2 hg
                clear hc2 ht2
                go_wp2_with fail
                refine hK.out _ _ trivial (fun hHeld => ?_)
                clear hK K
                try simp only [Act.put, List.setIfInBounds_toArray, List.set_cons_zero, List.set_cons_succ]
                refine wpAnyH_ready (rs := [4]) (by kernel_rfl) (by simp) ?_
                refine AllReadyH.cons rfl (fun K hK => ?_) AllReadyH.nil
                go_simp
                refine (pick_any _ B (m1 + 2) 4 hs.1.1 (by omega) (by omega) (by omega)).mono ?_
                rintro e y55 ⟨k2, hk2, rfl, hc2, ht2⟩
                have hs := hs.call hc2 ht2
                have hP := five_turned hP ht2 hg
                clear hc2 ht2
                go_wp2_with fail
                refine hK.out _ _ trivial (fun hHeld => ?_)
                clear hK K
                try simp only [Act.put, List.setIfInBounds_toArray, List.set_cons_zero, List.set_cons_succ]
                refine wpAnyH_take (i := 5) (oi := { dst := some 54, op := _, type := _, pos := _, after := _, guard := _ }) (v := .agg (mk 2 (two (k1 : Int) (k2 : Int)))) rfl (by kernel_rfl) (by kernel_rfl) (by kernel_rfl) (fun _ _ _ h => h) (Or.inl ⟨by rfl, fun _ _ => exec_two _ _ rfl rfl rfl⟩) trivial ?_
                try simp only [Act.put, List.setIfInBounds_toArray, List.set_cons_zero, List.set_cons_succ]
                refine wpAnyH_ready (rs := [8]) (by kernel_rfl) (by simp) ?_
                refine AllReadyH.cons rfl (fun K hK => ?_) AllReadyH.nil
                go_simp
                refine (among_any _ B (m1 + 2 + 2) gA 5 5 (fun _ => True) hs.1.1 (by omega) (by omega) (by omega) hg hP).mono ?_
                rintro e y56 ⟨tA, _, rfl, hc2, ht2⟩
                have hs := hs.call hc2 ht2
                clear hc2 ht2 hP hg
                go_wp2_with fail
                refine hK.out _ _ trivial (fun hHeld => ?_)
                clear hK K
                try simp only [Act.put, List.setIfInBounds_toArray, List.set_cons_zero, List.set_cons_succ]
                refine wpAnyH_ready (rs := [9]) (by kernel_rfl) (by simp) ?_
                refine AllReadyH.cons rfl (fun K hK => ?_) AllReadyH.nil
                go_simp
                refine (l2Put_any F (two (k1 : Int) (k2 : Int)) k1 k2 tA _ rfl rfl (by omega) (by omega)).mono ?_
                rintro e y57 ⟨rfl, hb⟩
                have hs := hs.below hb
                clear hb
                go_wp2_with fail
                refine hK.out _ _ trivial (fun hHeld => ?_)
                clear hK K
                try simp only [Act.put, List.setIfInBounds_toArray, List.set_cons_zero, List.set_cons_succ]
                refine wpAnyH_ready (rs := [10]) (by kernel_rfl) (by simp) ?_
                refine AllReadyH.cons rfl (fun K hK => ?_) AllReadyH.nil
                have st1 := run_store_blk (P := Try.prog) (g := upd F (k1 * 4 + k2) tA) hs.2.2.1
                have ms1 : (mk 16 (upd F (k1 * 4 + k2) tA)).size = 16 := mk_size 16 _
                go_simp
                clear st1 ms1
                have hs := hs.put (upd F (k1 * 4 + k2) tA)
                generalize y57.setRow b3 (mk 16 (upd F (k1 * 4 + k2) tA)) = y58 at *
                refine hK.out _ _ trivial (fun hHeld => ?_)
                clear hK K
                try simp only [Act.put, List.setIfInBounds_toArray, List.set_cons_zero, List.set_cons_succ]
                refine wpAnyH_done (by kernel_rfl) ?_ _
                have HS := Lib.hid hs
                clear hs
                go_wp2_with fail
                go_roundg n
                case rel => exact ⟨n, m1 + 2 + 2 + 2, _, rfl, by go_num, by omega, HS⟩
                case measure => omega
              refine AllReadyH.cons rfl (fun K hK => ?_) AllReadyH.nil
              go_simp
              refine (pick_any _ B (m1) 4 hs.1.1 (by omega) (by omega) (by omega)).mono ?_
              rintro e y59 ⟨k1, hk1, rfl, hc2, ht2⟩
              have hs := hs.call hc2 ht2
              have hP := five_turned hP ht2 hg
              clear hc2 ht2
              go_wp2_with fail
              refine hK.out _ _ trivial (fun hHeld => ?_)
              clear hK K
              try simp only [Act.put, List.setIfInBounds_toArray, List.set_cons_zero, List.set_cons_succ]
              refine wpAnyH_ready (rs := [0, 4]) (by kernel_rfl) (by simp) ?_
              refine AllReadyH.cons rfl (fun K hK => ?_) ?_
              · rw [if_pos (by rfl)]
                refine wp_ldB hs.2.2.1 rfl rfl ?_
                refine hK.out _ _ trivial (fun hHeld => ?_)
                clear hK K
                try simp only [Act.put, List.setIfInBounds_toArray, List.set_cons_zero, List.set_cons_succ]
                refine wpAnyH_ready (rs := [4]) (by kernel_rfl) (by simp) ?_
                refine AllReadyH.cons rfl (fun K hK => ?_) AllReadyH.nil
                go_simp
                refine (pick_any _ B (m1 + 2) 4 hs.1.1 (by omega) (by omega) (by omega)).mono ?_
                rintro e y60 ⟨k2, hk2, rfl, hc2, ht2⟩
                have hs := hs.call hc2 ht2
                have hP := five_turned hP ht2 hg
                clear hc2 ht2
                go_wp2_with fail
                refine hK.out _ _ trivial (fun hHeld => ?_)
                clear hK K
                try simp only [Act.put, List.setIfInBounds_toArray, List.set_cons_zero, List.set_cons_succ]
                refine wpAnyH_take (i := 5) (oi := { dst := some 54, op := _, type := _, pos := _, after := _, guard := _ }) (v := .agg (mk 2 (two (k1 : Int) (k2 : Int)))) rfl (by kernel_rfl) (by kernel_rfl) (by kernel_rfl) (fun _ _ _ h => h) (Or.inl ⟨by rfl, fun _ _ => exec_two _ _ rfl rfl rfl⟩) trivial ?_
                try simp only [Act.put, List.setIfInBounds_toArray, List.set_cons_zero, List.set_cons_succ]
                refine wpAnyH_ready (rs := [8]) (by kernel_rfl) (by simp) ?_
                refine AllReadyH.cons rfl (fun K hK => ?_) AllReadyH.nil
                go_simp
                refine (among_any _ B (m1 + 2 + 2) gA 5 5 (fun _ => True) hs.1.1 (by omega) (by omega) (by omega) hg hP).mono ?_
                rintro e y61 ⟨tA, _, rfl, hc2, ht2⟩
                have hs := hs.call hc2 ht2
                clear hc2 ht2 hP hg
                go_wp2_with fail
                refine hK.out _ _ trivial (fun hHeld => ?_)
                clear hK K
                try simp only [Act.put, List.setIfInBounds_toArray, List.set_cons_zero, List.set_cons_succ]
                refine wpAnyH_ready (rs := [9]) (by kernel_rfl) (by simp) ?_
                refine AllReadyH.cons rfl (fun K hK => ?_) AllReadyH.nil
                go_simp
                refine (l2Put_any F (two (k1 : Int) (k2 : Int)) k1 k2 tA _ rfl rfl (by omega) (by omega)).mono ?_
                rintro e y62 ⟨rfl, hb⟩
                have hs := hs.below hb
                clear hb
                go_wp2_with fail
                refine hK.out _ _ trivial (fun hHeld => ?_)
                clear hK K
                try simp only [Act.put, List.setIfInBounds_toArray, List.set_cons_zero, List.set_cons_succ]
                refine wpAnyH_ready (rs := [10]) (by kernel_rfl) (by simp) ?_
                refine AllReadyH.cons rfl (fun K hK => ?_) AllReadyH.nil
                have st1 := run_store_blk (P := Try.prog) (g := upd F (k1 * 4 + k2) tA) hs.2.2.1
                have ms1 : (mk 16 (upd F (k1 * 4 + k2) tA)).size = 16 := mk_size 16 _
                go_simp
                clear st1 ms1
                have hs := hs.put (upd F (k1 * 4 + k2) tA)
                generalize y62.setRow b3 (mk 16 (upd F (k1 * 4 + k2) tA)) = y63 at *
                refine hK.out _ _ trivial (fun hHeld => ?_)
                clear hK K
                try simp only [Act.put, List.setIfInBounds_toArray, List.set_cons_zero, List.set_cons_succ]
                refine wpAnyH_done (by kernel_rfl) ?_ _
                have HS := Lib.hid hs
                clear hs
                go_wp2_with fail
                go_roundg n
                case rel => exact ⟨n, m1 + 2 + 2 + 2, _, rfl, by go_num, by omega, HS⟩
                case measure => omega
              refine AllReadyH.cons rfl (fun K hK => ?_) AllReadyH.nil
              go_simp
              refine (pick_any _ B (m1 + 2) 4 hs.1.1 (by omega) (by omega) (by omega)).mono ?_
              rintro e y64 ⟨k2, hk2, rfl, hc2, ht2⟩
              have hs := hs.call hc2 ht2
              have hP := five_turned hP ht2 hg
              clear hc2 ht2
              go_wp2_with fail
              refine hK.out _ _ trivial (fun hHeld => ?_)
              clear hK K
              try simp only [Act.put, List.setIfInBounds_toArray, List.set_cons_zero, List.set_cons_succ]
              refine wpAnyH_take (i := 5) (oi := { dst := some 54, op := _, type := _, pos := _, after := _, guard := _ }) (v := .agg (mk 2 (two (k1 : Int) (k2 : Int)))) rfl (by kernel_rfl) (by kernel_rfl) (by kernel_rfl) (fun _ _ _ h => h) (Or.inl ⟨by rfl, fun _ _ => exec_two _ _ rfl rfl rfl⟩) trivial ?_
              try simp only [Act.put, List.setIfInBounds_toArray, List.set_cons_zero, List.set_cons_succ]
              refine wpAnyH_ready (rs := [0, 8]) (by kernel_rfl) (by simp) ?_
              refine AllReadyH.cons rfl (fun K hK => ?_) ?_
              · rw [if_pos (by rfl)]
                refine wp_ldB hs.2.2.1 rfl rfl ?_
                refine hK.out _ _ trivial (fun hHeld => ?_)
                clear hK K
                try simp only [Act.put, List.setIfInBounds_toArray, List.set_cons_zero, List.set_cons_succ]
                refine wpAnyH_ready (rs := [8]) (by kernel_rfl) (by simp) ?_
                refine AllReadyH.cons rfl (fun K hK => ?_) AllReadyH.nil
                go_simp
                refine (among_any _ B (m1 + 2 + 2) gA 5 5 (fun _ => True) hs.1.1 (by omega) (by omega) (by omega) hg hP).mono ?_
                rintro e y65 ⟨tA, _, rfl, hc2, ht2⟩
                have hs := hs.call hc2 ht2
                clear hc2 ht2 hP hg
                go_wp2_with fail
                refine hK.out _ _ trivial (fun hHeld => ?_)
                clear hK K
                try simp only [Act.put, List.setIfInBounds_toArray, List.set_cons_zero, List.set_cons_succ]
                refine wpAnyH_ready (rs := [9]) (by kernel_rfl) (by simp) ?_
                refine AllReadyH.cons rfl (fun K hK => ?_) AllReadyH.nil
                go_simp
                refine (l2Put_any F (two (k1 : Int) (k2 : Int)) k1 k2 tA _ rfl rfl (by omega) (by omega)).mono ?_
                rintro e y66 ⟨rfl, hb⟩
                have hs := hs.below hb
                clear hb
                go_wp2_with fail
                refine hK.out _ _ trivial (fun hHeld => ?_)
                clear hK K
                try simp only [Act.put, List.setIfInBounds_toArray, List.set_cons_zero, List.set_cons_succ]
                refine wpAnyH_ready (rs := [10]) (by kernel_rfl) (by simp) ?_
                refine AllReadyH.cons rfl (fun K hK => ?_) AllReadyH.nil
                have st1 := run_store_blk (P := Try.prog) (g := upd F (k1 * 4 + k2) tA) hs.2.2.1
                have ms1 : (mk 16 (upd F (k1 * 4 + k2) tA)).size = 16 := mk_size 16 _
                go_simp
                clear st1 ms1
                have hs := hs.put (upd F (k1 * 4 + k2) tA)
                generalize y66.setRow b3 (mk 16 (upd F (k1 * 4 + k2) tA)) = y67 at *
                refine hK.out _ _ trivial (fun hHeld => ?_)
                clear hK K
                try simp only [Act.put, List.setIfInBounds_toArray, List.set_cons_zero, List.set_cons_succ]
                refine wpAnyH_done (by kernel_rfl) ?_ _
                have HS := Lib.hid hs
                clear hs
                go_wp2_with fail
                go_roundg n
                case rel => exact ⟨n, m1 + 2 + 2 + 2, _, rfl, by go_num, by omega, HS⟩
                case measure => omega
              refine AllReadyH.cons rfl (fun K hK => ?_) AllReadyH.nil
              go_simp
              refine (among_any _ B (m1 + 2 + 2) gA 5 5 (fun _ => True) hs.1.1 (by omega) (by omega) (by omega) hg hP).mono ?_
              rintro e y68 ⟨tA, _, rfl, hc2, ht2⟩
              have hs := hs.call hc2 ht2
              clear hc2 ht2 hP hg
              go_wp2_with fail
              refine hK.out _ _ trivial (fun hHeld => ?_)
              clear hK K
              try simp only [Act.put, List.setIfInBounds_toArray, List.set_cons_zero, List.set_cons_succ]
              refine wpAnyH_ready (rs := [0]) (by kernel_rfl) (by simp) ?_
              refine AllReadyH.cons rfl (fun K hK => ?_) AllReadyH.nil
              rw [if_pos (by rfl)]
              refine wp_ldB hs.2.2.1 rfl rfl ?_
              refine hK.out _ _ trivial (fun hHeld => ?_)
              clear hK K
              try simp only [Act.put, List.setIfInBounds_toArray, List.set_cons_zero, List.set_cons_succ]
              refine wpAnyH_ready (rs := [9]) (by kernel_rfl) (by simp) ?_
              refine AllReadyH.cons rfl (fun K hK => ?_) AllReadyH.nil
              go_simp
              refine (l2Put_any F (two (k1 : Int) (k2 : Int)) k1 k2 tA _ rfl rfl (by omega) (by omega)).mono ?_
              rintro e y69 ⟨rfl, hb⟩
              have hs := hs.below hb
              clear hb
              go_wp2_with fail
              refine hK.out _ _ trivial (fun hHeld => ?_)
              clear hK K
              try simp only [Act.put, List.setIfInBounds_toArray, List.set_cons_zero, List.set_cons_succ]
              refine wpAnyH_ready (rs := [10]) (by kernel_rfl) (by simp) ?_
              refine AllReadyH.cons rfl (fun K hK => ?_) AllReadyH.nil
              have st1 := run_store_blk (P := Try.prog) (g := upd F (k1 * 4 + k2) tA) hs.2.2.1
              have ms1 : (mk 16 (upd F (k1 * 4 + k2) tA)).size = 16 := mk_size 16 _
              go_simp
              clear st1 ms1
              have hs := hs.put (upd F (k1 * 4 + k2) tA)
              generalize y69.setRow b3 (mk 16 (upd F (k1 * 4 + k2) tA)) = y70 at *
              refine hK.out _ _ trivial (fun hHeld => ?_)
              clear hK K
              try simp only [Act.put, List.setIfInBounds_toArray, List.set_cons_zero, List.set_cons_succ]
              refine wpAnyH_done (by kernel_rfl) ?_ _
              have HS := Lib.hid hs
              clear hs
              go_wp2_with fail
              go_roundg n
              case rel => exact ⟨n, m1 + 2 + 2 + 2, _, rfl, by go_num, by omega, HS⟩
              case measure => omega
        | succ g =>
          have hr4 : (r : Int) < 4 := by omega
          have hr5 : r < 4 := by omega
          have hr0 : (0 : Int) ≤ (r : Int) := by omega
          go_wp2_with fail
          go_loopg [5] 4 (fun h s5 wx => ∃ (c : Nat) (G : Nat → Int), c + h = 4 ∧ s5 = .int .i64 c ∧ Hid (TS w B (m + 200 + 2) b3 G wx))
          case atStart => exact ⟨0, G, by omega, rfl, HS⟩
          case round =>
            obtain ⟨c, H, hch, rfl, HS⟩ := hrel
            cases gk with
            | zero =>
              have hcc : ¬ ((c : Int) < 4) := by omega
              obtain rfl : c = 4 := by omega
              clear hch hcc
              go_wp2_with fail
              go_roundg g
              case rel => exact ⟨r + 1, H, by omega, by go_num, HS⟩
              case measure => omega
            | succ h =>
              have hcc : (c : Int) < 4 := by omega
              have hc5 : c < 4 := by omega
              have hc0 : (0 : Int) ≤ (c : Int) := by omega
              have c3 := HS.out.2.2.1.cell (i := r * 4 + c) (by omega)
              have f3 := HS.out.2.2.1.free (r * 4 + c)
              go_wp2_with fail
              go_roundg h
              case rel => exact ⟨c + 1, _, by omega, by go_num, HS.out.set (by omega) _⟩
              case measure => omega
  · refine (l2Board_no _ _ hV).mono ?_
    rintro e w3 ⟨rfl, hb⟩
    have hs := hs.below hb
    clear hb hV
    obtain ⟨h1, h2, h3, h4⟩ := hs
    have HD := Lib.hid h1
    clear h1
    go_wp2_with (first | ((with_reducible show wpList _ _ _ (Oper.mk _ (Op.load 47 _) _ _ _ _ :: _) _ _); refine loadB (h3) rfl rfl rfl ?_) | ((with_reducible show wpList _ _ _ (Oper.mk _ (Op.store 47 _ _) _ _ _ _ :: _) _ _); refine storeB (h2) rfl rfl rfl rfl ?_))
    try simp only [Exit.inBlock, Exit.then]
    first | exact retcB (h2.row 16 _) rfl rfl rfl ⟨_, rfl, (HD.out.row (Nat.le_refl _) _).1.more (by omega), (HD.out.row (Nat.le_refl _) _).2.1⟩ | exact retcB (h2.row 16 _) rfl rfl rfl ⟨⟨_, rfl⟩, (HD.out.row (Nat.le_refl _) _).1.more (by omega), (HD.out.row (Nat.le_refl _) _).2.1⟩
end Go.Proofs.Ytblcojacmjbjcab
