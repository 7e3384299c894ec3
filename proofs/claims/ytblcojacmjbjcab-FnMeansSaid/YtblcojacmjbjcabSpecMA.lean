/-
  Several texts in one:
  The reference's arithmetic on fractions, and its helpers of chapter 9: boards behind steps, means of whole numbers, the room.
  The contracts of the reference's l9Keep and l9KeepBest, by the number of moves.
  The contracts of the reference's chances of chapter 9, and of its mean of the room.
-/
import Derived.Test.YtblcojacmjbjcabBaseA
import Derived.Test.YtblcojacmjbjcabMeanA
import Derived.Test.YtblcojacmjbjcabSpecNext
import Derived.Test.YtblcojacmjbjcabPairs
import Derived.Test.YtblcojacmjbjcabRowsKit
import Derived.Test.YtblcojacmjbjcabTripKit
import Derived.Test.YtblcojacmjbjcabPlaceKit
namespace Go.Proofs.Ytblcojacmjbjcab
open Go.RowKit Plain
attribute [local go_sem] store_new
set_option linter.unusedVariables false
set_option linter.unusedSimpArgs false
theorem run_two9 (a b : Int) (w : World) : (Instr.build 42 #[(0, .int .i64 a), (1, .int .i64 b)]).run Try.prog w = .ok (.agg (mk 2 (two a b))) w := by kernel_rfl
theorem exec_two9 {o : Oper} {ev : Operand → Value} {w : World} (x y : Operand) (ho : o.op = .build 42 #[(0, x), (1, y)]) {a b : Int}
    (hx : ev x = .int .i64 a) (hy : ev y = .int .i64 b) : (execOp ev o).run Try.prog w = .ok (.value (.agg (mk 2 (two a b)))) w := by
  have hr := run_two9 a b w
  simp [execOp, ho, hx, hy, hr, Result.andThen]
theorem rd_end9 {a b d : Nat} (h : d = Nat.gcd a b) : rd a b = (a / d, b / d) := by subst h; rfl
theorem fit9 {a : Nat} (h : a ≤ 4611686018427387904) : IntKind.wrap .i64 (a : Int) = (a : Int) := by rw [IntKind.wrap_i64]; omega
theorem mostOne_any (a : Int) (w : World) (h : 1 ≤ a) : Calls Try.prog 220 #[.int .i64 a, .int .i64 1] w fun e w' => e = .returned (.int .i64 a) ∧ w = w' := by
  by_cases h1 : a > 1
  · go_enter Try.func220, Try.ntmps220
    go_wp2_with fail
    go_ret
    exact ⟨rfl, rfl⟩
  · obtain rfl : a = 1 := by omega
    go_enter Try.func220, Try.ntmps220
    go_wp2_with fail
    go_ret
    exact ⟨rfl, rfl⟩
set_option maxHeartbeats 1000000 in
theorem l9Cut_any (a b : Nat) (w : World) (hb : 0 < b) (ha : a ≤ 4611686018427387904) (hb2 : b ≤ 4611686018427387904) :
    Calls Try.prog 204 #[.int .i64 (a : Int), .int .i64 (b : Int)] w fun e w' => e = .returned (.agg (mk 2 (fcF (rd a b)))) ∧ Below w.heap.size w w' := by
  have z2 := zero2
  have K1 := Blk.new w 2 (fun _ => 0) 42
  have HB := Lib.hid ((Below.refl w.heap.size w).alloc (Nat.le_refl _) (.cells (mk 2 fun _ => 0) 42))
  go_enter Try.func204, Try.ntmps204
  go_wp2_with fail
  generalize w.alloc (.cells (mk 2 fun _ => 0) 42) = w1 at *
  go_loopw [5, 6] (fun d r wr => ∃ d' r' : Nat, d = .int .i64 (d' : Int) ∧ r = .int .i64 (r' : Int) ∧ 0 < d' + r' ∧ d' ≤ 4611686018427387904 ∧ r' ≤ 4611686018427387904 ∧ Nat.gcd d' r' = Nat.gcd a b ∧ Blk wr w.heap.size 2 (fun _ => 0) 42 ∧ Hid (Below w.heap.size w wr)) (fun _ r _ => (intOf r).toNat)
  case atStart => exact ⟨a, b, rfl, rfl, by omega, ha, hb2, rfl, K1, HB⟩
  case round =>
    obtain ⟨d, r, rfl, rfl, hd, hd2, hr2, hg, K1, HB⟩ := hrel
    by_cases hr : 0 < r
    · have hri : (r : Int) > 0 := by omega
      have hrn : ((r : Int) == 0) = false := by rw [beq_eq_false_iff_ne]; omega
      have hlt := Nat.mod_lt d hr
      have hgs := gcd_step d r
      go_wp2_with fail
      go_quiet (fail)
      go_wp2_with fail
      go_roundw
      case rel => exact ⟨r, d % r, rfl, rfl, by omega, hr2, by omega, by rw [hgs]; exact hg, K1.drewN _, Lib.hid (below_drewN HB.out _)⟩
      case measure =>
        show ((d % r : Nat) : Int).toNat < ((r : Nat) : Int).toNat
        omega
    · have hri : ¬ (r : Int) > 0 := by omega
      obtain rfl : r = 0 := by omega
      have hd : 0 < d := by omega
      have hdn : ((d : Int) == 0) = false := by rw [beq_eq_false_iff_ne]; omega
      rw [gcd_end] at hg
      have HE := Lib.hid (rd_end9 hg)
      have hd0 : ¬ d = 0 := by omega
      have hqa : IntKind.wrap .i64 ((a : Int) / (d : Int)) = (a : Int) / (d : Int) := fit9 (a := a / d) (Nat.le_trans (Nat.div_le_self _ _) ha)
      have hqb : IntKind.wrap .i64 ((b : Int) / (d : Int)) = (b : Int) / (d : Int) := fit9 (a := b / d) (Nat.le_trans (Nat.div_le_self _ _) hb2)
      have HEV : Hid (mk 2 (two ((a : Int) / (d : Int)) ((b : Int) / (d : Int))) = mk 2 (fcF (rd a b))) := by
        show _ = _
        rw [HE.out]; rfl
      clear hg HE
      have hd1 : (1 : Int) ≤ (d : Int) := by omega
      go_wp2_with fail
      refine wp_region_held_drew (S := fun W => (∃ g, Blk W w.heap.size 2 g 42) ∧ Hid (Below w.heap.size w W)) (by kernel_rfl) (⟨⟨_, K1.drew⟩, Lib.hid HB.out.drew⟩) (fun hHeld => ?_)
      have K1 : Blk wr.drew w.heap.size 2 (fun _ => 0) 42 := K1.drew
      have HB : Hid (Below w.heap.size w wr.drew) := HB.out.drew
      generalize wr.drew = x0 at *
      refine wpAnyH_take (i := 0) (oi := { dst := some 15, op := _, type := _, pos := _, after := _, guard := _ }) (v := .int .i64 (a : Int)) rfl (by kernel_rfl) (by kernel_rfl) (by kernel_rfl) (fun _ _ _ h => h) (Or.inl ⟨by rfl, by intro w hSw; clear hSw; go_simp; (try with_reducible rfl)⟩) (by assumption) ?_
      try simp only [Act.put, List.setIfInBounds_toArray, List.set_cons_zero, List.set_cons_succ]
      refine wpAnyH_take (i := 1) (oi := { dst := some 16, op := _, type := _, pos := _, after := _, guard := _ }) (v := .int .i64 (d : Int)) rfl (by kernel_rfl) (by kernel_rfl) (by kernel_rfl) (fun _ _ _ h => h) (Or.inl ⟨by rfl, by intro w hSw; clear hSw; go_simp; (try with_reducible rfl)⟩) (by assumption) ?_
      try simp only [Act.put, List.setIfInBounds_toArray, List.set_cons_zero, List.set_cons_succ]
      refine wpAnyH_take (i := 4) (oi := { dst := some 19, op := _, type := _, pos := _, after := _, guard := _ }) (v := .int .i64 (b : Int)) rfl (by kernel_rfl) (by kernel_rfl) (by kernel_rfl) (fun _ _ _ h => h) (Or.inl ⟨by rfl, by intro w hSw; clear hSw; go_simp; (try with_reducible rfl)⟩) (by assumption) ?_
      try simp only [Act.put, List.setIfInBounds_toArray, List.set_cons_zero, List.set_cons_succ]
      refine wpAnyH_take (i := 5) (oi := { dst := some 20, op := _, type := _, pos := _, after := _, guard := _ }) (v := .int .i64 (d : Int)) rfl (by kernel_rfl) (by kernel_rfl) (by kernel_rfl) (fun _ _ _ h => h) (Or.inl ⟨by rfl, by intro w hSw; clear hSw; go_simp; (try with_reducible rfl)⟩) (by assumption) ?_
      try simp only [Act.put, List.setIfInBounds_toArray, List.set_cons_zero, List.set_cons_succ]
      refine wpAnyH_ready (rs := [2]) (by kernel_rfl) (by simp) ?_
      refine AllReadyH.cons rfl (fun K hK => ?_) AllReadyH.nil
      go_simp
      refine (mostOne_any _ _ hd1).mono ?_
      rintro e w' ⟨rfl, rfl⟩
      clear hHeld
      go_wp2_with fail
      refine hK.out _ _ ⟨⟨_, K1⟩, HB⟩ (fun hHeld => ?_)
      clear hK K
      try simp only [Act.put, List.setIfInBounds_toArray, List.set_cons_zero, List.set_cons_succ]
      refine wpAnyH_take (i := 3) (oi := { dst := some 18, op := _, type := _, pos := _, after := _, guard := _ }) (v := .int .i64 ((a : Int) / (d : Int))) rfl (by kernel_rfl) (by kernel_rfl) (by kernel_rfl) (fun _ _ _ h => h) (Or.inl ⟨by rfl, by intro w hSw; clear hSw; go_simp; (try with_reducible rfl)⟩) (by assumption) ?_
      try simp only [Act.put, List.setIfInBounds_toArray, List.set_cons_zero, List.set_cons_succ]
      refine wpAnyH_ready (rs := [6]) (by kernel_rfl) (by simp) ?_
      refine AllReadyH.cons rfl (fun K hK => ?_) AllReadyH.nil
      go_simp
      refine (mostOne_any _ _ hd1).mono ?_
      rintro e w' ⟨rfl, rfl⟩
      clear hHeld
      go_wp2_with fail
      refine hK.out _ _ ⟨⟨_, K1⟩, HB⟩ (fun hHeld => ?_)
      clear hK K
      try simp only [Act.put, List.setIfInBounds_toArray, List.set_cons_zero, List.set_cons_succ]
      refine wpAnyH_take (i := 7) (oi := { dst := some 22, op := _, type := _, pos := _, after := _, guard := _ }) (v := .int .i64 ((b : Int) / (d : Int))) rfl (by kernel_rfl) (by kernel_rfl) (by kernel_rfl) (fun _ _ _ h => h) (Or.inl ⟨by rfl, by intro w hSw; clear hSw; go_simp; (try with_reducible rfl)⟩) (by assumption) ?_
      try simp only [Act.put, List.setIfInBounds_toArray, List.set_cons_zero, List.set_cons_succ]
      refine wpAnyH_take (i := 8) (oi := { dst := some 23, op := _, type := _, pos := _, after := _, guard := _ }) (v := .agg (mk 2 (two ((a : Int) / (d : Int)) ((b : Int) / (d : Int))))) rfl (by kernel_rfl) (by kernel_rfl) (by kernel_rfl) (fun _ _ _ h => h) (Or.inl ⟨by rfl, fun _ _ => exec_two9 _ _ rfl rfl rfl⟩) (by assumption) ?_
      try simp only [Act.put, List.setIfInBounds_toArray, List.set_cons_zero, List.set_cons_succ]
      refine wpAnyH_ready (rs := [9]) (by kernel_rfl) (by simp) ?_
      refine AllReadyH.cons rfl (fun K hK => ?_) AllReadyH.nil
      rw [HEV.out]
      have st1 := run_store_blk (P := Try.prog) (g := fcF (rd a b)) K1
      have ms1 : (mk 2 (fcF (rd a b))).size = 2 := mk_size 2 _
      go_simp
      clear st1 ms1 hHeld
      have HB : Hid (Below w.heap.size w (x0.setRow w.heap.size (mk 2 (fcF (rd a b))))) := below_setRow HB.out (by omega) _
      have K1 := K1.row 2 (fcF (rd a b))
      generalize x0.setRow w.heap.size (mk 2 (fcF (rd a b))) = x1 at *
      refine hK.out _ _ ⟨⟨_, K1⟩, HB⟩ (fun hHeld => ?_)
      clear hK K
      try simp only [Act.put, List.setIfInBounds_toArray, List.set_cons_zero, List.set_cons_succ]
      refine wpAnyH_done (by kernel_rfl) ?_ _
      clear hHeld
      go_wp2_with fail
      try simp only [Exit.inBlock, Exit.then]
      exact retcC K1 rfl rfl rfl ⟨rfl, HB.out⟩
set_option maxHeartbeats 400000 in
theorem l9Plus_any (p q : Fc) (w : World) (hp : 0 < p.2) (hq : 0 < q.2) (h1 : p.1 * q.2 ≤ 2305843009213693952) (h2 : q.1 * p.2 ≤ 2305843009213693952) (h3 : p.2 * q.2 ≤ 4611686018427387904) :
    Calls Try.prog 202 #[.agg (mk 2 (fcF p)), .agg (mk 2 (fcF q))] w fun e w' => e = .returned (.agg (mk 2 (fcF (plusF p q)))) ∧ Below w.heap.size w w' := by
  have z2 := zero2
  have K1 := ((Blk.new w 2 (fcF p) 42).alloc (.cells (mk 2 (fcF q)) 42)).alloc (.cells (mk 2 fun _ => 0) 42)
  have K2 := (Blk.new (w.alloc (.cells (mk 2 (fcF p)) 42)) 2 (fcF q) 42).alloc (.cells (mk 2 fun _ => 0) 42)
  have K3 := Blk.new ((w.alloc (.cells (mk 2 (fcF p)) 42)).alloc (.cells (mk 2 (fcF q)) 42)) 2 (fun _ => 0) 42
  have HB := Lib.hid ((((Below.refl w.heap.size w).alloc (Nat.le_refl _) (.cells (mk 2 (fcF p)) 42)).alloc (by simp) (.cells (mk 2 (fcF q)) 42)).alloc (by simp; omega) (.cells (mk 2 fun _ => 0) 42))
  simp only [World.size_alloc] at K1 K2 K3
  have c10 := K1.cell (i := 0) (by omega)
  have c11 := K1.cell (i := 1) (by omega)
  have c20 := K2.cell (i := 0) (by omega)
  have c21 := K2.cell (i := 1) (by omega)
  simp only [fcF0, fcF1] at c10 c11 c20 c21
  have e1 : (p.1 : Int) * (q.2 : Int) = ((p.1 * q.2 : Nat) : Int) := (Int.natCast_mul _ _).symm
  have e2 : (q.1 : Int) * (p.2 : Int) = ((q.1 * p.2 : Nat) : Int) := (Int.natCast_mul _ _).symm
  have e3 : (p.2 : Int) * (q.2 : Int) = ((p.2 * q.2 : Nat) : Int) := (Int.natCast_mul _ _).symm
  have h4 := Nat.mul_pos hp hq
  have HR := Lib.hid (fun w => l9Cut_any (p.1 * q.2 + q.1 * p.2) (p.2 * q.2) w h4 (by omega) h3)
  show Calls _ _ _ _ fun e w' => e = .returned (.agg (mk 2 (fcF (rd (p.1 * q.2 + q.1 * p.2) (p.2 * q.2))))) ∧ _
  generalize hX : p.1 * q.2 = X at *
  generalize hY : q.1 * p.2 = Y at *
  generalize hZ : p.2 * q.2 = Z at *
  have e4 : (X : Int) + (Y : Int) = ((X + Y : Nat) : Int) := by omega
  generalize hS : X + Y = S at *
  have hS2 : S ≤ 4611686018427387904 := by omega
  clear hX hY hZ hS
  go_enter Try.func202, Try.ntmps202
  go_wp2_with fail
  refine (HR.out _).mono ?_
  rintro e w2 ⟨rfl, hb⟩
  have K3 := K3.below hb K3.lt
  have HB : Hid (Below w.heap.size w w2) := HB.out.trans (hb.mono HB.out.size)
  clear hb
  go_wp2_with ((with_reducible show wpList _ _ _ (Oper.mk _ (Op.store 42 _ _) _ _ _ _ :: _) _ _); refine storeC (K3) rfl rfl rfl rfl ?_)
  try simp only [Exit.inBlock, Exit.then]
  exact retcC (K3.row 2 _) rfl rfl rfl ⟨rfl, below_setRow HB.out (by omega) _⟩
set_option maxHeartbeats 400000 in
theorem l9Less_any (p q : Fc) (w : World) (h1 : p.1 * q.2 ≤ 4611686018427387904) (h2 : q.1 * p.2 ≤ 4611686018427387904) :
    Calls Try.prog 198 #[.agg (mk 2 (fcF p)), .agg (mk 2 (fcF q))] w fun e w' => e = .returned (.bool (ltF p q)) ∧ Below w.heap.size w w' := by
  have z2 := zero2
  have K1 := ((Blk.new w 2 (fcF p) 42).alloc (.cells (mk 2 (fcF q)) 42))
  have K2 := (Blk.new (w.alloc (.cells (mk 2 (fcF p)) 42)) 2 (fcF q) 42)
  have HB := Lib.hid (((Below.refl w.heap.size w).alloc (Nat.le_refl _) (.cells (mk 2 (fcF p)) 42)).alloc (by simp) (.cells (mk 2 (fcF q)) 42))
  simp only [World.size_alloc] at K1 K2
  have c10 := K1.cell (i := 0) (by omega)
  have c11 := K1.cell (i := 1) (by omega)
  have c20 := K2.cell (i := 0) (by omega)
  have c21 := K2.cell (i := 1) (by omega)
  simp only [fcF0, fcF1] at c10 c11 c20 c21
  have e1 : (p.1 : Int) * (q.2 : Int) = ((p.1 * q.2 : Nat) : Int) := (Int.natCast_mul _ _).symm
  have e2 : (q.1 : Int) * (p.2 : Int) = ((q.1 * p.2 : Nat) : Int) := (Int.natCast_mul _ _).symm
  have HL : Hid (decide (p.1 * q.2 < q.1 * p.2) = ltF p q) := by show _ = _; rfl
  generalize hX : p.1 * q.2 = X at *
  generalize hY : q.1 * p.2 = Y at *
  generalize ltF p q = O at *
  clear hX hY
  go_enter Try.func198, Try.ntmps198
  go_wp2_with fail
  go_ret
  exact ⟨by rw [← HL.out]; rfl, HB.out⟩
set_option maxHeartbeats 400000 in
theorem l9Part_any (p : Fc) (n all : Nat) (w : World) (hp : 0 < p.2) (ha : 0 < all) (h1 : p.1 * n ≤ 4611686018427387904) (h2 : p.2 * all ≤ 4611686018427387904) :
    Calls Try.prog 254 #[.agg (mk 2 (fcF p)), .int .i64 (n : Int), .int .i64 (all : Int)] w fun e w' => e = .returned (.agg (mk 2 (fcF (partF p n all)))) ∧ Below w.heap.size w w' := by
  have z2 := zero2
  have K1 := (Blk.new w 2 (fcF p) 42).alloc (.cells (mk 2 fun _ => 0) 42)
  have K3 := Blk.new (w.alloc (.cells (mk 2 (fcF p)) 42)) 2 (fun _ => 0) 42
  have HB := Lib.hid (((Below.refl w.heap.size w).alloc (Nat.le_refl _) (.cells (mk 2 (fcF p)) 42)).alloc (by simp) (.cells (mk 2 fun _ => 0) 42))
  simp only [World.size_alloc] at K1 K3
  have c10 := K1.cell (i := 0) (by omega)
  have c11 := K1.cell (i := 1) (by omega)
  simp only [fcF0, fcF1] at c10 c11
  have e1 : (p.1 : Int) * (n : Int) = ((p.1 * n : Nat) : Int) := (Int.natCast_mul _ _).symm
  have e2 : (p.2 : Int) * (all : Int) = ((p.2 * all : Nat) : Int) := (Int.natCast_mul _ _).symm
  have HR := Lib.hid (fun w => l9Cut_any (p.1 * n) (p.2 * all) w (Nat.mul_pos hp ha) h1 h2)
  show Calls _ _ _ _ fun e w' => e = .returned (.agg (mk 2 (fcF (rd (p.1 * n) (p.2 * all))))) ∧ _
  generalize hX : p.1 * n = X at *
  generalize hY : p.2 * all = Y at *
  clear hX hY
  go_enter Try.func254, Try.ntmps254
  go_wp2_with fail
  refine (HR.out _).mono ?_
  rintro e w2 ⟨rfl, hb⟩
  have K3 := K3.below hb K3.lt
  have HB : Hid (Below w.heap.size w w2) := HB.out.trans (hb.mono HB.out.size)
  clear hb
  go_wp2_with ((with_reducible show wpList _ _ _ (Oper.mk _ (Op.store 42 _ _) _ _ _ _ :: _) _ _); refine storeC (K3) rfl rfl rfl rfl ?_)
  try simp only [Exit.inBlock, Exit.then]
  exact retcC (K3.row 2 _) rfl rfl rfl ⟨rfl, below_setRow HB.out (by omega) _⟩
theorem l9Weight_any (s : Nat → Int) (w : World) : Calls Try.prog 248 #[.agg (mk 4 s)] w fun e w' => e = .returned (.int .i64 (wtI (s 3) : Int)) ∧ Below w.heap.size w w' := by
  have K1 := Blk.new w 4 s 71
  have HB := Lib.hid ((Below.refl w.heap.size w).alloc (Nat.le_refl _) (.cells (mk 4 s) 71))
  have c3 := K1.cell (i := 3) (by omega)
  by_cases h : s 3 = 1
  · have e : wtI (s 3) = 9 := if_pos h
    rw [e]
    rw [h] at c3
    clear e
    go_enter Try.func248, Try.ntmps248
    go_wp2_with fail
    go_ret
    exact ⟨rfl, HB.out⟩
  · have e : wtI (s 3) = 1 := if_neg h
    have hb : (s 3 == 1) = false := by rw [beq_eq_false_iff_ne]; exact h
    rw [e]
    clear e
    go_enter Try.func248, Try.ntmps248
    go_wp2_with fail
    go_ret
    exact ⟨rfl, HB.out⟩
set_option maxHeartbeats 1000000 in
theorem l9Mean_any (gs gn n cs cn : Nat) (h : Nat → Int) (u : Nat → Nat) (w : World) (CS : CAt w gs (n * 4) h) (CN : CAt w gn n (fun i => (u i : Int))) (hn : 0 < n) (hn2 : n ≤ 32) (hu : ∀ k, k < n → u k ≤ 4194304) :
    Calls Try.prog 183 #[.slice (some ⟨gs, 0, none⟩) n cs, .slice (some ⟨gn, 0, none⟩) n cn] w fun e w' =>
      e = .returned (.agg (mk 2 (fcF (rd (suN (fun k => wtI (h (k * 4 + 3)) * u k) n) (suN (fun k => wtI (h (k * 4 + 3))) n))))) ∧ Below w.heap.size w w' := by
  have z2 := zero2
  obtain ⟨A, hA⟩ : ∃ A : Nat → Nat, A = fun k => wtI (h (k * 4 + 3)) * u k := ⟨_, rfl⟩
  obtain ⟨B, hB⟩ : ∃ B : Nat → Nat, B = fun k => wtI (h (k * 4 + 3)) := ⟨_, rfl⟩
  have hA1 : ∀ k, k < n → A k ≤ 37748736 := fun k hk => by rw [hA]; exact Nat.mul_le_mul (wtI_le _).2 (hu k hk)
  have hB1 : ∀ k, k < n → 1 ≤ B k ∧ B k ≤ 9 := fun k hk => by rw [hB]; exact wtI_le _
  have hA2 : ∀ k, k ≤ n → suN A k ≤ 1207959552 := fun k hk => by
    have := suN_le k (fun j hj => hA1 j (by omega))
    have := Nat.mul_le_mul_right 37748736 (show k ≤ 32 by omega)
    omega
  have hB2 : ∀ k, k ≤ n → suN B k ≤ 288 := fun k hk => by
    have := suN_le k (fun j hj => (hB1 j (by omega)).2)
    have := Nat.mul_le_mul_right 9 (show k ≤ 32 by omega)
    omega
  have hB4 : 0 < suN B n := by
    have := hB1 0 hn
    have := suN_mono (a := B) (show 1 ≤ n by omega)
    have e : suN B 1 = 0 + B 0 := rfl
    omega
  have HAk := Lib.hid (fun k => congrFun hA k)
  have HBk := Lib.hid (fun k => congrFun hB k)
  have HR := Lib.hid (fun w => l9Cut_any (suN A n) (suN B n) w hB4 (by have := hA2 n (Nat.le_refl _); omega) (by have := hB2 n (Nat.le_refl _); omega))
  have HA1 := Lib.hid hA1
  have HA2 := Lib.hid hA2
  have HB2 := Lib.hid hB2
  rw [← hA, ← hB]
  clear hA hB hA1 hA2 hB1 hB2 hB4 hu
  have K4 := Blk.new w 2 (fun _ => 0) 42
  have HB := Lib.hid ((Below.refl w.heap.size w).alloc (Nat.le_refl _) (.cells (mk 2 fun _ => 0) 42))
  have CS := CS.alloc (.cells (mk 2 fun _ => 0) 42)
  have CN := CN.alloc (.cells (mk 2 fun _ => 0) 42)
  go_enter Try.func183, Try.ntmps183
  go_wp2_with fail
  generalize w.alloc (.cells (mk 2 fun _ => 0) 42) = w1 at *
  go_loopg [5, 6, 7] n (fun g s5 s6 s7 wr => ∃ k : Nat, k + g = n ∧ s5 = .int .i64 ((suN A k : Nat) : Int) ∧ s6 = .int .i64 ((suN B k : Nat) : Int) ∧ s7 = .int .i64 k ∧ CAt wr gs (n * 4) h ∧ CAt wr gn n (fun i => (u i : Int)) ∧ Blk wr w.heap.size 2 (fun _ => 0) 42 ∧ Hid (Below w.heap.size w wr))
  case atStart => exact ⟨0, by omega, rfl, rfl, rfl, CS, CN, K4, HB⟩
  case round =>
    obtain ⟨k, hkg, rfl, rfl, rfl, CS, CN, K4, HB⟩ := hrel
    cases gk with
    | zero =>
      have hk : ¬ ((k : Int) < (n : Int)) := by omega
      obtain rfl : k = n := by omega
      clear hkg
      go_wp2_with fail
      refine (HR.out _).mono ?_
      rintro e w2 ⟨rfl, hb⟩
      have K4 := K4.below hb K4.lt
      have HB : Hid (Below w.heap.size w w2) := HB.out.trans (hb.mono HB.out.size)
      clear hb
      go_wp2_with ((with_reducible show wpList _ _ _ (Oper.mk _ (Op.store 42 _ _) _ _ _ _ :: _) _ _); refine storeC (K4) rfl rfl rfl rfl ?_)
      try simp only [Exit.inBlock, Exit.then]
      exact retcC (K4.row 2 _) rfl rfl rfl ⟨rfl, below_setRow HB.out (by omega) _⟩
    | succ g =>
      have hk8 : (k : Int) < (n : Int) := by omega
      have hk9 : k < n := by omega
      have hk0 : (0 : Int) ≤ (k : Int) := by omega
      have hA5 : A k ≤ 37748736 := HA1.out k hk9
      have hA6 : suN A (k + 1) ≤ 1207959552 := HA2.out (k + 1) hk9
      have HB3 : Hid (suN B (k + 1) ≤ 288) := HB2.out (k + 1) hk9
      have hAi : ((wtI (h (k * 4 + 3)) : Nat) : Int) * (u k : Int) = ((A k : Nat) : Int) := by rw [HAk.out k]; exact (Int.natCast_mul _ _).symm
      have HAK : Hid (IntKind.wrap .i64 (((wtI (h (k * 4 + 3)) : Nat) : Int) * (u k : Int)) = ((A k : Nat) : Int)) := by
        show _ = _; rw [hAi]; exact fit9 (by omega)
      have HAS : Hid (IntKind.wrap .i64 (((suN A k : Nat) : Int) + ((A k : Nat) : Int)) = ((suN A (k + 1) : Nat) : Int)) := by
        show _ = _
        rw [show ((suN A k : Nat) : Int) + ((A k : Nat) : Int) = ((suN A (k + 1) : Nat) : Int) from (Int.natCast_add _ _).symm]; exact fit9 (by omega)
      have HBS : Hid (((suN B k : Nat) : Int) + ((wtI (h (k * 4 + 3)) : Nat) : Int) = ((suN B (k + 1) : Nat) : Int)) := by
        show _ = _
        rw [show suN B (k + 1) = suN B k + B k from rfl, HBk.out k]; exact (Int.natCast_add _ _).symm
      clear hA5 hA6 hAi
      go_wp2_with fail
      refine wp_region_held_drew (S := fun W => CAt W gs (n * 4) h ∧ CAt W gn n (fun i => (u i : Int))) (by kernel_rfl) (⟨CS.drew, CN.drew⟩) (fun hHeld => ?_)
      have CS : CAt wr.drew gs (n * 4) h := CS.drew
      have CN : CAt wr.drew gn n (fun i => (u i : Int)) := CN.drew
      have K4 : Blk wr.drew w.heap.size 2 (fun _ => 0) 42 := K4.drew
      have HB : Hid (Below w.heap.size w wr.drew) := HB.out.drew
      clear hHeld
      generalize wr.drew = x0 at *
      have hHeld : CAt x0 gs (n * 4) h ∧ CAt x0 gn n (fun i => (u i : Int)) := ⟨CS, CN⟩
      refine wpAnyH_take (i := 0) (oi := { dst := some 14, op := _, type := _, pos := _, after := _, guard := _ }) (v := .int .i64 ((suN A k : Nat) : Int)) rfl (by kernel_rfl) (by kernel_rfl) (by kernel_rfl) (fun _ _ _ h => h) (Or.inl ⟨by rfl, by intro w hSw; clear hSw; go_simp; (try with_reducible rfl)⟩) (by assumption) ?_
      try simp only [Act.put, List.setIfInBounds_toArray, List.set_cons_zero, List.set_cons_succ]
      refine wpAnyH_take (i := 1) (oi := { dst := some 15, op := _, type := _, pos := _, after := _, guard := _ }) (v := .slice (some ⟨gs, 0, none⟩) n cs) rfl (by kernel_rfl) (by kernel_rfl) (by kernel_rfl) (fun _ _ _ h => h) (Or.inl ⟨by rfl, by intro w hSw; clear hSw; go_simp; (try with_reducible rfl)⟩) (by assumption) ?_
      try simp only [Act.put, List.setIfInBounds_toArray, List.set_cons_zero, List.set_cons_succ]
      refine wpAnyH_take (i := 2) (oi := { dst := some 16, op := _, type := _, pos := _, after := _, guard := _ }) (v := .int .i64 (k : Int)) rfl (by kernel_rfl) (by kernel_rfl) (by kernel_rfl) (fun _ _ _ h => h) (Or.inl ⟨by rfl, by intro w hSw; clear hSw; go_simp; (try with_reducible rfl)⟩) (by assumption) ?_
      try simp only [Act.put, List.setIfInBounds_toArray, List.set_cons_zero, List.set_cons_succ]
      refine wpAnyH_take (i := 3) (oi := { dst := some 17, op := _, type := _, pos := _, after := _, guard := _ }) (v := .pointer (some ⟨gs, k * 4, none⟩)) rfl (by kernel_rfl) (by kernel_rfl) (by kernel_rfl) (fun _ _ _ h => h) (Or.inl ⟨by rfl, by intro w hSw; clear hSw; go_simp; (try with_reducible rfl)⟩) (by assumption) ?_
      try simp only [Act.put, List.setIfInBounds_toArray, List.set_cons_zero, List.set_cons_succ]
      refine wpAnyH_take (i := 4) (oi := { dst := some 18, op := _, type := _, pos := _, after := _, guard := _ }) (v := .agg (mk 4 fun j => h (k * 4 + j))) rfl (by kernel_rfl) (by kernel_rfl) (by kernel_rfl) (fun _ _ _ h => h) (Or.inl ⟨by rfl, fun _ q => execAT q.1 (by omega) rfl rfl⟩) (by assumption) ?_
      try simp only [Act.put, List.setIfInBounds_toArray, List.set_cons_zero, List.set_cons_succ]
      refine wpAnyH_take (i := 6) (oi := { dst := some 20, op := _, type := _, pos := _, after := _, guard := _ }) (v := .slice (some ⟨gn, 0, none⟩) n cn) rfl (by kernel_rfl) (by kernel_rfl) (by kernel_rfl) (fun _ _ _ h => h) (Or.inl ⟨by rfl, by intro w hSw; clear hSw; go_simp; (try with_reducible rfl)⟩) (by assumption) ?_
      try simp only [Act.put, List.setIfInBounds_toArray, List.set_cons_zero, List.set_cons_succ]
      refine wpAnyH_take (i := 7) (oi := { dst := some 21, op := _, type := _, pos := _, after := _, guard := _ }) (v := .int .i64 (k : Int)) rfl (by kernel_rfl) (by kernel_rfl) (by kernel_rfl) (fun _ _ _ h => h) (Or.inl ⟨by rfl, by intro w hSw; clear hSw; go_simp; (try with_reducible rfl)⟩) (by assumption) ?_
      try simp only [Act.put, List.setIfInBounds_toArray, List.set_cons_zero, List.set_cons_succ]
      refine wpAnyH_take (i := 8) (oi := { dst := some 22, op := _, type := _, pos := _, after := _, guard := _ }) (v := .pointer (some ⟨gn, k, none⟩)) rfl (by kernel_rfl) (by kernel_rfl) (by kernel_rfl) (fun _ _ _ h => h) (Or.inl ⟨by rfl, by intro w hSw; clear hSw; go_simp; (try with_reducible rfl)⟩) (by assumption) ?_
      try simp only [Act.put, List.setIfInBounds_toArray, List.set_cons_zero, List.set_cons_succ]
      refine wpAnyH_take (i := 9) (oi := { dst := some 23, op := _, type := _, pos := _, after := _, guard := _ }) (v := .int .i64 (u k : Int)) rfl (by kernel_rfl) (by kernel_rfl) (by kernel_rfl) (fun _ _ _ h => h) (Or.inl ⟨by rfl, by intro W q; have c0 := q.2.2 k hk9; clear q; go_simp⟩) (by assumption) ?_
      try simp only [Act.put, List.setIfInBounds_toArray, List.set_cons_zero, List.set_cons_succ]
      refine wpAnyH_ready (rs := [5]) (by kernel_rfl) (by simp) ?_
      refine AllReadyH.cons rfl (fun K hK => ?_) AllReadyH.nil
      go_simp
      refine (l9Weight_any (fun j => h (k * 4 + j)) _).mono ?_
      rintro e x1 ⟨rfl, hb⟩
      have CS := CS.below hb
      have CN := CN.below hb
      have K4 := K4.below hb K4.lt
      have HB : Hid (Below w.heap.size w x1) := HB.out.trans (hb.mono HB.out.size)
      clear hb hHeld
      go_wp2_with fail
      refine hK.out _ _ ⟨CS, CN⟩ (fun hHeld => ?_)
      clear hK K
      try simp only [Act.put, List.setIfInBounds_toArray, List.set_cons_zero, List.set_cons_succ]
      refine wpAnyH_take (i := 10) (oi := { dst := some 24, op := _, type := _, pos := _, after := _, guard := _ }) (v := .int .i64 ((A k : Nat) : Int)) rfl (by kernel_rfl) (by kernel_rfl) (by kernel_rfl) (fun _ _ _ h => h) (Or.inl ⟨by rfl, by intro W q; clear q; go_simp; rw [HAK.out]⟩) (by assumption) ?_
      try simp only [Act.put, List.setIfInBounds_toArray, List.set_cons_zero, List.set_cons_succ]
      refine wpAnyH_take (i := 11) (oi := { dst := some 25, op := _, type := _, pos := _, after := _, guard := _ }) (v := .int .i64 ((suN A (k + 1) : Nat) : Int)) rfl (by kernel_rfl) (by kernel_rfl) (by kernel_rfl) (fun _ _ _ h => h) (Or.inl ⟨by rfl, by intro W q; clear q; go_simp; rw [HAS.out]⟩) (by assumption) ?_
      try simp only [Act.put, List.setIfInBounds_toArray, List.set_cons_zero, List.set_cons_succ]
      refine wpAnyH_take (i := 12) (oi := { dst := some 5, op := _, type := _, pos := _, after := _, guard := _ }) (v := .int .i64 ((suN A (k + 1) : Nat) : Int)) rfl (by kernel_rfl) (by kernel_rfl) (by kernel_rfl) (fun _ _ _ h => h) (Or.inl ⟨by rfl, by intro w hSw; clear hSw; go_simp; (try with_reducible rfl)⟩) (by assumption) ?_
      try simp only [Act.put, List.setIfInBounds_toArray, List.set_cons_zero, List.set_cons_succ]
      refine wpAnyH_done (by kernel_rfl) ?_ _
      clear hHeld
      go_wp2_with (first | ((with_reducible show wpList _ _ _ (Oper.mk _ (Op.load 71 _) _ _ _ _ :: _) _ _); refine loadAT (CS) (by omega) rfl rfl rfl ?_))
      refine (l9Weight_any (fun j => h (k * 4 + j)) _).mono ?_
      rintro e x2 ⟨rfl, hb⟩
      have CS := CS.below hb
      have CN := CN.below hb
      have K4 := K4.below hb K4.lt
      have HB : Hid (Below w.heap.size w x2) := HB.out.trans (hb.mono HB.out.size)
      clear hb
      have hbi : ((suN B k : Nat) : Int) + ((wtI (h (k * 4 + 3)) : Nat) : Int) = ((suN B (k + 1) : Nat) : Int) := HBS.out
      have hB3 : suN B (k + 1) ≤ 288 := HB3.out
      go_wp2_with fail
      go_roundg g
      case rel => exact ⟨k + 1, by omega, rfl, rfl, by go_num, CS, CN, K4, HB⟩
      case measure => omega
def bdL (F : Nat → Nat → Int) (k : Nat) : List (List Int) := (List.range k).map fun i => cl 16 (F i)
theorem bdL_len (F : Nat → Nat → Int) (k : Nat) : (bdL F k).length = k := by simp [bdL]
theorem bdL_snoc (F : Nat → Nat → Int) (k : Nat) : bdL F (k + 1) = bdL F k ++ [cl 16 (F k)] := by simp [bdL, List.range_succ]
theorem bdL_all (F : Nat → Nat → Int) (k : Nat) : AllL 16 (bdL F k) := fun x hx => by
  obtain ⟨i, _, rfl⟩ := List.mem_map.1 hx
  exact cl_len _ _
theorem bdL_at (F : Nat → Nat → Int) {k n : Nat} (h : k < n) : (bdL F n)[k]? = some (cl 16 (F k)) := by simp [bdL, h]
set_option maxHeartbeats 4000000 in
set_option maxRecDepth 20000 in
theorem l9Boards_any (f : Nat → Int) (ga ca n : Nat) (h : Nat → Int) (F : Nat → Nat → Int) (w : World) (hV : Vd f) (CM : CAt w ga (n * 4) h) (hn : n ≤ 32) (hF : ∀ k, k < n → doB f (fun j => h (k * 4 + j)) = F k) :
    Calls Try.prog 181 #[.agg (mk 16 f), .slice (some ⟨ga, 0, none⟩) n ca] w fun e w' => ∃ g cap, e = .returned (.slice (some ⟨g, 0, none⟩) n cap) ∧
      OwnsL 47 16 w' w.heap.size (.slice (some ⟨g, 0, none⟩) n cap) (bdL F n) ∧ Below w.heap.size w w' := by
  obtain ⟨i0, hi, hz0, hz1, hz2⟩ := info_parts infoB
  have z16 := zero16
  have hga := CM.1
  have K1 := (Blk.new w 16 f 47).alloc (.cells #[] 47)
  have HB := Lib.hid (((Below.refl w.heap.size w).alloc (Nat.le_refl _) (.cells (mk 16 f) 47)).alloc (by simp) (.cells #[] 47))
  have HO : Hid (OwnsN 47 16 ((w.alloc (.cells (mk 16 f) 47)).alloc (.cells #[] 47)) w.heap.size (.slice (some ⟨w.heap.size + 1, 0, none⟩) 0 0) 0 (bdL F 0)) := by
    have := OwnsL.made (t := 47) (m := 16) (b := w.heap.size) (w.alloc (.cells (mk 16 f) 47)) (by simp)
    simp only [World.size_alloc] at this
    exact this
  have CM := (CM.alloc (.cells (mk 16 f) 47)).alloc (.cells #[] 47)
  have HV := Lib.hid hV
  have HF := Lib.hid hF
  have HNE : Hid ((Value.slice (some ⟨w.heap.size + 1, 0, none⟩) 0 0).ownBlock ≠ some ga) := by
    intro e; simp only [Value.ownBlock, Option.some.injEq] at e; omega
  have HNK : Hid ((Value.slice (some ⟨w.heap.size + 1, 0, none⟩) 0 0).ownBlock ≠ some w.heap.size) := by
    intro e; simp only [Value.ownBlock, Option.some.injEq] at e; omega
  clear hV hF
  go_enter Try.func181, Try.ntmps181
  go_wp2_with fail
  go_loopg [5, 6] n (fun gk s5 s6 wr => ∃ (k : Nat) (v : Value), k + gk = n ∧ s6 = .int .i64 k ∧ v = s5 ∧ (∃ gg cap, v = .slice (some ⟨gg, 0, none⟩) k cap) ∧ Hid (OwnsN 47 16 wr w.heap.size v k (bdL F k)) ∧ Hid (v.ownBlock ≠ some ga) ∧ Hid (v.ownBlock ≠ some w.heap.size) ∧ CAt wr ga (n * 4) h ∧ Blk wr w.heap.size 16 f 47 ∧ Hid (Below w.heap.size w wr))
  case atStart => exact ⟨0, _, by omega, rfl, rfl, ⟨_, _, rfl⟩, HO, HNE, HNK, CM, K1, HB⟩
  case round =>
    obtain ⟨k, v, hkg, rfl, rfl, ⟨gg, cap, hv⟩, HO, HNE, HNK, CM, K1, HB⟩ := hrel
    subst hv
    cases gk with
    | zero =>
      have hk : ¬ ((k : Int) < (n : Int)) := by omega
      obtain rfl : k = n := by omega
      clear hkg
      go_wp2_with fail
      go_ret
      exact ⟨gg, cap, rfl, OwnsN.out HO.out (bdL_len F _).symm, HB.out⟩
    | succ gk2 =>
      have hk8 : (k : Int) < (n : Int) := by omega
      have hk9 : k < n := by omega
      have hk0 : (0 : Int) ≤ (k : Int) := by omega
      have HFK : Hid (doB f (fun j => h (k * 4 + j)) = F k) := HF.out k hk9
      go_wp2_with fail
      refine wp_region_held_drew (S := fun W => Blk W w.heap.size 16 f 47 ∧ CAt W ga (n * 4) h) (by kernel_rfl) (⟨K1.drew, CM.drew⟩) (fun hHeld => ?_)
      have K1 : Blk wr.drew w.heap.size 16 f 47 := K1.drew
      have CM : CAt wr.drew ga (n * 4) h := CM.drew
      have BX : Hid (Below wr.heap.size wr wr.drew) := (Below.refl _ wr).drew
      generalize wr.drew = x0 at *
      refine wpAnyH_take (i := 0) (oi := { dst := some 18, op := _, type := _, pos := _, after := _, guard := _ }) (v := .agg (mk 16 f)) rfl (by kernel_rfl) (by kernel_rfl) (by kernel_rfl) (fun _ _ _ h => h) (Or.inl ⟨by rfl, fun _ q => execB q.1 rfl rfl⟩) (by assumption) ?_
      try simp only [Act.put, List.setIfInBounds_toArray, List.set_cons_zero, List.set_cons_succ]
      refine wpAnyH_take (i := 1) (oi := { dst := some 19, op := _, type := _, pos := _, after := _, guard := _ }) (v := .slice (some ⟨ga, 0, none⟩) n ca) rfl (by kernel_rfl) (by kernel_rfl) (by kernel_rfl) (fun _ _ _ h => h) (Or.inl ⟨by rfl, by intro w hSw; clear hSw; go_simp; (try with_reducible rfl)⟩) (by assumption) ?_
      try simp only [Act.put, List.setIfInBounds_toArray, List.set_cons_zero, List.set_cons_succ]
      refine wpAnyH_take (i := 2) (oi := { dst := some 20, op := _, type := _, pos := _, after := _, guard := _ }) (v := .int .i64 (k : Int)) rfl (by kernel_rfl) (by kernel_rfl) (by kernel_rfl) (fun _ _ _ h => h) (Or.inl ⟨by rfl, by intro w hSw; clear hSw; go_simp; (try with_reducible rfl)⟩) (by assumption) ?_
      try simp only [Act.put, List.setIfInBounds_toArray, List.set_cons_zero, List.set_cons_succ]
      refine wpAnyH_take (i := 3) (oi := { dst := some 21, op := _, type := _, pos := _, after := _, guard := _ }) (v := .pointer (some ⟨ga, k * 4, none⟩)) rfl (by kernel_rfl) (by kernel_rfl) (by kernel_rfl) (fun _ _ _ h => h) (Or.inl ⟨by rfl, by intro w hSw; clear hSw; go_simp; (try with_reducible rfl)⟩) (by assumption) ?_
      try simp only [Act.put, List.setIfInBounds_toArray, List.set_cons_zero, List.set_cons_succ]
      refine wpAnyH_take (i := 4) (oi := { dst := some 22, op := _, type := _, pos := _, after := _, guard := _ }) (v := .agg (mk 4 fun j => h (k * 4 + j))) rfl (by kernel_rfl) (by kernel_rfl) (by kernel_rfl) (fun _ _ _ h => h) (Or.inl ⟨by rfl, fun _ q => execAT q.2 (by omega) rfl rfl⟩) (by assumption) ?_
      try simp only [Act.put, List.setIfInBounds_toArray, List.set_cons_zero, List.set_cons_succ]
      refine wpAnyH_ready (rs := [5, 10]) (by kernel_rfl) (by simp) ?_
      refine AllReadyH.cons rfl (fun K hK => ?_) ?_
      · go_simp
        refine (l5Do_any f (fun j => h (k * 4 + j)) _ HV.out).mono ?_
        rintro e x1 ⟨rfl, hb⟩
        have CM := CM.below hb
        have K1 := K1.below hb K1.lt
        have BX : Hid (Below wr.heap.size wr x1) := BX.out.trans (hb.mono BX.out.size)
        clear hb hHeld
        go_wp2_with fail
        refine hK.out _ _ ⟨K1, CM⟩ (fun hHeld => ?_)
        clear hK K
        try simp only [Act.put, List.setIfInBounds_toArray, List.set_cons_zero, List.set_cons_succ]
        refine wpAnyH_take (i := 6) (oi := { dst := some 17, op := _, type := _, pos := _, after := _, guard := _ }) (v := .tuple #[.agg (mk 16 (doB f fun j => h (k * 4 + j))), .int .i64 (doS f fun j => h (k * 4 + j)), .bool (doO f fun j => h (k * 4 + j))]) rfl (by kernel_rfl) (by kernel_rfl) (by kernel_rfl) (fun _ _ _ h => h) (Or.inl ⟨by rfl, by intro w hSw; clear hSw; go_simp; (try with_reducible rfl)⟩) (by assumption) ?_
        try simp only [Act.put, List.setIfInBounds_toArray, List.set_cons_zero, List.set_cons_succ]
        refine wpAnyH_take (i := 7) (oi := { dst := some 24, op := _, type := _, pos := _, after := _, guard := _ }) (v := .agg (mk 16 (doB f fun j => h (k * 4 + j)))) rfl (by kernel_rfl) (by kernel_rfl) (by kernel_rfl) (fun _ _ _ h => h) (Or.inl ⟨by rfl, by intro w hSw; clear hSw; go_simp; (try with_reducible rfl)⟩) (by assumption) ?_
        try simp only [Act.put, List.setIfInBounds_toArray, List.set_cons_zero, List.set_cons_succ]
        refine wpAnyH_take (i := 8) (oi := { dst := some 25, op := _, type := _, pos := _, after := _, guard := _ }) (v := .int .i64 (doS f fun j => h (k * 4 + j))) rfl (by kernel_rfl) (by kernel_rfl) (by kernel_rfl) (fun _ _ _ h => h) (Or.inl ⟨by rfl, by intro w hSw; clear hSw; go_simp; (try with_reducible rfl)⟩) (by assumption) ?_
        try simp only [Act.put, List.setIfInBounds_toArray, List.set_cons_zero, List.set_cons_succ]
        refine wpAnyH_take (i := 9) (oi := { dst := some 26, op := _, type := _, pos := _, after := _, guard := _ }) (v := .bool (doO f fun j => h (k * 4 + j))) rfl (by kernel_rfl) (by kernel_rfl) (by kernel_rfl) (fun _ _ _ h => h) (Or.inl ⟨by rfl, by intro w hSw; clear hSw; go_simp; (try with_reducible rfl)⟩) (by assumption) ?_
        try simp only [Act.put, List.setIfInBounds_toArray, List.set_cons_zero, List.set_cons_succ]
        refine wpAnyH_ready (rs := [10]) (by kernel_rfl) (by simp) ?_
        refine AllReadyH.cons rfl (fun K hK => ?_) AllReadyH.nil
        rw [if_pos (by rfl)]
        refine wp_allocX rfl ?_
        have K8 := Blk.new x1 16 (fun _ => 0) 47
        have HB8 : Hid (wr.heap.size ≤ x1.heap.size) := BX.out.size
        have HB9 : Hid (w.heap.size < x1.heap.size ∧ ga < x1.heap.size) := ⟨K1.lt, CM.1⟩
        have K1 := K1.alloc (.cells (mk 16 fun _ => 0) 47)
        have CM := CM.alloc (.cells (mk 16 fun _ => 0) 47)
        have BX : Hid (Below wr.heap.size wr (x1.alloc (.cells (mk 16 fun _ => 0) 47))) := BX.out.alloc BX.out.size _
        clear hHeld
        generalize x1.alloc (.cells (mk 16 fun _ => 0) 47) = x2 at *
        generalize x1.heap.size = b8 at *
        refine hK.out _ _ ⟨K1, CM⟩ (fun hHeld => ?_)
        clear hK K
        try simp only [Act.put, List.setIfInBounds_toArray, List.set_cons_zero, List.set_cons_succ]
        refine wpAnyH_ready (rs := [11]) (by kernel_rfl) (by simp) ?_
        refine AllReadyH.cons rfl (fun K hK => ?_) AllReadyH.nil
        have st1 := run_store_blk (P := Try.prog) (g := doB f fun j => h (k * 4 + j)) K8
        have ms1 : (mk 16 (doB f fun j => h (k * 4 + j))).size = 16 := mk_size 16 _
        go_simp
        clear st1 ms1
        have hgr : x2.grownBy (x2.setRow b8 (mk 16 (doB f fun j => h (k * 4 + j)))) (some b8) := grown_row K8 _
        have K1 := K1.rowOther b8 (mk 16 (doB f fun j => h (k * 4 + j))) (by have := HB9.out.1; omega)
        have CM := CM.grown hgr (fun e => by cases e; exact absurd HB9.out.2 (Nat.lt_irrefl _))
        have BX : Hid (Below wr.heap.size wr (x2.setRow b8 (mk 16 (doB f fun j => h (k * 4 + j))))) := below_setRow BX.out HB8.out _
        have K8 := K8.row 16 (doB f fun j => h (k * 4 + j))
        clear hgr hHeld
        generalize x2.setRow b8 (mk 16 (doB f fun j => h (k * 4 + j))) = x3 at *
        refine hK.out _ _ ⟨K1, CM⟩ (fun hHeld => ?_)
        clear hK K
        try simp only [Act.put, List.setIfInBounds_toArray, List.set_cons_zero, List.set_cons_succ]
        refine wpAnyH_take (i := 12) (oi := { dst := some 8, op := _, type := _, pos := _, after := _, guard := _ }) (v := .int .i64 (doS f fun j => h (k * 4 + j))) rfl (by kernel_rfl) (by kernel_rfl) (by kernel_rfl) (fun _ _ _ h => h) (Or.inl ⟨by rfl, by intro w hSw; clear hSw; go_simp; (try with_reducible rfl)⟩) (by assumption) ?_
        try simp only [Act.put, List.setIfInBounds_toArray, List.set_cons_zero, List.set_cons_succ]
        refine wpAnyH_take (i := 13) (oi := { dst := some 9, op := _, type := _, pos := _, after := _, guard := _ }) (v := .bool (doO f fun j => h (k * 4 + j))) rfl (by kernel_rfl) (by kernel_rfl) (by kernel_rfl) (fun _ _ _ h => h) (Or.inl ⟨by rfl, by intro w hSw; clear hSw; go_simp; (try with_reducible rfl)⟩) (by assumption) ?_
        try simp only [Act.put, List.setIfInBounds_toArray, List.set_cons_zero, List.set_cons_succ]
        refine wpAnyH_done (by kernel_rfl) ?_ _
        clear hHeld
        have HOs : Hid (OwnsN 47 16 x3 w.heap.size (.slice (some ⟨gg, 0, none⟩) k cap) k (bdL F k)) := owns_below HO.out BX.out
        have HB3 : Hid (Below w.heap.size w x3) := HB.out.trans (BX.out.mono HB.out.size)
        have hs3 := HB3.out.size
        have hg0 := HB9.out.2
        clear BX HB8
        rw [HFK.out] at K8
        go_wp2_with (first | ((with_reducible show wpList _ _ _ (Oper.mk _ (Op.load 47 _) _ _ _ _ :: _) _ _); refine loadB (K8) rfl rfl rfl ?_) | ((with_reducible show wpList _ _ _ (Oper.mk _ (Op.buildSlice _ 1 _) _ _ _ _ :: _) _ _); refine wpl_buildB _ rfl rfl (f := F k) rfl ?_) | (at_builtin; refine wpl_app (v := .slice (some ⟨gg, 0, none⟩) k cap) rfl _ _ 90 rfl w.heap.size 47 i0 _ 16 128 Try.underlying90 hi hz0 hz1 hz2 rfl (by decide) rfl (World.ownsRow.alloc HOs.out _) x3.heap.size 0 1 1 (F k) 16 rfl (Blk.new _ _ _ _).at (by omega) (by unfold maxLen; omega) (by omega) (by simp; omega) ?_))
        intro v' w7 R hbl hgr hloc
        obtain ⟨g', cap', hv'⟩ := ownsRow_succ R
        have HVv : Hid (∃ gg cap, v' = .slice (some ⟨gg, 0, none⟩) (k + 1) cap) := ⟨g', cap', hv'⟩
        have HO7 : Hid (OwnsN 47 16 w7 w.heap.size v' (k + 1) (bdL F (k + 1))) := by
          rw [snoc_walk (m := 16) _ (F k)] at R
          show OwnsN _ _ _ _ _ _ _
          rw [bdL_snoc]
          exact R
        have hne2 : (Value.slice (some ⟨gg, 0, none⟩) k cap).ownBlock ≠ some ga := HNE.out
        have hgx : ga < x3.heap.size := CM.1
        have HNE2 : Hid (v'.ownBlock ≠ some ga) := by
          intro e
          rcases hloc with r | r
          · rw [r] at e; exact hne2 e
          · rw [r] at e; simp at e; omega
        have hk2 : (Value.slice (some ⟨gg, 0, none⟩) k cap).ownBlock ≠ some w.heap.size := HNK.out
        have hK1 := K1.lt
        have HNK2 : Hid (v'.ownBlock ≠ some w.heap.size) := by
          intro e
          rcases hloc with r | r
          · rw [r] at e; exact hk2 e
          · rw [r] at e; simp at e; omega
        clear hk2 hK1
        have HB7 : Hid (Below w.heap.size w w7) := (HB3.out.alloc hs3 _).trans hbl
        have CM := (CM.alloc (.cells (mk 16 (F k)) 47)).grown hgr (fun e => hne2 e.symm)
        have K1 := (K1.alloc (.cells (mk 16 (F k)) 47)).grown hgr (fun e => HNK.out e.symm)
        clear hbl hgr R hv' HOs hloc HB hne2
        go_wp2_with fail
        go_roundg gk2
        case rel => exact ⟨k + 1, _, by omega, by go_num, rfl, HVv.out, HO7, HNE2, HNK2, CM, K1, HB7⟩
        case measure => omega
      refine AllReadyH.cons rfl (fun K hK => ?_) AllReadyH.nil
      rw [if_pos (by rfl)]
      refine wp_allocX rfl ?_
      have K8 := Blk.new x0 16 (fun _ => 0) 47
      have HB8 : Hid (wr.heap.size ≤ x0.heap.size) := BX.out.size
      have HB9 : Hid (w.heap.size < x0.heap.size ∧ ga < x0.heap.size) := ⟨K1.lt, CM.1⟩
      have K1 := K1.alloc (.cells (mk 16 fun _ => 0) 47)
      have CM := CM.alloc (.cells (mk 16 fun _ => 0) 47)
      have BX : Hid (Below wr.heap.size wr (x0.alloc (.cells (mk 16 fun _ => 0) 47))) := BX.out.alloc BX.out.size _
      clear hHeld
      generalize x0.alloc (.cells (mk 16 fun _ => 0) 47) = x1 at *
      generalize x0.heap.size = b8 at *
      refine hK.out _ _ ⟨K1, CM⟩ (fun hHeld => ?_)
      clear hK K
      try simp only [Act.put, List.setIfInBounds_toArray, List.set_cons_zero, List.set_cons_succ]
      refine wpAnyH_ready (rs := [5]) (by kernel_rfl) (by simp) ?_
      refine AllReadyH.cons rfl (fun K hK => ?_) AllReadyH.nil
      go_simp
      refine (l5Do_any f (fun j => h (k * 4 + j)) _ HV.out).mono ?_
      rintro e x2 ⟨rfl, hb⟩
      have CM := CM.below hb
      have K1 := K1.below hb K1.lt
      have BX : Hid (Below wr.heap.size wr x2) := BX.out.trans (hb.mono BX.out.size)
      have K8 := K8.below hb K8.lt
      clear hb hHeld
      go_wp2_with fail
      refine hK.out _ _ ⟨K1, CM⟩ (fun hHeld => ?_)
      clear hK K
      try simp only [Act.put, List.setIfInBounds_toArray, List.set_cons_zero, List.set_cons_succ]
      refine wpAnyH_take (i := 6) (oi := { dst := some 17, op := _, type := _, pos := _, after := _, guard := _ }) (v := .tuple #[.agg (mk 16 (doB f fun j => h (k * 4 + j))), .int .i64 (doS f fun j => h (k * 4 + j)), .bool (doO f fun j => h (k * 4 + j))]) rfl (by kernel_rfl) (by kernel_rfl) (by kernel_rfl) (fun _ _ _ h => h) (Or.inl ⟨by rfl, by intro w hSw; clear hSw; go_simp; (try with_reducible rfl)⟩) (by assumption) ?_
      try simp only [Act.put, List.setIfInBounds_toArray, List.set_cons_zero, List.set_cons_succ]
      refine wpAnyH_take (i := 7) (oi := { dst := some 24, op := _, type := _, pos := _, after := _, guard := _ }) (v := .agg (mk 16 (doB f fun j => h (k * 4 + j)))) rfl (by kernel_rfl) (by kernel_rfl) (by kernel_rfl) (fun _ _ _ h => h) (Or.inl ⟨by rfl, by intro w hSw; clear hSw; go_simp; (try with_reducible rfl)⟩) (by assumption) ?_
      try simp only [Act.put, List.setIfInBounds_toArray, List.set_cons_zero, List.set_cons_succ]
      refine wpAnyH_take (i := 8) (oi := { dst := some 25, op := _, type := _, pos := _, after := _, guard := _ }) (v := .int .i64 (doS f fun j => h (k * 4 + j))) rfl (by kernel_rfl) (by kernel_rfl) (by kernel_rfl) (fun _ _ _ h => h) (Or.inl ⟨by rfl, by intro w hSw; clear hSw; go_simp; (try with_reducible rfl)⟩) (by assumption) ?_
      try simp only [Act.put, List.setIfInBounds_toArray, List.set_cons_zero, List.set_cons_succ]
      refine wpAnyH_take (i := 9) (oi := { dst := some 26, op := _, type := _, pos := _, after := _, guard := _ }) (v := .bool (doO f fun j => h (k * 4 + j))) rfl (by kernel_rfl) (by kernel_rfl) (by kernel_rfl) (fun _ _ _ h => h) (Or.inl ⟨by rfl, by intro w hSw; clear hSw; go_simp; (try with_reducible rfl)⟩) (by assumption) ?_
      try simp only [Act.put, List.setIfInBounds_toArray, List.set_cons_zero, List.set_cons_succ]
      refine wpAnyH_ready (rs := [11]) (by kernel_rfl) (by simp) ?_
      refine AllReadyH.cons rfl (fun K hK => ?_) AllReadyH.nil
      have st1 := run_store_blk (P := Try.prog) (g := doB f fun j => h (k * 4 + j)) K8
      have ms1 : (mk 16 (doB f fun j => h (k * 4 + j))).size = 16 := mk_size 16 _
      go_simp
      clear st1 ms1
      have hgr : x2.grownBy (x2.setRow b8 (mk 16 (doB f fun j => h (k * 4 + j)))) (some b8) := grown_row K8 _
      have K1 := K1.rowOther b8 (mk 16 (doB f fun j => h (k * 4 + j))) (by have := HB9.out.1; omega)
      have CM := CM.grown hgr (fun e => by cases e; exact absurd HB9.out.2 (Nat.lt_irrefl _))
      have BX : Hid (Below wr.heap.size wr (x2.setRow b8 (mk 16 (doB f fun j => h (k * 4 + j))))) := below_setRow BX.out HB8.out _
      have K8 := K8.row 16 (doB f fun j => h (k * 4 + j))
      clear hgr hHeld
      generalize x2.setRow b8 (mk 16 (doB f fun j => h (k * 4 + j))) = x3 at *
      refine hK.out _ _ ⟨K1, CM⟩ (fun hHeld => ?_)
      clear hK K
      try simp only [Act.put, List.setIfInBounds_toArray, List.set_cons_zero, List.set_cons_succ]
      refine wpAnyH_take (i := 12) (oi := { dst := some 8, op := _, type := _, pos := _, after := _, guard := _ }) (v := .int .i64 (doS f fun j => h (k * 4 + j))) rfl (by kernel_rfl) (by kernel_rfl) (by kernel_rfl) (fun _ _ _ h => h) (Or.inl ⟨by rfl, by intro w hSw; clear hSw; go_simp; (try with_reducible rfl)⟩) (by assumption) ?_
      try simp only [Act.put, List.setIfInBounds_toArray, List.set_cons_zero, List.set_cons_succ]
      refine wpAnyH_take (i := 13) (oi := { dst := some 9, op := _, type := _, pos := _, after := _, guard := _ }) (v := .bool (doO f fun j => h (k * 4 + j))) rfl (by kernel_rfl) (by kernel_rfl) (by kernel_rfl) (fun _ _ _ h => h) (Or.inl ⟨by rfl, by intro w hSw; clear hSw; go_simp; (try with_reducible rfl)⟩) (by assumption) ?_
      try simp only [Act.put, List.setIfInBounds_toArray, List.set_cons_zero, List.set_cons_succ]
      refine wpAnyH_done (by kernel_rfl) ?_ _
      clear hHeld
      have HOs : Hid (OwnsN 47 16 x3 w.heap.size (.slice (some ⟨gg, 0, none⟩) k cap) k (bdL F k)) := owns_below HO.out BX.out
      have HB3 : Hid (Below w.heap.size w x3) := HB.out.trans (BX.out.mono HB.out.size)
      have hs3 := HB3.out.size
      have hg0 := HB9.out.2
      clear BX HB8
      rw [HFK.out] at K8
      go_wp2_with (first | ((with_reducible show wpList _ _ _ (Oper.mk _ (Op.load 47 _) _ _ _ _ :: _) _ _); refine loadB (K8) rfl rfl rfl ?_) | ((with_reducible show wpList _ _ _ (Oper.mk _ (Op.buildSlice _ 1 _) _ _ _ _ :: _) _ _); refine wpl_buildB _ rfl rfl (f := F k) rfl ?_) | (at_builtin; refine wpl_app (v := .slice (some ⟨gg, 0, none⟩) k cap) rfl _ _ 90 rfl w.heap.size 47 i0 _ 16 128 Try.underlying90 hi hz0 hz1 hz2 rfl (by decide) rfl (World.ownsRow.alloc HOs.out _) x3.heap.size 0 1 1 (F k) 16 rfl (Blk.new _ _ _ _).at (by omega) (by unfold maxLen; omega) (by omega) (by simp; omega) ?_))
      intro v' w7 R hbl hgr hloc
      obtain ⟨g', cap', hv'⟩ := ownsRow_succ R
      have HVv : Hid (∃ gg cap, v' = .slice (some ⟨gg, 0, none⟩) (k + 1) cap) := ⟨g', cap', hv'⟩
      have HO7 : Hid (OwnsN 47 16 w7 w.heap.size v' (k + 1) (bdL F (k + 1))) := by
        rw [snoc_walk (m := 16) _ (F k)] at R
        show OwnsN _ _ _ _ _ _ _
        rw [bdL_snoc]
        exact R
      have hne2 : (Value.slice (some ⟨gg, 0, none⟩) k cap).ownBlock ≠ some ga := HNE.out
      have hgx : ga < x3.heap.size := CM.1
      have HNE2 : Hid (v'.ownBlock ≠ some ga) := by
        intro e
        rcases hloc with r | r
        · rw [r] at e; exact hne2 e
        · rw [r] at e; simp at e; omega
      have hk2 : (Value.slice (some ⟨gg, 0, none⟩) k cap).ownBlock ≠ some w.heap.size := HNK.out
      have hK1 := K1.lt
      have HNK2 : Hid (v'.ownBlock ≠ some w.heap.size) := by
        intro e
        rcases hloc with r | r
        · rw [r] at e; exact hk2 e
        · rw [r] at e; simp at e; omega
      clear hk2 hK1
      have HB7 : Hid (Below w.heap.size w w7) := (HB3.out.alloc hs3 _).trans hbl
      have CM := (CM.alloc (.cells (mk 16 (F k)) 47)).grown hgr (fun e => hne2 e.symm)
      have K1 := (K1.alloc (.cells (mk 16 (F k)) 47)).grown hgr (fun e => HNK.out e.symm)
      clear hbl hgr R hv' HOs hloc HB hne2
      go_wp2_with fail
      go_roundg gk2
      case rel => exact ⟨k + 1, _, by omega, by go_num, rfl, HVv.out, HO7, HNE2, HNK2, CM, K1, HB7⟩
      case measure => omega
set_option maxHeartbeats 400000 in
theorem l9Room_any (f : Nat → Int) (w : World) (hV : Vd f) (hp : 0 ≤ pairsR f ∧ pairsR f ≤ 1000) : Calls Try.prog 251 #[.agg (mk 16 f)] w fun e w' => e = .returned (.int .i64 (pairsR f + (empN f 16 : Int))) ∧ Below w.heap.size w w' := by
  have K1 := Blk.new w 16 f 47
  have HB := Lib.hid ((Below.refl w.heap.size w).alloc (Nat.le_refl _) (.cells (mk 16 f) 47))
  have hle := empN_le f 16
  have HP := Lib.hid (specPairs_any f)
  have HE := Lib.hid (l2Empty_any f)
  generalize pairsR f = P at *
  generalize empN f 16 = E at *
  go_enter Try.func251, Try.ntmps251
  go_wp2_with ((with_reducible show wpList _ _ _ (Oper.mk _ (Op.load 47 _) _ _ _ _ :: _) _ _); refine loadB (K1) rfl rfl rfl ?_)
  refine (HP.out _).mono ?_
  rintro e w2 ⟨rfl, hb⟩
  have K1 := K1.below hb K1.lt
  have HB : Hid (Below w.heap.size w w2) := HB.out.trans (hb.mono HB.out.size)
  clear hb
  go_wp2_with ((with_reducible show wpList _ _ _ (Oper.mk _ (Op.load 47 _) _ _ _ _ :: _) _ _); refine loadB (K1) rfl rfl rfl ?_)
  refine (HE.out _).mono ?_
  rintro e w3 ⟨g, cap, rfl, _, hb⟩
  have HB : Hid (Below w.heap.size w w3) := HB.out.trans (hb.mono HB.out.size)
  clear hb
  go_wp2_with fail
  go_ret
  exact ⟨rfl, HB.out⟩
set_option maxHeartbeats 1000000 in
theorem l9Move_any (f : Nat → Int) (d : Int) (w : World) : Calls Try.prog 178 #[.agg (mk 16 f), .int .i64 d] w fun e w' => e = .returned (.bool (decide (MvOk f d))) ∧ Below w.heap.size w w' := by
  have K1 := Blk.new w 16 f 47
  have HB := Lib.hid ((Below.refl w.heap.size w).alloc (Nat.le_refl _) (.cells (mk 16 f) 47))
  by_cases hV : Vd f
  · by_cases hd : 0 ≤ d ∧ d ≤ 3
    · obtain ⟨d0, d3⟩ := hd
      obtain ⟨m, rfl⟩ := Int.eq_ofNat_of_zero_le d0
      have hm4 : m < 4 := by omega
      have HS := Lib.hid (fun w => l5Steps_any f m w hV hm4)
      have HL : Hid (decide (MvOk f (m : Int)) = decide (((stepL f m).length : Int) > 0)) := by
        show _ = _
        rw [decide_eq_decide]
        have h1 := step_none hV m
        have e : ((m : Int)).toNat = m := by omega
        unfold MvOk
        rw [e]
        constructor
        · rintro ⟨_, h⟩
          rcases Nat.eq_zero_or_pos (stepL f m).length with q | q
          · rw [h1.1 q] at h; cases h
          · omega
        · intro h
          refine ⟨⟨hV, d0, d3⟩, ?_⟩
          cases q : isMv f m with
          | true => rfl
          | false => have := h1.2 q; omega
      have HV := Lib.hid hV
      clear hV
      rw [HL.out]
      generalize (stepL f m).length = n at *
      go_enter Try.func178, Try.ntmps178
      go_wp2_with ((with_reducible show wpList _ _ _ (Oper.mk _ (Op.load 47 _) _ _ _ _ :: _) _ _); refine loadB (K1) rfl rfl rfl ?_)
      refine (l2Board_yes _ _ HV.out).mono ?_
      rintro e w1 ⟨rfl, hb⟩
      have K1 := K1.below hb K1.lt
      have HB : Hid (Below w.heap.size w w1) := HB.out.trans (hb.mono HB.out.size)
      clear hb
      go_wp2_with fail
      refine (l2Side_yes _ _ d0 d3).mono ?_
      rintro e w2 ⟨rfl, rfl⟩
      go_wp2_with (first | ((with_reducible show wpList _ _ _ (Oper.mk _ (Op.load 47 _) _ _ _ _ :: _) _ _); refine loadB (K1) rfl rfl rfl ?_) | ((with_reducible show wpList _ _ _ (Oper.mk _ (Op.load 47 _) _ _ _ (some _) :: _) _ _); refine loadgB (K1) rfl rfl rfl ?_))
      refine (HS.out _).mono ?_
      rintro e w3 ⟨g, cap, rfl, _, hb⟩
      have HB : Hid (Below w.heap.size w w3) := HB.out.trans (hb.mono HB.out.size)
      clear hb HS
      go_wp2_with fail
      go_ret
      exact ⟨by simp, HB.out⟩
    · have hN : decide (MvOk f d) = false := decide_eq_false fun h => hd h.1.2
      have HN := Lib.hid (show d < 0 ∨ 3 < d by omega)
      have HV := Lib.hid hV
      rw [hN]
      clear hd hV hN
      go_enter Try.func178, Try.ntmps178
      go_wp2_with ((with_reducible show wpList _ _ _ (Oper.mk _ (Op.load 47 _) _ _ _ _ :: _) _ _); refine loadB (K1) rfl rfl rfl ?_)
      refine (l2Board_yes _ _ HV.out).mono ?_
      rintro e w1 ⟨rfl, hb⟩
      have HB : Hid (Below w.heap.size w w1) := HB.out.trans (hb.mono HB.out.size)
      clear hb
      go_wp2_with fail
      refine (l2Side_no _ _ HN.out).mono ?_
      rintro e w2 ⟨rfl, rfl⟩
      go_wp2_with fail
      go_ret
      exact ⟨rfl, HB.out⟩
  · have hN : decide (MvOk f d) = false := decide_eq_false fun h => hV h.1.1
    have HV := Lib.hid hV
    rw [hN]
    clear hV hN
    go_enter Try.func178, Try.ntmps178
    go_wp2_with ((with_reducible show wpList _ _ _ (Oper.mk _ (Op.load 47 _) _ _ _ _ :: _) _ _); refine loadB (K1) rfl rfl rfl ?_)
    refine (l2Board_no _ _ HV.out).mono ?_
    rintro e w1 ⟨rfl, hb⟩
    have HB : Hid (Below w.heap.size w w1) := HB.out.trans (hb.mono HB.out.size)
    clear hb
    go_wp2_with fail
    go_ret
    exact ⟨rfl, HB.out⟩
end Go.Proofs.Ytblcojacmjbjcab
namespace Go.Proofs.Ytblcojacmjbjcab
open Go.RowKit Plain
attribute [local go_sem] store_new
set_option linter.unusedVariables false
set_option linter.unusedSimpArgs false
theorem bd_mem7 {w : World} {b g n c : Nat} {F : Nat → Nat → Int} (h : OwnsL 47 16 w b (.slice (some ⟨g, 0, none⟩) n c) (bdL F n)) : CAt w g (n * 16) (flatF (bdL F n)) := by
  have h1 : OwnsL 47 16 w b (.slice (some ⟨g, 0, none⟩) (bdL F n).length c) (bdL F n) := by rw [bdL_len]; exact h
  obtain ⟨_, _, e, _, hc⟩ := KRow.of_list (bdL_all F n) h1
  cases e
  rw [bdL_len] at hc
  exact hc
theorem mov_mem {w : World} {b g c : Nat} {L : List Int} (h : OwnsInts w b (.slice (some ⟨g, 0, none⟩) L.length c) L) : CAt w g L.length (fun i => L.getD i 0) := by
  unfold OwnsInts at h
  rw [ints_mk] at h
  obtain ⟨_, _, e1, _, hl, hc⟩ := IRow.of_own h
  cases e1
  exact ⟨hl, hc⟩
theorem step_mem7 {f : Nat → Int} {d k : Nat} (hd : d < 4) (hm : isMv f d = true) (hk : k < (stepL f d).length) :
    doB f (fun j => flatF (stepL f d) (k * 4 + j)) = plB (slideB f d) (psF (slideB f d) k) ∧ wtI (flatF (stepL f d) (k * 4 + 3)) = wtP (psF (slideB f d) k) := by
  obtain ⟨l, hl, h1, h2, _⟩ := step_pl hd hm hk
  have ha := step_all f d hd
  refine ⟨?_, ?_⟩
  · rw [← h1]; exact (do_congr fun i hi => flatF_at ha hl hi).1
  · rw [flatF_at ha hl (by omega), h2, wt_ps]
theorem execAB7 {o : Oper} {ev : Operand → Value} {w : World} {b n off : Nat} {f : Nat → Int} {x : Operand} (hg : CAt w b n f) (hm : off + 16 ≤ n) (ho : o.op = .load 47 x) (hx : ev x = .pointer (some ⟨b, off, none⟩)) :
    (execOp ev o).run Try.prog w = .ok (.value (.agg (mk 16 (fun i => f (off + i))))) w := exec_load_at _ x ho hx hg hm Try.underlying47 rfl sizeB
theorem execB7 {o : Oper} {ev : Operand → Value} {w : World} {b : Nat} {f : Nat → Int} {t : TypeId} {x : Operand} (hg : Blk w b 16 f t) (ho : o.op = .load 47 x) (hx : ev x = .pointer (some ⟨b, 0, none⟩)) :
    (execOp ev o).run Try.prog w = .ok (.value (.agg (mk 16 f))) w := exec_load_blk _ x ho hx hg Try.underlying47 rfl sizeB
theorem wp_ldC7 {o : Oper} {a : Act} {w : World} {K : Act → World → Prop} {Q : Exit → Act → World → Prop} {x : Operand} {b : Nat} {f : Nat → Int} {t : TypeId} (hg : Blk w b 2 f t) (ho : o.op = .load 42 x) (hx : a.eval x = .pointer (some ⟨b, 0, none⟩))
    (h : K (a.put o.dst (.agg (mk 2 f))) w) : o.wp Try.prog a w K Q :=
  wp_load_row _ x ho b hx t _ _ _ hg Try.underlying42 rfl (by rw [mk_size]; exact sizeC) h
theorem fc_mul7 {a b : Nat} (ha : a ≤ 1353152000) (hb : b ≤ 1353152000) : a * b ≤ 2305843009213693952 := by
  have := Nat.mul_le_mul ha hb
  omega
/-- What the parts of a mean meet. -/
structure PtOk (c : Nat) (T : (Nat → Int) → Fc) (S : Nat → Int) (n : Nat) : Prop where
  E : n = empN S 16 * 2
  pos : 0 < n
  le : n ≤ 32
  part : ∀ k, k < n → 0 < (T (plB S (psF S k))).2 ∧ (T (plB S (psF S k))).1 * wtP (psF S k) ≤ 4611686018427387904 ∧ (T (plB S (psF S k))).2 * (5 * n) ≤ 4611686018427387904
  sum : ∀ k, k < n → 0 < (ptF (c, 1) T S (5 * n) k).2 ∧ 0 < (partF (T (plB S (psF S k))) (wtP (psF S k)) (5 * n)).2 ∧
    (ptF (c, 1) T S (5 * n) k).1 * (partF (T (plB S (psF S k))) (wtP (psF S k)) (5 * n)).2 ≤ 2305843009213693952 ∧ (partF (T (plB S (psF S k))) (wtP (psF S k)) (5 * n)).1 * (ptF (c, 1) T S (5 * n) k).2 ≤ 2305843009213693952 ∧
    (ptF (c, 1) T S (5 * n) k).2 * (partF (T (plB S (psF S k))) (wtP (psF S k)) (5 * n)).2 ≤ 4611686018427387904
theorem pt_ok {D M c : Nat} {T : (Nat → Int) → Fc} {S : Nat → Int} (h : Den D M T S) (hE : 0 < empN S 16) (hD : D * 160 ≤ 1153152000) (hM : M * (D * 160) ≤ 1153152000) (hc : c * (D * 160) ≤ 200000000 ∨ (c ≤ 4194304 ∧ D = 1 ∧ M * 160 ≤ 671088640)) : PtOk c T S (empN S 16 * 2) := by
  have hle := empN_le S 16
  have e5 : 5 * (empN S 16 * 2) = 10 * empN S 16 := by omega
  have hQ : 0 < D * (10 * empN S 16) := Nat.mul_pos h.D_pos (by omega)
  have hQ2 : D * (10 * empN S 16) ≤ D * 160 := Nat.mul_le_mul_left _ (by omega)
  have hs0 : (c, 1) = rd (c * (D * (10 * empN S 16))) (D * (10 * empN S 16)) := by
    rw [← rd_one c]; exact rd_congr Nat.one_pos hQ (by simp [Nat.mul_comm, Nat.mul_left_comm, Nat.mul_assoc])
  have hcQ : c * (D * (10 * empN S 16)) + M * (D * 160) ≤ 1353152000 := by
    have h1 := Nat.mul_le_mul_left c hQ2
    rcases hc with hc | ⟨h2, h3, h4⟩
    · omega
    · subst h3
      have h5 := Nat.mul_le_mul h2 (show 1 * (10 * empN S 16) ≤ 160 by omega)
      omega
  have hMD : M * D ≤ 7207200 := by
    have e : M * (D * 160) = 160 * (M * D) := by simp [Nat.mul_comm, Nat.mul_left_comm, Nat.mul_assoc]
    omega
  refine ⟨rfl, by omega, by omega, fun k hk => ?_, fun k hk => ?_⟩
  · obtain ⟨a1, a2, a3, _⟩ := pt_part h hE hk
    have hw := wtP_le (psF S k)
    refine ⟨a1.pos, ?_, ?_⟩
    · have := Nat.mul_le_mul a3 hw.2; omega
    · have := Nat.mul_le_mul a2 (show 5 * (empN S 16 * 2) ≤ 160 by omega); omega
  · rw [e5]
    obtain ⟨_, _, _, b1, b2, b3⟩ := pt_part h hE hk
    obtain ⟨c1, c2, c3⟩ := pt_bd h hE hs0 (Nat.le_of_lt hk)
    refine ⟨c1.pos, b1.pos, fc_mul7 (by omega) (by omega), fc_mul7 (by omega) (by omega), ?_⟩
    have := fc_mul7 (a := (ptF (c, 1) T S (10 * empN S 16) k).2) (b := (partF (T (plB S (psF S k))) (wtP (psF S k)) (10 * empN S 16)).2) (by omega) (by omega)
    omega
def SKn (n : Nat) : Prop := ∀ (f : Nat → Int) (w : World), Vd f → Calls Try.prog 209 #[.agg (mk 16 f), .int .i64 (n : Int)] w fun e w' => e = .returned (.agg (mk 2 (fcF (KpF n f)))) ∧ Below w.heap.size w w'
def SDn (n : Nat) : Prop := ∀ (f : Nat → Int) (d : Nat) (w : World), Vd f → d < 4 → isMv f d = true → Calls Try.prog 211 #[.agg (mk 16 f), .int .i64 (d : Int), .int .i64 ((n : Int) + 1)] w fun e w' => e = .returned (.agg (mk 2 (fcF (kbV n f d)))) ∧ Below w.heap.size w w'
end Go.Proofs.Ytblcojacmjbjcab
namespace Go.Proofs.Ytblcojacmjbjcab
open Go.RowKit Plain
attribute [local go_sem] store_new
set_option linter.unusedVariables false
set_option linter.unusedSimpArgs false
theorem bd_mem {w : World} {b g n c : Nat} {F : Nat → Nat → Int} (h : OwnsL 47 16 w b (.slice (some ⟨g, 0, none⟩) n c) (bdL F n)) : CAt w g (n * 16) (flatF (bdL F n)) := by
  have h1 : OwnsL 47 16 w b (.slice (some ⟨g, 0, none⟩) (bdL F n).length c) (bdL F n) := by rw [bdL_len]; exact h
  obtain ⟨_, _, e, _, hc⟩ := KRow.of_list (bdL_all F n) h1
  cases e
  rw [bdL_len] at hc
  exact hc
theorem int_mem {w : World} {b g n c : Nat} {U : Nat → Nat} (h : w.ownsRow b 3 1 (.slice (some ⟨g, 0, none⟩) n c) n ((List.range n).map fun i => Value.int .i64 (U i : Int))) : CAt w g n (fun i => (U i : Int)) := by
  have e : (List.range n).map (fun i => Value.int .i64 (U i : Int)) = (mk n fun i => (U i : Int)).toList := by simp [mk]
  rw [e] at h
  obtain ⟨_, _, e1, _, hl, hc⟩ := IRow.of_own h
  cases e1
  exact ⟨hl, hc⟩
theorem fill_int9_at (u : Int) (z : Value) : Instr.fill (fun i => some (i * 1, 1)) #[z] [(0, .int .i64 u)] = some (mk 1 fun _ => u) := by kernel_rfl
theorem fill_int9 (u : Int) (cs : Array Value) (hc : cs.size = 1) : Instr.fill (fun i => some (i * 1, 1)) cs [(0, .int .i64 u)] = some (mk 1 fun _ => u) := by
  obtain ⟨l⟩ := cs
  have hl : l.length = 1 := by simpa using hc
  match l, hl with
  | [a], _ => exact fill_int9_at u a
theorem wp_buildI {w : World} {o : Oper} {a : Act} {K : Act → World → Prop} {Q : Exit → Act → World → Prop} (x : Operand) (ho : o.op = .buildSlice 36 1 #[(0, x)]) {u : Int} (hx : a.eval x = .int .i64 u)
    (h : K (a.put o.dst (.slice (some ⟨w.heap.size, 0, none⟩) 1 1)) (w.alloc (.cells (mk 1 fun _ => u) 3))) : o.wp Try.prog a w K Q := by
  obtain ⟨i0, hi, hz0, hz1, hz2⟩ := info_parts infoInt
  refine Go.wp_buildSlice 36 3 1 #[(0, x)] ho (mk 1 fun _ => u) i0 _ Try.underlying36 hi hz0 (by rw [hz1]; decide) (by rw [hz1]; decide) ?_ h
  rw [hz1]
  have e : (Array.map (fun (p : Nat × Operand) => (p.1, a.eval p.2)) #[(0, x)]).toList = [(0, .int .i64 u)] := by simp [hx]
  show Instr.fill _ _ (Array.map (fun (p : Nat × Operand) => (p.1, a.eval p.2)) #[(0, x)]).toList = _
  rw [e]
  exact fill_int9 u _ (by simp)
theorem range_snoc (U : Nat → Nat) (k : Nat) : (List.range (k + 1)).map (fun i => Value.int .i64 (U i : Int)) = (List.range k).map (fun i => Value.int .i64 (U i : Int)) ++ (mk (1 * 1) fun j => ((U k : Nat) : Int)).toList := by
  rw [List.range_succ, List.map_append]; rfl
/-- What the steps of a move tell, and the mean of whole numbers over them. -/
theorem step_mem {f : Nat → Int} {d k : Nat} (hd : d < 4) (hm : isMv f d = true) (hk : k < (stepL f d).length) :
    doB f (fun j => flatF (stepL f d) (k * 4 + j)) = plB (slideB f d) (psF (slideB f d) k) ∧ flatF (stepL f d) (k * 4 + 3) = ((1 + k % 2 : Nat) : Int) := by
  obtain ⟨l, hl, h1, h2, _⟩ := step_pl hd hm hk
  have ha := step_all f d hd
  refine ⟨?_, ?_⟩
  · rw [← h1]; exact (do_congr fun i hi => flatF_at ha hl hi).1
  · rw [flatF_at ha hl (by omega), h2]
theorem mean_of {f : Nat → Int} {d M : Nat} {u : (Nat → Int) → Nat} (hV : Vd f) (hd : d < 4) (hm : isMv f d = true) (hM : 0 < M) (hM2 : M ≤ 1000000) (hu : ∀ g, u g ≤ M) :
    rd (suN (fun k => wtI (flatF (stepL f d) (k * 4 + 3)) * u (plB (slideB f d) (psF (slideB f d) k))) (stepL f d).length) (suN (fun k => wtI (flatF (stepL f d) (k * 4 + 3))) (stepL f d).length) = mnF (numT u) (slideB f d) := by
  have hn := mv_len hm
  have hE := mv_room hV hm
  rw [← mean_num (T := numT u) (u := fun k => u (plB (slideB f d) (psF (slideB f d) k))) (den_num hM hM2 hu) hE hn (fun k _ => rfl)]
  congr 1
  · refine suN_congr _ fun k hk => ?_
    rw [(step_mem hd hm hk).2, wt_ps]
  · refine suN_congr _ fun k hk => ?_
    rw [(step_mem hd hm hk).2, wt_ps]
set_option maxHeartbeats 4000000 in
set_option maxRecDepth 20000 in
theorem l9MeanRoom_any (f : Nat → Int) (m : Nat) (w : World) (hV : Vd f) (hm4 : m < 4) (hm : isMv f m = true) :
    Calls Try.prog 194 #[.agg (mk 16 f), .int .i64 (m : Int)] w fun e w' => e = .returned (.agg (mk 2 (fcF (mnF (numT (uRoom)) (slideB f m))))) ∧ Below w.heap.size w w' := by
  have z2 := zero2
  have z3 := zero3
  have z16 := zero16
  have K1 := Blk.new w 16 (f) 47
  have KR := Blk.new (w.alloc (.cells (mk 16 (f)) 47)) 2 (fun _ => 0) 42
  have K1 := K1.alloc (.cells (mk 2 (fun _ => 0)) 42)
  have HB := Lib.hid (((Below.refl w.heap.size w).alloc (by simp) (.cells (mk 16 (f)) 47)).alloc (by simp) (.cells (mk 2 (fun _ => 0)) 42))
  simp only [World.size_alloc] at K1 KR HB
  obtain ⟨i0, hi, hz0, hz1, hz2⟩ := info_parts infoInt
  have hn := mv_len hm
  have hE := mv_room hV hm
  have hE2 := empN_le (slideB f m) 16
  have hn2 : (stepL f m).length ≤ 32 := by omega
  have hn0 : 0 < (stepL f m).length := by omega
  have HST := Lib.hid (fun w => l5Steps_any f m w hV hm4)
  have HMN : Hid (rd (suN (fun k => wtI (flatF (stepL f m) (k * 4 + 3)) * (uRoom) (plB (slideB f m) (psF (slideB f m) k))) (stepL f m).length) (suN (fun k => wtI (flatF (stepL f m) (k * 4 + 3))) (stepL f m).length) = mnF (numT ((uRoom))) (slideB f m)) := mean_of (u := (uRoom)) (M := 1000) hV hm4 hm (by decide) (by decide) (fun g => uRoom_le g)
  have HSM := Lib.hid (fun k (hk : k < (stepL f m).length) => (step_mem (k := k) hm4 hm hk).1)
  have HPV := Lib.hid (fun k (hk : k < (stepL f m).length) => plB_vd (slideB_vd hV m) (ps_ok (S := slideB f m) (k := k) (by omega)))
  have HSA := Lib.hid (step_all f m hm4)
  obtain ⟨F, hF⟩ : ∃ F : Nat → Nat → Int, F = fun k => plB (slideB f m) (psF (slideB f m) k) := ⟨_, rfl⟩
  have HF : Hid (∀ k, k < (stepL f m).length → doB f (fun j => flatF (stepL f m) (k * 4 + j)) = F k) := by intro k hk; rw [hF]; exact HSM.out k hk
  have HVF : Hid (∀ k, k < (stepL f m).length → Vd (F k)) := by intro k hk; rw [hF]; exact HPV.out k hk
  obtain ⟨U, hU⟩ : ∃ U : Nat → Nat, U = fun k => (uRoom) (F k) := ⟨_, rfl⟩
  have HUk : Hid (∀ k, U k = (uRoom) (F k)) := fun k => by rw [hU]
  have HUle : Hid (∀ k, U k ≤ 1000) := fun k => by rw [hU]; exact (fun g => uRoom_le g) _
  have HR : Hid (rd (suN (fun k => wtI (flatF (stepL f m) (k * 4 + 3)) * U k) (stepL f m).length) (suN (fun k => wtI (flatF (stepL f m) (k * 4 + 3))) (stepL f m).length) = mnF (numT ((uRoom))) (slideB f m)) := by
    show _ = _; rw [hU, hF]; exact HMN.out
  have HV := Lib.hid hV
  have m0 : (0 : Int) ≤ (m : Int) := by omega
  have m3 : (m : Int) ≤ 3 := by omega
  clear hF hU HMN HSM HPV hV hm hn hE hE2
  go_enter Try.func194, Try.ntmps194
  go_wp2_with ((with_reducible show wpList _ _ _ (Oper.mk _ (Op.load 47 _) _ _ _ _ :: _) _ _); refine loadB (K1) rfl rfl rfl ?_)
  refine (HST.out _).mono ?_
  rintro e w2 ⟨gs, cs, rfl, hs, hb⟩
  have CS : CAt w2 gs ((stepL f m).length * 4) (flatF (stepL f m)) := by
    obtain ⟨_, _, e1, _, hc⟩ := KRow.of_list HSA.out hs
    cases e1
    exact hc
  clear hs HST HSA
  generalize hN : (stepL f m).length = n at *
  generalize hH : flatF (stepL f m) = h at *
  have hgs := CS.1
  have K1 := (K1.below hb K1.lt).alloc (.cells #[] 3)
  have KR := (KR.below hb KR.lt).alloc (.cells #[] 3)
  have HB : Hid (Below w.heap.size w w2) := HB.out.trans (hb.mono HB.out.size)
  have CS := CS.alloc (.cells #[] 3)
  have hq := HB.out.size
  have HO : Hid (World.ownsRow (w2.alloc (.cells #[] 3)) w.heap.size 3 1 (.slice (some ⟨w2.heap.size, 0, none⟩) 0 0) 0 ((List.range 0).map fun i => Value.int .i64 (U i : Int))) := World.ownsRow_made (base := w.heap.size) (e := 3) (size := 1) w2 #[] 0 hq (by decide) rfl
  have HB : Hid (Below w.heap.size w (w2.alloc (.cells #[] 3))) := HB.out.alloc HB.out.size _
  clear hb
  go_wp2_with ((with_reducible show wpList _ _ _ (Oper.mk _ (Op.load 47 _) _ _ _ _ :: _) _ _); refine loadB (K1) rfl rfl rfl ?_)
  refine (l9Boards_any f gs cs n h F _ HV.out CS hn2 HF.out).mono ?_
  rintro e w3 ⟨gb, cb, rfl, hbo, hb⟩
  have hgb : w2.heap.size + 1 ≤ gb := by have := (hbo.lt gb rfl).1; simpa using this
  have CB := bd_mem hbo
  have K1 := K1.below hb K1.lt
  have KR := KR.below hb KR.lt
  have CS := CS.below hb
  have HO : Hid (World.ownsRow w3 w.heap.size 3 1 (.slice (some ⟨w2.heap.size, 0, none⟩) 0 0) 0 ((List.range 0).map fun i => Value.int .i64 (U i : Int))) := owns_below HO.out hb
  have HB : Hid (Below w.heap.size w w3) := HB.out.trans (hb.mono HB.out.size)
  have HNB : Hid ((Value.slice (some ⟨w2.heap.size, 0, none⟩) 0 0).ownBlock ≠ some gb) := by intro e; simp only [Value.ownBlock, Option.some.injEq] at e; omega
  have HNS : Hid ((Value.slice (some ⟨w2.heap.size, 0, none⟩) 0 0).ownBlock ≠ some gs) := by intro e; simp only [Value.ownBlock, Option.some.injEq] at e; omega
  clear hb hbo hgb hgs hq
  have HAT : Hid (∀ k, k < n → mk 16 (fun j => flatF (bdL F n) (k * 16 + j)) = mk 16 (F k)) := fun k hk => by
    rw [flatF_mk (bdL_all F n) (bdL_at F hk)]
    exact mk_congr fun i hi => fn_cl _ i hi
  generalize flatF (bdL F n) = hb at *
  go_wp2_with fail
  go_loopg [6, 8] n (fun gk sN sI wr => ∃ (k : Nat) (v : Value), k + gk = n ∧ sI = .int .i64 k ∧ v = sN ∧ (∃ gg cap, v = .slice (some ⟨gg, 0, none⟩) k cap) ∧ Hid (World.ownsRow wr w.heap.size 3 1 v k ((List.range k).map fun i => Value.int .i64 (U i : Int))) ∧ Hid (v.ownBlock ≠ some gb) ∧ Hid (v.ownBlock ≠ some gs) ∧ CAt wr gb (n * 16) hb ∧ CAt wr gs (n * 4) h ∧ Blk wr w.heap.size 16 (f) 47 ∧ Blk wr (w.heap.size + 1) 2 (fun _ => 0) 42 ∧ Hid (Below w.heap.size w wr))
  case atStart => exact ⟨0, _, by omega, rfl, rfl, ⟨_, _, rfl⟩, HO, HNB, HNS, CB, CS, K1, KR, HB⟩
  case round =>
    obtain ⟨k, v, hkg, rfl, rfl, ⟨gg, cap, hv⟩, HO, HNB, HNS, CB, CS, K1, KR, HB⟩ := hrel
    subst hv
    cases gk with
    | zero =>
      have hk : ¬ ((k : Int) < (n : Int)) := by omega
      obtain rfl : k = n := by omega
      clear hkg
      have CN := int_mem HO.out
      go_wp2_with fail
      refine (l9Mean_any gs gg _ _ _ h U _ CS CN hn0 hn2 (fun k _ => Nat.le_trans (HUle.out k) (by decide))).mono ?_
      rintro e w4 ⟨rfl, hb⟩
      have KR := KR.below hb KR.lt
      have HB : Hid (Below w.heap.size w w4) := HB.out.trans (hb.mono HB.out.size)
      clear hb
      go_wp2_with ((with_reducible show wpList _ _ _ (Oper.mk _ (Op.store 42 _ _) _ _ _ _ :: _) _ _); refine storeC (KR) rfl rfl rfl rfl ?_)
      try simp only [Exit.inBlock, Exit.then]
      exact retcC (KR.row 2 _) rfl rfl rfl ⟨by rw [HR.out] <;> rfl, below_setRow HB.out (by omega) _⟩
    | succ gk2 =>
      have hk8 : (k : Int) < (n : Int) := by omega
      have hk9 : k < n := by omega
      have hk0 : (0 : Int) ≤ (k : Int) := by omega
      have HAK : Hid (mk 16 (fun j => hb (k * 16 + j)) = mk 16 (F k)) := HAT.out k hk9
      have HVK : Hid (Vd (F k)) := HVF.out k hk9
      have HU : Hid (U k = (uRoom) (F k)) := HUk.out k
      have hUle := HUle.out k
      have HM := Lib.hid (fun w => show Calls Try.prog 251 #[.agg (mk 16 fun j => hb (k * 16 + j))] w _ by rw [HAK.out]; exact l9Room_any (F k) w HVK.out (by have := pairs_bd (F k); omega))
      have HUI : Hid (pairsR (F k) + (empN (F k) 16 : Int) = ((U k : Nat) : Int)) := by show _ = _; rw [HU.out]; exact (uRoom_int (F k)).symm
      go_wp2_with ((with_reducible show wpList _ _ _ (Oper.mk _ (Op.load 47 _) _ _ _ _ :: _) _ _); refine loadAB (CB) (by omega) rfl rfl rfl ?_)
      refine (HM.out _).mono ?_
      rw [HUI.out]
      rintro e w4 ⟨rfl, hb⟩
      have K1 := (K1.below hb K1.lt)
      have KR := (KR.below hb KR.lt)
      have CB := (CB.below hb)
      have CS := (CS.below hb)
      have HO : Hid (World.ownsRow w4 w.heap.size 3 1 (.slice (some ⟨gg, 0, none⟩) k cap) k ((List.range k).map fun i => Value.int .i64 (U i : Int))) := owns_below HO.out hb
      have HB : Hid (Below w.heap.size w w4) := HB.out.trans (hb.mono HB.out.size)
      clear hb
      go_wp2_with (first | ((with_reducible show wpList _ _ _ (Oper.mk _ (Op.buildSlice _ 1 _) _ _ _ _ :: _) _ _); refine wpList_plain rfl fun _ hK9 => wp_buildI _ rfl rfl (hK9 _ _ ?_)) | (at_builtin; refine wpl_app (v := .slice (some ⟨gg, 0, none⟩) k cap) rfl _ _ 36 rfl w.heap.size 3 i0 _ 1 8 Try.underlying36 hi hz0 hz1 hz2 rfl (by decide) rfl (World.ownsRow.alloc HO.out _) w4.heap.size 0 1 1 (fun _ => ((U k : Nat) : Int)) 1 rfl (Blk.new _ _ _ _).at (by omega) (by unfold maxLen; omega) (by omega) (by have := HB.out.size; simp; omega) ?_))
      intro v' w7 R hbl hgr hloc
      obtain ⟨g', cap', hv'⟩ := ownsRow_succ R
      have HVv : Hid (∃ gg cap, v' = .slice (some ⟨gg, 0, none⟩) (k + 1) cap) := ⟨g', cap', hv'⟩
      have HO7 : Hid (World.ownsRow w7 w.heap.size 3 1 v' (k + 1) ((List.range (k + 1)).map fun i => Value.int .i64 (U i : Int))) := by
        show World.ownsRow _ _ _ _ _ _ _
        rw [range_snoc]
        exact R
      have hneB : (Value.slice (some ⟨gg, 0, none⟩) k cap).ownBlock ≠ some gb := HNB.out
      have hneS : (Value.slice (some ⟨gg, 0, none⟩) k cap).ownBlock ≠ some gs := HNS.out
      have hgbx : gb < w4.heap.size := CB.1
      have hgsx : gs < w4.heap.size := CS.1
      have HNB2 : Hid (v'.ownBlock ≠ some gb) := by
        intro e
        rcases hloc with r | r
        · rw [r] at e; exact hneB e
        · rw [r] at e; simp at e; omega
      have HNS2 : Hid (v'.ownBlock ≠ some gs) := by
        intro e
        rcases hloc with r | r
        · rw [r] at e; exact hneS e
        · rw [r] at e; simp at e; omega
      have HB7 : Hid (Below w.heap.size w w7) := (HB.out.alloc HB.out.size _).trans hbl
      have CB := (CB.alloc (.cells (mk 1 fun _ => ((U k : Nat) : Int)) 3)).grown hgr (fun e => hneB e.symm)
      have CS := (CS.alloc (.cells (mk 1 fun _ => ((U k : Nat) : Int)) 3)).grown hgr (fun e => hneS e.symm)
      have K1 := (K1.alloc (.cells (mk 1 fun _ => ((U k : Nat) : Int)) 3)).grown hgr (fun e => own_not_blk (World.ownsRow.alloc HO.out (.cells (mk 1 fun _ => ((U k : Nat) : Int)) 3)) (K1.alloc _) (by decide) e.symm)
      have KR := (KR.alloc (.cells (mk 1 fun _ => ((U k : Nat) : Int)) 3)).grown hgr (fun e => own_not_blk (World.ownsRow.alloc HO.out (.cells (mk 1 fun _ => ((U k : Nat) : Int)) 3)) (KR.alloc _) (by decide) e.symm)
      clear hbl hgr R hv' HO hloc HB hneB hneS HNB HNS
      go_wp2_with fail
      go_roundg gk2
      case rel => exact ⟨k + 1, _, by omega, by go_num, rfl, HVv.out, HO7, HNB2, HNS2, CB, CS, K1, KR, HB7⟩
      case measure => omega
end Go.Proofs.Ytblcojacmjbjcab
