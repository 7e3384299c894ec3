/-
  Several texts in one:
  The reference's arithmetic on fractions, and its helpers of chapter 9: boards behind steps, means of whole numbers, the room.
  The contracts of the reference's l9Keep and l9KeepBest, by the number of moves.
  The contracts of the reference's chances of chapter 9, and of its mean of the room.
-/
import Derived.Test.YtblcojacmjbjcabBaseA
import Derived.Test.YtblcojacmjbjcabMeanA
import Derived.Test.YtblcojacmjbjcabSpecNext
import Derived.Test.YtblcojacmjbjcabPairs
import Derived.Test.YtblcojacmjbjcabRowsKit
import Derived.Test.YtblcojacmjbjcabTripKit
import Derived.Test.YtblcojacmjbjcabPlaceKit
namespace Go.Proofs.Ytblcojacmjbjcab
open Go.RowKit Plain
attribute [local go_sem] store_new
set_option linter.unusedVariables false
set_option linter.unusedSimpArgs false
theorem run_two9 (a b : Int) (w : World) : (Instr.build 42 #[(0, .int .i64 a), (1, .int .i64 b)]).run Try.prog w = .ok (.agg (mk 2 (two a b))) w := by kernel_rfl
theorem exec_two9 {o : Oper} {ev : Operand → Value} {w : World} (x y : Operand) (ho : o.op = .build 42 #[(0, x), (1, y)]) {a b : Int}
    (hx : ev x = .int .i64 a) (hy : ev y = .int .i64 b) : (execOp ev o).run Try.prog w = .ok (.value (.agg (mk 2 (two a b)))) w := by
  have hr := run_two9 a b w
  simp [execOp, ho, hx, hy, hr, Result.andThen]
theorem rd_end9 {a b d : Nat} (h : d = Nat.gcd a b) : rd a b = (a / d, b / d) := by subst h; rfl
theorem fit9 {a : Nat} (h : a ≤ 4611686018427387904) : IntKind.wrap .i64 (a : Int) = (a : Int) := by rw [IntKind.wrap_i64]; omega
theorem mostOne_any (a : Int) (w : World) (h : 1 ≤ a) : Calls Try.prog 220 #[.int .i64 a, .int .i64 1] w fun e w' => e = .returned (.int .i64 a) ∧ w = w' := by
  by_cases h1 : a > 1
  · go_enter Try.func220, Try.ntmps220
    go_wp2_with fail
    go_ret
    exact ⟨rfl, rfl⟩
  · obtain rfl : a = 1 := by omega
    go_enter Try.func220, Try.ntmps220
    go_wp2_with fail
    go_ret
    exact ⟨rfl, rfl⟩
set_option maxHeartbeats 1000000 in
theorem l9Cut_any (a b : Nat) (w : World) (hb : 0 < b) (ha : a ≤ 4611686018427387904) (hb2 : b ≤ 4611686018427387904) :
    Calls Try.prog 204 #[.int .i64 (a : Int), .int .i64 (b : Int)] w fun e w' => e = .returned (.agg (mk 2 (fcF (rd a b)))) ∧ Below w.heap.size w w' := by
  have z2 := zero2
  have K1 := Blk.new w 2 (fun _ => 0) 42
  have HB := Lib.hid ((Below.refl w.heap.size w).alloc (Nat.le_refl _) (.cells (mk 2 fun _ => 0) 42))
  go_enter Try.func204, Try.ntmps204
  go_wp2_with fail
  generalize w.alloc (.cells (mk 2 fun _ => 0) 42) = w1 at *
  go_loopw [5, 6] (fun d r wr => ∃ d' r' : Nat, d = .int .i64 (d' : Int) ∧ r = .int .i64 (r' : Int) ∧ 0 < d' + r' ∧ d' ≤ 4611686018427387904 ∧ r' ≤ 4611686018427387904 ∧ Nat.gcd d' r' = Nat.gcd a b ∧ Blk wr w.heap.size 2 (fun _ => 0) 42 ∧ Hid (Below w.heap.size w wr)) (fun _ r _ => (intOf r).toNat)
  case atStart => exact ⟨a, b, rfl, rfl, by omega, ha, hb2, rfl, K1, HB⟩
  case round =>
    obtain ⟨d, r, rfl, rfl, hd, hd2, hr2, hg, K1, HB⟩ := hrel
    by_cases hr : 0 < r
    · have hri : (r : Int) > 0 := by omega
      have hrn : ((r : Int) == 0) = false := by rw [beq_eq_false_iff_ne]; omega
      have hlt := Nat.mod_lt d hr
      have hgs := gcd_step d r
      go_wp2_with fail
      go_quiet (fail)
      go_wp2_with fail
      go_roundw
      case rel => exact ⟨r, d % r, rfl, rfl, by omega, hr2, by omega, by rw [hgs]; exact hg, K1.drewN _, Lib.hid (below_drewN HB.out _)⟩
      case measure =>
        show ((d % r : Nat) : Int).toNat < ((r : Nat) : Int).toNat
        omega
    · have hri : ¬ (r : Int) > 0 := by omega
      obtain rfl : r = 0 := by omega
      have hd : 0 < d := by omega
      have hdn : ((d : Int) == 0) = false := by rw [beq_eq_false_iff_ne]; omega
      rw [gcd_end] at hg
      have HE := Lib.hid (rd_end9 hg)
      have hd0 : ¬ d = 0 := by omega
      have hqa : IntKind.wrap .i64 ((a : Int) / (d : Int)) = (a : Int) / (d : Int) := fit9 (a := a / d) (Nat.le_trans (Nat.div_le_self _ _) ha)
      have hqb : IntKind.wrap .i64 ((b : Int) / (d : Int)) = (b : Int) / (d : Int) := fit9 (a := b / d) (Nat.le_trans (Nat.div_le_self _ _) hb2)
      have HEV : Hid (mk 2 (two ((a : Int) / (d : Int)) ((b : Int) / (d : Int))) = mk 2 (fcF (rd a b))) := by
        show _ = _
        rw [HE.out]; rfl
      clear hg HE
      have hd1 : (1 : Int) ≤ (d : Int) := by omega
      go_wp2_with fail
      refine wp_region_held_drew (S := fun W => (∃ g, Blk W w.heap.size 2 g 42) ∧ Hid (Below w.heap.size w W)) (by kernel_rfl) (⟨⟨_, K1.drew⟩, Lib.hid HB.out.drew⟩) (fun hHeld => ?_)
      have K1 : Blk wr.drew w.heap.size 2 (fun _ => 0) 42 := K1.drew
      have HB : Hid (Below w.heap.size w wr.drew) := HB.out.drew
      generalize wr.drew = x0 at *
      refine wpAnyH_take (i := 0) (oi := { dst := some 15, op := _, type := _, pos := _, after := _, guard := _ }) (v := .int .i64 (a : Int)) rfl (by kernel_rfl) (by kernel_rfl) (by kernel_rfl) (fun _ _ _ h => h) (Or.inl ⟨by rfl, by intro w hSw; clear hSw; go_simp; (try with_reducible rfl)⟩) (by assumption) ?_
      try simp only [Act.put, List.setIfInBounds_toArray, List.set_cons_zero, List.set_cons_succ]
      refine wpAnyH_take (i := 1) (oi := { dst := some 16, op := _, type := _, pos := _, after := _, guard := _ }) (v := .int .i64 (d : Int)) rfl (by kernel_rfl) (by kernel_rfl) (by kernel_rfl) (fun _ _ _ h => h) (Or.inl ⟨by rfl, by intro w hSw; clear hSw; go_simp; (try with_reducible rfl)⟩) (by assumption) ?_
      try simp only [Act.put, List.setIfInBounds_toArray, List.set_cons_zero, List.set_cons_succ]
      refine wpAnyH_take (i := 4) (oi := { dst := some 19, op := _, type := _, pos := _, after := _, guard := _ }) (v := .int .i64 (b : Int)) rfl (by kernel_rfl) (by kernel_rfl) (by kernel_rfl) (fun _ _ _ h => h) (Or.inl ⟨by rfl, by intro w hSw; clear hSw; go_simp; (try with_reducible rfl)⟩) (by assumption) ?_
      try simp only [Act.put, List.setIfInBounds_toArray, List.set_cons_zero, List.set_cons_succ]
      refine wpAnyH_take (i := 5) (oi := { dst := some 20, op := _, type := _, pos := _, after := _, guard := _ }) (v := .int .i64 (d : Int)) rfl (by kernel_rfl) (by kernel_rfl) (by kernel_rfl) (fun _ _ _ h => h) (Or.inl ⟨by rfl, by intro w hSw; clear hSw; go_simp; (try with_reducible rfl)⟩) (by assumption) ?_
      try simp only [Act.put, List.setIfInBounds_toArray, List.set_cons_zero, List.set_cons_succ]
      refine wpAnyH_ready (rs := [2]) (by kernel_rfl) (by simp) ?_
      refine AllReadyH.cons rfl (fun K hK => ?_) AllReadyH.nil
      go_simp
      refine (mostOne_any _ _ hd1).mono ?_
      rintro e w' ⟨rfl, rfl⟩
      clear hHeld
      go_wp2_with fail
      refine hK.out _ _ ⟨⟨_, K1⟩, HB⟩ (fun hHeld => ?_)
      clear hK K
      try simp only [Act.put, List.setIfInBounds_toArray, List.set_cons_zero, List.set_cons_succ]
      refine wpAnyH_take (i := 3) (oi := { dst := some 18, op := _, type := _, pos := _, after := _, guard := _ }) (v := .int .i64 ((a : Int) / (d : Int))) rfl (by kernel_rfl) (by kernel_rfl) (by kernel_rfl) (fun _ _ _ h => h) (Or.inl ⟨by rfl, by intro w hSw; clear hSw; go_simp; (try with_reducible rfl)⟩) (by assumption) ?_
      try simp only [Act.put, List.setIfInBounds_toArray, List.set_cons_zero, List.set_cons_succ]
      refine wpAnyH_ready (rs := [6]) (by kernel_rfl) (by simp) ?_
      refine AllReadyH.cons rfl (fun K hK => ?_) AllReadyH.nil
      go_simp
      refine (mostOne_any _ _ hd1).mono ?_
      rintro e w' ⟨rfl, rfl⟩
      clear hHeld
      go_wp2_with fail
      refine hK.out _ _ ⟨⟨_, K1⟩, HB⟩ (fun hHeld => ?_)
      clear hK K
      try simp only [Act.put, List.setIfInBounds_toArray, List.set_cons_zero, List.set_cons_succ]
      refine wpAnyH_take (i := 7) (oi := { dst := some 22, op := _, type := _, pos := _, after := _, guard := _ }) (v := .int .i64 ((b : Int) / (d : Int))) rfl (by kernel_rfl) (by kernel_rfl) (by kernel_rfl) (fun _ _ _ h => h) (Or.inl ⟨by rfl, by intro w hSw; clear hSw; go_simp; (try with_reducible rfl)⟩) (by assumption) ?_
      try simp only [Act.put, List.setIfInBounds_toArray, List.set_cons_zero, List.set_cons_succ]
      refine wpAnyH_take (i := 8) (oi := { dst := some 23, op := _, type := _, pos := _, after := _, guard := _ }) (v := .agg (mk 2 (two ((a : Int) / (d : Int)) ((b : Int) / (d : Int))))) rfl (by kernel_rfl) (by kernel_rfl) (by kernel_rfl) (fun _ _ _ h => h) (Or.inl ⟨by rfl, fun _ _ => exec_two9 _ _ rfl rfl rfl⟩) (by assumption) ?_
      try simp only [Act.put, List.setIfInBounds_toArray, List.set_cons_zero, List.set_cons_succ]
      refine wpAnyH_ready (rs := [9]) (by kernel_rfl) (by simp) ?_
      refine AllReadyH.cons rfl (fun K hK => ?_) AllReadyH.nil
      rw [HEV.out]
      have st1 := run_store_blk (P := Try.prog) (g := fcF (rd a b)) K1
      have ms1 : (mk 2 (fcF (rd a b))).size = 2 := mk_size 2 _
      go_simp
      clear st1 ms1 hHeld
      have HB : Hid (Below w.heap.size w (x0.setRow w.heap.size (mk 2 (fcF (rd a b))))) := below_setRow HB.out (by omega) _
      have K1 := K1.row 2 (fcF (rd a b))
      generalize x0.setRow w.heap.size (mk 2 (fcF (rd a b))) = x1 at *
      refine hK.out _ _ ⟨⟨_, K1⟩, HB⟩ (fun hHeld => ?_)
      clear hK K
      try simp only [Act.put, List.setIfInBounds_toArray, List.set_cons_zero, List.set_cons_succ]
      refine wpAnyH_done (by kernel_rfl) ?_ _
      clear hHeld
      go_wp2_with fail
      try simp only [Exit.inBlock, Exit.then]
      exact retcC K1 rfl rfl rfl ⟨rfl, HB.out⟩
set_option maxHeartbeats 400000 in
theorem l9Plus_any (p q : Fc) (w : World) (hp : 0 < p.2) (hq : 0 < q.2) (h1 : p.1 * q.2 ≤ 2305843009213693952) (h2 : q.1 * p.2 ≤ 2305843009213693952) (h3 : p.2 * q.2 ≤ 4611686018427387904) :
    Calls Try.prog 202 #[.agg (mk 2 (fcF p)), .agg (mk 2 (fcF q))] w fun e w' => e = .returned (.agg (mk 2 (fcF (plusF p q)))) ∧ Below w.heap.size w w' := by
  have z2 := zero2
  have K1 := ((Blk.new w 2 (fcF p) 42).alloc (.cells (mk 2 (fcF q)) 42)).alloc (.cells (mk 2 fun _ => 0) 42)
  have K2 := (Blk.new (w.alloc (.cells (mk 2 (fcF p)) 42)) 2 (fcF q) 42).alloc (.cells (mk 2 fun _ => 0) 42)
  have K3 := Blk.new ((w.alloc (.cells (mk 2 (fcF p)) 42)).alloc (.cells (mk 2 (fcF q)) 42)) 2 (fun _ => 0) 42
  have HB := Lib.hid ((((Below.refl w.heap.size w).alloc (Nat.le_refl _) (.cells (mk 2 (fcF p)) 42)).alloc (by simp) (.cells (mk 2 (fcF q)) 42)).alloc (by simp; omega) (.cells (mk 2 fun _ => 0) 42))
  simp only [World.size_alloc] at K1 K2 K3
  have c10 := K1.cell (i := 0) (by omega)
  have c11 := K1.cell (i := 1) (by omega)
  have c20 := K2.cell (i := 0) (by omega)
  have c21 := K2.cell (i := 1) (by omega)
  simp only [fcF0, fcF1] at c10 c11 c20 c21
  have e1 : (p.1 : Int) * (q.2 : Int) = ((p.1 * q.2 : Nat) : Int) := (Int.natCast_mul _ _).symm
  have e2 : (q.1 : Int) * (p.2 : Int) = ((q.1 * p.2 : Nat) : Int) := (Int.natCast_mul _ _).symm
  have e3 : (p.2 : Int) * (q.2 : Int) = ((p.2 * q.2 : Nat) : Int) := (Int.natCast_mul _ _).symm
  have h4 := Nat.mul_pos hp hq
  have HR := Lib.hid (fun w => l9Cut_any (p.1 * q.2 + q.1 * p.2) (p.2 * q.2) w h4 (by omega) h3)
  show Calls _ _ _ _ fun e w' => e = .returned (.agg (mk 2 (fcF (rd (p.1 * q.2 + q.1 * p.2) (p.2 * q.2))))) ∧ _
  generalize hX : p.1 * q.2 = X at *
  generalize hY : q.1 * p.2 = Y at *
  generalize hZ : p.2 * q.2 = Z at *
  have e4 : (X : Int) + (Y : Int) = ((X + Y : Nat) : Int) := by omega
  generalize hS : X + Y = S at *
  have hS2 : S ≤ 4611686018427387904 := by omega
  clear hX hY hZ hS
  go_enter Try.func202, Try.ntmps202
  go_wp2_with fail
  refine (HR.out _).mono ?_
  rintro e w2 ⟨rfl, hb⟩
  have K3 := K3.below hb K3.lt
  have HB : Hid (Below w.heap.size w w2) := HB.out.trans (hb.mono HB.out.size)
  clear hb
  go_wp2_with ((with_reducible show wpList _ _ _ (Oper.mk _ (Op.store 42 _ _) _ _ _ _ :: _) _ _); refine storeC (K3) rfl rfl rfl rfl ?_)
  try simp only [Exit.inBlock, Exit.then]
  exact retcC (K3.row 2 _) rfl rfl rfl ⟨rfl, below_setRow HB.out (by omega) _⟩
set_option maxHeartbeats 400000 in
theorem l9Less_any (p q : Fc) (w : World) (h1 : p.1 * q.2 ≤ 4611686018427387904) (h2 : q.1 * p.2 ≤ 4611686018427387904) :
    Calls Try.prog 198 #[.agg (mk 2 (fcF p)), .agg (mk 2 (fcF q))] w fun e w' => e = .returned (.bool (ltF p q)) ∧ Below w.heap.size w w' := by
  have z2 := zero2
  have K1 := ((Blk.new w 2 (fcF p) 42).alloc (.cells (mk 2 (fcF q)) 42))
  have K2 := (Blk.new (w.alloc (.cells (mk 2 (fcF p)) 42)) 2 (fcF q) 42)
  have HB := Lib.hid (((Below.refl w.heap.size w).alloc (Nat.le_refl _) (.cells (mk 2 (fcF p)) 42)).alloc (by simp) (.cells (mk 2 (fcF q)) 42))
  simp only [World.size_alloc] at K1 K2
  have c10 := K1.cell (i := 0) (by omega)
  have c11 := K1.cell (i := 1) (by omega)
  have c20 := K2.cell (i := 0) (by omega)
  have c21 := K2.cell (i := 1) (by omega)
  simp only [fcF0, fcF1] at c10 c11 c20 c21
  have e1 : (p.1 : Int) * (q.2 : Int) = ((p.1 * q.2 : Nat) : Int) := (Int.natCast_mul _ _).symm
  have e2 : (q.1 : Int) * (p.2 : Int) = ((q.1 * p.2 : Nat) : Int) := (Int.natCast_mul _ _).symm
  have HL : Hid (decide (p.1 * q.2 < q.1 * p.2) = ltF p q) := by show _ = _; rfl
  generalize hX : p.1 * q.2 = X at *
  generalize hY : q.1 * p.2 = Y at *
  generalize ltF p q = O at *
  clear hX hY
  go_enter Try.func198, Try.ntmps198
  go_wp2_with fail
  go_ret
  exact ⟨by rw [← HL.out]; rfl, HB.out⟩
set_option maxHeartbeats 400000 in
theorem l9Part_any (p : Fc) (n all : Nat) (w : World) (hp : 0 < p.2) (ha : 0 < all) (h1 : p.1 * n ≤ 4611686018427387904) (h2 : p.2 * all ≤ 4611686018427387904) :
    Calls Try.prog 254 #[.agg (mk 2 (fcF p)), .int .i64 (n : Int), .int .i64 (all : Int)] w fun e w' => e = .returned (.agg (mk 2 (fcF (partF p n all)))) ∧ Below w.heap.size w w' := by
  have z2 := zero2
  have K1 := (Blk.new w 2 (fcF p) 42).alloc (.cells (mk 2 fun _ => 0) 42)
  have K3 := Blk.new (w.alloc (.cells (mk 2 (fcF p)) 42)) 2 (fun _ => 0) 42
  have HB := Lib.hid (((Below.refl w.heap.size w).alloc (Nat.le_refl _) (.cells (mk 2 (fcF p)) 42)).alloc (by simp) (.cells (mk 2 fun _ => 0) 42))
  simp only [World.size_alloc] at K1 K3
  have c10 := K1.cell (i := 0) (by omega)
  have c11 := K1.cell (i := 1) (by omega)
  simp only [fcF0, fcF1] at c10 c11
  have e1 : (p.1 : Int) * (n : Int) = ((p.1 * n : Nat) : Int) := (Int.natCast_mul _ _).symm
  have e2 : (p.2 : Int) * (all : Int) = ((p.2 * all : Nat) : Int) := (Int.natCast_mul _ _).symm
  have HR := Lib.hid (fun w => l9Cut_any (p.1 * n) (p.2 * all) w (Nat.mul_pos hp ha) h1 h2)
  show Calls _ _ _ _ fun e w' => e = .returned (.agg (mk 2 (fcF (rd (p.1 * n) (p.2 * all))))) ∧ _
  generalize hX : p.1 * n = X at *
  generalize hY : p.2 * all = Y at *
  clear hX hY
  go_enter Try.func254, Try.ntmps254
  go_wp2_with fail
  refine (HR.out _).mono ?_
  rintro e w2 ⟨rfl, hb⟩
  have K3 := K3.below hb K3.lt
  have HB : Hid (Below w.heap.size w w2) := HB.out.trans (hb.mono HB.out.size)
  clear hb
  go_wp2_with ((with_reducible show wpList _ _ _ (Oper.mk _ (Op.store 42 _ _) _ _ _ _ :: _) _ _); refine storeC (K3) rfl rfl rfl rfl ?_)
  try simp only [Exit.inBlock, Exit.then]
  exact retcC (K3.row 2 _) rfl rfl rfl ⟨rfl, below_setRow HB.out (by omega) _⟩
theorem l9Weight_any (s : Nat → Int) (w : World) : Calls Try.prog 248 #[.agg (mk 4 s)] w fun e w' => e = .returned (.int .i64 (wtI (s 3) : Int)) ∧ Below w.heap.size w w' := by
  have K1 := Blk.new w 4 s 71
  have HB := Lib.hid ((Below.refl w.heap.size w).alloc (Nat.le_refl _) (.cells (mk 4 s) 71))
  have c3 := K1.cell (i := 3) (by omega)
  by_cases h : s 3 = 1
  · have e : wtI (s 3) = 9 := if_pos h
    rw [e]
    rw [h] at c3
    clear e
    go_enter Try.func248, Try.ntmps248
    go_wp2_with fail
    go_ret
    exact ⟨rfl, HB.out⟩
  · have e : wtI (s 3) = 1 := if_neg h
    have hb : (s 3 == 1) = false := by rw [beq_eq_false_iff_ne]; exact h
    rw [e]
    clear e
    go_enter Try.func248, Try.ntmps248
    go_wp2_with fail
    go_ret
    exact ⟨rfl, HB.out⟩
def bdL (F : Nat → Nat → Int) (k : Nat) : List (List Int) := (List.range k).map fun i => cl 16 (F i)
theorem bdL_len (F : Nat → Nat → Int) (k : Nat) : (bdL F k).length = k := by simp [bdL]
theorem bdL_snoc (F : Nat → Nat → Int) (k : Nat) : bdL F (k + 1) = bdL F k ++ [cl 16 (F k)] := by simp [bdL, List.range_succ]
theorem bdL_all (F : Nat → Nat → Int) (k : Nat) : AllL 16 (bdL F k) := fun x hx => by
  obtain ⟨i, _, rfl⟩ := List.mem_map.1 hx
  exact cl_len _ _
theorem bdL_at (F : Nat → Nat → Int) {k n : Nat} (h : k < n) : (bdL F n)[k]? = some (cl 16 (F k)) := by simp [bdL, h]
set_option maxHeartbeats 4000000 in
set_option maxRecDepth 20000 in
theorem l9Boards_any (f : Nat → Int) (ga ca n : Nat) (h : Nat → Int) (F : Nat → Nat → Int) (w : World) (hV : Vd f) (CM : CAt w ga (n * 4) h) (hn : n ≤ 32) (hF : ∀ k, k < n → doB f (fun j => h (k * 4 + j)) = F k) :
    Calls Try.prog 181 #[.agg (mk 16 f), .slice (some ⟨ga, 0, none⟩) n ca] w fun e w' => ∃ g cap, e = .returned (.slice (some ⟨g, 0, none⟩) n cap) ∧
      OwnsL 47 16 w' w.heap.size (.slice (some ⟨g, 0, none⟩) n cap) (bdL F n) ∧ Below w.heap.size w w' := by
  obtain ⟨i0, hi, hz0, hz1, hz2⟩ := info_parts infoB
  have z16 := zero16
  have hga := CM.1
  have K1 := (Blk.new w 16 f 47).alloc (.cells #[] 47)
  have HB := Lib.hid (((Below.refl w.heap.size w).alloc (Nat.le_refl _) (.cells (mk 16 f) 47)).alloc (by simp) (.cells #[] 47))
  have HO : Hid (OwnsN 47 16 ((w.alloc (.cells (mk 16 f) 47)).alloc (.cells #[] 47)) w.heap.size (.slice (some ⟨w.heap.size + 1, 0, none⟩) 0 0) 0 (bdL F 0)) := by
    have := OwnsL.made (t := 47) (m := 16) (b := w.heap.size) (w.alloc (.cells (mk 16 f) 47)) (by simp)
    simp only [World.size_alloc] at this
    exact this
  have CM := (CM.alloc (.cells (mk 16 f) 47)).alloc (.cells #[] 47)
  have HV := Lib.hid hV
  have HF := Lib.hid hF
  have HNE : Hid ((Value.slice (some ⟨w.heap.size + 1, 0, none⟩) 0 0).ownBlock ≠ some ga) := by
    intro e; simp only [Value.ownBlock, Option.some.injEq] at e; omega
  have HNK : Hid ((Value.slice (some ⟨w.heap.size + 1, 0, none⟩) 0 0).ownBlock ≠ some w.heap.size) := by
    intro e; simp only [Value.ownBlock, Option.some.injEq] at e; omega
  clear hV hF
  go_enter Try.func181, Try.ntmps181
  go_wp2_with fail
  go_loopg [5, 6] n (fun gk s5 s6 wr => ∃ (k : Nat) (v : Value), k + gk = n ∧ s6 = .int .i64 k ∧ v = s5 ∧ (∃ gg cap, v = .slice (some ⟨gg, 0, none⟩) k cap) ∧ Hid (OwnsN 47 16 wr w.heap.size v k (bdL F k)) ∧ Hid (v.ownBlock ≠ some ga) ∧ Hid (v.ownBlock ≠ some w.heap.size) ∧ CAt wr ga (n * 4) h ∧ Blk wr w.heap.size 16 f 47 ∧ Hid (Below w.heap.size w wr))
  case atStart => exact ⟨0, _, by omega, rfl, rfl, ⟨_, _, rfl⟩, HO, HNE, HNK, CM, K1, HB⟩
  case round =>
    obtain ⟨k, v, hkg, rfl, rfl, ⟨gg, cap, hv⟩, HO, HNE, HNK, CM, K1, HB⟩ := hrel
    subst hv
    cases gk with
    | zero =>
      have hk : ¬ ((k : Int) < (n : Int)) := by omega
      obtain rfl : k = n := by omega
      clear hkg
      go_wp2_with fail
      go_ret
      exact ⟨gg, cap, rfl, OwnsN.out HO.out (bdL_len F _).symm, HB.out⟩
    | succ gk2 =>
      have hk8 : (k : Int) < (n : Int) := by omega
      have hk9 : k < n := by omega
      have hk0 : (0 : Int) ≤ (k : Int) := by omega
      have HFK : Hid (doB f (fun j => h (k * 4 + j)) = F k) := HF.out k hk9
      go_wp2_with fail
      refine wp_region_held_drew (S := fun W => Blk W w.heap.size 16 f 47 ∧ CAt W ga (n * 4) h) (by kernel_rfl) (⟨K1.drew, CM.drew⟩) (fun hHeld => ?_)
      have K1 : Blk wr.drew w.heap.size 16 f 47 := K1.drew
      have CM : CAt wr.drew ga (n * 4) h := CM.drew
      have BX : Hid (Below wr.heap.size wr wr.drew) := (Below.refl _ wr).drew
      generalize wr.drew = x0 at *
      refine wpAnyH_take (i := 0) (oi := { dst := some 18, op := _, type := _, pos := _, after := _, guard := _ }) (v := .agg (mk 16 f)) rfl (by kernel_rfl) (by kernel_rfl) (by kernel_rfl) (fun _ _ _ h => h) (Or.inl ⟨by rfl, fun _ q => execB q.1 rfl rfl⟩) (by assumption) ?_
      try simp only [Act.put, List.setIfInBounds_toArray, List.set_cons_zero, List.set_cons_succ]
      refine wpAnyH_take (i := 1) (oi := { dst := some 19, op := _, type := _, pos := _, after := _, guard := _ }) (v := .slice (some ⟨ga, 0, none⟩) n ca) rfl (by kernel_rfl) (by kernel_rfl) (by kernel_rfl) (fun _ _ _ h => h) (Or.inl ⟨by rfl, by intro w hSw; clear hSw; go_simp; (try with_reducible rfl)⟩) (by assumption) ?_
      try simp only [Act.put, List.setIfInBounds_toArray, List.set_cons_zero, List.set_cons_succ]
      refine wpAnyH_take (i := 2) (oi := { dst := some 20, op := _, type := _, pos := _, after := _, guard := _ }) (v := .int .i64 (k : Int)) rfl (by kernel_rfl) (by kernel_rfl) (by kernel_rfl) (fun _ _ _ h => h) (Or.inl ⟨by rfl, by intro w hSw; clear hSw; go_simp; (try with_reducible rfl)⟩) (by assumption) ?_
      try simp only [Act.put, List.setIfInBounds_toArray, List.set_cons_zero, List.set_cons_succ]
      refine wpAnyH_take (i := 3) (oi := { dst := some 21, op := _, type := _, pos := _, after := _, guard := _ }) (v := .pointer (some ⟨ga, k * 4, none⟩)) rfl (by kernel_rfl) (by kernel_rfl) (by kernel_rfl) (fun _ _ _ h => h) (Or.inl ⟨by rfl, by intro w hSw; clear hSw; go_simp; (try with_reducible rfl)⟩) (by assumption) ?_
      try simp only [Act.put, List.setIfInBounds_toArray, List.set_cons_zero, List.set_cons_succ]
      refine wpAnyH_take (i := 4) (oi := { dst := some 22, op := _, type := _, pos := _, after := _, guard := _ }) (v := .agg (mk 4 fun j => h (k * 4 + j))) rfl (by kernel_rfl) (by kernel_rfl) (by kernel_rfl) (fun _ _ _ h => h) (Or.inl ⟨by rfl, fun _ q => execAT q.2 (by omega) rfl rfl⟩) (by assumption) ?_
      try simp only [Act.put, List.setIfInBounds_toArray, List.set_cons_zero, List.set_cons_succ]
      refine wpAnyH_ready (rs := [5, 10]) (by kernel_rfl) (by simp) ?_
      refine AllReadyH.cons rfl (fun K hK => ?_) ?_
      · go_simp
        refine (l5Do_any f (fun j => h (k * 4 + j)) _ HV.out).mono ?_
        rintro e x1 ⟨rfl, hb⟩
        have CM := CM.below hb
        have K1 := K1.below hb K1.lt
        have BX : Hid (Below wr.heap.size wr x1) := BX.out.trans (hb.mono BX.out.size)
        clear hb hHeld
        go_wp2_with fail
        refine hK.out _ _ ⟨K1, CM⟩ (fun hHeld => ?_)
        clear hK K
        try simp only [Act.put, List.setIfInBounds_toArray, List.set_cons_zero, List.set_cons_succ]
        refine wpAnyH_take (i := 6) (oi := { dst := some 17, op := _, type := _, pos := _, after := _, guard := _ }) (v := .tuple #[.agg (mk 16 (doB f fun j => h (k * 4 + j))), .int .i64 (doS f fun j => h (k * 4 + j)), .bool (doO f fun j => h (k * 4 + j))]) rfl (by kernel_rfl) (by kernel_rfl) (by kernel_rfl) (fun _ _ _ h => h) (Or.inl ⟨by rfl, by intro w hSw; clear hSw; go_simp; (try with_reducible rfl)⟩) (by assumption) ?_
        try simp only [Act.put, List.setIfInBounds_toArray, List.set_cons_zero, List.set_cons_succ]
        refine wpAnyH_take (i := 7) (oi := { dst := some 24, op := _, type := _, pos := _, after := _, guard := _ }) (v := .agg (mk 16 (doB f fun j => h (k * 4 + j)))) rfl (by kernel_rfl) (by kernel_rfl) (by kernel_rfl) (fun _ _ _ h => h) (Or.inl ⟨by rfl, by intro w hSw; clear hSw; go_simp; (try with_reducible rfl)⟩) (by assumption) ?_
        try simp only [Act.put, List.setIfInBounds_toArray, List.set_cons_zero, List.set_cons_succ]
        refine wpAnyH_take (i := 8) (oi := { dst := some 25, op := _, type := _, pos := _, after := _, guard := _ }) (v := .int .i64 (doS f fun j => h (k * 4 + j))) rfl (by kernel_rfl) (by kernel_rfl) (by kernel_rfl) (fun _ _ _ h => h) (Or.inl ⟨by rfl, by intro w hSw; clear hSw; go_simp; (try with_reducible rfl)⟩) (by assumption) ?_
        try simp only [Act.put, List.setIfInBounds_toArray, List.set_cons_zero, List.set_cons_succ]
        refine wpAnyH_take (i := 9) (oi := { dst := some 26, op := _, type := _, pos := _, after := _, guard := _ }) (v := .bool (doO f fun j => h (k * 4 + j))) rfl (by kernel_rfl) (by kernel_rfl) (by kernel_rfl) (fun _ _ _ h => h) (Or.inl ⟨by rfl, by intro w hSw; clear hSw; go_simp; (try with_reducible rfl)⟩) (by assumption) ?_
        try simp only [Act.put, List.setIfInBounds_toArray, List.set_cons_zero, List.set_cons_succ]
        refine wpAnyH_ready (rs := [10]) (by kernel_rfl) (by simp) ?_
        refine AllReadyH.cons rfl (fun K hK => ?_) AllReadyH.nil
        rw [if_pos (by rfl)]
        refine wp_allocX rfl ?_
        have K8 := Blk.new x1 16 (fun _ => 0) 47
        have HB8 : Hid (wr.heap.size ≤ x1.heap.size) := BX.out.size
        have HB9 : Hid (w.heap.size < x1.heap.size ∧ ga < x1.heap.size) := ⟨K1.lt, CM.1⟩
        have K1 := K1.alloc (.cells (mk 16 fun _ => 0) 47)
        have CM := CM.alloc (.cells (mk 16 fun _ => 0) 47)
        have BX : Hid (Below wr.heap.size wr (x1.alloc (.cells (mk 16 fun _ => 0) 47))) := BX.out.alloc BX.out.size _
        clear hHeld
        generalize x1.alloc (.cells (mk 16 fun _ => 0) 47) = x2 at *
        generalize x1.heap.size = b8 at *
        refine hK.out _ _ ⟨K1, CM⟩ (fun hHeld => ?_)
        clear hK K
        try simp only [Act.put, List.setIfInBounds_toArray, List.set_cons_zero, List.set_cons_succ]
        refine wpAnyH_ready (rs := [11]) (by kernel_rfl) (by simp) ?_
        refine AllReadyH.cons rfl (fun K hK => ?_) AllReadyH.nil
        have st1 := run_store_blk (P := Try.prog) (g := doB f fun j => h (k * 4 + j)) K8
        have ms1 : (mk 16 (doB f fun j => h (k * 4 + j))).size = 16 := mk_size 16 _
        go_simp
        clear st1 ms1
        have hgr : x2.grownBy (x2.setRow b8 (mk 16 (doB f fun j => h (k * 4 + j)))) (some b8) := grown_row K8 _
        have K1 := K1.rowOther b8 (mk 16 (doB f fun j => h (k * 4 + j))) (by have := HB9.out.1; omega)
        have CM := CM.grown hgr (fun e => by cases e; exact absurd HB9.out.2 (Nat.lt_irrefl _))
        have BX : Hid (Below wr.heap.size wr (x2.setRow b8 (mk 16 (doB f fun j => h (k * 4 + j))))) := below_setRow BX.out HB8.out _
        have K8 := K8.row 16 (doB f fun j => h (k * 4 + j))
        clear hgr hHeld
        generalize x2.setRow b8 (mk 16 (doB f fun j => h (k * 4 + j))) = x3 at *
        refine hK.out _ _ ⟨K1, CM⟩ (fun hHeld => ?_)
        clear hK K
        try simp only [Act.put, List.setIfInBounds_toArray, List.set_cons_zero, List.set_cons_succ]
        refine wpAnyH_take (i := 12) (oi := { dst := some 8, op := _, type := _, pos := _, after := _, guard := _ }) (v := .int .i64 (doS f fun j => h (k * 4 + j))) rfl (by kernel_rfl) (by kernel_rfl) (by kernel_rfl) (fun _ _ _ h => h) (Or.inl ⟨by rfl, by intro w hSw; clear hSw; go_simp; (try with_reducible rfl)⟩) (by assumption) ?_
        try simp only [Act.put, List.setIfInBounds_toArray, List.set_cons_zero, List.set_cons_succ]
        refine wpAnyH_take (i := 13) (oi := { dst := some 9, op := _, type := _, pos := _, after := _, guard := _ }) (v := .bool (doO f fun j => h (k * 4 + j))) rfl (by kernel_rfl) (by kernel_rfl) (by kernel_rfl) (fun _ _ _ h => h) (Or.inl ⟨by rfl, by intro w hSw; clear hSw; go_simp; (try with_reducible rfl)⟩) (by assumption) ?_
        try simp only [Act.put, List.setIfInBounds_toArray, List.set_cons_zero, List.set_cons_succ]
        refine wpAnyH_done (by kernel_rfl) ?_ _
        clear hHeld
        have HOs : Hid (OwnsN 47 16 x3 w.heap.size (.slice (some ⟨gg, 0, none⟩) k cap) k (bdL F k)) := owns_below HO.out BX.out
        have HB3 : Hid (Below w.heap.size w x3) := HB.out.trans (BX.out.mono HB.out.size)
        have hs3 := HB3.out.size
        have hg0 := HB9.out.2
        clear BX HB8
        rw [HFK.out] at K8
        go_wp2_with (first | ((with_reducible show wpList _ _ _ (Oper.mk _ (Op.load 47 _) _ _ _ _ :: _) _ _); refine loadB (K8) rfl rfl rfl ?_) | ((with_reducible show wpList _ _ _ (Oper.mk _ (Op.buildSlice _ 1 _) _ _ _ _ :: _) _ _); refine wpl_buildB _ rfl rfl (f := F k) rfl ?_) | (at_builtin; refine wpl_app (v := .slice (some ⟨gg, 0, none⟩) k cap) rfl _ _ 90 rfl w.heap.size 47 i0 _ 16 128 Try.underlying90 hi hz0 hz1 hz2 rfl (by decide) rfl (World.ownsRow.alloc HOs.out _) x3.heap.size 0 1 1 (F k) 16 rfl (Blk.new _ _ _ _).at (by omega) (by unfold maxLen; omega) (by omega) (by simp; omega) ?_))
        intro v' w7 R hbl hgr hloc
        obtain ⟨g', cap', hv'⟩ := ownsRow_succ R
        have HVv : Hid (∃ gg cap, v' = .slice (some ⟨gg, 0, none⟩) (k + 1) cap) := ⟨g', cap', hv'⟩
        have HO7 : Hid (OwnsN 47 16 w7 w.heap.size v' (k + 1) (bdL F (k + 1))) := by
          rw [snoc_walk (m := 16) _ (F k)] at R
          show OwnsN _ _ _ _ _ _ _
          rw [bdL_snoc]
          exact R
        have hne2 : (Value.slice (some ⟨gg, 0, none⟩) k cap).ownBlock ≠ some ga := HNE.out
        have hgx : ga < x3.heap.size := CM.1
        have HNE2 : Hid (v'.ownBlock ≠ some ga) := by
          intro e
          rcases hloc with r | r
          · rw [r] at e; exact hne2 e
          · rw [r] at e; simp at e; omega
        have hk2 : (Value.slice (some ⟨gg, 0, none⟩) k cap).ownBlock ≠ some w.heap.size := HNK.out
        have hK1 := K1.lt
        have HNK2 : Hid (v'.ownBlock ≠ some w.heap.size) := by
          intro e
          rcases hloc with r | r
          · rw [r] at e; exact hk2 e
          · rw [r] at e; simp at e; omega
        clear hk2 hK1
        have HB7 : Hid (Below w.heap.size w w7) := (HB3.out.alloc hs3 _).trans hbl
        have CM := (CM.alloc (.cells (mk 16 (F k)) 47)).grown hgr (fun e => hne2 e.symm)
        have K1 := (K1.alloc (.cells (mk 16 (F k)) 47)).grown hgr (fun e => HNK.out e.symm)
        clear hbl hgr R hv' HOs hloc HB hne2
        go_wp2_with fail
        go_roundg gk2
        case rel => exact ⟨k + 1, _, by omega, by go_num, rfl, HVv.out, HO7, HNE2, HNK2, CM, K1, HB7⟩
        case measure => omega
      refine AllReadyH.cons rfl (fun K hK => ?_) AllReadyH.nil
      rw [if_pos (by rfl)]
      refine wp_allocX rfl ?_
      have K8 := Blk.new x0 16 (fun _ => 0) 47
      have HB8 : Hid (wr.heap.size ≤ x0.heap.size) := BX.out.size
      have HB9 : Hid (w.heap.size < x0.heap.size ∧ ga < x0.heap.size) := ⟨K1.lt, CM.1⟩
      have K1 := K1.alloc (.cells (mk 16 fun _ => 0) 47)
      have CM := CM.alloc (.cells (mk 16 fun _ => 0) 47)
      have BX : Hid (Below wr.heap.size wr (x0.alloc (.cells (mk 16 fun _ => 0) 47))) := BX.out.alloc BX.out.size _
      clear hHeld
      generalize x0.alloc (.cells (mk 16 fun _ => 0) 47) = x1 at *
      generalize x0.heap.size = b8 at *
      refine hK.out _ _ ⟨K1, CM⟩ (fun hHeld => ?_)
      clear hK K
      try simp only [Act.put, List.setIfInBounds_toArray, List.set_cons_zero, List.set_cons_succ]
      refine wpAnyH_ready (rs := [5]) (by kernel_rfl) (by simp) ?_
      refine AllReadyH.cons rfl (fun K hK => ?_) AllReadyH.nil
      go_simp
      refine (l5Do_any f (fun j => h (k * 4 + j)) _ HV.out).mono ?_
      rintro e x2 ⟨rfl, hb⟩
      have CM := CM.below hb
      have K1 := K1.below hb K1.lt
      have BX : Hid (Below wr.heap.size wr x2) := BX.out.trans (hb.mono BX.out.size)
      have K8 := K8.below hb K8.lt
      clear hb hHeld
      go_wp2_with fail
      refine hK.out _ _ ⟨K1, CM⟩ (fun hHeld => ?_)
      clear hK K
      try simp only [Act.put, List.setIfInBounds_toArray, List.set_cons_zero, List.set_cons_succ]
      refine wpAnyH_take (i := 6) (oi := { dst := some 17, op := _, type := _, pos := _, after := _, guard := _ }) (v := .tuple #[.agg (mk 16 (doB f fun j => h (k * 4 + j))), .int .i64 (doS f fun j => h (k * 4 + j)), .bool (doO f fun j => h (k * 4 + j))]) rfl (by kernel_rfl) (by kernel_rfl) (by kernel_rfl) (fun _ _ _ h => h) (Or.inl ⟨by rfl, by intro w hSw; clear hSw; go_simp; (try with_reducible rfl)⟩) (by assumption) ?_
      try simp only [Act.put, List.setIfInBounds_toArray, List.set_cons_zero, List.set_cons_succ]
      refine wpAnyH_take (i := 7) (oi := { dst := some 24, op := _, type := _, pos := _, after := _, guard := _ }) (v := .agg (mk 16 (doB f fun j => h (k * 4 + j)))) rfl (by kernel_rfl) (by kernel_rfl) (by kernel_rfl) (fun _ _ _ h => h) (Or.inl ⟨by rfl, by intro w hSw; clear hSw; go_simp; (try with_reducible rfl)⟩) (by assumption) ?_
      try simp only [Act.put, List.setIfInBounds_toArray, List.set_cons_zero, List.set_cons_succ]
      refine wpAnyH_take (i := 8) (oi := { dst := some 25, op := _, type := _, pos := _, after := _, guard := _ }) (v := .int .i64 (doS f fun j => h (k * 4 + j))) rfl (by kernel_rfl) (by kernel_rfl) (by kernel_rfl) (fun _ _ _ h => h) (Or.inl ⟨by rfl, by intro w hSw; clear hSw; go_simp; (try with_reducible rfl)⟩) (by assumption) ?_
      try simp only [Act.put, List.setIfInBounds_toArray, List.set_cons_zero, List.set_cons_succ]
      refine wpAnyH_take (i := 9) (oi := { dst := some 26, op := _, type := _, pos := _, after := _, guard := _ }) (v := .bool (doO f fun j => h (k * 4 + j))) rfl (by kernel_rfl) (by kernel_rfl) (by kernel_rfl) (fun _ _ _ h => h) (Or.inl ⟨by rfl, by intro w hSw; clear hSw; go_simp; (try with_reducible rfl)⟩) (by assumption) ?_
      try simp only [Act.put, List.setIfInBounds_toArray, List.set_cons_zero, List.set_cons_succ]
      refine wpAnyH_ready (rs := [11]) (by kernel_rfl) (by simp) ?_
      refine AllReadyH.cons rfl (fun K hK => ?_) AllReadyH.nil
      have st1 := run_store_blk (P := Try.prog) (g := doB f fun j => h (k * 4 + j)) K8
      have ms1 : (mk 16 (doB f fun j => h (k * 4 + j))).size = 16 := mk_size 16 _
      go_simp
      clear st1 ms1
      have hgr : x2.grownBy (x2.setRow b8 (mk 16 (doB f fun j => h (k * 4 + j)))) (some b8) := grown_row K8 _
      have K1 := K1.rowOther b8 (mk 16 (doB f fun j => h (k * 4 + j))) (by have := HB9.out.1; omega)
      have CM := CM.grown hgr (fun e => by cases e; exact absurd HB9.out.2 (Nat.lt_irrefl _))
      have BX : Hid (Below wr.heap.size wr (x2.setRow b8 (mk 16 (doB f fun j => h (k * 4 + j))))) := below_setRow BX.out HB8.out _
      have K8 := K8.row 16 (doB f fun j => h (k * 4 + j))
      clear hgr hHeld
      generalize x2.setRow b8 (mk 16 (doB f fun j => h (k * 4 + j))) = x3 at *
      refine hK.out _ _ ⟨K1, CM⟩ (fun hHeld => ?_)
      clear hK K
      try simp only [Act.put, List.setIfInBounds_toArray, List.set_cons_zero, List.set_cons_succ]
      refine wpAnyH_take (i := 12) (oi := { dst := some 8, op := _, type := _, pos := _, after := _, guard := _ }) (v := .int .i64 (doS f fun j => h (k * 4 + j))) rfl (by kernel_rfl) (by kernel_rfl) (by kernel_rfl) (fun _ _ _ h => h) (Or.inl ⟨by rfl, by intro w hSw; clear hSw; go_simp; (try with_reducible rfl)⟩) (by assumption) ?_
      try simp only [Act.put, List.setIfInBounds_toArray, List.set_cons_zero, List.set_cons_succ]
      refine wpAnyH_take (i := 13) (oi := { dst := some 9, op := _, type := _, pos := _, after := _, guard := _ }) (v := .bool (doO f fun j => h (k * 4 + j))) rfl (by kernel_rfl) (by kernel_rfl) (by kernel_rfl) (fun _ _ _ h => h) (Or.inl ⟨by rfl, by intro w hSw; clear hSw; go_simp; (try with_reducible rfl)⟩) (by assumption) ?_
      try simp only [Act.put, List.setIfInBounds_toArray, List.set_cons_zero, List.set_cons_succ]
      refine wpAnyH_done (by kernel_rfl) ?_ _
      clear hHeld
      have HOs : Hid (OwnsN 47 16 x3 w.heap.size (.slice (some ⟨gg, 0, none⟩) k cap) k (bdL F k)) := owns_below HO.out BX.out
      have HB3 : Hid (Below w.heap.size w x3) := HB.out.trans (BX.out.mono HB.out.size)
      have hs3 := HB3.out.size
      have hg0 := HB9.out.2
      clear BX HB8
      rw [HFK.out] at K8
      go_wp2_with (first | ((with_reducible show wpList _ _ _ (Oper.mk _ (Op.load 47 _) _ _ _ _ :: _) _ _); refine loadB (K8) rfl rfl rfl ?_) | ((with_reducible show wpList _ _ _ (Oper.mk _ (Op.buildSlice _ 1 _) _ _ _ _ :: _) _ _); refine wpl_buildB _ rfl rfl (f := F k) rfl ?_) | (at_builtin; refine wpl_app (v := .slice (some ⟨gg, 0, none⟩) k cap) rfl _ _ 90 rfl w.heap.size 47 i0 _ 16 128 Try.underlying90 hi hz0 hz1 hz2 rfl (by decide) rfl (World.ownsRow.alloc HOs.out _) x3.heap.size 0 1 1 (F k) 16 rfl (Blk.new _ _ _ _).at (by omega) (by unfold maxLen; omega) (by omega) (by simp; omega) ?_))
      intro v' w7 R hbl hgr hloc
      obtain ⟨g', cap', hv'⟩ := ownsRow_succ R
      have HVv : Hid (∃ gg cap, v' = .slice (some ⟨gg, 0, none⟩) (k + 1) cap) := ⟨g', cap', hv'⟩
      have HO7 : Hid (OwnsN 47 16 w7 w.heap.size v' (k + 1) (bdL F (k + 1))) := by
        rw [snoc_walk (m := 16) _ (F k)] at R
        show OwnsN _ _ _ _ _ _ _
        rw [bdL_snoc]
        exact R
      have hne2 : (Value.slice (some ⟨gg, 0, none⟩) k cap).ownBlock ≠ some ga := HNE.out
      have hgx : ga < x3.heap.size := CM.1
      have HNE2 : Hid (v'.ownBlock ≠ some ga) := by
        intro e
        rcases hloc with r | r
        · rw [r] at e; exact hne2 e
        · rw [r] at e; simp at e; omega
      have hk2 : (Value.slice (some ⟨gg, 0, none⟩) k cap).ownBlock ≠ some w.heap.size := HNK.out
      have hK1 := K1.lt
      have HNK2 : Hid (v'.ownBlock ≠ some w.heap.size) := by
        intro e
        rcases hloc with r | r
        · rw [r] at e; exact hk2 e
        · rw [r] at e; simp at e; omega
      clear hk2 hK1
      have HB7 : Hid (Below w.heap.size w w7) := (HB3.out.alloc hs3 _).trans hbl
      have CM := (CM.alloc (.cells (mk 16 (F k)) 47)).grown hgr (fun e => hne2 e.symm)
      have K1 := (K1.alloc (.cells (mk 16 (F k)) 47)).grown hgr (fun e => HNK.out e.symm)
      clear hbl hgr R hv' HOs hloc HB hne2
      go_wp2_with fail
      go_roundg gk2
      case rel => exact ⟨k + 1, _, by omega, by go_num, rfl, HVv.out, HO7, HNE2, HNK2, CM, K1, HB7⟩
      case measure => omega
end Go.Proofs.Ytblcojacmjbjcab
namespace Go.Proofs.Ytblcojacmjbjcab
open Go.RowKit Plain
attribute [local go_sem] store_new
set_option linter.unusedVariables false
set_option linter.unusedSimpArgs false
theorem bd_mem7 {w : World} {b g n c : Nat} {F : Nat → Nat → Int} (h : OwnsL 47 16 w b (.slice (some ⟨g, 0, none⟩) n c) (bdL F n)) : CAt w g (n * 16) (flatF (bdL F n)) := by
  have h1 : OwnsL 47 16 w b (.slice (some ⟨g, 0, none⟩) (bdL F n).length c) (bdL F n) := by rw [bdL_len]; exact h
  obtain ⟨_, _, e, _, hc⟩ := KRow.of_list (bdL_all F n) h1
  cases e
  rw [bdL_len] at hc
  exact hc
theorem mov_mem {w : World} {b g c : Nat} {L : List Int} (h : OwnsInts w b (.slice (some ⟨g, 0, none⟩) L.length c) L) : CAt w g L.length (fun i => L.getD i 0) := by
  unfold OwnsInts at h
  rw [ints_mk] at h
  obtain ⟨_, _, e1, _, hl, hc⟩ := IRow.of_own h
  cases e1
  exact ⟨hl, hc⟩
theorem step_mem7 {f : Nat → Int} {d k : Nat} (hd : d < 4) (hm : isMv f d = true) (hk : k < (stepL f d).length) :
    doB f (fun j => flatF (stepL f d) (k * 4 + j)) = plB (slideB f d) (psF (slideB f d) k) ∧ wtI (flatF (stepL f d) (k * 4 + 3)) = wtP (psF (slideB f d) k) := by
  obtain ⟨l, hl, h1, h2, _⟩ := step_pl hd hm hk
  have ha := step_all f d hd
  refine ⟨?_, ?_⟩
  · rw [← h1]; exact (do_congr fun i hi => flatF_at ha hl hi).1
  · rw [flatF_at ha hl (by omega), h2, wt_ps]
theorem execAB7 {o : Oper} {ev : Operand → Value} {w : World} {b n off : Nat} {f : Nat → Int} {x : Operand} (hg : CAt w b n f) (hm : off + 16 ≤ n) (ho : o.op = .load 47 x) (hx : ev x = .pointer (some ⟨b, off, none⟩)) :
    (execOp ev o).run Try.prog w = .ok (.value (.agg (mk 16 (fun i => f (off + i))))) w := exec_load_at _ x ho hx hg hm Try.underlying47 rfl sizeB
theorem execB7 {o : Oper} {ev : Operand → Value} {w : World} {b : Nat} {f : Nat → Int} {t : TypeId} {x : Operand} (hg : Blk w b 16 f t) (ho : o.op = .load 47 x) (hx : ev x = .pointer (some ⟨b, 0, none⟩)) :
    (execOp ev o).run Try.prog w = .ok (.value (.agg (mk 16 f))) w := exec_load_blk _ x ho hx hg Try.underlying47 rfl sizeB
theorem wp_ldC7 {o : Oper} {a : Act} {w : World} {K : Act → World → Prop} {Q : Exit → Act → World → Prop} {x : Operand} {b : Nat} {f : Nat → Int} {t : TypeId} (hg : Blk w b 2 f t) (ho : o.op = .load 42 x) (hx : a.eval x = .pointer (some ⟨b, 0, none⟩))
    (h : K (a.put o.dst (.agg (mk 2 f))) w) : o.wp Try.prog a w K Q :=
  wp_load_row _ x ho b hx t _ _ _ hg Try.underlying42 rfl (by rw [mk_size]; exact sizeC) h
theorem fc_mul7 {a b : Nat} (ha : a ≤ 1353152000) (hb : b ≤ 1353152000) : a * b ≤ 2305843009213693952 := by
  have := Nat.mul_le_mul ha hb
  omega
/-- What the parts of a mean meet. -/
structure PtOk (c : Nat) (T : (Nat → Int) → Fc) (S : Nat → Int) (n : Nat) : Prop where
  E : n = empN S 16 * 2
  pos : 0 < n
  le : n ≤ 32
  part : ∀ k, k < n → 0 < (T (plB S (psF S k))).2 ∧ (T (plB S (psF S k))).1 * wtP (psF S k) ≤ 4611686018427387904 ∧ (T (plB S (psF S k))).2 * (5 * n) ≤ 4611686018427387904
  sum : ∀ k, k < n → 0 < (ptF (c, 1) T S (5 * n) k).2 ∧ 0 < (partF (T (plB S (psF S k))) (wtP (psF S k)) (5 * n)).2 ∧
    (ptF (c, 1) T S (5 * n) k).1 * (partF (T (plB S (psF S k))) (wtP (psF S k)) (5 * n)).2 ≤ 2305843009213693952 ∧ (partF (T (plB S (psF S k))) (wtP (psF S k)) (5 * n)).1 * (ptF (c, 1) T S (5 * n) k).2 ≤ 2305843009213693952 ∧
    (ptF (c, 1) T S (5 * n) k).2 * (partF (T (plB S (psF S k))) (wtP (psF S k)) (5 * n)).2 ≤ 4611686018427387904
theorem pt_ok {D M c : Nat} {T : (Nat → Int) → Fc} {S : Nat → Int} (h : Den D M T S) (hE : 0 < empN S 16) (hD : D * 160 ≤ 1153152000) (hM : M * (D * 160) ≤ 1153152000) (hc : c * (D * 160) ≤ 200000000 ∨ (c ≤ 4194304 ∧ D = 1 ∧ M * 160 ≤ 671088640)) : PtOk c T S (empN S 16 * 2) := by
  have hle := empN_le S 16
  have e5 : 5 * (empN S 16 * 2) = 10 * empN S 16 := by omega
  have hQ : 0 < D * (10 * empN S 16) := Nat.mul_pos h.D_pos (by omega)
  have hQ2 : D * (10 * empN S 16) ≤ D * 160 := Nat.mul_le_mul_left _ (by omega)
  have hs0 : (c, 1) = rd (c * (D * (10 * empN S 16))) (D * (10 * empN S 16)) := by
    rw [← rd_one c]; exact rd_congr Nat.one_pos hQ (by simp [Nat.mul_comm, Nat.mul_left_comm, Nat.mul_assoc])
  have hcQ : c * (D * (10 * empN S 16)) + M * (D * 160) ≤ 1353152000 := by
    have h1 := Nat.mul_le_mul_left c hQ2
    rcases hc with hc | ⟨h2, h3, h4⟩
    · omega
    · subst h3
      have h5 := Nat.mul_le_mul h2 (show 1 * (10 * empN S 16) ≤ 160 by omega)
      omega
  have hMD : M * D ≤ 7207200 := by
    have e : M * (D * 160) = 160 * (M * D) := by simp [Nat.mul_comm, Nat.mul_left_comm, Nat.mul_assoc]
    omega
  refine ⟨rfl, by omega, by omega, fun k hk => ?_, fun k hk => ?_⟩
  · obtain ⟨a1, a2, a3, _⟩ := pt_part h hE hk
    have hw := wtP_le (psF S k)
    refine ⟨a1.pos, ?_, ?_⟩
    · have := Nat.mul_le_mul a3 hw.2; omega
    · have := Nat.mul_le_mul a2 (show 5 * (empN S 16 * 2) ≤ 160 by omega); omega
  · rw [e5]
    obtain ⟨_, _, _, b1, b2, b3⟩ := pt_part h hE hk
    obtain ⟨c1, c2, c3⟩ := pt_bd h hE hs0 (Nat.le_of_lt hk)
    refine ⟨c1.pos, b1.pos, fc_mul7 (by omega) (by omega), fc_mul7 (by omega) (by omega), ?_⟩
    have := fc_mul7 (a := (ptF (c, 1) T S (10 * empN S 16) k).2) (b := (partF (T (plB S (psF S k))) (wtP (psF S k)) (10 * empN S 16)).2) (by omega) (by omega)
    omega
def SKn (n : Nat) : Prop := ∀ (f : Nat → Int) (w : World), Vd f → Calls Try.prog 209 #[.agg (mk 16 f), .int .i64 (n : Int)] w fun e w' => e = .returned (.agg (mk 2 (fcF (KpF n f)))) ∧ Below w.heap.size w w'
def SDn (n : Nat) : Prop := ∀ (f : Nat → Int) (d : Nat) (w : World), Vd f → d < 4 → isMv f d = true → Calls Try.prog 211 #[.agg (mk 16 f), .int .i64 (d : Int), .int .i64 ((n : Int) + 1)] w fun e w' => e = .returned (.agg (mk 2 (fcF (kbV n f d)))) ∧ Below w.heap.size w w'
set_option maxHeartbeats 4000000 in
set_option maxRecDepth 20000 in
theorem SDn_of {N : Nat} (hN : N ≤ 2) (h : SKn N) : SDn N := by
  intro f d w hV hd hm
  have z2 := zero2
  have z16 := zero16
  have K3 := (Blk.new w 16 f 47).alloc (.cells (mk 2 fun _ => 0) 42)
  have KR := Blk.new (w.alloc (.cells (mk 16 f) 47)) 2 (fun _ => 0) 42
  have HB := Lib.hid (((Below.refl w.heap.size w).alloc (Nat.le_refl _) (.cells (mk 16 f) 47)).alloc (by simp) (.cells (mk 2 fun _ => 0) 42))
  simp only [World.size_alloc] at KR
  have hE := mv_room hV hm
  have hlen := mv_len hm
  have hdn := kp_dn (n := N) hN (slideB_vd hV d)
  have hdl := dnK_le N
  have hdp := dnK_pos N
  have hpo := pt_ok (c := 0) hdn hE (by omega) (by omega) (.inl (by omega))
  have HMN : Hid (ptF (0, 1) (KpF N) (slideB f d) (5 * (empN (slideB f d) 16 * 2)) (empN (slideB f d) 16 * 2) = kbV N f d) := by
    show _ = _
    rw [show 5 * (empN (slideB f d) 16 * 2) = 10 * empN (slideB f d) 16 by omega]
    exact pt_mean hdn hE
  rw [← hlen] at HMN hpo
  have HST := Lib.hid (fun w => l5Steps_any f d w hV hd)
  have HSM := Lib.hid (fun k (hk : k < (stepL f d).length) => step_mem7 (k := k) hd hm hk)
  have HPV := Lib.hid (fun k (hk : k < (stepL f d).length) => plB_vd (slideB_vd hV d) (ps_ok (S := slideB f d) (k := k) (by omega)))
  have HSA := Lib.hid (step_all f d hd)
  have HCC := Lib.hid (fun g w (hg : Vd g) => h g w hg)
  have HV := Lib.hid hV
  have d0 : (0 : Int) ≤ (d : Int) := by omega
  have d3 : (d : Int) ≤ 3 := by omega
  obtain ⟨S, hS⟩ : ∃ S, S = slideB f d := ⟨_, rfl⟩
  obtain ⟨T, hT⟩ : ∃ T, T = KpF N := ⟨_, rfl⟩
  obtain ⟨s0, hs0⟩ : ∃ s0 : Fc, s0 = (0, 1) := ⟨_, rfl⟩
  rw [← hS] at HSM HPV HMN hpo
  rw [← hT] at HMN hpo
  rw [← hs0] at HMN
  have HPO := Lib.hid hpo
  obtain ⟨F, hF⟩ : ∃ F : Nat → Nat → Int, F = fun k => plB S (psF S k) := ⟨_, rfl⟩
  have HF : Hid (∀ k, k < (stepL f d).length → doB f (fun j => flatF (stepL f d) (k * 4 + j)) = F k) := by intro k hk; rw [hF]; exact (HSM.out k hk).1
  have HWI : Hid (∀ k, k < (stepL f d).length → wtI (flatF (stepL f d) (k * 4 + 3)) = wtP (psF S k)) := by intro k hk; exact (HSM.out k hk).2
  have HVF : Hid (∀ k, k < (stepL f d).length → Vd (F k)) := by intro k hk; rw [hF]; exact HPV.out k hk
  have HFK : Hid (∀ k, plB S (psF S k) = F k) := by intro k; rw [hF]
  have HS0 : Hid (s0 = (0, 1)) := hs0
  have HTT : Hid (T = KpF N) := hT
  have hn2 : (stepL f d).length ≤ 32 := hpo.le
  have hN1 : (N : Int) + 1 - 1 = (N : Int) := by omega
  have hNb : (N : Int) ≤ 3 := by omega
  have hNc : (0 : Int) ≤ (N : Int) := by omega
  clear hE hlen hdn hdl hdp hpo HSM HPV hF hs0 hT h hV hm hS
  go_enter Try.func211, Try.ntmps211
  go_wp2_with ((with_reducible show wpList _ _ _ (Oper.mk _ (Op.load 47 _) _ _ _ _ :: _) _ _); refine loadB (K3) rfl rfl rfl ?_)
  refine (HST.out _).mono ?_
  rintro _ w2 ⟨gs, cs, rfl, hs, hb⟩
  have CS : CAt w2 gs ((stepL f d).length * 4) (flatF (stepL f d)) := by
    obtain ⟨_, _, e1, _, hc⟩ := KRow.of_list HSA.out hs
    cases e1
    exact hc
  clear hs HST HSA
  generalize hNN : (stepL f d).length = n at *
  generalize hHH : flatF (stepL f d) = hh at *
  have K3 := (K3.below hb K3.lt).alloc (.cells (mk 2 (two 0 1)) 42)
  have KR := (KR.below hb KR.lt).alloc (.cells (mk 2 (two 0 1)) 42)
  have hgs := CS.1
  have hRl := (KR).lt
  have CS := CS.alloc (.cells (mk 2 (two 0 1)) 42)
  have KS : Blk (w2.alloc (.cells (mk 2 (two 0 1)) 42)) w2.heap.size 2 (fcF (0, 1)) 42 := Blk.new w2 2 (two 0 1) 42
  have HB : Hid (Below w.heap.size w w2) := HB.out.trans (hb.mono HB.out.size)
  have hbs : w.heap.size + 1 < w2.heap.size := by have := hb.size; simp only [World.size_alloc] at this; omega
  have HB : Hid (Below w.heap.size w (w2.alloc (.cells (mk 2 (two 0 1)) 42))) := HB.out.alloc HB.out.size _
  clear hb hRl
  go_wp2_with (first | ((with_reducible show wpList _ _ _ (Oper.mk _ (Op.load 47 _) _ _ _ _ :: _) _ _); refine loadB (K3) rfl rfl rfl ?_) | ((with_reducible show wpList _ _ _ (Oper.mk _ (Op.store 42 _ _) _ _ _ _ :: _) _ _); refine storeC (g := two _ _) (Blk.new _ _ _ _) rfl rfl rfl rfl ?_; rw [World.setRow_alloc_new]))
  refine (l9Boards_any f gs cs n hh F _ HV.out CS hn2 HF.out).mono ?_
  rintro _ w3 ⟨gb, cb, rfl, hbo, hb⟩
  have hgb : w2.heap.size + 1 ≤ gb := by have := (hbo.lt gb rfl).1; simpa using this
  have CB := bd_mem7 hbo
  have K3 := K3.below hb K3.lt
  have KR := KR.below hb KR.lt
  have KS := KS.below hb KS.lt
  have CS := CS.below hb
  have HB : Hid (Below w.heap.size w w3) := HB.out.trans (hb.mono HB.out.size)
  generalize hbS : w2.heap.size = bS at *
  have HNB : Hid (gb ≠ bS) := by show _ ≠ _; omega
  have HNS : Hid (gs ≠ bS) := by show _ ≠ _; omega
  rw [← HS0.out] at KS
  have KS : Blk w3 bS 2 (fcF (ptF s0 T S (5 * n) 0)) 42 := KS
  clear hb hbo hgb hgs hbS
  have HAT : Hid (∀ k, k < n → mk 16 (fun j => flatF (bdL F n) (k * 16 + j)) = mk 16 (F k)) := fun k hk => by
    rw [flatF_mk (bdL_all F n) (bdL_at F hk)]
    exact mk_congr fun i hi => fn_cl _ i hi
  generalize flatF (bdL F n) = hb at *
  go_wp2_with fail
  go_loopg [10] n (fun gk sI wr => ∃ (k : Nat), k + gk = n ∧ sI = .int .i64 k ∧ CAt wr gb (n * 16) hb ∧ CAt wr gs (n * 4) hh ∧ Blk wr w.heap.size 16 f 47 ∧ Blk wr (w.heap.size + 1) 2 (fun _ => 0) 42 ∧ Blk wr bS 2 (fcF (ptF s0 T S (5 * n) k)) 42 ∧ Hid (Below w.heap.size w wr))
  case atStart => exact ⟨0, by omega, rfl, CB, CS, K3, KR, KS, HB⟩
  case round =>
    obtain ⟨k, hkg, rfl, CB, CS, K3, KR, KS, HB⟩ := hrel
    cases gk with
    | zero =>
      have hk : ¬ ((k : Int) < (n : Int)) := by omega
      obtain rfl : k = n := by omega
      clear hkg
      rw [HMN.out] at KS
      go_wp2_with (first | ((with_reducible show wpList _ _ _ (Oper.mk _ (Op.load 42 _) _ _ _ _ :: _) _ _); refine loadC (KS) rfl rfl rfl ?_) | ((with_reducible show wpList _ _ _ (Oper.mk _ (Op.store 42 _ _) _ _ _ _ :: _) _ _); refine storeC (KR) rfl rfl rfl rfl ?_))
      try simp only [Exit.inBlock, Exit.then]
      exact retcC (KR.row 2 _) rfl rfl rfl ⟨rfl, below_setRow HB.out (by omega) _⟩
    | succ gk2 =>
      have hk8 : (k : Int) < (n : Int) := by omega
      have hk9 : k < n := by omega
      have hk0 : (0 : Int) ≤ (k : Int) := by omega
      have HAK : Hid (mk 16 (fun j => hb (k * 16 + j)) = mk 16 (F k)) := HAT.out k hk9
      have HWT : Hid (wtI (hh (k * 4 + 3)) = wtP (psF S k)) := HWI.out k hk9
      have H5 : Hid ((5 : Int) * (n : Int) = ((5 * n : Nat) : Int)) := by show _ = _; omega
      have HPT := Lib.hid (HPO.out.part k hk9)
      have HSU := Lib.hid (HPO.out.sum k hk9)
      rw [HFK.out k] at HPT HSU
      rw [← HS0.out] at HSU
      have HPS : Hid (plusF (ptF s0 T S (5 * n) k) (partF (T (F k)) (wtP (psF S k)) (5 * n)) = ptF s0 T S (5 * n) (k + 1)) := by
        show _ = plusF _ (partF (T (plB S (psF S k))) _ _)
        rw [HFK.out k]
      have HCK := Lib.hid (fun w => show Calls Try.prog 209 #[.agg (mk 16 (F k)), .int .i64 (N : Int)] w _ from HCC.out (F k) w (HVF.out k hk9))
      rw [← HTT.out] at HCK
      go_wp2_with fail
      refine wp_region_held_drew (S := fun W => CAt W gb (n * 16) hb ∧ CAt W gs (n * 4) hh) (by kernel_rfl) (⟨CB.drew, CS.drew⟩) (fun hHeld => ?_)
      have K3 := K3.drew
      have KR := KR.drew
      have KS := KS.drew
      have CB : CAt wr.drew gb (n * 16) hb := CB.drew
      have CS : CAt wr.drew gs (n * 4) hh := CS.drew
      have HB : Hid (Below w.heap.size w wr.drew) := HB.out.drew
      clear hHeld
      generalize wr.drew = x0 at *
      have hHeld : CAt x0 gb (n * 16) hb ∧ CAt x0 gs (n * 4) hh := ⟨CB, CS⟩
      refine wpAnyH_take (i := 1) (oi := { dst := some 25, op := _, type := _, pos := _, after := _, guard := _ }) (v := .slice (some ⟨gb, 0, none⟩) n cb) rfl (by kernel_rfl) (by kernel_rfl) (by kernel_rfl) (fun _ _ _ h => h) (Or.inl ⟨by rfl, by intro w hSw; clear hSw; go_simp; (try with_reducible rfl)⟩) (by assumption) ?_
      try simp only [Act.put, List.setIfInBounds_toArray, List.set_cons_zero, List.set_cons_succ]
      refine wpAnyH_take (i := 2) (oi := { dst := some 26, op := _, type := _, pos := _, after := _, guard := _ }) (v := .int .i64 (k : Int)) rfl (by kernel_rfl) (by kernel_rfl) (by kernel_rfl) (fun _ _ _ h => h) (Or.inl ⟨by rfl, by intro w hSw; clear hSw; go_simp; (try with_reducible rfl)⟩) (by assumption) ?_
      try simp only [Act.put, List.setIfInBounds_toArray, List.set_cons_zero, List.set_cons_succ]
      refine wpAnyH_take (i := 3) (oi := { dst := some 27, op := _, type := _, pos := _, after := _, guard := _ }) (v := .pointer (some ⟨gb, k * 16, none⟩)) rfl (by kernel_rfl) (by kernel_rfl) (by kernel_rfl) (fun _ _ _ h => h) (Or.inl ⟨by rfl, by intro w hSw; clear hSw; go_simp; (try with_reducible rfl)⟩) (by assumption) ?_
      try simp only [Act.put, List.setIfInBounds_toArray, List.set_cons_zero, List.set_cons_succ]
      refine wpAnyH_take (i := 4) (oi := { dst := some 28, op := _, type := _, pos := _, after := _, guard := _ }) (v := .agg (mk 16 (F k))) rfl (by kernel_rfl) (by kernel_rfl) (by kernel_rfl) (fun _ _ _ h => h) (Or.inl ⟨by rfl, by intro W p; rw [← HAK.out]; exact execAB7 p.1 (by omega) rfl rfl⟩) (by assumption) ?_
      try simp only [Act.put, List.setIfInBounds_toArray, List.set_cons_zero, List.set_cons_succ]
      refine wpAnyH_take (i := 5) (oi := { dst := some 29, op := _, type := _, pos := _, after := _, guard := _ }) (v := .int .i64 ((N : Int) + 1)) rfl (by kernel_rfl) (by kernel_rfl) (by kernel_rfl) (fun _ _ _ h => h) (Or.inl ⟨by rfl, by intro w hSw; clear hSw; go_simp; (try with_reducible rfl)⟩) (by assumption) ?_
      try simp only [Act.put, List.setIfInBounds_toArray, List.set_cons_zero, List.set_cons_succ]
      refine wpAnyH_take (i := 6) (oi := { dst := some 30, op := _, type := _, pos := _, after := _, guard := _ }) (v := .int .i64 (N : Int)) rfl (by kernel_rfl) (by kernel_rfl) (by kernel_rfl) (fun _ _ _ h => h) (Or.inl ⟨by rfl, by intro W q; clear q; go_simp; (try exact fit9 (by omega))⟩) (by assumption) ?_
      try simp only [Act.put, List.setIfInBounds_toArray, List.set_cons_zero, List.set_cons_succ]
      refine wpAnyH_take (i := 8) (oi := { dst := some 32, op := _, type := _, pos := _, after := _, guard := _ }) (v := .slice (some ⟨gs, 0, none⟩) n cs) rfl (by kernel_rfl) (by kernel_rfl) (by kernel_rfl) (fun _ _ _ h => h) (Or.inl ⟨by rfl, by intro w hSw; clear hSw; go_simp; (try with_reducible rfl)⟩) (by assumption) ?_
      try simp only [Act.put, List.setIfInBounds_toArray, List.set_cons_zero, List.set_cons_succ]
      refine wpAnyH_take (i := 9) (oi := { dst := some 33, op := _, type := _, pos := _, after := _, guard := _ }) (v := .int .i64 (k : Int)) rfl (by kernel_rfl) (by kernel_rfl) (by kernel_rfl) (fun _ _ _ h => h) (Or.inl ⟨by rfl, by intro w hSw; clear hSw; go_simp; (try with_reducible rfl)⟩) (by assumption) ?_
      try simp only [Act.put, List.setIfInBounds_toArray, List.set_cons_zero, List.set_cons_succ]
      refine wpAnyH_take (i := 10) (oi := { dst := some 34, op := _, type := _, pos := _, after := _, guard := _ }) (v := .pointer (some ⟨gs, k * 4, none⟩)) rfl (by kernel_rfl) (by kernel_rfl) (by kernel_rfl) (fun _ _ _ h => h) (Or.inl ⟨by rfl, by intro w hSw; clear hSw; go_simp; (try with_reducible rfl)⟩) (by assumption) ?_
      try simp only [Act.put, List.setIfInBounds_toArray, List.set_cons_zero, List.set_cons_succ]
      refine wpAnyH_take (i := 11) (oi := { dst := some 35, op := _, type := _, pos := _, after := _, guard := _ }) (v := .agg (mk 4 fun j => hh (k * 4 + j))) rfl (by kernel_rfl) (by kernel_rfl) (by kernel_rfl) (fun _ _ _ h => h) (Or.inl ⟨by rfl, fun _ q => execAT q.2 (by omega) rfl rfl⟩) (by assumption) ?_
      try simp only [Act.put, List.setIfInBounds_toArray, List.set_cons_zero, List.set_cons_succ]
      refine wpAnyH_take (i := 13) (oi := { dst := some 37, op := _, type := _, pos := _, after := _, guard := _ }) (v := .slice (some ⟨gs, 0, none⟩) n cs) rfl (by kernel_rfl) (by kernel_rfl) (by kernel_rfl) (fun _ _ _ h => h) (Or.inl ⟨by rfl, by intro w hSw; clear hSw; go_simp; (try with_reducible rfl)⟩) (by assumption) ?_
      try simp only [Act.put, List.setIfInBounds_toArray, List.set_cons_zero, List.set_cons_succ]
      refine wpAnyH_take (i := 14) (oi := { dst := some 38, op := _, type := _, pos := _, after := _, guard := _ }) (v := .int .i64 (n : Int)) rfl (by kernel_rfl) (by kernel_rfl) (by kernel_rfl) (fun _ _ _ h => h) (Or.inl ⟨by rfl, by intro w hSw; clear hSw; go_simp; (try with_reducible rfl)⟩) (by assumption) ?_
      try simp only [Act.put, List.setIfInBounds_toArray, List.set_cons_zero, List.set_cons_succ]
      refine wpAnyH_take (i := 15) (oi := { dst := some 39, op := _, type := _, pos := _, after := _, guard := _ }) (v := .int .i64 ((5 * n : Nat) : Int)) rfl (by kernel_rfl) (by kernel_rfl) (by kernel_rfl) (fun _ _ _ h => h) (Or.inl ⟨by rfl, by intro W q; clear q; go_simp; (try rw [H5.out]); (try exact fit9 (by omega))⟩) (by assumption) ?_
      try simp only [Act.put, List.setIfInBounds_toArray, List.set_cons_zero, List.set_cons_succ]
      refine wpAnyH_ready (rs := [0, 7]) (by kernel_rfl) (by simp) ?_
      refine AllReadyH.cons rfl (fun K hK => ?_) ?_
      · rw [if_pos (by rfl)]
        refine wp_ldC7 KS rfl rfl ?_
        refine hK.out _ _ ⟨CB, CS⟩ (fun hHeld => ?_)
        clear hK K
        try simp only [Act.put, List.setIfInBounds_toArray, List.set_cons_zero, List.set_cons_succ]
        refine wpAnyH_ready (rs := [7]) (by kernel_rfl) (by simp) ?_
        refine AllReadyH.cons rfl (fun K hK => ?_) AllReadyH.nil
        go_simp
        refine (HCK.out _).mono ?_
        rintro _ x1 ⟨rfl, hb2⟩
        have K3 := K3.below hb2 K3.lt
        have KR := KR.below hb2 KR.lt
        have KS := KS.below hb2 KS.lt
        have CB := CB.below hb2
        have CS := CS.below hb2
        have HB : Hid (Below w.heap.size w x1) := HB.out.trans (hb2.mono HB.out.size)
        clear hb2 hHeld
        go_wp2_with fail
        refine hK.out _ _ ⟨CB, CS⟩ (fun hHeld => ?_)
        clear hK K
        try simp only [Act.put, List.setIfInBounds_toArray, List.set_cons_zero, List.set_cons_succ]
        refine wpAnyH_ready (rs := [12]) (by kernel_rfl) (by simp) ?_
        refine AllReadyH.cons rfl (fun K hK => ?_) AllReadyH.nil
        have HWC := l9Weight_any (fun j => hh (k * 4 + j)) x1
        rw [HWT.out] at HWC
        go_simp
        refine HWC.mono ?_
        rintro _ x2 ⟨rfl, hb2⟩
        clear HWC
        have K3 := K3.below hb2 K3.lt
        have KR := KR.below hb2 KR.lt
        have KS := KS.below hb2 KS.lt
        have CB := CB.below hb2
        have CS := CS.below hb2
        have HB : Hid (Below w.heap.size w x2) := HB.out.trans (hb2.mono HB.out.size)
        clear hb2 hHeld
        go_wp2_with fail
        refine hK.out _ _ ⟨CB, CS⟩ (fun hHeld => ?_)
        clear hK K
        try simp only [Act.put, List.setIfInBounds_toArray, List.set_cons_zero, List.set_cons_succ]
        refine wpAnyH_ready (rs := [16]) (by kernel_rfl) (by simp) ?_
        refine AllReadyH.cons rfl (fun K hK => ?_) AllReadyH.nil
        go_simp
        refine (l9Part_any (T (F k)) (wtP (psF S k)) (5 * n) _ HPT.out.1 (by omega) HPT.out.2.1 HPT.out.2.2).mono ?_
        rintro _ x3 ⟨rfl, hb2⟩
        have K3 := K3.below hb2 K3.lt
        have KR := KR.below hb2 KR.lt
        have KS := KS.below hb2 KS.lt
        have CB := CB.below hb2
        have CS := CS.below hb2
        have HB : Hid (Below w.heap.size w x3) := HB.out.trans (hb2.mono HB.out.size)
        clear hb2 hHeld
        go_wp2_with fail
        refine hK.out _ _ ⟨CB, CS⟩ (fun hHeld => ?_)
        clear hK K
        try simp only [Act.put, List.setIfInBounds_toArray, List.set_cons_zero, List.set_cons_succ]
        refine wpAnyH_ready (rs := [17]) (by kernel_rfl) (by simp) ?_
        refine AllReadyH.cons rfl (fun K hK => ?_) AllReadyH.nil
        go_simp
        refine (l9Plus_any (ptF s0 T S (5 * n) k) (partF (T (F k)) (wtP (psF S k)) (5 * n)) _ HSU.out.1 HSU.out.2.1 HSU.out.2.2.1 HSU.out.2.2.2.1 HSU.out.2.2.2.2).mono ?_
        rintro _ x4 ⟨rfl, hb2⟩
        have K3 := K3.below hb2 K3.lt
        have KR := KR.below hb2 KR.lt
        have KS := KS.below hb2 KS.lt
        have CB := CB.below hb2
        have CS := CS.below hb2
        have HB : Hid (Below w.heap.size w x4) := HB.out.trans (hb2.mono HB.out.size)
        clear hb2 hHeld
        go_wp2_with fail
        refine hK.out _ _ ⟨CB, CS⟩ (fun hHeld => ?_)
        clear hK K
        try simp only [Act.put, List.setIfInBounds_toArray, List.set_cons_zero, List.set_cons_succ]
        refine wpAnyH_ready (rs := [18]) (by kernel_rfl) (by simp) ?_
        refine AllReadyH.cons rfl (fun K hK => ?_) AllReadyH.nil
        have st1 := run_store_blk (P := Try.prog) (g := fcF (plusF (ptF s0 T S (5 * n) k) (partF (T (F k)) (wtP (psF S k)) (5 * n)))) KS
        have ms1 : (mk 2 (fcF (plusF (ptF s0 T S (5 * n) k) (partF (T (F k)) (wtP (psF S k)) (5 * n))))).size = 2 := mk_size 2 _
        rw [HPS.out] at *
        go_simp
        clear st1 ms1 hHeld
        have hgr : x4.grownBy (x4.setRow bS (mk 2 (fcF (ptF s0 T S (5 * n) (k + 1))))) (some bS) := grown_row KS _
        have CB := CB.grown hgr (fun e => by cases e; exact absurd rfl HNB.out)
        have CS := CS.grown hgr (fun e => by cases e; exact absurd rfl HNS.out)
        have K3 := K3.rowOther bS (mk 2 (fcF (ptF s0 T S (5 * n) (k + 1)))) (by omega)
        have KR := KR.rowOther bS (mk 2 (fcF (ptF s0 T S (5 * n) (k + 1)))) (by omega)
        have HB : Hid (Below w.heap.size w (x4.setRow bS (mk 2 (fcF (ptF s0 T S (5 * n) (k + 1)))))) := below_setRow HB.out (by omega) _
        have KS := KS.row 2 (fcF (ptF s0 T S (5 * n) (k + 1)))
        clear hgr
        generalize x4.setRow bS (mk 2 (fcF (ptF s0 T S (5 * n) (k + 1)))) = x5 at *
        refine hK.out _ _ ⟨CB, CS⟩ (fun hHeld => ?_)
        clear hK K
        try simp only [Act.put, List.setIfInBounds_toArray, List.set_cons_zero, List.set_cons_succ]
        refine wpAnyH_done (by kernel_rfl) ?_ _
        clear hHeld
        go_wp2_with fail
        go_roundg gk2
        case rel => exact ⟨k + 1, by omega, by go_num, CB, CS, K3, KR, KS, HB⟩
        case measure => omega
      refine AllReadyH.cons rfl (fun K hK => ?_) AllReadyH.nil
      go_simp
      refine (HCK.out _).mono ?_
      rintro _ x6 ⟨rfl, hb2⟩
      have K3 := K3.below hb2 K3.lt
      have KR := KR.below hb2 KR.lt
      have KS := KS.below hb2 KS.lt
      have CB := CB.below hb2
      have CS := CS.below hb2
      have HB : Hid (Below w.heap.size w x6) := HB.out.trans (hb2.mono HB.out.size)
      clear hb2 hHeld
      go_wp2_with fail
      refine hK.out _ _ ⟨CB, CS⟩ (fun hHeld => ?_)
      clear hK K
      try simp only [Act.put, List.setIfInBounds_toArray, List.set_cons_zero, List.set_cons_succ]
      refine wpAnyH_ready (rs := [0, 12]) (by kernel_rfl) (by simp) ?_
      refine AllReadyH.cons rfl (fun K hK => ?_) ?_
      · rw [if_pos (by rfl)]
        refine wp_ldC7 KS rfl rfl ?_
        refine hK.out _ _ ⟨CB, CS⟩ (fun hHeld => ?_)
        clear hK K
        try simp only [Act.put, List.setIfInBounds_toArray, List.set_cons_zero, List.set_cons_succ]
        refine wpAnyH_ready (rs := [12]) (by kernel_rfl) (by simp) ?_
        refine AllReadyH.cons rfl (fun K hK => ?_) AllReadyH.nil
        have HWC := l9Weight_any (fun j => hh (k * 4 + j)) x6
        rw [HWT.out] at HWC
        go_simp
        refine HWC.mono ?_
        rintro _ x7 ⟨rfl, hb2⟩
        clear HWC
        have K3 := K3.below hb2 K3.lt
        have KR := KR.below hb2 KR.lt
        have KS := KS.below hb2 KS.lt
        have CB := CB.below hb2
        have CS := CS.below hb2
        have HB : Hid (Below w.heap.size w x7) := HB.out.trans (hb2.mono HB.out.size)
        clear hb2 hHeld
        go_wp2_with fail
        refine hK.out _ _ ⟨CB, CS⟩ (fun hHeld => ?_)
        clear hK K
        try simp only [Act.put, List.setIfInBounds_toArray, List.set_cons_zero, List.set_cons_succ]
        refine wpAnyH_ready (rs := [16]) (by kernel_rfl) (by simp) ?_
        refine AllReadyH.cons rfl (fun K hK => ?_) AllReadyH.nil
        go_simp
        refine (l9Part_any (T (F k)) (wtP (psF S k)) (5 * n) _ HPT.out.1 (by omega) HPT.out.2.1 HPT.out.2.2).mono ?_
        rintro _ x8 ⟨rfl, hb2⟩
        have K3 := K3.below hb2 K3.lt
        have KR := KR.below hb2 KR.lt
        have KS := KS.below hb2 KS.lt
        have CB := CB.below hb2
        have CS := CS.below hb2
        have HB : Hid (Below w.heap.size w x8) := HB.out.trans (hb2.mono HB.out.size)
        clear hb2 hHeld
        go_wp2_with fail
        refine hK.out _ _ ⟨CB, CS⟩ (fun hHeld => ?_)
        clear hK K
        try simp only [Act.put, List.setIfInBounds_toArray, List.set_cons_zero, List.set_cons_succ]
        refine wpAnyH_ready (rs := [17]) (by kernel_rfl) (by simp) ?_
        refine AllReadyH.cons rfl (fun K hK => ?_) AllReadyH.nil
        go_simp
        refine (l9Plus_any (ptF s0 T S (5 * n) k) (partF (T (F k)) (wtP (psF S k)) (5 * n)) _ HSU.out.1 HSU.out.2.1 HSU.out.2.2.1 HSU.out.2.2.2.1 HSU.out.2.2.2.2).mono ?_
        rintro _ x9 ⟨rfl, hb2⟩
        have K3 := K3.below hb2 K3.lt
        have KR := KR.below hb2 KR.lt
        have KS := KS.below hb2 KS.lt
        have CB := CB.below hb2
        have CS := CS.below hb2
        have HB : Hid (Below w.heap.size w x9) := HB.out.trans (hb2.mono HB.out.size)
        clear hb2 hHeld
        go_wp2_with fail
        refine hK.out _ _ ⟨CB, CS⟩ (fun hHeld => ?_)
        clear hK K
        try simp only [Act.put, List.setIfInBounds_toArray, List.set_cons_zero, List.set_cons_succ]
        refine wpAnyH_ready (rs := [18]) (by kernel_rfl) (by simp) ?_
        refine AllReadyH.cons rfl (fun K hK => ?_) AllReadyH.nil
        have st1 := run_store_blk (P := Try.prog) (g := fcF (plusF (ptF s0 T S (5 * n) k) (partF (T (F k)) (wtP (psF S k)) (5 * n)))) KS
        have ms1 : (mk 2 (fcF (plusF (ptF s0 T S (5 * n) k) (partF (T (F k)) (wtP (psF S k)) (5 * n))))).size = 2 := mk_size 2 _
        rw [HPS.out] at *
        go_simp
        clear st1 ms1 hHeld
        have hgr : x9.grownBy (x9.setRow bS (mk 2 (fcF (ptF s0 T S (5 * n) (k + 1))))) (some bS) := grown_row KS _
        have CB := CB.grown hgr (fun e => by cases e; exact absurd rfl HNB.out)
        have CS := CS.grown hgr (fun e => by cases e; exact absurd rfl HNS.out)
        have K3 := K3.rowOther bS (mk 2 (fcF (ptF s0 T S (5 * n) (k + 1)))) (by omega)
        have KR := KR.rowOther bS (mk 2 (fcF (ptF s0 T S (5 * n) (k + 1)))) (by omega)
        have HB : Hid (Below w.heap.size w (x9.setRow bS (mk 2 (fcF (ptF s0 T S (5 * n) (k + 1)))))) := below_setRow HB.out (by omega) _
        have KS := KS.row 2 (fcF (ptF s0 T S (5 * n) (k + 1)))
        clear hgr
        generalize x9.setRow bS (mk 2 (fcF (ptF s0 T S (5 * n) (k + 1)))) = x10 at *
        refine hK.out _ _ ⟨CB, CS⟩ (fun hHeld => ?_)
        clear hK K
        try simp only [Act.put, List.setIfInBounds_toArray, List.set_cons_zero, List.set_cons_succ]
        refine wpAnyH_done (by kernel_rfl) ?_ _
        clear hHeld
        go_wp2_with fail
        go_roundg gk2
        case rel => exact ⟨k + 1, by omega, by go_num, CB, CS, K3, KR, KS, HB⟩
        case measure => omega
      refine AllReadyH.cons rfl (fun K hK => ?_) AllReadyH.nil
      have HWC := l9Weight_any (fun j => hh (k * 4 + j)) x6
      rw [HWT.out] at HWC
      go_simp
      refine HWC.mono ?_
      rintro _ x11 ⟨rfl, hb2⟩
      clear HWC
      have K3 := K3.below hb2 K3.lt
      have KR := KR.below hb2 KR.lt
      have KS := KS.below hb2 KS.lt
      have CB := CB.below hb2
      have CS := CS.below hb2
      have HB : Hid (Below w.heap.size w x11) := HB.out.trans (hb2.mono HB.out.size)
      clear hb2 hHeld
      go_wp2_with fail
      refine hK.out _ _ ⟨CB, CS⟩ (fun hHeld => ?_)
      clear hK K
      try simp only [Act.put, List.setIfInBounds_toArray, List.set_cons_zero, List.set_cons_succ]
      refine wpAnyH_ready (rs := [0, 16]) (by kernel_rfl) (by simp) ?_
      refine AllReadyH.cons rfl (fun K hK => ?_) ?_
      · rw [if_pos (by rfl)]
        refine wp_ldC7 KS rfl rfl ?_
        refine hK.out _ _ ⟨CB, CS⟩ (fun hHeld => ?_)
        clear hK K
        try simp only [Act.put, List.setIfInBounds_toArray, List.set_cons_zero, List.set_cons_succ]
        refine wpAnyH_ready (rs := [16]) (by kernel_rfl) (by simp) ?_
        refine AllReadyH.cons rfl (fun K hK => ?_) AllReadyH.nil
        go_simp
        refine (l9Part_any (T (F k)) (wtP (psF S k)) (5 * n) _ HPT.out.1 (by omega) HPT.out.2.1 HPT.out.2.2).mono ?_
        rintro _ x12 ⟨rfl, hb2⟩
        have K3 := K3.below hb2 K3.lt
        have KR := KR.below hb2 KR.lt
        have KS := KS.below hb2 KS.lt
        have CB := CB.below hb2
        have CS := CS.below hb2
        have HB : Hid (Below w.heap.size w x12) := HB.out.trans (hb2.mono HB.out.size)
        clear hb2 hHeld
        go_wp2_with fail
        refine hK.out _ _ ⟨CB, CS⟩ (fun hHeld => ?_)
        clear hK K
        try simp only [Act.put, List.setIfInBounds_toArray, List.set_cons_zero, List.set_cons_succ]
        refine wpAnyH_ready (rs := [17]) (by kernel_rfl) (by simp) ?_
        refine AllReadyH.cons rfl (fun K hK => ?_) AllReadyH.nil
        go_simp
        refine (l9Plus_any (ptF s0 T S (5 * n) k) (partF (T (F k)) (wtP (psF S k)) (5 * n)) _ HSU.out.1 HSU.out.2.1 HSU.out.2.2.1 HSU.out.2.2.2.1 HSU.out.2.2.2.2).mono ?_
        rintro _ x13 ⟨rfl, hb2⟩
        have K3 := K3.below hb2 K3.lt
        have KR := KR.below hb2 KR.lt
        have KS := KS.below hb2 KS.lt
        have CB := CB.below hb2
        have CS := CS.below hb2
        have HB : Hid (Below w.heap.size w x13) := HB.out.trans (hb2.mono HB.out.size)
        clear hb2 hHeld
        go_wp2_with fail
        refine hK.out _ _ ⟨CB, CS⟩ (fun hHeld => ?_)
        clear hK K
        try simp only [Act.put, List.setIfInBounds_toArray, List.set_cons_zero, List.set_cons_succ]
        refine wpAnyH_ready (rs := [18]) (by kernel_rfl) (by simp) ?_
        refine AllReadyH.cons rfl (fun K hK => ?_) AllReadyH.nil
        have st1 := run_store_blk (P := Try.prog) (g := fcF (plusF (ptF s0 T S (5 * n) k) (partF (T (F k)) (wtP (psF S k)) (5 * n)))) KS
        have ms1 : (mk 2 (fcF (plusF (ptF s0 T S (5 * n) k) (partF (T (F k)) (wtP (psF S k)) (5 * n))))).size = 2 := mk_size 2 _
        rw [HPS.out] at *
        go_simp
        clear st1 ms1 hHeld
        have hgr : x13.grownBy (x13.setRow bS (mk 2 (fcF (ptF s0 T S (5 * n) (k + 1))))) (some bS) := grown_row KS _
        have CB := CB.grown hgr (fun e => by cases e; exact absurd rfl HNB.out)
        have CS := CS.grown hgr (fun e => by cases e; exact absurd rfl HNS.out)
        have K3 := K3.rowOther bS (mk 2 (fcF (ptF s0 T S (5 * n) (k + 1)))) (by omega)
        have KR := KR.rowOther bS (mk 2 (fcF (ptF s0 T S (5 * n) (k + 1)))) (by omega)
        have HB : Hid (Below w.heap.size w (x13.setRow bS (mk 2 (fcF (ptF s0 T S (5 * n) (k + 1)))))) := below_setRow HB.out (by omega) _
        have KS := KS.row 2 (fcF (ptF s0 T S (5 * n) (k + 1)))
        clear hgr
        generalize x13.setRow bS (mk 2 (fcF (ptF s0 T S (5 * n) (k + 1)))) = x14 at *
        refine hK.out _ _ ⟨CB, CS⟩ (fun hHeld => ?_)
        clear hK K
        try simp only [Act.put, List.setIfInBounds_toArray, List.set_cons_zero, List.set_cons_succ]
        refine wpAnyH_done (by kernel_rfl) ?_ _
        clear hHeld
        go_wp2_with fail
        go_roundg gk2
        case rel => exact ⟨k + 1, by omega, by go_num, CB, CS, K3, KR, KS, HB⟩
        case measure => omega
      refine AllReadyH.cons rfl (fun K hK => ?_) AllReadyH.nil
      go_simp
      refine (l9Part_any (T (F k)) (wtP (psF S k)) (5 * n) _ HPT.out.1 (by omega) HPT.out.2.1 HPT.out.2.2).mono ?_
      rintro _ x15 ⟨rfl, hb2⟩
      have K3 := K3.below hb2 K3.lt
      have KR := KR.below hb2 KR.lt
      have KS := KS.below hb2 KS.lt
      have CB := CB.below hb2
      have CS := CS.below hb2
      have HB : Hid (Below w.heap.size w x15) := HB.out.trans (hb2.mono HB.out.size)
      clear hb2 hHeld
      go_wp2_with fail
      refine hK.out _ _ ⟨CB, CS⟩ (fun hHeld => ?_)
      clear hK K
      try simp only [Act.put, List.setIfInBounds_toArray, List.set_cons_zero, List.set_cons_succ]
      refine wpAnyH_ready (rs := [0]) (by kernel_rfl) (by simp) ?_
      refine AllReadyH.cons rfl (fun K hK => ?_) AllReadyH.nil
      rw [if_pos (by rfl)]
      refine wp_ldC7 KS rfl rfl ?_
      refine hK.out _ _ ⟨CB, CS⟩ (fun hHeld => ?_)
      clear hK K
      try simp only [Act.put, List.setIfInBounds_toArray, List.set_cons_zero, List.set_cons_succ]
      refine wpAnyH_ready (rs := [17]) (by kernel_rfl) (by simp) ?_
      refine AllReadyH.cons rfl (fun K hK => ?_) AllReadyH.nil
      go_simp
      refine (l9Plus_any (ptF s0 T S (5 * n) k) (partF (T (F k)) (wtP (psF S k)) (5 * n)) _ HSU.out.1 HSU.out.2.1 HSU.out.2.2.1 HSU.out.2.2.2.1 HSU.out.2.2.2.2).mono ?_
      rintro _ x16 ⟨rfl, hb2⟩
      have K3 := K3.below hb2 K3.lt
      have KR := KR.below hb2 KR.lt
      have KS := KS.below hb2 KS.lt
      have CB := CB.below hb2
      have CS := CS.below hb2
      have HB : Hid (Below w.heap.size w x16) := HB.out.trans (hb2.mono HB.out.size)
      clear hb2 hHeld
      go_wp2_with fail
      refine hK.out _ _ ⟨CB, CS⟩ (fun hHeld => ?_)
      clear hK K
      try simp only [Act.put, List.setIfInBounds_toArray, List.set_cons_zero, List.set_cons_succ]
      refine wpAnyH_ready (rs := [18]) (by kernel_rfl) (by simp) ?_
      refine AllReadyH.cons rfl (fun K hK => ?_) AllReadyH.nil
      have st1 := run_store_blk (P := Try.prog) (g := fcF (plusF (ptF s0 T S (5 * n) k) (partF (T (F k)) (wtP (psF S k)) (5 * n)))) KS
      have ms1 : (mk 2 (fcF (plusF (ptF s0 T S (5 * n) k) (partF (T (F k)) (wtP (psF S k)) (5 * n))))).size = 2 := mk_size 2 _
      rw [HPS.out] at *
      go_simp
      clear st1 ms1 hHeld
      have hgr : x16.grownBy (x16.setRow bS (mk 2 (fcF (ptF s0 T S (5 * n) (k + 1))))) (some bS) := grown_row KS _
      have CB := CB.grown hgr (fun e => by cases e; exact absurd rfl HNB.out)
      have CS := CS.grown hgr (fun e => by cases e; exact absurd rfl HNS.out)
      have K3 := K3.rowOther bS (mk 2 (fcF (ptF s0 T S (5 * n) (k + 1)))) (by omega)
      have KR := KR.rowOther bS (mk 2 (fcF (ptF s0 T S (5 * n) (k + 1)))) (by omega)
      have HB : Hid (Below w.heap.size w (x16.setRow bS (mk 2 (fcF (ptF s0 T S (5 * n) (k + 1)))))) := below_setRow HB.out (by omega) _
      have KS := KS.row 2 (fcF (ptF s0 T S (5 * n) (k + 1)))
      clear hgr
      generalize x16.setRow bS (mk 2 (fcF (ptF s0 T S (5 * n) (k + 1)))) = x17 at *
      refine hK.out _ _ ⟨CB, CS⟩ (fun hHeld => ?_)
      clear hK K
      try simp only [Act.put, List.setIfInBounds_toArray, List.set_cons_zero, List.set_cons_succ]
      refine wpAnyH_done (by kernel_rfl) ?_ _
      clear hHeld
      go_wp2_with fail
      go_roundg gk2
      case rel => exact ⟨k + 1, by omega, by go_num, CB, CS, K3, KR, KS, HB⟩
      case measure => omega
theorem SKn_zero : SKn 0 := by
  intro f w hV
  show Calls _ _ _ _ fun e w' => e = .returned (.agg (mk 2 (fcF (1, 1)))) ∧ _
  have z2 := zero2
  have z16 := zero16
  have K2 := (Blk.new w 16 f 47).alloc (.cells (mk 2 fun _ => 0) 42)
  have K4 := Blk.new (w.alloc (.cells (mk 16 f) 47)) 2 (fun _ => 0) 42
  have HB := Lib.hid (((Below.refl w.heap.size w).alloc (Nat.le_refl _) (.cells (mk 16 f) 47)).alloc (by simp) (.cells (mk 2 fun _ => 0) 42))
  simp only [World.size_alloc] at K4
  go_enter Try.func209, Try.ntmps209
  go_wp2_with ((with_reducible show wpList _ _ _ (Oper.mk _ (Op.store 42 _ _) _ _ _ _ :: _) _ _); refine storeC (g := two _ _) (K4) rfl rfl rfl rfl ?_)
  try simp only [Exit.inBlock, Exit.then]
  exact retcC (K4.row 2 _) rfl rfl rfl ⟨rfl, below_setRow HB.out (by omega) _⟩
set_option maxHeartbeats 2000000 in
theorem SKn_one : SKn 1 := by
  intro f w hV
  rw [kp_first hV]
  have z2 := zero2
  have z16 := zero16
  have K2 := (Blk.new w 16 f 47).alloc (.cells (mk 2 fun _ => 0) 42)
  have K4 := Blk.new (w.alloc (.cells (mk 16 f) 47)) 2 (fun _ => 0) 42
  have HB := Lib.hid (((Below.refl w.heap.size w).alloc (Nat.le_refl _) (.cells (mk 16 f) 47)).alloc (by simp) (.cells (mk 2 fun _ => 0) 42))
  simp only [World.size_alloc] at K4
  have HM := Lib.hid (fun w => l2Moves_any f w hV)
  clear hV
  by_cases hL : (movL f 4).length = 0
  · rw [if_pos hL]
    have hLi : ¬ (((movL f 4).length : Int) > 0) := by omega
    generalize (movL f 4).length = L at *
    subst hL
    go_enter Try.func209, Try.ntmps209
    go_wp2_with ((with_reducible show wpList _ _ _ (Oper.mk _ (Op.load 47 _) _ _ _ _ :: _) _ _); refine loadB (K2) rfl rfl rfl ?_)
    refine (HM.out _).mono ?_
    rintro _ w2 ⟨gm, cm, rfl, hmo, hb⟩
    have hq : w.heap.size + 1 < w2.heap.size := (K4.below hb K4.lt).lt
    have K2 := (K2.below hb K2.lt).alloc (.cells (mk 2 (two 0 1)) 42)
    have K4 := (K4.below hb K4.lt).alloc (.cells (mk 2 (two 0 1)) 42)
    have K5 : Blk (w2.alloc (.cells (mk 2 (two 0 1)) 42)) w2.heap.size 2 (fcF (0, 1)) 42 := Blk.new w2 2 (two 0 1) 42
    have HB : Hid (Below w.heap.size w w2) := HB.out.trans (hb.mono HB.out.size)
    have HB : Hid (Below w.heap.size w (w2.alloc (.cells (mk 2 (two 0 1)) 42))) := HB.out.alloc HB.out.size _
    clear hb hmo
    go_wp2_with (first | ((with_reducible show wpList _ _ _ (Oper.mk _ (Op.store 42 _ _) _ _ _ _ :: _) _ _); refine storeC (g := two _ _) (Blk.new _ _ _ _) rfl rfl rfl rfl ?_; rw [World.setRow_alloc_new]))
    go_loopg [7] 0 (fun gk sI wr => sI = .int .i64 0 ∧ Blk wr (w.heap.size + 1) 2 (fun _ => 0) 42 ∧ Blk wr w2.heap.size 2 (fcF (0, 1)) 42 ∧ Hid (Below w.heap.size w wr))
    case atStart => exact ⟨rfl, K4, K5, HB⟩
    case round =>
      obtain ⟨rfl, K4, K5, HB⟩ := hrel
      go_wp2_with (first | ((with_reducible show wpList _ _ _ (Oper.mk _ (Op.load 42 _) _ _ _ _ :: _) _ _); refine loadC (K5) rfl rfl rfl ?_) | ((with_reducible show wpList _ _ _ (Oper.mk _ (Op.store 42 _ _) _ _ _ _ :: _) _ _); refine storeC (K4) rfl rfl rfl rfl ?_))
      try simp only [Exit.inBlock, Exit.then]
      exact retcC (K4.row 2 _) rfl rfl rfl ⟨rfl, below_setRow HB.out (by omega) _⟩
  · rw [if_neg hL]
    have hLi : ((movL f 4).length : Int) > 0 := by omega
    have hLp : 0 < (movL f 4).length := by omega
    generalize (movL f 4).length = L at *
    clear hL
    go_enter Try.func209, Try.ntmps209
    go_wp2_with ((with_reducible show wpList _ _ _ (Oper.mk _ (Op.load 47 _) _ _ _ _ :: _) _ _); refine loadB (K2) rfl rfl rfl ?_)
    refine (HM.out _).mono ?_
    rintro _ w2 ⟨gm, cm, rfl, hmo, hb⟩
    have hq : w.heap.size + 1 < w2.heap.size := (K4.below hb K4.lt).lt
    have K2 := (K2.below hb K2.lt).alloc (.cells (mk 2 (two 0 1)) 42)
    have K4 := (K4.below hb K4.lt).alloc (.cells (mk 2 (two 0 1)) 42)
    have K5 : Blk (w2.alloc (.cells (mk 2 (two 0 1)) 42)) w2.heap.size 2 (fcF (0, 1)) 42 := Blk.new w2 2 (two 0 1) 42
    have HB : Hid (Below w.heap.size w w2) := HB.out.trans (hb.mono HB.out.size)
    have HB : Hid (Below w.heap.size w (w2.alloc (.cells (mk 2 (two 0 1)) 42))) := HB.out.alloc HB.out.size _
    clear hb hmo
    go_wp2_with (first | ((with_reducible show wpList _ _ _ (Oper.mk _ (Op.store 42 _ _) _ _ _ _ :: _) _ _); refine storeC (g := two _ _) (Blk.new _ _ _ _) rfl rfl rfl rfl ?_; rw [World.setRow_alloc_new]) | ((with_reducible show wpList _ _ _ (Oper.mk _ (Op.store 42 _ _) _ _ _ _ :: _) _ _); refine storeC (g := two _ _) (K4) rfl rfl rfl rfl ?_))
    try simp only [Exit.inBlock, Exit.then]
    exact retcC (K4.row 2 _) rfl rfl rfl ⟨rfl, below_setRow HB.out (by omega) _⟩
set_option maxHeartbeats 4000000 in
set_option maxRecDepth 20000 in
theorem SKn_succ {n : Nat} (h1 : 1 ≤ n) (hn : n ≤ 2) (h : SDn n) : SKn (n + 1) := by
  intro f w hV
  rw [kp_succ]
  have z2 := zero2
  have z16 := zero16
  have K2 := (Blk.new w 16 f 47).alloc (.cells (mk 2 fun _ => 0) 42)
  have K4 := Blk.new (w.alloc (.cells (mk 16 f) 47)) 2 (fun _ => 0) 42
  have HB := Lib.hid (((Below.refl w.heap.size w).alloc (Nat.le_refl _) (.cells (mk 16 f) 47)).alloc (by simp) (.cells (mk 2 fun _ => 0) 42))
  simp only [World.size_alloc] at K4
  have HM := Lib.hid (fun w => l2Moves_any f w hV)
  have hle := movL_le f 4
  have HMA := Lib.hid (fun i (hi : i < (movL f 4).length) => mov_at hi)
  have HBD := Lib.hid (fun d (hd : d < 4) (hm : isMv f d = true) => kb_ok hn hV hm)
  have HMX : Hid (∀ i, (mxL (kbV n f) ((movL f 4).take i)).1 ≤ 1153152000 ∧ (mxL (kbV n f) ((movL f 4).take i)).2 ≤ 1153152000) := fun i => mxL_all (f := f) (V := kbV n f) (P := fun p => p.1 ≤ 1153152000 ∧ p.2 ≤ 1153152000) (by decide) (fun d hd hm => by have := kb_ok hn hV hm; omega) i
  have HEND : Hid (mxL (kbV n f) (movL f 4) = (bmF f (kbV n f) 4).v) := mxL_end fun d hd hm => (kb_ok hn hV hm).1
  have HCC := Lib.hid (fun d w (hd : d < 4) (hm : isMv f d = true) => h f d w hV hd hm)
  have hcast : ((n + 1 : Nat) : Int) = (n : Int) + 1 := by omega
  rw [hcast, ← HEND.out]
  have hn1 : ¬ ((n : Int) + 1 = 0) := by omega
  have hn1b : (((n : Int) + 1) == 0) = false := by rw [beq_eq_false_iff_ne]; exact hn1
  have hn2b : (((n : Int) + 1) == 1) = false := by rw [beq_eq_false_iff_ne]; omega
  have hn3 : ¬ (n : Int) = 0 := by omega
  clear hcast hV h HEND
  generalize kbV n f = V at *
  go_enter Try.func209, Try.ntmps209
  go_wp2_with ((with_reducible show wpList _ _ _ (Oper.mk _ (Op.load 47 _) _ _ _ _ :: _) _ _); refine loadB (K2) rfl rfl rfl ?_)
  refine (HM.out _).mono ?_
  rintro _ w2 ⟨gm, cm, rfl, hmo, hb⟩
  have CM := mov_mem hmo
  have hq : w.heap.size + 1 < w2.heap.size := (K4.below hb K4.lt).lt
  have K2 := (K2.below hb K2.lt).alloc (.cells (mk 2 (two 0 1)) 42)
  have K4 := (K4.below hb K4.lt).alloc (.cells (mk 2 (two 0 1)) 42)
  have K5 : Blk (w2.alloc (.cells (mk 2 (two 0 1)) 42)) w2.heap.size 2 (fcF (0, 1)) 42 := Blk.new w2 2 (two 0 1) 42
  have HB : Hid (Below w.heap.size w w2) := HB.out.trans (hb.mono HB.out.size)
  have HB : Hid (Below w.heap.size w (w2.alloc (.cells (mk 2 (two 0 1)) 42))) := HB.out.alloc HB.out.size _
  have CM := (CM.below (Below.refl _ _)).alloc (.cells (mk 2 (two 0 1)) 42)
  have hgm : gm < w2.heap.size := (hmo.lt gm rfl).2
  clear hb hmo
  generalize hMM : movL f 4 = M at *
  generalize hLL : M.length = L at *
  have HTL : Hid (M.take L = M) := by show _ = _; rw [← hLL]; exact List.take_length
  go_wp2_with (first | ((with_reducible show wpList _ _ _ (Oper.mk _ (Op.store 42 _ _) _ _ _ _ :: _) _ _); refine storeC (g := two _ _) (Blk.new _ _ _ _) rfl rfl rfl rfl ?_; rw [World.setRow_alloc_new]))
  have K5 : Blk (w2.alloc (.cells (mk 2 (two 0 1)) 42)) w2.heap.size 2 (fcF (mxL V (M.take 0))) 42 := K5
  generalize w2.alloc (.cells (mk 2 (two 0 1)) 42) = w3 at *
  generalize w2.heap.size = bq at *
  go_loopg [7] L (fun gk sI wr => ∃ (k : Nat), k + gk = L ∧ sI = .int .i64 k ∧ CAt wr gm L (fun i => M.getD i 0) ∧ Blk wr w.heap.size 16 f 47 ∧ Blk wr (w.heap.size + 1) 2 (fun _ => 0) 42 ∧ Blk wr bq 2 (fcF (mxL V (M.take k))) 42 ∧ Hid (Below w.heap.size w wr))
  case atStart => exact ⟨0, by omega, rfl, CM, K2, K4, K5, HB⟩
  case round =>
    obtain ⟨k, hkg, rfl, CM, K2, K4, K5, HB⟩ := hrel
    cases gk with
    | zero =>
      have hk : ¬ ((k : Int) < (L : Int)) := by omega
      obtain rfl : k = L := by omega
      clear hkg
      rw [HTL.out] at K5
      go_wp2_with (first | ((with_reducible show wpList _ _ _ (Oper.mk _ (Op.load 42 _) _ _ _ _ :: _) _ _); refine loadC (K5) rfl rfl rfl ?_) | ((with_reducible show wpList _ _ _ (Oper.mk _ (Op.store 42 _ _) _ _ _ _ :: _) _ _); refine storeC (K4) rfl rfl rfl rfl ?_))
      try simp only [Exit.inBlock, Exit.then]
      exact retcC (K4.row 2 _) rfl rfl rfl ⟨rfl, below_setRow HB.out (by omega) _⟩
    | succ gk2 =>
      have hk8 : (k : Int) < (L : Int) := by omega
      have hk9 : k < L := by omega
      have hk0 : (0 : Int) ≤ (k : Int) := by omega
      obtain ⟨d, hd4, _, hdm, hgd, htk⟩ := HMA.out k hk9
      have HGD : Hid (M.getD k 0 = (d : Int)) := hgd
      have HTK : Hid (M.take (k + 1) = M.take k ++ [(d : Int)]) := htk
      have HCK := Lib.hid (fun w => HCC.out d w hd4 hdm)
      obtain ⟨_, b1, b2⟩ := HBD.out d hd4 hdm
      obtain ⟨b3, b4⟩ := HMX.out k
      have HLS := Lib.hid (fun w => l9Less_any (mxL V (M.take k)) (V d) w (by have := fc_mul7 (a := (mxL V (M.take k)).1) (b := (V d).2) (by omega) (by omega); omega) (by have := fc_mul7 (a := (V d).1) (b := (mxL V (M.take k)).2) (by omega) (by omega); omega))
      clear hgd htk hdm b1 b2 b3 b4
      go_wp2_with fail
      refine wp_region_held_drew (S := fun W => Blk W w.heap.size 16 f 47 ∧ CAt W gm L (fun i => M.getD i 0)) (by kernel_rfl) (⟨K2.drew, CM.drew⟩) (fun hHeld => ?_)
      have K2 := K2.drew
      have K4 := K4.drew
      have K5 := K5.drew
      have CM : CAt wr.drew gm L (fun i => M.getD i 0) := CM.drew
      have HB : Hid (Below w.heap.size w wr.drew) := HB.out.drew
      clear hHeld
      generalize wr.drew = x0 at *
      have hHeld : Blk x0 w.heap.size 16 f 47 ∧ CAt x0 gm L (fun i => M.getD i 0) := ⟨K2, CM⟩
      refine wpAnyH_take (i := 0) (oi := { dst := some 29, op := _, type := _, pos := _, after := _, guard := _ }) (v := .agg (mk 16 f)) rfl (by kernel_rfl) (by kernel_rfl) (by kernel_rfl) (fun _ _ _ h => h) (Or.inl ⟨by rfl, fun _ q => execB7 q.1 rfl rfl⟩) (by assumption) ?_
      try simp only [Act.put, List.setIfInBounds_toArray, List.set_cons_zero, List.set_cons_succ]
      refine wpAnyH_take (i := 1) (oi := { dst := some 30, op := _, type := _, pos := _, after := _, guard := _ }) (v := .slice (some ⟨gm, 0, none⟩) L cm) rfl (by kernel_rfl) (by kernel_rfl) (by kernel_rfl) (fun _ _ _ h => h) (Or.inl ⟨by rfl, by intro w hSw; clear hSw; go_simp; (try with_reducible rfl)⟩) (by assumption) ?_
      try simp only [Act.put, List.setIfInBounds_toArray, List.set_cons_zero, List.set_cons_succ]
      refine wpAnyH_take (i := 2) (oi := { dst := some 31, op := _, type := _, pos := _, after := _, guard := _ }) (v := .int .i64 (k : Int)) rfl (by kernel_rfl) (by kernel_rfl) (by kernel_rfl) (fun _ _ _ h => h) (Or.inl ⟨by rfl, by intro w hSw; clear hSw; go_simp; (try with_reducible rfl)⟩) (by assumption) ?_
      try simp only [Act.put, List.setIfInBounds_toArray, List.set_cons_zero, List.set_cons_succ]
      refine wpAnyH_take (i := 3) (oi := { dst := some 32, op := _, type := _, pos := _, after := _, guard := _ }) (v := .pointer (some ⟨gm, k, none⟩)) rfl (by kernel_rfl) (by kernel_rfl) (by kernel_rfl) (fun _ _ _ h => h) (Or.inl ⟨by rfl, by intro w hSw; clear hSw; go_simp; (try with_reducible rfl)⟩) (by assumption) ?_
      try simp only [Act.put, List.setIfInBounds_toArray, List.set_cons_zero, List.set_cons_succ]
      refine wpAnyH_take (i := 4) (oi := { dst := some 33, op := _, type := _, pos := _, after := _, guard := _ }) (v := .int .i64 (d : Int)) rfl (by kernel_rfl) (by kernel_rfl) (by kernel_rfl) (fun _ _ _ h => h) (Or.inl ⟨by rfl, by intro W q; have c0 : W.cell? ⟨gm, k, none⟩ = some (.int .i64 (M.getD k 0)) := q.2.2 k hk9; rw [HGD.out] at c0; clear q; go_simp⟩) (by assumption) ?_
      try simp only [Act.put, List.setIfInBounds_toArray, List.set_cons_zero, List.set_cons_succ]
      refine wpAnyH_take (i := 5) (oi := { dst := some 34, op := _, type := _, pos := _, after := _, guard := _ }) (v := .int .i64 ((n : Int) + 1)) rfl (by kernel_rfl) (by kernel_rfl) (by kernel_rfl) (fun _ _ _ h => h) (Or.inl ⟨by rfl, by intro w hSw; clear hSw; go_simp; (try with_reducible rfl)⟩) (by assumption) ?_
      try simp only [Act.put, List.setIfInBounds_toArray, List.set_cons_zero, List.set_cons_succ]
      refine wpAnyH_ready (rs := [6, 7]) (by kernel_rfl) (by simp) ?_
      refine AllReadyH.cons rfl (fun K hK => ?_) ?_
      · go_simp
        refine (HCK.out _).mono ?_
        rintro _ x1 ⟨rfl, hb⟩
        have K2 := K2.below hb K2.lt
        have K4 := K4.below hb K4.lt
        have K5 := K5.below hb K5.lt
        have CM := CM.below hb
        have HB : Hid (Below w.heap.size w x1) := HB.out.trans (hb.mono HB.out.size)
        clear hb hHeld
        go_wp2_with fail
        refine hK.out _ _ (⟨K2, CM⟩) (fun hHeld => ?_)
        clear hK K
        try simp only [Act.put, List.setIfInBounds_toArray, List.set_cons_zero, List.set_cons_succ]
        refine wpAnyH_ready (rs := [7]) (by kernel_rfl) (by simp) ?_
        refine AllReadyH.cons rfl (fun K hK => ?_) AllReadyH.nil
        go_simp
        clear hHeld
        have hl4 : w.heap.size + 1 < x1.heap.size := K4.lt
        have hl5 : bq < x1.heap.size := K5.lt
        have hl6 : gm < x1.heap.size := CM.1
        have KN := Blk.new x1 2 (fun _ => 0) 42
        have K2 := K2.alloc (.cells (mk 2 fun _ => 0) 42)
        have K4 := K4.alloc (.cells (mk 2 fun _ => 0) 42)
        have K5 := K5.alloc (.cells (mk 2 fun _ => 0) 42)
        have CM := CM.alloc (.cells (mk 2 fun _ => 0) 42)
        have HB : Hid (Below w.heap.size w (x1.alloc (.cells (mk 2 fun _ => 0) 42))) := HB.out.alloc HB.out.size _
        generalize x1.alloc (.cells (mk 2 fun _ => 0) 42) = x2 at *
        generalize x1.heap.size = bN at *
        refine hK.out _ _ (⟨K2, CM⟩) (fun hHeld => ?_)
        clear hK K
        try simp only [Act.put, List.setIfInBounds_toArray, List.set_cons_zero, List.set_cons_succ]
        refine wpAnyH_ready (rs := [8]) (by kernel_rfl) (by simp) ?_
        refine AllReadyH.cons rfl (fun K hK => ?_) AllReadyH.nil
        have st1 := run_store_blk (P := Try.prog) (g := fcF (V d)) KN
        have ms1 : (mk 2 (fcF (V d))).size = 2 := mk_size 2 _
        go_simp
        clear st1 ms1 hHeld
        have hgr : x2.grownBy (x2.setRow bN (mk 2 (fcF (V d)))) (some bN) := grown_row KN _
        have CM := CM.grown hgr (fun e => by cases e; omega)
        have K2 := K2.rowOther bN (mk 2 (fcF (V d))) (by omega)
        have K4 := K4.rowOther bN (mk 2 (fcF (V d))) (by omega)
        have K5 := K5.rowOther bN (mk 2 (fcF (V d))) (by omega)
        have HB : Hid (Below w.heap.size w (x2.setRow bN (mk 2 (fcF (V d))))) := below_setRow HB.out (by omega) _
        have KN := KN.row 2 (fcF (V d))
        clear hgr
        generalize x2.setRow bN (mk 2 (fcF (V d))) = x3 at *
        refine hK.out _ _ (⟨K2, CM⟩) (fun hHeld => ?_)
        clear hK K
        try simp only [Act.put, List.setIfInBounds_toArray, List.set_cons_zero, List.set_cons_succ]
        refine wpAnyH_done (by kernel_rfl) ?_ _
        clear hHeld
        go_wp2_with (first | ((with_reducible show wpList _ _ _ (Oper.mk _ (Op.load 42 _) _ _ _ _ :: _) _ _); refine loadC (K5) rfl rfl rfl ?_) | ((with_reducible show wpList _ _ _ (Oper.mk _ (Op.load 42 _) _ _ _ _ :: _) _ _); refine loadC (KN) rfl rfl rfl ?_))
        refine (HLS.out _).mono ?_
        rintro _ y1 ⟨rfl, hb⟩
        have K2 := K2.below hb K2.lt
        have K4 := K4.below hb K4.lt
        have K5 := K5.below hb K5.lt
        have KN := KN.below hb KN.lt
        have CM := CM.below hb
        have HB : Hid (Below w.heap.size w y1) := HB.out.trans (hb.mono HB.out.size)
        clear hb
        cases hlt : ltF (mxL V (M.take k)) (V d) with
        | true =>
          have HN : Hid (mxL V (M.take (k + 1)) = V d) := by
            show _ = _; rw [HTK.out, mxL_snoc]; unfold mxS; rw [Int.toNat_natCast, hlt]; rfl
          clear hlt
          go_wp2_with (first | ((with_reducible show wpList _ _ _ (Oper.mk _ (Op.load 42 _) _ _ _ _ :: _) _ _); refine loadC (KN) rfl rfl rfl ?_) | ((with_reducible show wpList _ _ _ (Oper.mk _ (Op.store 42 _ _) _ _ _ _ :: _) _ _); refine storeC (K5) rfl rfl rfl rfl ?_))
          have hgr : y1.grownBy (y1.setRow bq (mk 2 (fcF (V d)))) (some bq) := grown_row K5 _
          have CM := CM.grown hgr (fun e => by cases e; omega)
          have K2 := K2.rowOther bq (mk 2 (fcF (V d))) (by omega)
          have K4 := K4.rowOther bq (mk 2 (fcF (V d))) (by omega)
          have HB : Hid (Below w.heap.size w (y1.setRow bq (mk 2 (fcF (V d))))) := below_setRow HB.out (by omega) _
          have K5 := K5.row 2 (fcF (V d))
          rw [← HN.out] at K5
          clear hgr
          rw [← HN.out] at *
          go_roundg gk2
          case rel => exact ⟨k + 1, by omega, by go_num, CM, K2, K4, K5, HB⟩
          case measure => omega
        | false =>
          have HN : Hid (mxL V (M.take (k + 1)) = mxL V (M.take k)) := by
            show _ = _; rw [HTK.out, mxL_snoc]; unfold mxS; rw [Int.toNat_natCast, hlt]; rfl
          clear hlt
          rw [← HN.out] at K5
          go_wp2_with fail
          go_roundg gk2
          case rel => exact ⟨k + 1, by omega, by go_num, CM, K2, K4, K5, HB⟩
          case measure => omega
      refine AllReadyH.cons rfl (fun K hK => ?_) AllReadyH.nil
      go_simp
      clear hHeld
      have hl4 : w.heap.size + 1 < x0.heap.size := K4.lt
      have hl5 : bq < x0.heap.size := K5.lt
      have hl6 : gm < x0.heap.size := CM.1
      have KN := Blk.new x0 2 (fun _ => 0) 42
      have K2 := K2.alloc (.cells (mk 2 fun _ => 0) 42)
      have K4 := K4.alloc (.cells (mk 2 fun _ => 0) 42)
      have K5 := K5.alloc (.cells (mk 2 fun _ => 0) 42)
      have CM := CM.alloc (.cells (mk 2 fun _ => 0) 42)
      have HB : Hid (Below w.heap.size w (x0.alloc (.cells (mk 2 fun _ => 0) 42))) := HB.out.alloc HB.out.size _
      generalize x0.alloc (.cells (mk 2 fun _ => 0) 42) = x1 at *
      generalize x0.heap.size = bN at *
      refine hK.out _ _ (⟨K2, CM⟩) (fun hHeld => ?_)
      clear hK K
      try simp only [Act.put, List.setIfInBounds_toArray, List.set_cons_zero, List.set_cons_succ]
      refine wpAnyH_ready (rs := [6]) (by kernel_rfl) (by simp) ?_
      refine AllReadyH.cons rfl (fun K hK => ?_) AllReadyH.nil
      go_simp
      refine (HCK.out _).mono ?_
      rintro _ x2 ⟨rfl, hb⟩
      have K2 := K2.below hb K2.lt
      have K4 := K4.below hb K4.lt
      have K5 := K5.below hb K5.lt
      have KN := KN.below hb KN.lt
      have CM := CM.below hb
      have HB : Hid (Below w.heap.size w x2) := HB.out.trans (hb.mono HB.out.size)
      clear hb hHeld
      go_wp2_with fail
      refine hK.out _ _ (⟨K2, CM⟩) (fun hHeld => ?_)
      clear hK K
      try simp only [Act.put, List.setIfInBounds_toArray, List.set_cons_zero, List.set_cons_succ]
      refine wpAnyH_ready (rs := [8]) (by kernel_rfl) (by simp) ?_
      refine AllReadyH.cons rfl (fun K hK => ?_) AllReadyH.nil
      have st1 := run_store_blk (P := Try.prog) (g := fcF (V d)) KN
      have ms1 : (mk 2 (fcF (V d))).size = 2 := mk_size 2 _
      go_simp
      clear st1 ms1 hHeld
      have hgr : x2.grownBy (x2.setRow bN (mk 2 (fcF (V d)))) (some bN) := grown_row KN _
      have CM := CM.grown hgr (fun e => by cases e; omega)
      have K2 := K2.rowOther bN (mk 2 (fcF (V d))) (by omega)
      have K4 := K4.rowOther bN (mk 2 (fcF (V d))) (by omega)
      have K5 := K5.rowOther bN (mk 2 (fcF (V d))) (by omega)
      have HB : Hid (Below w.heap.size w (x2.setRow bN (mk 2 (fcF (V d))))) := below_setRow HB.out (by omega) _
      have KN := KN.row 2 (fcF (V d))
      clear hgr
      generalize x2.setRow bN (mk 2 (fcF (V d))) = x3 at *
      refine hK.out _ _ (⟨K2, CM⟩) (fun hHeld => ?_)
      clear hK K
      try simp only [Act.put, List.setIfInBounds_toArray, List.set_cons_zero, List.set_cons_succ]
      refine wpAnyH_done (by kernel_rfl) ?_ _
      clear hHeld
      go_wp2_with (first | ((with_reducible show wpList _ _ _ (Oper.mk _ (Op.load 42 _) _ _ _ _ :: _) _ _); refine loadC (K5) rfl rfl rfl ?_) | ((with_reducible show wpList _ _ _ (Oper.mk _ (Op.load 42 _) _ _ _ _ :: _) _ _); refine loadC (KN) rfl rfl rfl ?_))
      refine (HLS.out _).mono ?_
      rintro _ y1 ⟨rfl, hb⟩
      have K2 := K2.below hb K2.lt
      have K4 := K4.below hb K4.lt
      have K5 := K5.below hb K5.lt
      have KN := KN.below hb KN.lt
      have CM := CM.below hb
      have HB : Hid (Below w.heap.size w y1) := HB.out.trans (hb.mono HB.out.size)
      clear hb
      cases hlt : ltF (mxL V (M.take k)) (V d) with
      | true =>
        have HN : Hid (mxL V (M.take (k + 1)) = V d) := by
          show _ = _; rw [HTK.out, mxL_snoc]; unfold mxS; rw [Int.toNat_natCast, hlt]; rfl
        clear hlt
        go_wp2_with (first | ((with_reducible show wpList _ _ _ (Oper.mk _ (Op.load 42 _) _ _ _ _ :: _) _ _); refine loadC (KN) rfl rfl rfl ?_) | ((with_reducible show wpList _ _ _ (Oper.mk _ (Op.store 42 _ _) _ _ _ _ :: _) _ _); refine storeC (K5) rfl rfl rfl rfl ?_))
        have hgr : y1.grownBy (y1.setRow bq (mk 2 (fcF (V d)))) (some bq) := grown_row K5 _
        have CM := CM.grown hgr (fun e => by cases e; omega)
        have K2 := K2.rowOther bq (mk 2 (fcF (V d))) (by omega)
        have K4 := K4.rowOther bq (mk 2 (fcF (V d))) (by omega)
        have HB : Hid (Below w.heap.size w (y1.setRow bq (mk 2 (fcF (V d))))) := below_setRow HB.out (by omega) _
        have K5 := K5.row 2 (fcF (V d))
        rw [← HN.out] at K5
        clear hgr
        rw [← HN.out] at *
        go_roundg gk2
        case rel => exact ⟨k + 1, by omega, by go_num, CM, K2, K4, K5, HB⟩
        case measure => omega
      | false =>
        have HN : Hid (mxL V (M.take (k + 1)) = mxL V (M.take k)) := by
          show _ = _; rw [HTK.out, mxL_snoc]; unfold mxS; rw [Int.toNat_natCast, hlt]; rfl
        clear hlt
        rw [← HN.out] at K5
        go_wp2_with fail
        go_roundg gk2
        case rel => exact ⟨k + 1, by omega, by go_num, CM, K2, K4, K5, HB⟩
        case measure => omega
theorem sk_all : ∀ n, n ≤ 3 → SKn n
  | 0, _ => SKn_zero
  | 1, _ => SKn_one
  | n + 2, h => SKn_succ (by omega) (by omega) (SDn_of (by omega) (sk_all (n + 1) (by omega)))
theorem sd_all (n : Nat) (h : n ≤ 2) : SDn n := SDn_of h (sk_all n (by omega))
end Go.Proofs.Ytblcojacmjbjcab
namespace Go.Proofs.Ytblcojacmjbjcab
open Go.RowKit Plain
attribute [local go_sem] store_new
set_option linter.unusedVariables false
set_option linter.unusedSimpArgs false
end Go.Proofs.Ytblcojacmjbjcab
