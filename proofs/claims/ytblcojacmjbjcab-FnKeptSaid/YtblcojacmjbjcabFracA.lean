/-
  Several texts in one:
  Fractions as the program keeps them: two numbers, read, written and built; and the contracts of the program's own arithmetic on them.
  A region that draws its order, in a round of a loop over an iterator: walked as outside of one. No condition but that it defers nothing.
  The contract of the program's meanBehind, for any function that is told of a board: the mean of a fraction over all placements.
  The contract of the program's bestMove, for any function that is told of a slide: the first direction of a move for which a fraction is the greatest.
  The contracts of the program's plans: the chance that is kept, the mean that is scored, and what is told of a slide; by the number of moves.
-/
import Derived.Test.YtblcojacmjbjcabBaseA
import Derived.Test.YtblcojacmjbjcabMeanA
import Derived.Test.YtblcojacmjbjcabFenceKit
import Derived.Deep.RegionHeld
import Derived.Test.YtblcojacmjbjcabOverR
import Derived.Test.YtblcojacmjbjcabPlaceKit
import Derived.Test.YtblcojacmjbjcabLeastR
import Derived.Test.YtblcojacmjbjcabRowsKit
namespace Go.Proofs.Ytblcojacmjbjcab
open Go.RowKit Plain
attribute [local go_sem] store_new
set_option linter.unusedVariables false
set_option linter.unusedSimpArgs false
theorem sizeF : (Try.prog.info? 155).map (·.size) = some 2 := by kernel_rfl
theorem loadF {ops : Array Oper} {rest : List Oper} {o : Oper} {a : Act} {w : World} {Q : Exit → Act → World → Prop} {x : Operand} {b : Nat} {f : Nat → Int} {t : TypeId}
    (hg : Blk w b 2 f t) (hgd : o.guard = none) (ho : o.op = .load 155 x) (hx : a.eval x = .pointer (some ⟨b, 0, none⟩))
    (h : wpList Try.prog ops Q rest (a.put o.dst (.agg (mk 2 f))) w) : wpList Try.prog ops Q (o :: rest) a w :=
  wpList_load_blk hgd _ x ho b 2 f t _ hx hg Try.underlying155 rfl sizeF h
theorem storeF {ops : Array Oper} {rest : List Oper} {o : Oper} {a : Act} {w : World} {Q : Exit → Act → World → Prop} {x y : Operand} {b : Nat} {f g : Nat → Int} {t : TypeId}
    (hg : Blk w b 2 f t) (hgd : o.guard = none) (ho : o.op = .store 155 x y) (hx : a.eval x = .pointer (some ⟨b, 0, none⟩)) (hy : a.eval y = .agg (mk 2 g))
    (h : wpList Try.prog ops Q rest (a.put o.dst undef) (w.setRow b (mk 2 g))) : wpList Try.prog ops Q (o :: rest) a w :=
  wpList_store_blk hgd _ x y ho b 2 f g t hx hy hg sizeF h
theorem retcF {fn : Func} {R : Ending → World → Prop} {a : Act} {w : World} {p : Tmp} {t : TypeId} {b : Nat} {f : Nat → Int}
    (hg : Blk w b 2 f t) (h : fn.results = #[.cell p 155]) (hp : a.tmps.getD p undef = .pointer (some ⟨b, 0, none⟩)) (hdf : a.defers = [])
    (hR : R (.returned (.agg (mk 2 f))) w) : bodyPost Try.prog fn R .ret a w := ret_c Try.underlying155 rfl sizeF h hp hdf hg hR
theorem retctF {fn : Func} {R : Ending → World → Prop} {a : Act} {w : World} {p q : Tmp} {t : TypeId} {b : Nat} {f : Nat → Int}
    (hg : Blk w b 2 f t) (h : fn.results = #[.cell p 155, .tmp q]) (hp : a.tmps.getD p undef = .pointer (some ⟨b, 0, none⟩)) (hdf : a.defers = [])
    (hR : R (.returned (.tuple #[.agg (mk 2 f), a.tmps.getD q undef])) w) : bodyPost Try.prog fn R .ret a w := ret_ct Try.underlying155 rfl sizeF h hp hdf hg hR
theorem run_buildF (a b : Int) (w : World) : (Instr.build 155 #[(0, .int .i64 a), (1, .int .i64 b)]).run Try.prog w = .ok (.agg (mk 2 (two a b))) w := by kernel_rfl
theorem exec_buildF {o : Oper} {ev : Operand → Value} {w : World} (x y : Operand) (ho : o.op = .build 155 #[(0, x), (1, y)]) {a b : Int}
    (hx : ev x = .int .i64 a) (hy : ev y = .int .i64 b) : (execOp ev o).run Try.prog w = .ok (.value (.agg (mk 2 (two a b)))) w := by
  have hr := run_buildF a b w
  simp [execOp, ho, hx, hy, hr, Result.andThen]
theorem rd_end {a b d : Nat} (h : d = Nat.gcd a b) : rd a b = (a / d, b / d) := by subst h; rfl
theorem fit62 {a : Nat} (h : a ≤ 4611686018427387904) : IntKind.wrap .i64 (a : Int) = (a : Int) := by rw [IntKind.wrap_i64]; omega
set_option maxHeartbeats 1000000 in
theorem reduced_any (a b : Nat) (w : World) (hb : 0 < b) (ha : a ≤ 4611686018427387904) (hb2 : b ≤ 4611686018427387904) :
    Calls Try.prog 201 #[.int .i64 (a : Int), .int .i64 (b : Int)] w fun e w' => e = .returned (.agg (mk 2 (fcF (rd a b)))) ∧ Below w.heap.size w w' := by
  have z2 := zero2
  have K1 := Blk.new w 2 (fun _ => 0) 155
  have HB := Lib.hid ((Below.refl w.heap.size w).alloc (Nat.le_refl _) (.cells (mk 2 fun _ => 0) 155))
  go_enter Try.func201, Try.ntmps201
  go_wp2_with fail
  generalize w.alloc (.cells (mk 2 fun _ => 0) 155) = w1 at *
  go_loopw [5, 6] (fun d r wr => ∃ d' r' : Nat, d = .int .i64 (d' : Int) ∧ r = .int .i64 (r' : Int) ∧ 0 < d' ∧ d' ≤ 4611686018427387904 ∧ r' ≤ 4611686018427387904 ∧ Nat.gcd d' r' = Nat.gcd a b ∧ Blk wr w.heap.size 2 (fun _ => 0) 155 ∧ Hid (Below w.heap.size w wr)) (fun _ r _ => (intOf r).toNat)
  case atStart => exact ⟨b, a, rfl, rfl, hb, hb2, ha, Nat.gcd_comm b a, K1, HB⟩
  case round =>
    obtain ⟨d, r, rfl, rfl, hd, hd2, hr2, hg, K1, HB⟩ := hrel
    by_cases hr : 0 < r
    · have hri : (r : Int) > 0 := by omega
      have hrn : ((r : Int) == 0) = false := by rw [beq_eq_false_iff_ne]; omega
      have hlt := Nat.mod_lt d hr
      have hgs := gcd_step d r
      go_wp2_with fail
      go_quiet (fail)
      go_wp2_with fail
      go_roundw
      case rel => exact ⟨r, d % r, rfl, rfl, hr, hr2, by omega, by rw [hgs]; exact hg, K1.drewN _, Lib.hid (below_drewN HB.out _)⟩
      case measure =>
        show ((d % r : Nat) : Int).toNat < ((r : Nat) : Int).toNat
        omega
    · have hri : ¬ (r : Int) > 0 := by omega
      have hdn : ((d : Int) == 0) = false := by rw [beq_eq_false_iff_ne]; omega
      obtain rfl : r = 0 := by omega
      rw [gcd_end] at hg
      have HE := Lib.hid (rd_end hg)
      have hd0 : ¬ d = 0 := by omega
      have hqa : IntKind.wrap .i64 ((a : Int) / (d : Int)) = (a : Int) / (d : Int) := fit62 (a := a / d) (Nat.le_trans (Nat.div_le_self _ _) ha)
      have hqb : IntKind.wrap .i64 ((b : Int) / (d : Int)) = (b : Int) / (d : Int) := fit62 (a := b / d) (Nat.le_trans (Nat.div_le_self _ _) hb2)
      have HEV : Hid (mk 2 (two ((a : Int) / (d : Int)) ((b : Int) / (d : Int))) = mk 2 (fcF (rd a b))) := by
        show _ = _
        rw [HE.out]; rfl
      clear hg HE
      go_wp2_with fail
      refine wp_region_held_drew (S := fun W => (∃ g, Blk W w.heap.size 2 g 155) ∧ Hid (Below w.heap.size w W)) (by kernel_rfl) (⟨⟨_, K1.drew⟩, Lib.hid HB.out.drew⟩) (fun hHeld => ?_)
      have K1 : Blk wr.drew w.heap.size 2 (fun _ => 0) 155 := K1.drew
      have HB : Hid (Below w.heap.size w wr.drew) := HB.out.drew
      generalize wr.drew = x0 at *
      refine wpAnyH_take (i := 0) (oi := { dst := some 15, op := _, type := _, pos := _, after := _, guard := _ }) (v := .int .i64 (a : Int)) rfl (by kernel_rfl) (by kernel_rfl) (by kernel_rfl) (fun _ _ _ h => h) (Or.inl ⟨by rfl, by intro w hSw; clear hSw; go_simp; (try with_reducible rfl)⟩) (by assumption) ?_
      try simp only [Act.put, List.setIfInBounds_toArray, List.set_cons_zero, List.set_cons_succ]
      refine wpAnyH_take (i := 1) (oi := { dst := some 16, op := _, type := _, pos := _, after := _, guard := _ }) (v := .int .i64 (d : Int)) rfl (by kernel_rfl) (by kernel_rfl) (by kernel_rfl) (fun _ _ _ h => h) (Or.inl ⟨by rfl, by intro w hSw; clear hSw; go_simp; (try with_reducible rfl)⟩) (by assumption) ?_
      try simp only [Act.put, List.setIfInBounds_toArray, List.set_cons_zero, List.set_cons_succ]
      refine wpAnyH_take (i := 2) (oi := { dst := some 17, op := _, type := _, pos := _, after := _, guard := _ }) (v := .int .i64 ((a : Int) / (d : Int))) rfl (by kernel_rfl) (by kernel_rfl) (by kernel_rfl) (fun _ _ _ h => h) (Or.inl ⟨by rfl, by intro w hSw; clear hSw; go_simp; (try with_reducible rfl)⟩) (by assumption) ?_
      try simp only [Act.put, List.setIfInBounds_toArray, List.set_cons_zero, List.set_cons_succ]
      refine wpAnyH_take (i := 3) (oi := { dst := some 18, op := _, type := _, pos := _, after := _, guard := _ }) (v := .int .i64 (b : Int)) rfl (by kernel_rfl) (by kernel_rfl) (by kernel_rfl) (fun _ _ _ h => h) (Or.inl ⟨by rfl, by intro w hSw; clear hSw; go_simp; (try with_reducible rfl)⟩) (by assumption) ?_
      try simp only [Act.put, List.setIfInBounds_toArray, List.set_cons_zero, List.set_cons_succ]
      refine wpAnyH_take (i := 4) (oi := { dst := some 19, op := _, type := _, pos := _, after := _, guard := _ }) (v := .int .i64 (d : Int)) rfl (by kernel_rfl) (by kernel_rfl) (by kernel_rfl) (fun _ _ _ h => h) (Or.inl ⟨by rfl, by intro w hSw; clear hSw; go_simp; (try with_reducible rfl)⟩) (by assumption) ?_
      try simp only [Act.put, List.setIfInBounds_toArray, List.set_cons_zero, List.set_cons_succ]
      refine wpAnyH_take (i := 5) (oi := { dst := some 20, op := _, type := _, pos := _, after := _, guard := _ }) (v := .int .i64 ((b : Int) / (d : Int))) rfl (by kernel_rfl) (by kernel_rfl) (by kernel_rfl) (fun _ _ _ h => h) (Or.inl ⟨by rfl, by intro w hSw; clear hSw; go_simp; (try with_reducible rfl)⟩) (by assumption) ?_
      try simp only [Act.put, List.setIfInBounds_toArray, List.set_cons_zero, List.set_cons_succ]
      refine wpAnyH_take (i := 6) (oi := { dst := some 21, op := _, type := _, pos := _, after := _, guard := _ }) (v := .agg (mk 2 (two ((a : Int) / (d : Int)) ((b : Int) / (d : Int))))) rfl (by kernel_rfl) (by kernel_rfl) (by kernel_rfl) (fun _ _ _ h => h) (Or.inl ⟨by rfl, fun _ _ => exec_buildF _ _ rfl rfl rfl⟩) (by assumption) ?_
      try simp only [Act.put, List.setIfInBounds_toArray, List.set_cons_zero, List.set_cons_succ]
      refine wpAnyH_ready (rs := [7]) (by kernel_rfl) (by simp) ?_
      refine AllReadyH.cons rfl (fun K hK => ?_) AllReadyH.nil
      rw [HEV.out]
      have st1 := run_store_blk (P := Try.prog) (g := fcF (rd a b)) K1
      have ms1 : (mk 2 (fcF (rd a b))).size = 2 := mk_size 2 _
      go_simp
      clear st1 ms1 hHeld
      have HB : Hid (Below w.heap.size w (x0.setRow w.heap.size (mk 2 (fcF (rd a b))))) := below_setRow HB.out (by omega) _
      have K1 := K1.row 2 (fcF (rd a b))
      generalize x0.setRow w.heap.size (mk 2 (fcF (rd a b))) = x1 at *
      refine hK.out _ _ ⟨⟨_, K1⟩, HB⟩ (fun hHeld => ?_)
      clear hK K
      try simp only [Act.put, List.setIfInBounds_toArray, List.set_cons_zero, List.set_cons_succ]
      refine wpAnyH_done (by kernel_rfl) ?_ _
      clear hHeld
      go_wp2_with fail
      try simp only [Exit.inBlock, Exit.then]
      exact retcF K1 rfl rfl rfl ⟨rfl, HB.out⟩
theorem whole_any (n : Int) (a : Nat) (w : World) (hn : n = (a : Int)) : Calls Try.prog 199 #[.int .i64 n] w fun e w' => e = .returned (.agg (mk 2 (fcF (a, 1)))) ∧ Below w.heap.size w w' := by
  subst hn
  have z2 := zero2
  have K1 := Blk.new w 2 (fun _ => 0) 155
  have HB := Lib.hid ((Below.refl w.heap.size w).alloc (Nat.le_refl _) (.cells (mk 2 fun _ => 0) 155))
  go_enter Try.func199, Try.ntmps199
  go_wp2_with ((with_reducible show wpList _ _ _ (Oper.mk _ (Op.store 155 _ _) _ _ _ _ :: _) _ _); refine storeF (g := two _ _) (K1) rfl rfl rfl rfl ?_)
  try simp only [Exit.inBlock, Exit.then]
  exact retcF (K1.row 2 _) rfl rfl rfl ⟨rfl, below_setRow HB.out (by omega) _⟩
theorem chanceIf_any (is : Bool) (w : World) : Calls Try.prog 246 #[.bool is] w fun e w' => e = .returned (.agg (mk 2 (fcF (if is then 1 else 0, 1)))) ∧ Below w.heap.size w w' := by
  have z2 := zero2
  have K1 := Blk.new w 2 (fun _ => 0) 155
  have HB := Lib.hid ((Below.refl w.heap.size w).alloc (Nat.le_refl _) (.cells (mk 2 fun _ => 0) 155))
  cases is with
  | true =>
    go_enter Try.func246, Try.ntmps246
    go_wp2_with fail
    refine (whole_any _ 1 _ rfl).mono ?_
    rintro e w2 ⟨rfl, hb⟩
    have K1 := K1.below hb K1.lt
    have HB : Hid (Below w.heap.size w w2) := HB.out.trans (hb.mono HB.out.size)
    clear hb
    go_wp2_with ((with_reducible show wpList _ _ _ (Oper.mk _ (Op.store 155 _ _) _ _ _ _ :: _) _ _); refine storeF (K1) rfl rfl rfl rfl ?_)
    try simp only [Exit.inBlock, Exit.then]
    exact retcF (K1.row 2 _) rfl rfl rfl ⟨rfl, below_setRow HB.out (by omega) _⟩
  | false =>
    go_enter Try.func246, Try.ntmps246
    go_wp2_with fail
    refine (whole_any _ 0 _ rfl).mono ?_
    rintro e w2 ⟨rfl, hb⟩
    have K1 := K1.below hb K1.lt
    have HB : Hid (Below w.heap.size w w2) := HB.out.trans (hb.mono HB.out.size)
    clear hb
    go_wp2_with ((with_reducible show wpList _ _ _ (Oper.mk _ (Op.store 155 _ _) _ _ _ _ :: _) _ _); refine storeF (K1) rfl rfl rfl rfl ?_)
    try simp only [Exit.inBlock, Exit.then]
    exact retcF (K1.row 2 _) rfl rfl rfl ⟨rfl, below_setRow HB.out (by omega) _⟩
set_option maxHeartbeats 400000 in
theorem plus_any (p q : Fc) (w : World) (hp : 0 < p.2) (hq : 0 < q.2) (h1 : p.1 * q.2 ≤ 2305843009213693952) (h2 : q.1 * p.2 ≤ 2305843009213693952) (h3 : p.2 * q.2 ≤ 4611686018427387904) :
    Calls Try.prog 200 #[.agg (mk 2 (fcF p)), .agg (mk 2 (fcF q))] w fun e w' => e = .returned (.agg (mk 2 (fcF (plusF p q)))) ∧ Below w.heap.size w w' := by
  have z2 := zero2
  have K1 := ((Blk.new w 2 (fcF p) 155).alloc (.cells (mk 2 (fcF q)) 155)).alloc (.cells (mk 2 fun _ => 0) 155)
  have K2 := (Blk.new (w.alloc (.cells (mk 2 (fcF p)) 155)) 2 (fcF q) 155).alloc (.cells (mk 2 fun _ => 0) 155)
  have K3 := Blk.new ((w.alloc (.cells (mk 2 (fcF p)) 155)).alloc (.cells (mk 2 (fcF q)) 155)) 2 (fun _ => 0) 155
  have HB := Lib.hid ((((Below.refl w.heap.size w).alloc (Nat.le_refl _) (.cells (mk 2 (fcF p)) 155)).alloc (by simp) (.cells (mk 2 (fcF q)) 155)).alloc (by simp; omega) (.cells (mk 2 fun _ => 0) 155))
  simp only [World.size_alloc] at K1 K2 K3
  have c10 := K1.cell (i := 0) (by omega)
  have c11 := K1.cell (i := 1) (by omega)
  have c20 := K2.cell (i := 0) (by omega)
  have c21 := K2.cell (i := 1) (by omega)
  simp only [fcF0, fcF1] at c10 c11 c20 c21
  have e1 : (p.1 : Int) * (q.2 : Int) = ((p.1 * q.2 : Nat) : Int) := (Int.natCast_mul _ _).symm
  have e2 : (q.1 : Int) * (p.2 : Int) = ((q.1 * p.2 : Nat) : Int) := (Int.natCast_mul _ _).symm
  have e3 : (p.2 : Int) * (q.2 : Int) = ((p.2 * q.2 : Nat) : Int) := (Int.natCast_mul _ _).symm
  have h4 := Nat.mul_pos hp hq
  have HR := Lib.hid (fun w => reduced_any (p.1 * q.2 + q.1 * p.2) (p.2 * q.2) w h4 (by omega) h3)
  show Calls _ _ _ _ fun e w' => e = .returned (.agg (mk 2 (fcF (rd (p.1 * q.2 + q.1 * p.2) (p.2 * q.2))))) ∧ _
  generalize hX : p.1 * q.2 = X at *
  generalize hY : q.1 * p.2 = Y at *
  generalize hZ : p.2 * q.2 = Z at *
  have e4 : (X : Int) + (Y : Int) = ((X + Y : Nat) : Int) := by omega
  generalize hS : X + Y = S at *
  have hS2 : S ≤ 4611686018427387904 := by omega
  clear hX hY hZ hS
  go_enter Try.func200, Try.ntmps200
  go_wp2_with fail
  refine (HR.out _).mono ?_
  rintro e w2 ⟨rfl, hb⟩
  have K3 := K3.below hb K3.lt
  have HB : Hid (Below w.heap.size w w2) := HB.out.trans (hb.mono HB.out.size)
  clear hb
  go_wp2_with ((with_reducible show wpList _ _ _ (Oper.mk _ (Op.store 155 _ _) _ _ _ _ :: _) _ _); refine storeF (K3) rfl rfl rfl rfl ?_)
  try simp only [Exit.inBlock, Exit.then]
  exact retcF (K3.row 2 _) rfl rfl rfl ⟨rfl, below_setRow HB.out (by omega) _⟩
set_option maxHeartbeats 400000 in
theorem times_any (p : Fc) (n : Nat) (w : World) (hp : 0 < p.2) (h1 : p.1 * n ≤ 4611686018427387904) (h2 : p.2 ≤ 4611686018427387904) :
    Calls Try.prog 283 #[.agg (mk 2 (fcF p)), .int .i64 (n : Int)] w fun e w' => e = .returned (.agg (mk 2 (fcF (timesF p n)))) ∧ Below w.heap.size w w' := by
  have z2 := zero2
  have K1 := (Blk.new w 2 (fcF p) 155).alloc (.cells (mk 2 fun _ => 0) 155)
  have K3 := Blk.new (w.alloc (.cells (mk 2 (fcF p)) 155)) 2 (fun _ => 0) 155
  have HB := Lib.hid (((Below.refl w.heap.size w).alloc (Nat.le_refl _) (.cells (mk 2 (fcF p)) 155)).alloc (by simp) (.cells (mk 2 fun _ => 0) 155))
  simp only [World.size_alloc] at K1 K3
  have c10 := K1.cell (i := 0) (by omega)
  have c11 := K1.cell (i := 1) (by omega)
  simp only [fcF0, fcF1] at c10 c11
  have e1 : (p.1 : Int) * (n : Int) = ((p.1 * n : Nat) : Int) := (Int.natCast_mul _ _).symm
  have HR := Lib.hid (fun w => reduced_any (p.1 * n) p.2 w hp h1 h2)
  show Calls _ _ _ _ fun e w' => e = .returned (.agg (mk 2 (fcF (rd (p.1 * n) p.2)))) ∧ _
  generalize hX : p.1 * n = X at *
  clear hX
  go_enter Try.func283, Try.ntmps283
  go_wp2_with fail
  refine (HR.out _).mono ?_
  rintro e w2 ⟨rfl, hb⟩
  have K3 := K3.below hb K3.lt
  have HB : Hid (Below w.heap.size w w2) := HB.out.trans (hb.mono HB.out.size)
  clear hb
  go_wp2_with ((with_reducible show wpList _ _ _ (Oper.mk _ (Op.store 155 _ _) _ _ _ _ :: _) _ _); refine storeF (K3) rfl rfl rfl rfl ?_)
  try simp only [Exit.inBlock, Exit.then]
  exact retcF (K3.row 2 _) rfl rfl rfl ⟨rfl, below_setRow HB.out (by omega) _⟩
set_option maxHeartbeats 400000 in
theorem divided_any (p : Fc) (n : Nat) (w : World) (hp : 0 < p.2) (hn : 0 < n) (h1 : p.1 ≤ 4611686018427387904) (h2 : p.2 * n ≤ 4611686018427387904) :
    Calls Try.prog 284 #[.agg (mk 2 (fcF p)), .int .i64 (n : Int)] w fun e w' => e = .returned (.agg (mk 2 (fcF (divF p n)))) ∧ Below w.heap.size w w' := by
  have z2 := zero2
  have K1 := (Blk.new w 2 (fcF p) 155).alloc (.cells (mk 2 fun _ => 0) 155)
  have K3 := Blk.new (w.alloc (.cells (mk 2 (fcF p)) 155)) 2 (fun _ => 0) 155
  have HB := Lib.hid (((Below.refl w.heap.size w).alloc (Nat.le_refl _) (.cells (mk 2 (fcF p)) 155)).alloc (by simp) (.cells (mk 2 fun _ => 0) 155))
  simp only [World.size_alloc] at K1 K3
  have c10 := K1.cell (i := 0) (by omega)
  have c11 := K1.cell (i := 1) (by omega)
  simp only [fcF0, fcF1] at c10 c11
  have e1 : (p.2 : Int) * (n : Int) = ((p.2 * n : Nat) : Int) := (Int.natCast_mul _ _).symm
  have HR := Lib.hid (fun w => reduced_any p.1 (p.2 * n) w (Nat.mul_pos hp hn) h1 h2)
  show Calls _ _ _ _ fun e w' => e = .returned (.agg (mk 2 (fcF (rd p.1 (p.2 * n))))) ∧ _
  generalize hX : p.2 * n = X at *
  clear hX
  go_enter Try.func284, Try.ntmps284
  go_wp2_with fail
  refine (HR.out _).mono ?_
  rintro e w2 ⟨rfl, hb⟩
  have K3 := K3.below hb K3.lt
  have HB : Hid (Below w.heap.size w w2) := HB.out.trans (hb.mono HB.out.size)
  clear hb
  go_wp2_with ((with_reducible show wpList _ _ _ (Oper.mk _ (Op.store 155 _ _) _ _ _ _ :: _) _ _); refine storeF (K3) rfl rfl rfl rfl ?_)
  try simp only [Exit.inBlock, Exit.then]
  exact retcF (K3.row 2 _) rfl rfl rfl ⟨rfl, below_setRow HB.out (by omega) _⟩
set_option maxHeartbeats 400000 in
theorem isLess_any (p q : Fc) (w : World) (h1 : p.1 * q.2 ≤ 4611686018427387904) (h2 : q.1 * p.2 ≤ 4611686018427387904) :
    Calls Try.prog 252 #[.agg (mk 2 (fcF p)), .agg (mk 2 (fcF q))] w fun e w' => e = .returned (.bool (ltF p q)) ∧ Below w.heap.size w w' := by
  have z2 := zero2
  have K1 := ((Blk.new w 2 (fcF p) 155).alloc (.cells (mk 2 (fcF q)) 155))
  have K2 := (Blk.new (w.alloc (.cells (mk 2 (fcF p)) 155)) 2 (fcF q) 155)
  have HB := Lib.hid (((Below.refl w.heap.size w).alloc (Nat.le_refl _) (.cells (mk 2 (fcF p)) 155)).alloc (by simp) (.cells (mk 2 (fcF q)) 155))
  simp only [World.size_alloc] at K1 K2
  have c10 := K1.cell (i := 0) (by omega)
  have c11 := K1.cell (i := 1) (by omega)
  have c20 := K2.cell (i := 0) (by omega)
  have c21 := K2.cell (i := 1) (by omega)
  simp only [fcF0, fcF1] at c10 c11 c20 c21
  have e1 : (p.1 : Int) * (q.2 : Int) = ((p.1 * q.2 : Nat) : Int) := (Int.natCast_mul _ _).symm
  have e2 : (q.1 : Int) * (p.2 : Int) = ((q.1 * p.2 : Nat) : Int) := (Int.natCast_mul _ _).symm
  have HL : Hid (decide (p.1 * q.2 < q.1 * p.2) = ltF p q) := by show _ = _; rfl
  generalize hX : p.1 * q.2 = X at *
  generalize hY : q.1 * p.2 = Y at *
  generalize ltF p q = O at *
  clear hX hY
  go_enter Try.func252, Try.ntmps252
  go_wp2_with fail
  go_ret
  exact ⟨by rw [← HL.out]; rfl, HB.out⟩
end Go.Proofs.Ytblcojacmjbjcab
namespace Go.Proofs.Ytblcojacmjbjcab
open Go.RowKit Go.Shelf
set_option linter.unusedVariables false
set_option linter.unusedSimpArgs false
theorem rowsIn_plain {n l : Nat} {P : Program} {row : String} {args : Array Value} {w : World} {R : Value → World → Prop} (h : Rows P row args w R) : RowsIn (Fence.wide.inRound l) n P row args w R := by
  intro c cs hr
  obtain ⟨v, w', hR, hs⟩ := h c cs
  exact ⟨v, w', hR, stepsIn_wide.2 hs⟩
theorem operIn_plain {n l : Nat} {P : Program} {o : Oper} {a : Act} {w : World} {next next' : Act → World → Prop} {Q : Exit → Act → World → Prop} (hd : ∀ c, o.op ≠ .defer c)
    (hn : ∀ a w, next a w → next' a w) (h : o.wp P a w next Q) : o.wpIn (Fence.wide.inRound l) n P a w next' Q := by
  refine ⟨fun _ _ => trivial, ?_⟩
  rw [Oper.semAt_plain _ _ _ hd]
  unfold Oper.wp at h
  generalize (execOp a.eval o).run P w = r at *
  cases r with
  | ok x w' =>
    cases x <;> simp only [Oper.upon, Oper.uponIn] at h ⊢
    case value u => exact hn _ _ h
    case skip => exact hn _ _ h
    case defer d => exact hn _ _ h
    case enter f args =>
      refine ⟨fun e => (by cases e), CallsIn.inRound l (callsIn_wide.2 (Calls.mono h fun e w'' he => ?_))⟩
      cases e with
      | returned u => exact hn _ _ he
      | panicked c => exact he
      | outgrown => exact he
    case row row args => exact ⟨fun e => (by cases e), rowsIn_plain (Rows.mono h fun u w'' he => hn _ _ he)⟩
  | halt x w' =>
    cases x <;> simp only [Oper.upon, Oper.uponIn] at h ⊢
    case panic u => exact h
theorem opsIn_plain {n l : Nat} {P : Program} {ops : Array Oper} {Q : Exit → Act → World → Prop} (hQ : ¬ LetsOut Q) (hd : ∀ o, o ∈ ops → ∀ c, o.op ≠ .defer c) :
    ∀ (L : List Nat) (a : Act) (w : World), wpOps P ops Q L a w → wpOpsIn (Fence.wide.inRound l) n P ops Q L a w
  | [], a, w, h => h
  | i :: rest, a, w, h => by
    unfold wpOps at h
    unfold wpOpsIn
    cases ho : ops[i]? with
    | none => rw [ho] at h; exact opsIn_plain hQ hd rest a w h
    | some o =>
      rw [ho] at h
      simp only at h ⊢
      by_cases hw : Region.wanted o (yielded ops a.tmps) = true
      · rw [if_pos hw] at h ⊢
        rcases h with h | h
        · exact operIn_plain (hd o (Array.mem_of_getElem? ho)) (fun a w h => opsIn_plain hQ hd rest a w h) h
        · exact absurd h.2 hQ
      · rw [if_neg hw] at h ⊢
        exact ⟨fun _ _ => trivial, opsIn_plain hQ hd rest _ w h⟩
theorem wpIn_region_round {id n l : Nat} {P : Program} {ops : Array Oper} {Q : Exit → Act → World → Prop} {S : World → Prop} {a : Act} {w : World} (hm : P.follows .mixedOrders = true) (hQ : ¬ LetsOut Q) (hd : ∀ o, o ∈ ops → ∀ c, o.op ≠ .defer c)
    (hS : S w.drew) (h : S w.drew → wpAnyH P .any ops Q S ops.size (Array.replicate ops.size false) a w.drew) : (Code.region id ops true).wpIn (Fence.wide.inRound l) n P Q a w := by
  refine wpIn_region_draw fun t => ?_
  rw [hm]
  exact opsIn_plain hQ hd _ _ _ (wpAny_sound _ _ _ _ _ (wpAny_of_held _ _ _ _ (h hS)))
end Go.Proofs.Ytblcojacmjbjcab
namespace Go.Proofs.Ytblcojacmjbjcab
open Go.RowKit Go.Shelf Plain
attribute [local go_sem] store_new Oper.semAt_some
set_option linter.unusedVariables false
set_option linter.unusedSimpArgs false

theorem wp_ldF {o : Oper} {a : Act} {w : World} {K : Act → World → Prop} {Q : Exit → Act → World → Prop} {x : Operand} {b : Nat} {f : Nat → Int} {t : TypeId} (hg : Blk w b 2 f t) (ho : o.op = .load 155 x) (hx : a.eval x = .pointer (some ⟨b, 0, none⟩))
    (h : K (a.put o.dst (.agg (mk 2 f))) w) : o.wp Try.prog a w K Q :=
  wp_load_row _ x ho b hx t _ _ _ hg Try.underlying155 rfl (by rw [mk_size]; exact sizeF) h
theorem times_int (p : Fc) (n : Int) (k : Nat) (w : World) (hn : n = (k : Int)) (hp : 0 < p.2) (h1 : p.1 * k ≤ 4611686018427387904) (h2 : p.2 ≤ 4611686018427387904) :
    Calls Try.prog 283 #[.agg (mk 2 (fcF p)), .int .i64 n] w fun e w' => e = .returned (.agg (mk 2 (fcF (timesF p k)))) ∧ Below w.heap.size w w' := by
  subst hn; exact times_any p k w hp h1 h2
theorem results_one {P : Program} {fn : Func} {tmps : Array Value} {w : World} {p : Tmp} {ty t : TypeId} {b n : Nat} {f : Nat → Int} {d : TypeDesc}
    (hg : Blk w b n f t) (hu : P.underlying ty = some d) (hd : d.isRow = true) (hi : (P.info? ty).map (·.size) = some n)
    (h : fn.results = #[.cell p ty]) (hp : tmps.getD p undef = .pointer (some ⟨b, 0, none⟩)) :
    (results fn tmps).run P w = .ok (.agg (mk n f)) w := by
  have hp' : tmps[p]?.getD undef = .pointer (some ⟨b, 0, none⟩) := by simpa using hp
  simp [results, h, hp', asAddr, run_load_blk hg hu hd hi]
/-- What the loop of meanBehind holds: the sum so far and the weights, and what it reads. -/
structure HoldsM (f : Nat → Int) (bc br b1 b2 B : Nat) (fv : Value) (S : Fc × Nat) (W : World) : Prop where
  sum : Blk W b1 2 (fcF S.1) 155
  wts : Boxed W b2 3 (.int .i64 (S.2 : Int))
  tel : Boxed W bc 158 fv
  res : Blk W br 2 (fun _ => 0) 155
  brd : Blk W B 16 f 47
theorem holdsM_own (f : Nat → Int) (T : (Nat → Int) → Fc) (bc br b1 b2 B : Nat) (fv : Value) : Own (fun (pre : List (Pl f)) W => HoldsM f bc br b1 b2 B fv (mnR T f (vals pre)) W) := fun s X Y row h hg hr =>
  ⟨heap_own _ (fun (_ : Unit) => _) _ () X Y row h.sum hg hr, heap_own _ (fun (_ : Unit) => _) _ () X Y row h.wts hg hr,
   heap_own _ (fun (_ : Unit) => _) _ () X Y row h.tel hg hr, heap_own _ (fun (_ : Unit) => _) _ () X Y row h.res hg hr, heap_own _ (fun (_ : Unit) => _) _ () X Y row h.brd hg hr⟩
theorem holdsM_grown {f : Nat → Int} {bc br b1 b2 B : Nat} {fv : Value} {S : Fc × Nat} {W W' : World} (h : HoldsM f bc br b1 b2 B fv S W) (hg : W.grownBy W' none) : HoldsM f bc br b1 b2 B fv S W' :=
  ⟨h.sum.grown hg (by simp), h.wts.kept hg (by simp), h.tel.kept hg (by simp), h.res.grown hg (by simp), h.brd.grown hg (by simp)⟩
theorem holdsM_drew {f : Nat → Int} {bc br b1 b2 B : Nat} {fv : Value} {S : Fc × Nat} {W : World} (h : HoldsM f bc br b1 b2 B fv S W) : HoldsM f bc br b1 b2 B fv S W.drew := ⟨h.sum, h.wts, h.tel, h.res, h.brd⟩
/-- Behind the two stores of a round. -/
theorem holdsM_put {f : Nat → Int} {n₀ bc br b1 b2 B : Nat} {fv : Value} {S : Fc × Nat} {W : World} (h : HoldsM f bc br b1 b2 B fv S W) (hb : (n₀ ≤ bc ∧ bc < br ∧ br < b1) ∧ b1 < b2 ∧ b2 < B) (p : Fc) (v : Nat) :
    HoldsM f bc br b1 b2 B fv (p, v) ((W.setRow b1 (mk 2 (fcF p))).setCell ⟨b2, 0, none⟩ (.int .i64 (v : Int))) ∧
    Keeps2 B W ((W.setRow b1 (mk 2 (fcF p))).setCell ⟨b2, 0, none⟩ (.int .i64 (v : Int))) ∧
    KeepsOthers W ((W.setRow b1 (mk 2 (fcF p))).setCell ⟨b2, 0, none⟩ (.int .i64 (v : Int))) ∧
    Below n₀ W ((W.setRow b1 (mk 2 (fcF p))).setCell ⟨b2, 0, none⟩ (.int .i64 (v : Int))) := by
  obtain ⟨⟨h0, h1, h2⟩, h3, h4⟩ := hb
  have g1 := grown_rowP h.sum (mk 2 (fcF p))
  have g2 := grownBy_setCell' (W.setRow b1 (mk 2 (fcF p))) b2 (.int .i64 (v : Int))
  have n1 : Boxed (W.setRow b1 (mk 2 (fcF p))) b2 3 (.int .i64 (S.2 : Int)) := h.wts.kept g1 (sne (by omega))
  have k1 : Blk (W.setRow b1 (mk 2 (fcF p))) B 16 f 47 := h.brd.grown g1 (sne (by omega))
  refine ⟨⟨?_, n1.set _, ?_, ?_, k1.grown g2 (sne (by omega))⟩, ?_, ?_, ?_⟩
  · exact (h.sum.row 2 (fcF p)).grown g2 (sne (by omega))
  · exact (h.tel.kept g1 (sne (by omega))).kept g2 (sne (by omega))
  · exact (h.res.grown g1 (sne (by omega))).grown g2 (sne (by omega))
  · exact (Keeps2.row h.brd.lt h.sum (by decide) (by omega) _).trans (Keeps2.setCell k1.lt n1 (by decide) (by omega) _)
  · exact (KeepsOthers.of_grownBy g1 (fun j o e hj => by cases e; rw [show W.heap[b1]? = _ from h.sum] at hj; cases hj; rfl)).trans (KeepsOthers.setCell _ _ _)
  · exact ((Below.refl n₀ W).grown g1 (by have := h.sum.lt; omega) (fun j e => by cases e; omega)).setCell (p := ⟨b2, 0, none⟩) (by dsimp only; omega) _
set_option maxRecDepth 100000 in
set_option maxHeartbeats 1000000 in
theorem meanBehind_any (f : Nat → Int) (T : (Nat → Int) → Fc) (D M : Nat) (cf : Nat) (pre lb : Array Value) (w : World) (hV : Vd f) (hD : Den D M T f) (hE : 0 < empN f 16)
    (eg : ∀ args w, (callFunc cf args).run Try.prog w = .ok (.enter cf args) w)
    (HC : ∀ (p : Nat × Nat) (W : World), PlOk f p → Below w.heap.size w W → Calls Try.prog cf (pre ++ #[.agg (mk 16 (plB f p))] ++ lb) W fun e w' => e = .returned (.agg (mk 2 (fcF (T (plB f p))))) ∧ Below W.heap.size W w') :
    Calls Try.prog 245 #[.agg (mk 16 f), .func (.func cf) pre lb] w fun e w' => e = .returned (.agg (mk 2 (fcF (mnF T f)))) ∧ Below w.heap.size w w' := by
  refine (callsIn_wide (n := 6)).1 ?_
  have z2 := zero2
  have z3 := zero3
  have z16 := zero16
  have hle := empN_le f 16
  obtain ⟨w1, hw1⟩ : ∃ w1, w1 = ((w.alloc (.cells (mk 16 f) 47)).alloc (.cells #[(Value.func (.func cf) pre lb)] 158)).alloc (.cells (mk 2 fun _ => 0) 155) := ⟨_, rfl⟩
  have K2 : Blk w1 w.heap.size 16 f 47 := by rw [hw1]; exact ((Blk.new w 16 f 47).alloc _).alloc _
  have K3 : Boxed w1 (w.heap.size + 1) 158 (Value.func (.func cf) pre lb) := by
    rw [hw1]
    have := Boxed.new (w.alloc (.cells (mk 16 f) 47)) 158 (Value.func (.func cf) pre lb)
    simp only [World.size_alloc] at this
    exact this.alloc _
  have K4 : Blk w1 (w.heap.size + 1 + 1) 2 (fun _ => 0) 155 := by
    rw [hw1]
    have := Blk.new ((w.alloc (.cells (mk 16 f) 47)).alloc (.cells #[(Value.func (.func cf) pre lb)] 158)) 2 (fun _ => 0) 155
    simp only [World.size_alloc] at this
    exact this
  have HB : Hid (Below w.heap.size w w1) := by
    rw [hw1]
    exact (((Below.refl w.heap.size w).alloc (Nat.le_refl _) _).alloc (by simp) _).alloc (by simp; omega) _
  have HV := Lib.hid hV
  have HCC := Lib.hid HC
  have HD := Lib.hid hD
  have HE := Lib.hid hE
  clear hV HC hD hE
  refine callsIn_of_wp_marks Try.func245 rfl trivial ?_ rfl
  simp only [Try.ntmps245, List.size_toArray, List.length_cons, List.length_nil, Nat.reduceAdd, Nat.reduceSub, Array.replicate_succ, Array.replicate_zero, List.push_toArray, List.append_toArray, List.nil_append, List.cons_append]
  gi_wp2_with fail
  rw [← hw1]
  clear hw1
  refine ⟨trivial, ?_⟩
  refine (callsIn_wide.2 (whole_any _ 0 _ rfl)).mono ?_
  rintro e w2 ⟨rfl, hb⟩
  have K2 := K2.below hb K2.lt
  have K3 := box_low K3 hb
  have K4 := K4.below hb K4.lt
  have HB : Hid (Below w.heap.size w w2) := HB.out.trans (hb.mono HB.out.size)
  clear hb
  have hq3 : w.heap.size + 1 + 1 < w2.heap.size := K4.lt
  obtain ⟨w3, hw3⟩ : ∃ w3, w3 = (w2.alloc (.cells (mk 2 fun _ => 0) 155)).alloc (.cells #[.int .i64 0] 3) := ⟨_, rfl⟩
  have hs3 : w3.heap.size = w2.heap.size + 1 + 1 := by rw [hw3]; simp only [World.size_alloc]
  have K2 : Blk w3 w.heap.size 16 f 47 := by rw [hw3]; exact (K2.alloc _).alloc _
  have K3 : Boxed w3 (w.heap.size + 1) 158 (Value.func (.func cf) pre lb) := by rw [hw3]; exact (K3.alloc _).alloc _
  have K4 : Blk w3 (w.heap.size + 1 + 1) 2 (fun _ => 0) 155 := by rw [hw3]; exact (K4.alloc _).alloc _
  have K5 : Blk w3 w2.heap.size 2 (fun _ => 0) 155 := by rw [hw3]; exact (Blk.new w2 2 (fun _ => 0) 155).alloc _
  have K6 : Boxed w3 (w2.heap.size + 1) 3 (.int .i64 0) := by
    rw [hw3]
    have := Boxed.new (w2.alloc (.cells (mk 2 fun _ => 0) 155)) 3 (.int .i64 0)
    simp only [World.size_alloc] at this
    exact this
  have HB : Hid (Below w.heap.size w w3) := by rw [hw3]; exact (HB.out.alloc HB.out.size _).alloc (by simp; have := HB.out.size; omega) _
  have g1 := grown_rowP K5 (mk 2 (fcF (0, 1)))
  have g2 := grownBy_setCell' (w3.setRow w2.heap.size (mk 2 (fcF (0, 1)))) (w2.heap.size + 1) (.int .i64 0)
  have c6 := (K6.kept g1 (sne (by omega))).cell
  have f6 := (K6.kept g1 (sne (by omega))).frozen
  have K2d : Blk ((w3.setRow w2.heap.size (mk 2 (fcF (0, 1)))).setCell ⟨w2.heap.size + 1, 0, none⟩ (.int .i64 0)) w.heap.size 16 f 47 := (K2.grown g1 (sne (by omega))).grown g2 (sne (by omega))
  have HK : HoldsM f (w.heap.size + 1) (w.heap.size + 1 + 1) w2.heap.size (w2.heap.size + 1) w.heap.size (Value.func (.func cf) pre lb) ((0, 1), 0) ((w3.setRow w2.heap.size (mk 2 (fcF (0, 1)))).setCell ⟨w2.heap.size + 1, 0, none⟩ (.int .i64 0)) :=
    ⟨(K5.row 2 _).grown g2 (sne (by omega)), (K6.kept g1 (sne (by omega))).set _, (K3.kept g1 (sne (by omega))).kept g2 (sne (by omega)), (K4.grown g1 (sne (by omega))).grown g2 (sne (by omega)), K2d⟩
  have HBd : Hid (Below w.heap.size w ((w3.setRow w2.heap.size (mk 2 (fcF (0, 1)))).setCell ⟨w2.heap.size + 1, 0, none⟩ (.int .i64 0))) :=
    (below_setRow HB.out (by omega) _).setCell (p := ⟨w2.heap.size + 1, 0, none⟩) (by dsimp only; omega) _
  have hs4 : ((w3.setRow w2.heap.size (mk 2 (fcF (0, 1)))).setCell ⟨w2.heap.size + 1, 0, none⟩ (.int .i64 0)).heap.size = w2.heap.size + 1 + 1 := by
    rw [← hs3]
    simp [World.setCell, World.setRow]
  have K5e := K5
  rw [hw3] at K5e
  clear K2 K3 K4 K5 K6 g1 g2 HB hs3
  gi_wp2_with (first
    | ((with_reducible show wpListIn _ _ _ _ _ (Oper.mk _ (Op.store 155 _ _) _ _ _ _ :: _) _ _); refine storeIn K5e rfl rfl rfl rfl sizeF ?_; rw [← hw3]; clear K5e hw3)
    | ((with_reducible show wpListIn _ _ _ _ _ (Oper.mk _ (Op.load 47 _) _ _ _ _ :: _) _ _); refine loadIn (K2d) rfl rfl rfl Try.underlying47 rfl sizeB ?_)
    | (refine ⟨trivial, ?_⟩; gi_at_call 282; refine (callsIn_wide.2 (replies_in _ _)).mono ?_; rintro e w' ⟨rfl, rfl⟩))
  clear c6 f6 K2d
  generalize (w3.setRow w2.heap.size (mk 2 (fcF (0, 1)))).setCell ⟨w2.heap.size + 1, 0, none⟩ (.int .i64 0) = W4 at *
  generalize w2.heap.size = q at *
  have KB := Blk.new W4 16 f 47
  rw [hs4] at KB
  have hg := World.grownBy_alloc W4 (.cells (mk 16 f) 47) none
  have HK : HoldsM f (w.heap.size + 1) (w.heap.size + 1 + 1) q (q + 1) (q + 1 + 1) (Value.func (.func cf) pre lb) ((0, 1), 0) (W4.alloc (.cells (mk 16 f) 47)) :=
    ⟨HK.sum.grown hg (by simp), HK.wts.kept hg (by simp), HK.tel.kept hg (by simp), HK.res.grown hg (by simp), KB⟩
  have HB0 : Hid (Below w.heap.size w (W4.alloc (.cells (mk 16 f) 47))) := HBd.out.alloc HBd.out.size _
  have hsz : (W4.alloc (.cells (mk 16 f) 47)).heap.size = q + 1 + 1 + 1 := by rw [World.size_alloc, hs4]
  clear hg HBd
  generalize W4.alloc (.cells (mk 16 f) 47) = W0 at *
  refine over_replies (n := 6) (by omega) HV.out rfl rfl KB
    (fun pr W => HoldsM f (w.heap.size + 1) (w.heap.size + 1 + 1) q (q + 1) (q + 1 + 1) (Value.func (.func cf) pre lb) (mnR T f (vals pr)) W ∧ Below w.heap.size W0 W) (fun _ _ _ => False)
    (OwnFrom.and (Own.from (holdsM_own _ _ _ _ _ _ _ _) _) (ownFrom_below (by omega) (by omega))) (fun _ _ _ _ _ h _ _ => h)
    ⟨HK, Below.refl _ _⟩ (fun x b c W => Blk W b 3 (plF x.1) 254 ∧ Blk W c 16 (plB f x.1) 47) (fun x b c => OwnFrom.and (Own.from (blk_own _ _ _ _) _) (Own.from (blk_own _ _ _ _) _)) ?A ?assign ?body ?done ?stop
  case assign =>
    rintro l pr x W K ⟨hH, hBl⟩ hK
    have hx := (Blk.new W 3 (plF x.1) 254).alloc (.cells (mk 16 (plB f x.1)) 47)
    have hy := Blk.new (W.alloc (.cells (mk 3 (plF x.1)) 254)) 16 (plB f x.1) 47
    gi_wp2
    have hg : W.grownBy ((W.alloc (.cells (mk 3 (plF x.1)) 254)).alloc (.cells (mk 16 (plB f x.1)) 47)) none := below_grown ((((Below.refl W.heap.size W).alloc (Nat.le_refl _) _)).alloc (by simp) _)
    have hq := hK W.heap.size (W.heap.size + 1) ((W.alloc (.cells (mk 3 (plF x.1)) 254)).alloc (.cells (mk 16 (plB f x.1)) 47)) (KeepsFrom.of_grownBy hg (fun j e => by cases e)) (Keeps2.grown hH.brd.lt hg (fun r e => by cases e))
      ⟨holdsM_grown hH hg, hBl.trans (Below.mono (((Below.refl W.heap.size W).alloc (Nat.le_refl _) _).alloc (by simp) _) (by have := hBl.size; omega))⟩ ⟨hx, by simpa using hy⟩
    clear hK
    generalize (W.alloc (.cells (mk 3 (plF x.1)) 254)).alloc (.cells (mk 16 (plB f x.1)) 47) = W2 at *
    generalize hc2 : W.heap.size + 1 = cq at *
    clear hc2
    generalize W.heap.size = bq at *
    exact hq
  case body =>
    rintro l pr x b d W hl hr ⟨hH, hBl⟩ ⟨hx, hy⟩ hlt
    have HCX := Lib.hid (fun W' (hb : Below W.heap.size W W') => HCC.out x.1 W' x.2 ((HB0.out.trans hBl).trans (hb.mono (by have := (HB0.out.trans hBl).size; omega))))
    have HBD := Lib.hid (mn_round HD.out (L := vals pr) (p := x.1) x.2 (fun q hq => by obtain ⟨y, _, rfl⟩ := List.mem_map.1 hq; exact y.2) (by rw [vals_len]; omega))
    have HST : Hid (mnR T f (vals (pr ++ [x])) = (plusF (mnR T f (vals pr)).1 (timesF (T (plB f x.1)) (wtP x.1)), (mnR T f (vals pr)).2 + wtP x.1)) := by show _ = _; rw [vals_snoc, mnR_snoc]; rfl
    generalize mnR T f (vals pr) = S at *
    have hHB : q + 1 + 1 < W.heap.size := hH.brd.lt
    have hdq : d ≠ q := fun e => by
      rw [e] at hy
      have h1 := (show W.heap[q]? = _ from hy).symm.trans (show W.heap[q]? = _ from hH.sum)
      simp at h1
    have cx := hx.cell (i := 2) (by omega)
    obtain ⟨wt, hwt⟩ : ∃ wt, wt = wtP x.1 := ⟨_, rfl⟩
    have HWT : Hid (wt = wtP x.1) := hwt
    rw [← hwt] at HBD HST
    have hw9 : wt ≤ 9 := by rw [hwt]; exact (wtP_le _).2
    have h2 : x.1.2 = 1 ∨ x.1.2 = 2 := by have := x.2.2.2; omega
    rcases h2 with h2 | h2
    · have e : plF x.1 2 = 1 := by show ((x.1.2 : Nat) : Int) = 1; omega
      rw [e] at cx
      have e9 : wt = 9 := by rw [hwt]; unfold wtP; rw [if_neg (by omega)]
      clear e h2 hwt
      subst e9
      clear HWT hw9
      generalize T (plB f x.1) = tv at *
      gi_wp2_with fail
      refine wpIn_region_round (S := fun W' => Boxed W' (w.heap.size + 1) 158 (Value.func (.func cf) pre lb) ∧ Blk W' d 16 (plB f x.1) 47) (by kernel_rfl) (by rintro ⟨_, _, h⟩; exact h) (by simp) ⟨hH.tel, hy.drew⟩ (fun hHeld => ?_)
      have BX : Hid (Below W.heap.size W W.drew) := (Below.refl _ W).drew
      have hH := holdsM_drew hH
      have hy := hy.drew
      generalize W.drew = x0 at *
      refine wpAnyH_take (i := 1) (oi := { dst := some 19, op := _, type := _, pos := _, after := _, guard := _ }) (v := .func (.func cf) pre lb) rfl (by kernel_rfl) (by kernel_rfl) (by kernel_rfl) (fun _ _ _ h => h) (Or.inl ⟨by rfl, by intro W q; have c0 := q.1.cell; clear q; go_simp⟩) (by assumption) ?_
      try simp only [Act.put, List.setIfInBounds_toArray, List.set_cons_zero, List.set_cons_succ]
      refine wpAnyH_take (i := 2) (oi := { dst := some 20, op := _, type := _, pos := _, after := _, guard := _ }) (v := .agg (mk 16 (plB f x.1))) rfl (by kernel_rfl) (by kernel_rfl) (by kernel_rfl) (fun _ _ _ h => h) (Or.inl ⟨by rfl, fun _ q => execB q.2 rfl rfl⟩) (by assumption) ?_
      try simp only [Act.put, List.setIfInBounds_toArray, List.set_cons_zero, List.set_cons_succ]
      refine wpAnyH_take (i := 4) (oi := { dst := some 22, op := _, type := _, pos := _, after := _, guard := _ }) (v := .int .i64 9) rfl (by kernel_rfl) (by kernel_rfl) (by kernel_rfl) (fun _ _ _ h => h) (Or.inl ⟨by rfl, by intro w hSw; clear hSw; go_simp; (try with_reducible rfl)⟩) (by assumption) ?_
      try simp only [Act.put, List.setIfInBounds_toArray, List.set_cons_zero, List.set_cons_succ]
      refine wpAnyH_ready (rs := [0, 3]) (by kernel_rfl) (by simp) ?_
      refine AllReadyH.cons rfl (fun K hK => ?_) ?_
      · rw [if_pos (by rfl)]
        refine wp_ldF hH.sum rfl rfl ?_
        refine hK.out _ _ ⟨hH.tel, hy⟩ (fun hHeld => ?_)
        clear hK K
        try simp only [Act.put, List.setIfInBounds_toArray, List.set_cons_zero, List.set_cons_succ]
        refine wpAnyH_ready (rs := [3]) (by kernel_rfl) (by simp) ?_
        refine AllReadyH.cons rfl (fun K hK => ?_) AllReadyH.nil
        go_simp
        refine (HCX.out _ BX.out).mono ?_
        rintro e x1 ⟨rfl, hb⟩
        have hH := holdsM_grown hH (below_grown hb)
        have hy := hy.below hb hy.lt
        have BX : Hid (Below W.heap.size W x1) := BX.out.trans (hb.mono BX.out.size)
        clear hb hHeld
        go_wp2_with fail
        refine hK.out _ _ ⟨hH.tel, hy⟩ (fun hHeld => ?_)
        clear hK K
        try simp only [Act.put, List.setIfInBounds_toArray, List.set_cons_zero, List.set_cons_succ]
        refine wpAnyH_ready (rs := [5]) (by kernel_rfl) (by simp) ?_
        refine AllReadyH.cons rfl (fun K hK => ?_) AllReadyH.nil
        go_simp
        refine (times_int tv _ 9 _ rfl HBD.out.1 HBD.out.2.2.2.1 HBD.out.2.2.2.2.1).mono ?_
        rintro e x2 ⟨rfl, hb⟩
        have hH := holdsM_grown hH (below_grown hb)
        have hy := hy.below hb hy.lt
        have BX : Hid (Below W.heap.size W x2) := BX.out.trans (hb.mono BX.out.size)
        clear hb hHeld
        go_wp2_with fail
        refine hK.out _ _ ⟨hH.tel, hy⟩ (fun hHeld => ?_)
        clear hK K
        try simp only [Act.put, List.setIfInBounds_toArray, List.set_cons_zero, List.set_cons_succ]
        refine wpAnyH_ready (rs := [6]) (by kernel_rfl) (by simp) ?_
        refine AllReadyH.cons rfl (fun K hK => ?_) AllReadyH.nil
        go_simp
        refine (plus_any S.1 (timesF tv 9) _ HBD.out.2.1 HBD.out.2.2.1 HBD.out.2.2.2.2.2.1 HBD.out.2.2.2.2.2.2.1 HBD.out.2.2.2.2.2.2.2.1).mono ?_
        rintro e x3 ⟨rfl, hb⟩
        have hH := holdsM_grown hH (below_grown hb)
        have hy := hy.below hb hy.lt
        have BX : Hid (Below W.heap.size W x3) := BX.out.trans (hb.mono BX.out.size)
        clear hb hHeld
        go_wp2_with fail
        refine hK.out _ _ ⟨hH.tel, hy⟩ (fun hHeld => ?_)
        clear hK K
        try simp only [Act.put, List.setIfInBounds_toArray, List.set_cons_zero, List.set_cons_succ]
        refine wpAnyH_ready (rs := [7]) (by kernel_rfl) (by simp) ?_
        refine AllReadyH.cons rfl (fun K hK => ?_) AllReadyH.nil
        obtain ⟨hP, hQ, hR, hT⟩ := holdsM_put (n₀ := w.heap.size) hH (by omega) (plusF S.1 (timesF tv 9)) (S.2 + 9)
        have e25 : ((S.2 + 9 : Nat) : Int) = (S.2 : Int) + 9 := by omega
        rw [e25] at hP hQ hR hT
        have hkf := KeepsFrom.of_grownBy (B := q + 1 + 1 + 1) (below_grown BX.out) (fun j e => by cases e)
        have hkp := Keeps2.below hHB BX.out
        have hB5 : Below w.heap.size W0 x3 := hBl.trans (BX.out.mono (by have := (HB0.out.trans hBl).size; omega))
        have g1 := grown_rowP hH.sum (mk 2 (fcF (plusF S.1 (timesF tv 9))))
        have hS3 : S.2 ≤ 300 := HBD.out.2.2.2.2.2.2.2.2
        have c6 := (hH.wts.kept g1 (sne (by omega))).cell
        have f6 := (hH.wts.kept g1 (sne (by omega))).frozen
        have tl6 := hH.tel.kept g1 (sne (by omega))
        have hy6 := hy.grown g1 (sne (by have := hdq; omega))
        have st1 := run_store_blk (P := Try.prog) (g := fcF (plusF S.1 (timesF tv 9))) hH.sum
        have ms1 : (mk 2 (fcF (plusF S.1 (timesF tv 9)))).size = 2 := mk_size 2 _
        have HP := Lib.hid hP
        clear hP g1
        go_simp
        clear st1 ms1 hHeld
        refine hK.out _ _ ⟨tl6, hy6⟩ (fun hHeld => ?_)
        clear hK K
        try simp only [Act.put, List.setIfInBounds_toArray, List.set_cons_zero, List.set_cons_succ]
        refine wpAnyH_done (by kernel_rfl) ?_ _
        clear hHeld tl6 hy6
        simp only [Exit.then]
        gi_wp2_with fail
        exact ⟨by rw [hsz]; exact hkf.trans (hR.from _), hkp.trans hQ, by show HoldsM _ _ _ _ _ _ _ _ _; rw [HST.out]; exact HP.out, hB5.trans hT⟩
      refine AllReadyH.cons rfl (fun K hK => ?_) AllReadyH.nil
      go_simp
      refine (HCX.out _ BX.out).mono ?_
      rintro e x1 ⟨rfl, hb⟩
      have hH := holdsM_grown hH (below_grown hb)
      have hy := hy.below hb hy.lt
      have BX : Hid (Below W.heap.size W x1) := BX.out.trans (hb.mono BX.out.size)
      clear hb hHeld
      go_wp2_with fail
      refine hK.out _ _ ⟨hH.tel, hy⟩ (fun hHeld => ?_)
      clear hK K
      try simp only [Act.put, List.setIfInBounds_toArray, List.set_cons_zero, List.set_cons_succ]
      refine wpAnyH_ready (rs := [0, 5]) (by kernel_rfl) (by simp) ?_
      refine AllReadyH.cons rfl (fun K hK => ?_) ?_
      · rw [if_pos (by rfl)]
        refine wp_ldF hH.sum rfl rfl ?_
        refine hK.out _ _ ⟨hH.tel, hy⟩ (fun hHeld => ?_)
        clear hK K
        try simp only [Act.put, List.setIfInBounds_toArray, List.set_cons_zero, List.set_cons_succ]
        refine wpAnyH_ready (rs := [5]) (by kernel_rfl) (by simp) ?_
        refine AllReadyH.cons rfl (fun K hK => ?_) AllReadyH.nil
        go_simp
        refine (times_int tv _ 9 _ rfl HBD.out.1 HBD.out.2.2.2.1 HBD.out.2.2.2.2.1).mono ?_
        rintro e x2 ⟨rfl, hb⟩
        have hH := holdsM_grown hH (below_grown hb)
        have hy := hy.below hb hy.lt
        have BX : Hid (Below W.heap.size W x2) := BX.out.trans (hb.mono BX.out.size)
        clear hb hHeld
        go_wp2_with fail
        refine hK.out _ _ ⟨hH.tel, hy⟩ (fun hHeld => ?_)
        clear hK K
        try simp only [Act.put, List.setIfInBounds_toArray, List.set_cons_zero, List.set_cons_succ]
        refine wpAnyH_ready (rs := [6]) (by kernel_rfl) (by simp) ?_
        refine AllReadyH.cons rfl (fun K hK => ?_) AllReadyH.nil
        go_simp
        refine (plus_any S.1 (timesF tv 9) _ HBD.out.2.1 HBD.out.2.2.1 HBD.out.2.2.2.2.2.1 HBD.out.2.2.2.2.2.2.1 HBD.out.2.2.2.2.2.2.2.1).mono ?_
        rintro e x3 ⟨rfl, hb⟩
        have hH := holdsM_grown hH (below_grown hb)
        have hy := hy.below hb hy.lt
        have BX : Hid (Below W.heap.size W x3) := BX.out.trans (hb.mono BX.out.size)
        clear hb hHeld
        go_wp2_with fail
        refine hK.out _ _ ⟨hH.tel, hy⟩ (fun hHeld => ?_)
        clear hK K
        try simp only [Act.put, List.setIfInBounds_toArray, List.set_cons_zero, List.set_cons_succ]
        refine wpAnyH_ready (rs := [7]) (by kernel_rfl) (by simp) ?_
        refine AllReadyH.cons rfl (fun K hK => ?_) AllReadyH.nil
        obtain ⟨hP, hQ, hR, hT⟩ := holdsM_put (n₀ := w.heap.size) hH (by omega) (plusF S.1 (timesF tv 9)) (S.2 + 9)
        have e25 : ((S.2 + 9 : Nat) : Int) = (S.2 : Int) + 9 := by omega
        rw [e25] at hP hQ hR hT
        have hkf := KeepsFrom.of_grownBy (B := q + 1 + 1 + 1) (below_grown BX.out) (fun j e => by cases e)
        have hkp := Keeps2.below hHB BX.out
        have hB5 : Below w.heap.size W0 x3 := hBl.trans (BX.out.mono (by have := (HB0.out.trans hBl).size; omega))
        have g1 := grown_rowP hH.sum (mk 2 (fcF (plusF S.1 (timesF tv 9))))
        have hS3 : S.2 ≤ 300 := HBD.out.2.2.2.2.2.2.2.2
        have c6 := (hH.wts.kept g1 (sne (by omega))).cell
        have f6 := (hH.wts.kept g1 (sne (by omega))).frozen
        have tl6 := hH.tel.kept g1 (sne (by omega))
        have hy6 := hy.grown g1 (sne (by have := hdq; omega))
        have st1 := run_store_blk (P := Try.prog) (g := fcF (plusF S.1 (timesF tv 9))) hH.sum
        have ms1 : (mk 2 (fcF (plusF S.1 (timesF tv 9)))).size = 2 := mk_size 2 _
        have HP := Lib.hid hP
        clear hP g1
        go_simp
        clear st1 ms1 hHeld
        refine hK.out _ _ ⟨tl6, hy6⟩ (fun hHeld => ?_)
        clear hK K
        try simp only [Act.put, List.setIfInBounds_toArray, List.set_cons_zero, List.set_cons_succ]
        refine wpAnyH_done (by kernel_rfl) ?_ _
        clear hHeld tl6 hy6
        simp only [Exit.then]
        gi_wp2_with fail
        exact ⟨by rw [hsz]; exact hkf.trans (hR.from _), hkp.trans hQ, by show HoldsM _ _ _ _ _ _ _ _ _; rw [HST.out]; exact HP.out, hB5.trans hT⟩
      refine AllReadyH.cons rfl (fun K hK => ?_) AllReadyH.nil
      go_simp
      refine (times_int tv _ 9 _ rfl HBD.out.1 HBD.out.2.2.2.1 HBD.out.2.2.2.2.1).mono ?_
      rintro e x2 ⟨rfl, hb⟩
      have hH := holdsM_grown hH (below_grown hb)
      have hy := hy.below hb hy.lt
      have BX : Hid (Below W.heap.size W x2) := BX.out.trans (hb.mono BX.out.size)
      clear hb hHeld
      go_wp2_with fail
      refine hK.out _ _ ⟨hH.tel, hy⟩ (fun hHeld => ?_)
      clear hK K
      try simp only [Act.put, List.setIfInBounds_toArray, List.set_cons_zero, List.set_cons_succ]
      refine wpAnyH_ready (rs := [0]) (by kernel_rfl) (by simp) ?_
      refine AllReadyH.cons rfl (fun K hK => ?_) AllReadyH.nil
      rw [if_pos (by rfl)]
      refine wp_ldF hH.sum rfl rfl ?_
      refine hK.out _ _ ⟨hH.tel, hy⟩ (fun hHeld => ?_)
      clear hK K
      try simp only [Act.put, List.setIfInBounds_toArray, List.set_cons_zero, List.set_cons_succ]
      refine wpAnyH_ready (rs := [6]) (by kernel_rfl) (by simp) ?_
      refine AllReadyH.cons rfl (fun K hK => ?_) AllReadyH.nil
      go_simp
      refine (plus_any S.1 (timesF tv 9) _ HBD.out.2.1 HBD.out.2.2.1 HBD.out.2.2.2.2.2.1 HBD.out.2.2.2.2.2.2.1 HBD.out.2.2.2.2.2.2.2.1).mono ?_
      rintro e x3 ⟨rfl, hb⟩
      have hH := holdsM_grown hH (below_grown hb)
      have hy := hy.below hb hy.lt
      have BX : Hid (Below W.heap.size W x3) := BX.out.trans (hb.mono BX.out.size)
      clear hb hHeld
      go_wp2_with fail
      refine hK.out _ _ ⟨hH.tel, hy⟩ (fun hHeld => ?_)
      clear hK K
      try simp only [Act.put, List.setIfInBounds_toArray, List.set_cons_zero, List.set_cons_succ]
      refine wpAnyH_ready (rs := [7]) (by kernel_rfl) (by simp) ?_
      refine AllReadyH.cons rfl (fun K hK => ?_) AllReadyH.nil
      obtain ⟨hP, hQ, hR, hT⟩ := holdsM_put (n₀ := w.heap.size) hH (by omega) (plusF S.1 (timesF tv 9)) (S.2 + 9)
      have e25 : ((S.2 + 9 : Nat) : Int) = (S.2 : Int) + 9 := by omega
      rw [e25] at hP hQ hR hT
      have hkf := KeepsFrom.of_grownBy (B := q + 1 + 1 + 1) (below_grown BX.out) (fun j e => by cases e)
      have hkp := Keeps2.below hHB BX.out
      have hB5 : Below w.heap.size W0 x3 := hBl.trans (BX.out.mono (by have := (HB0.out.trans hBl).size; omega))
      have g1 := grown_rowP hH.sum (mk 2 (fcF (plusF S.1 (timesF tv 9))))
      have hS3 : S.2 ≤ 300 := HBD.out.2.2.2.2.2.2.2.2
      have c6 := (hH.wts.kept g1 (sne (by omega))).cell
      have f6 := (hH.wts.kept g1 (sne (by omega))).frozen
      have tl6 := hH.tel.kept g1 (sne (by omega))
      have hy6 := hy.grown g1 (sne (by have := hdq; omega))
      have st1 := run_store_blk (P := Try.prog) (g := fcF (plusF S.1 (timesF tv 9))) hH.sum
      have ms1 : (mk 2 (fcF (plusF S.1 (timesF tv 9)))).size = 2 := mk_size 2 _
      have HP := Lib.hid hP
      clear hP g1
      go_simp
      clear st1 ms1 hHeld
      refine hK.out _ _ ⟨tl6, hy6⟩ (fun hHeld => ?_)
      clear hK K
      try simp only [Act.put, List.setIfInBounds_toArray, List.set_cons_zero, List.set_cons_succ]
      refine wpAnyH_done (by kernel_rfl) ?_ _
      clear hHeld tl6 hy6
      simp only [Exit.then]
      gi_wp2_with fail
      exact ⟨by rw [hsz]; exact hkf.trans (hR.from _), hkp.trans hQ, by show HoldsM _ _ _ _ _ _ _ _ _; rw [HST.out]; exact HP.out, hB5.trans hT⟩
    · have e : plF x.1 2 = 2 := by show ((x.1.2 : Nat) : Int) = 2; omega
      rw [e] at cx
      have e9 : wt = 1 := by rw [hwt]; unfold wtP; rw [if_pos h2]
      clear e h2 hwt
      subst e9
      clear HWT hw9
      generalize T (plB f x.1) = tv at *
      gi_wp2_with fail
      refine wpIn_region_round (S := fun W' => Boxed W' (w.heap.size + 1) 158 (Value.func (.func cf) pre lb) ∧ Blk W' d 16 (plB f x.1) 47) (by kernel_rfl) (by rintro ⟨_, _, h⟩; exact h) (by simp) ⟨hH.tel, hy.drew⟩ (fun hHeld => ?_)
      have BX : Hid (Below W.heap.size W W.drew) := (Below.refl _ W).drew
      have hH := holdsM_drew hH
      have hy := hy.drew
      generalize W.drew = x0 at *
      refine wpAnyH_take (i := 1) (oi := { dst := some 19, op := _, type := _, pos := _, after := _, guard := _ }) (v := .func (.func cf) pre lb) rfl (by kernel_rfl) (by kernel_rfl) (by kernel_rfl) (fun _ _ _ h => h) (Or.inl ⟨by rfl, by intro W q; have c0 := q.1.cell; clear q; go_simp⟩) (by assumption) ?_
      try simp only [Act.put, List.setIfInBounds_toArray, List.set_cons_zero, List.set_cons_succ]
      refine wpAnyH_take (i := 2) (oi := { dst := some 20, op := _, type := _, pos := _, after := _, guard := _ }) (v := .agg (mk 16 (plB f x.1))) rfl (by kernel_rfl) (by kernel_rfl) (by kernel_rfl) (fun _ _ _ h => h) (Or.inl ⟨by rfl, fun _ q => execB q.2 rfl rfl⟩) (by assumption) ?_
      try simp only [Act.put, List.setIfInBounds_toArray, List.set_cons_zero, List.set_cons_succ]
      refine wpAnyH_take (i := 4) (oi := { dst := some 22, op := _, type := _, pos := _, after := _, guard := _ }) (v := .int .i64 1) rfl (by kernel_rfl) (by kernel_rfl) (by kernel_rfl) (fun _ _ _ h => h) (Or.inl ⟨by rfl, by intro w hSw; clear hSw; go_simp; (try with_reducible rfl)⟩) (by assumption) ?_
      try simp only [Act.put, List.setIfInBounds_toArray, List.set_cons_zero, List.set_cons_succ]
      refine wpAnyH_ready (rs := [0, 3]) (by kernel_rfl) (by simp) ?_
      refine AllReadyH.cons rfl (fun K hK => ?_) ?_
      · rw [if_pos (by rfl)]
        refine wp_ldF hH.sum rfl rfl ?_
        refine hK.out _ _ ⟨hH.tel, hy⟩ (fun hHeld => ?_)
        clear hK K
        try simp only [Act.put, List.setIfInBounds_toArray, List.set_cons_zero, List.set_cons_succ]
        refine wpAnyH_ready (rs := [3]) (by kernel_rfl) (by simp) ?_
        refine AllReadyH.cons rfl (fun K hK => ?_) AllReadyH.nil
        go_simp
        refine (HCX.out _ BX.out).mono ?_
        rintro e x1 ⟨rfl, hb⟩
        have hH := holdsM_grown hH (below_grown hb)
        have hy := hy.below hb hy.lt
        have BX : Hid (Below W.heap.size W x1) := BX.out.trans (hb.mono BX.out.size)
        clear hb hHeld
        go_wp2_with fail
        refine hK.out _ _ ⟨hH.tel, hy⟩ (fun hHeld => ?_)
        clear hK K
        try simp only [Act.put, List.setIfInBounds_toArray, List.set_cons_zero, List.set_cons_succ]
        refine wpAnyH_ready (rs := [5]) (by kernel_rfl) (by simp) ?_
        refine AllReadyH.cons rfl (fun K hK => ?_) AllReadyH.nil
        go_simp
        refine (times_int tv _ 1 _ rfl HBD.out.1 HBD.out.2.2.2.1 HBD.out.2.2.2.2.1).mono ?_
        rintro e x2 ⟨rfl, hb⟩
        have hH := holdsM_grown hH (below_grown hb)
        have hy := hy.below hb hy.lt
        have BX : Hid (Below W.heap.size W x2) := BX.out.trans (hb.mono BX.out.size)
        clear hb hHeld
        go_wp2_with fail
        refine hK.out _ _ ⟨hH.tel, hy⟩ (fun hHeld => ?_)
        clear hK K
        try simp only [Act.put, List.setIfInBounds_toArray, List.set_cons_zero, List.set_cons_succ]
        refine wpAnyH_ready (rs := [6]) (by kernel_rfl) (by simp) ?_
        refine AllReadyH.cons rfl (fun K hK => ?_) AllReadyH.nil
        go_simp
        refine (plus_any S.1 (timesF tv 1) _ HBD.out.2.1 HBD.out.2.2.1 HBD.out.2.2.2.2.2.1 HBD.out.2.2.2.2.2.2.1 HBD.out.2.2.2.2.2.2.2.1).mono ?_
        rintro e x3 ⟨rfl, hb⟩
        have hH := holdsM_grown hH (below_grown hb)
        have hy := hy.below hb hy.lt
        have BX : Hid (Below W.heap.size W x3) := BX.out.trans (hb.mono BX.out.size)
        clear hb hHeld
        go_wp2_with fail
        refine hK.out _ _ ⟨hH.tel, hy⟩ (fun hHeld => ?_)
        clear hK K
        try simp only [Act.put, List.setIfInBounds_toArray, List.set_cons_zero, List.set_cons_succ]
        refine wpAnyH_ready (rs := [7]) (by kernel_rfl) (by simp) ?_
        refine AllReadyH.cons rfl (fun K hK => ?_) AllReadyH.nil
        obtain ⟨hP, hQ, hR, hT⟩ := holdsM_put (n₀ := w.heap.size) hH (by omega) (plusF S.1 (timesF tv 1)) (S.2 + 1)
        have e25 : ((S.2 + 1 : Nat) : Int) = (S.2 : Int) + 1 := by omega
        rw [e25] at hP hQ hR hT
        have hkf := KeepsFrom.of_grownBy (B := q + 1 + 1 + 1) (below_grown BX.out) (fun j e => by cases e)
        have hkp := Keeps2.below hHB BX.out
        have hB5 : Below w.heap.size W0 x3 := hBl.trans (BX.out.mono (by have := (HB0.out.trans hBl).size; omega))
        have g1 := grown_rowP hH.sum (mk 2 (fcF (plusF S.1 (timesF tv 1))))
        have hS3 : S.2 ≤ 300 := HBD.out.2.2.2.2.2.2.2.2
        have c6 := (hH.wts.kept g1 (sne (by omega))).cell
        have f6 := (hH.wts.kept g1 (sne (by omega))).frozen
        have tl6 := hH.tel.kept g1 (sne (by omega))
        have hy6 := hy.grown g1 (sne (by have := hdq; omega))
        have st1 := run_store_blk (P := Try.prog) (g := fcF (plusF S.1 (timesF tv 1))) hH.sum
        have ms1 : (mk 2 (fcF (plusF S.1 (timesF tv 1)))).size = 2 := mk_size 2 _
        have HP := Lib.hid hP
        clear hP g1
        go_simp
        clear st1 ms1 hHeld
        refine hK.out _ _ ⟨tl6, hy6⟩ (fun hHeld => ?_)
        clear hK K
        try simp only [Act.put, List.setIfInBounds_toArray, List.set_cons_zero, List.set_cons_succ]
        refine wpAnyH_done (by kernel_rfl) ?_ _
        clear hHeld tl6 hy6
        simp only [Exit.then]
        gi_wp2_with fail
        exact ⟨by rw [hsz]; exact hkf.trans (hR.from _), hkp.trans hQ, by show HoldsM _ _ _ _ _ _ _ _ _; rw [HST.out]; exact HP.out, hB5.trans hT⟩
      refine AllReadyH.cons rfl (fun K hK => ?_) AllReadyH.nil
      go_simp
      refine (HCX.out _ BX.out).mono ?_
      rintro e x1 ⟨rfl, hb⟩
      have hH := holdsM_grown hH (below_grown hb)
      have hy := hy.below hb hy.lt
      have BX : Hid (Below W.heap.size W x1) := BX.out.trans (hb.mono BX.out.size)
      clear hb hHeld
      go_wp2_with fail
      refine hK.out _ _ ⟨hH.tel, hy⟩ (fun hHeld => ?_)
      clear hK K
      try simp only [Act.put, List.setIfInBounds_toArray, List.set_cons_zero, List.set_cons_succ]
      refine wpAnyH_ready (rs := [0, 5]) (by kernel_rfl) (by simp) ?_
      refine AllReadyH.cons rfl (fun K hK => ?_) ?_
      · rw [if_pos (by rfl)]
        refine wp_ldF hH.sum rfl rfl ?_
        refine hK.out _ _ ⟨hH.tel, hy⟩ (fun hHeld => ?_)
        clear hK K
        try simp only [Act.put, List.setIfInBounds_toArray, List.set_cons_zero, List.set_cons_succ]
        refine wpAnyH_ready (rs := [5]) (by kernel_rfl) (by simp) ?_
        refine AllReadyH.cons rfl (fun K hK => ?_) AllReadyH.nil
        go_simp
        refine (times_int tv _ 1 _ rfl HBD.out.1 HBD.out.2.2.2.1 HBD.out.2.2.2.2.1).mono ?_
        rintro e x2 ⟨rfl, hb⟩
        have hH := holdsM_grown hH (below_grown hb)
        have hy := hy.below hb hy.lt
        have BX : Hid (Below W.heap.size W x2) := BX.out.trans (hb.mono BX.out.size)
        clear hb hHeld
        go_wp2_with fail
        refine hK.out _ _ ⟨hH.tel, hy⟩ (fun hHeld => ?_)
        clear hK K
        try simp only [Act.put, List.setIfInBounds_toArray, List.set_cons_zero, List.set_cons_succ]
        refine wpAnyH_ready (rs := [6]) (by kernel_rfl) (by simp) ?_
        refine AllReadyH.cons rfl (fun K hK => ?_) AllReadyH.nil
        go_simp
        refine (plus_any S.1 (timesF tv 1) _ HBD.out.2.1 HBD.out.2.2.1 HBD.out.2.2.2.2.2.1 HBD.out.2.2.2.2.2.2.1 HBD.out.2.2.2.2.2.2.2.1).mono ?_
        rintro e x3 ⟨rfl, hb⟩
        have hH := holdsM_grown hH (below_grown hb)
        have hy := hy.below hb hy.lt
        have BX : Hid (Below W.heap.size W x3) := BX.out.trans (hb.mono BX.out.size)
        clear hb hHeld
        go_wp2_with fail
        refine hK.out _ _ ⟨hH.tel, hy⟩ (fun hHeld => ?_)
        clear hK K
        try simp only [Act.put, List.setIfInBounds_toArray, List.set_cons_zero, List.set_cons_succ]
        refine wpAnyH_ready (rs := [7]) (by kernel_rfl) (by simp) ?_
        refine AllReadyH.cons rfl (fun K hK => ?_) AllReadyH.nil
        obtain ⟨hP, hQ, hR, hT⟩ := holdsM_put (n₀ := w.heap.size) hH (by omega) (plusF S.1 (timesF tv 1)) (S.2 + 1)
        have e25 : ((S.2 + 1 : Nat) : Int) = (S.2 : Int) + 1 := by omega
        rw [e25] at hP hQ hR hT
        have hkf := KeepsFrom.of_grownBy (B := q + 1 + 1 + 1) (below_grown BX.out) (fun j e => by cases e)
        have hkp := Keeps2.below hHB BX.out
        have hB5 : Below w.heap.size W0 x3 := hBl.trans (BX.out.mono (by have := (HB0.out.trans hBl).size; omega))
        have g1 := grown_rowP hH.sum (mk 2 (fcF (plusF S.1 (timesF tv 1))))
        have hS3 : S.2 ≤ 300 := HBD.out.2.2.2.2.2.2.2.2
        have c6 := (hH.wts.kept g1 (sne (by omega))).cell
        have f6 := (hH.wts.kept g1 (sne (by omega))).frozen
        have tl6 := hH.tel.kept g1 (sne (by omega))
        have hy6 := hy.grown g1 (sne (by have := hdq; omega))
        have st1 := run_store_blk (P := Try.prog) (g := fcF (plusF S.1 (timesF tv 1))) hH.sum
        have ms1 : (mk 2 (fcF (plusF S.1 (timesF tv 1)))).size = 2 := mk_size 2 _
        have HP := Lib.hid hP
        clear hP g1
        go_simp
        clear st1 ms1 hHeld
        refine hK.out _ _ ⟨tl6, hy6⟩ (fun hHeld => ?_)
        clear hK K
        try simp only [Act.put, List.setIfInBounds_toArray, List.set_cons_zero, List.set_cons_succ]
        refine wpAnyH_done (by kernel_rfl) ?_ _
        clear hHeld tl6 hy6
        simp only [Exit.then]
        gi_wp2_with fail
        exact ⟨by rw [hsz]; exact hkf.trans (hR.from _), hkp.trans hQ, by show HoldsM _ _ _ _ _ _ _ _ _; rw [HST.out]; exact HP.out, hB5.trans hT⟩
      refine AllReadyH.cons rfl (fun K hK => ?_) AllReadyH.nil
      go_simp
      refine (times_int tv _ 1 _ rfl HBD.out.1 HBD.out.2.2.2.1 HBD.out.2.2.2.2.1).mono ?_
      rintro e x2 ⟨rfl, hb⟩
      have hH := holdsM_grown hH (below_grown hb)
      have hy := hy.below hb hy.lt
      have BX : Hid (Below W.heap.size W x2) := BX.out.trans (hb.mono BX.out.size)
      clear hb hHeld
      go_wp2_with fail
      refine hK.out _ _ ⟨hH.tel, hy⟩ (fun hHeld => ?_)
      clear hK K
      try simp only [Act.put, List.setIfInBounds_toArray, List.set_cons_zero, List.set_cons_succ]
      refine wpAnyH_ready (rs := [0]) (by kernel_rfl) (by simp) ?_
      refine AllReadyH.cons rfl (fun K hK => ?_) AllReadyH.nil
      rw [if_pos (by rfl)]
      refine wp_ldF hH.sum rfl rfl ?_
      refine hK.out _ _ ⟨hH.tel, hy⟩ (fun hHeld => ?_)
      clear hK K
      try simp only [Act.put, List.setIfInBounds_toArray, List.set_cons_zero, List.set_cons_succ]
      refine wpAnyH_ready (rs := [6]) (by kernel_rfl) (by simp) ?_
      refine AllReadyH.cons rfl (fun K hK => ?_) AllReadyH.nil
      go_simp
      refine (plus_any S.1 (timesF tv 1) _ HBD.out.2.1 HBD.out.2.2.1 HBD.out.2.2.2.2.2.1 HBD.out.2.2.2.2.2.2.1 HBD.out.2.2.2.2.2.2.2.1).mono ?_
      rintro e x3 ⟨rfl, hb⟩
      have hH := holdsM_grown hH (below_grown hb)
      have hy := hy.below hb hy.lt
      have BX : Hid (Below W.heap.size W x3) := BX.out.trans (hb.mono BX.out.size)
      clear hb hHeld
      go_wp2_with fail
      refine hK.out _ _ ⟨hH.tel, hy⟩ (fun hHeld => ?_)
      clear hK K
      try simp only [Act.put, List.setIfInBounds_toArray, List.set_cons_zero, List.set_cons_succ]
      refine wpAnyH_ready (rs := [7]) (by kernel_rfl) (by simp) ?_
      refine AllReadyH.cons rfl (fun K hK => ?_) AllReadyH.nil
      obtain ⟨hP, hQ, hR, hT⟩ := holdsM_put (n₀ := w.heap.size) hH (by omega) (plusF S.1 (timesF tv 1)) (S.2 + 1)
      have e25 : ((S.2 + 1 : Nat) : Int) = (S.2 : Int) + 1 := by omega
      rw [e25] at hP hQ hR hT
      have hkf := KeepsFrom.of_grownBy (B := q + 1 + 1 + 1) (below_grown BX.out) (fun j e => by cases e)
      have hkp := Keeps2.below hHB BX.out
      have hB5 : Below w.heap.size W0 x3 := hBl.trans (BX.out.mono (by have := (HB0.out.trans hBl).size; omega))
      have g1 := grown_rowP hH.sum (mk 2 (fcF (plusF S.1 (timesF tv 1))))
      have hS3 : S.2 ≤ 300 := HBD.out.2.2.2.2.2.2.2.2
      have c6 := (hH.wts.kept g1 (sne (by omega))).cell
      have f6 := (hH.wts.kept g1 (sne (by omega))).frozen
      have tl6 := hH.tel.kept g1 (sne (by omega))
      have hy6 := hy.grown g1 (sne (by have := hdq; omega))
      have st1 := run_store_blk (P := Try.prog) (g := fcF (plusF S.1 (timesF tv 1))) hH.sum
      have ms1 : (mk 2 (fcF (plusF S.1 (timesF tv 1)))).size = 2 := mk_size 2 _
      have HP := Lib.hid hP
      clear hP g1
      go_simp
      clear st1 ms1 hHeld
      refine hK.out _ _ ⟨tl6, hy6⟩ (fun hHeld => ?_)
      clear hK K
      try simp only [Act.put, List.setIfInBounds_toArray, List.set_cons_zero, List.set_cons_succ]
      refine wpAnyH_done (by kernel_rfl) ?_ _
      clear hHeld tl6 hy6
      simp only [Exit.then]
      gi_wp2_with fail
      exact ⟨by rw [hsz]; exact hkf.trans (hR.from _), hkp.trans hQ, by show HoldsM _ _ _ _ _ _ _ _ _; rw [HST.out]; exact HP.out, hB5.trans hT⟩
  case done =>
    rintro D' ys W hD' hys ⟨hH, hBl⟩ hK
    have hys : vals ys = plA f := hys
    rw [hys] at hH
    clear hys
    have HBD := Lib.hid (mn_end HD.out HE.out)
    have HMN : Hid (mnF T f = divF (mnR T f (plA f)).1 (mnR T f (plA f)).2) := by show _ = _; rfl
    generalize mnR T f (plA f) = S at *
    have c6 := hH.wts.cell
    gi_wp2_with ((with_reducible show wpListIn _ _ _ _ _ (Oper.mk _ (Op.load 155 _) _ _ _ _ :: _) _ _); refine loadIn (hH.sum) rfl rfl rfl Try.underlying155 rfl sizeF ?_)
    refine ⟨trivial, ?_⟩
    refine (callsIn_wide.2 (divided_any S.1 S.2 _ HBD.out.1 HBD.out.2.1 (by have := HBD.out.2.2.1; omega) (by have := HBD.out.2.2.2; omega))).mono ?_
    rintro e w5 ⟨rfl, hb⟩
    rw [← HMN.out]
    have hsW := (HB0.out.trans hBl).size
    have KR := hH.res.below hb hH.res.lt
    have HKD : Hid (w5.heap[D']? = some (.deferred (some []))) := (hb.block D' (Array.getElem?_eq_some_iff.1 hK).1).trans hK
    have HX : Hid (Below w.heap.size w w5) := (HB0.out.trans hBl).trans (hb.mono hsW)
    clear hb hH hK hBl c6
    have HX : Hid (Below w.heap.size w (w5.setRow (w.heap.size + 1 + 1) (mk 2 (fcF (mnF T f))))) := below_setRow HX.out (by omega) _
    have HKD : Hid ((w5.setRow (w.heap.size + 1 + 1) (mk 2 (fcF (mnF T f)))).heap[D']? = some (.deferred (some []))) := (setRow_other w5 (w.heap.size + 1 + 1) D' _ (by omega)).trans HKD.out
    gi_wp2_with ((with_reducible show wpListIn _ _ _ _ _ (Oper.mk _ (Op.store 155 _ _) _ _ _ _ :: _) _ _); refine storeIn (KR) rfl rfl rfl rfl sizeF ?_)
    have KR := KR.row 2 (fcF (mnF T f))
    generalize w5.setRow (w.heap.size + 1 + 1) (mk 2 (fcF (mnF T f))) = x1 at *
    refine ⟨by simp, .inl ⟨_, _, rfl, run_takeDeferred HKD.out, ?_⟩⟩
    have KR2 : Blk (x1.putObj D' (.deferred none)) (w.heap.size + 1 + 1) 2 (fcF (mnF T f)) 155 := KR.grown (grownBy_putObj' x1 D' _) (sne (by omega))
    refine ⟨_, results_one KR2 Try.underlying155 rfl sizeF rfl rfl, rfl, HX.out.trans (belowK_b (w := w) (Nat.le_refl _) x1 D' _ _ (by omega) HKD.out rfl rfl)⟩
  case stop =>
    rintro D c pre W _ h _
    exact h.elim
end Go.Proofs.Ytblcojacmjbjcab
namespace Go.Proofs.Ytblcojacmjbjcab
open Go.RowKit Plain
attribute [local go_sem] store_new
set_option linter.unusedVariables false
set_option linter.unusedSimpArgs false
theorem loadSB9 {ops : Array Oper} {rest : List Oper} {o : Oper} {a : Act} {w : World} {Q : Exit → Act → World → Prop} {x : Operand} {b d : Nat} {f : Nat → Int} {t : TypeId}
    (hg : Blk w b 18 (slideV f d) t) (hgd : o.guard = none) (ho : o.op = .load 47 x) (hx : a.eval x = .pointer (some ⟨b, 0, none⟩))
    (h : wpList Try.prog ops Q rest (a.put o.dst (.agg (mk 16 (slideB f d)))) w) : wpList Try.prog ops Q (o :: rest) a w := by
  refine loadPB hg (by decide) hgd ho hx ?_
  have e : mk 16 (fun i => slideV f d (0 + i)) = mk 16 (slideB f d) := mk_congr fun i hi => by rw [Nat.zero_add]; unfold slideV; rw [if_pos hi]
  rw [e]
  exact h
def sameF9 (f g : Nat → Int) : Bool := (List.range 2).all fun c => f c == g c
theorem eqF (d : Nat) (f g : Nat → Int) (w : World) : (Op.equalIn (d + 2) 155 (.agg (mk 2 f)) (.agg (mk 2 g))).run Try.prog w = .ok (sameF9 f g) w := by
  cases hq : Try.prog.info? 3 with
  | none => have := size1; simp [hq] at this
  | some i =>
    rw [run_equalIn_array w (d + 1) (mk 2 f) (mk 2 g) Try.underlying155 hq, cells1]
    exact items_all _ _ _ _ _ _ (fun c => .int .i64 (f c)) (fun c => .int .i64 (g c)) (fun c => f c == g c) _ fun c hc => by
      have hc4 : c < 2 := List.mem_range.1 hc
      exact ⟨part_int Try.underlying3 f hc4 w, part_int Try.underlying3 g hc4 w, run_equalIn_int w d _ _ _ _ _ Try.underlying3⟩
theorem sameF9_fc (p q : Fc) : sameF9 (fcF p) (fcF q) = decide (p = q) := by
  obtain ⟨a, b⟩ := p
  obtain ⟨c, d⟩ := q
  have e : sameF9 (fcF (a, b)) (fcF (c, d)) = (((a : Int) == (c : Int)) && ((b : Int) == (d : Int))) := by
    show (((a : Int) == (c : Int)) && ((((b : Int) == (d : Int))) && true)) = _
    rw [Bool.and_true]
  rw [e, Bool.eq_iff_iff]
  simp
  omega
theorem execF9 {o : Oper} {ev : Operand → Value} {w : World} {b : Nat} {f : Nat → Int} {t : TypeId} {x : Operand} (hg : Blk w b 2 f t) (ho : o.op = .load 155 x) (hx : ev x = .pointer (some ⟨b, 0, none⟩)) :
    (execOp ev o).run Try.prog w = .ok (.value (.agg (mk 2 f))) w := exec_load_blk _ x ho hx hg Try.underlying155 rfl sizeF
theorem loadgF {ops : Array Oper} {rest : List Oper} {o : Oper} {a : Act} {w : World} {Q : Exit → Act → World → Prop} {x : Operand} {b : Nat} {f : Nat → Int} {t : TypeId}
    (hg : Blk w b 2 f t) (hw : Region.wanted o (yielded ops a.tmps) = true) (ho : o.op = .load 155 x) (hx : a.eval x = .pointer (some ⟨b, 0, none⟩))
    (h : wpList Try.prog ops Q rest (a.put o.dst (.agg (mk 2 f))) w) : wpList Try.prog ops Q (o :: rest) a w :=
  wpList_load_guarded hw _ x ho b 2 f t _ hx hg Try.underlying155 rfl sizeF h
theorem fc_mul {a b : Nat} (ha : a ≤ 2147483648) (hb : b ≤ 2147483648) : a * b ≤ 4611686018427387904 := by
  have := Nat.mul_le_mul ha hb
  omega
/-- What the loop of bestMove knows of the greatest so far. -/
theorem bm_bd {f : Nat → Int} {V : Nat → Fc} (hb : ∀ d, d < 4 → isMv f d = true → FcOk (V d) ∧ (V d).1 ≤ 2147483648 ∧ (V d).2 ≤ 2147483648) (k : Nat) (hk : k ≤ 4) : (bmF f V k).v.1 ≤ 2147483648 ∧ (bmF f V k).v.2 ≤ 2147483648 :=
  bm_all (P := fun p => p.1 ≤ 2147483648 ∧ p.2 ≤ 2147483648) (by decide) k fun d hd hm => (hb d (by omega) hm).2
set_option maxHeartbeats 2000000 in
set_option maxRecDepth 20000 in
theorem bestMove_any (f : Nat → Int) (V : Nat → Fc) (e : Fc) (cf : Nat) (pre lb : Array Value) (w : World) (hV : Vd f)
    (hb : ∀ d, d < 4 → isMv f d = true → FcOk (V d) ∧ (V d).1 ≤ 2147483648 ∧ (V d).2 ≤ 2147483648) (he : ∀ d, d < 4 → isMv f d = true → ltF e (V d) = false)
    (eg : ∀ args w, (callFunc cf args).run Try.prog w = .ok (.enter cf args) w)
    (HC : ∀ (d : Nat) (W : World), d < 4 → isMv f d = true → Below w.heap.size w W → Calls Try.prog cf (pre ++ #[.agg (mk 18 (slideV f d))] ++ lb) W fun e w' => e = .returned (.agg (mk 2 (fcF (V d)))) ∧ Below W.heap.size W w') :
    Calls Try.prog 195 #[.agg (mk 16 f), .func (.func cf) pre lb, .agg (mk 2 (fcF e))] w fun e w' => e = .returned (.tuple #[.int .i64 ((bmF f V 4).d : Int), .agg (mk 2 (fcF (bmF f V 4).v)), .bool (bmF f V 4).ok]) ∧ Below w.heap.size w w' := by
  have z2 := zero2
  have z16 := zero16
  have z18 := zero18
  have K3 := ((Blk.new w 16 f 47).alloc (.cells (mk 2 (fcF e)) 155)).alloc (.cells (mk 2 fun _ => 0) 155)
  have K5 := (Blk.new (w.alloc (.cells (mk 16 f) 47)) 2 (fcF e) 155).alloc (.cells (mk 2 fun _ => 0) 155)
  have K7 := Blk.new ((w.alloc (.cells (mk 16 f) 47)).alloc (.cells (mk 2 (fcF e)) 155)) 2 (fun _ => 0) 155
  have HB := Lib.hid ((((Below.refl w.heap.size w).alloc (Nat.le_refl _) (.cells (mk 16 f) 47)).alloc (by simp) (.cells (mk 2 (fcF e)) 155)).alloc (by simp; omega) (.cells (mk 2 fun _ => 0) 155))
  simp only [World.size_alloc] at K3 K5 K7
  have HV := Lib.hid hV
  have HCC := Lib.hid HC
  have HBD := Lib.hid hb
  have HBM := Lib.hid (fun k hk => bm_bd hb k hk)
  have HST := Lib.hid (fun k (hk : k ≤ 4) (hok : (bmF f V k).ok = true) (hv : (bmF f V k).v = e) => show bmF f V 4 = bmF f V k by
    have := bm_stop he hok hv (4 - k) (by omega)
    rwa [show k + (4 - k) = 4 by omega] at this)
  clear hV HC hb he
  have iE : ∀ (f g : Nat → Int) (w : World), (Op.equalIn 10000 47 (.agg (mk 16 f)) (.agg (mk 16 g))).run Try.prog w = .ok (sameB f g) w := eqB 9996
  have iF : ∀ (p q : Fc) (w : World), (Op.equalIn 10000 155 (.agg (mk 2 (fcF p))) (.agg (mk 2 (fcF q)))).run Try.prog w = .ok (decide (p = q)) w := fun p q w => by rw [eqF 9998, sameF9_fc]
  go_enter Try.func195, Try.ntmps195
  go_wp2_with fail
  go_step3
  go_wp2_with fail
  refine (whole_any _ 0 _ rfl).mono ?_
  rintro _ w2 ⟨rfl, hb⟩
  have K3 := (K3.below hb K3.lt).alloc (.cells (mk 2 (fcF (0, 1))) 155)
  have K5 := (K5.below hb K5.lt).alloc (.cells (mk 2 (fcF (0, 1))) 155)
  have hq : w.heap.size + 1 + 1 < w2.heap.size := (K7.below hb K7.lt).lt
  have K7 := (K7.below hb K7.lt).alloc (.cells (mk 2 (fcF (0, 1))) 155)
  have K10 : Blk (w2.alloc (.cells (mk 2 (fcF (0, 1))) 155)) w2.heap.size 2 (fcF bm0.v) 155 := Blk.new w2 2 (fcF (0, 1)) 155
  have HB : Hid (Below w.heap.size w w2) := HB.out.trans (hb.mono HB.out.size)
  have HB : Hid (Below w.heap.size w (w2.alloc (.cells (mk 2 (fcF (0, 1))) 155))) := HB.out.alloc HB.out.size _
  clear hb
  go_wp2_with fail
  go_step3
  go_wp2_with fail
  generalize w2.alloc (.cells (mk 2 (fcF (0, 1))) 155) = w3 at *
  generalize w2.heap.size = q at *
  go_loopg [9, 11, 16] 4 (fun gk s9 s11 s16 wr => ∃ (k : Nat) (S : Bm), k + gk = 4 ∧ s16 = .int .i64 k ∧ Hid (S = bmF f V k) ∧ s9 = .int .i64 (S.d : Int) ∧ s11 = .bool S.ok ∧ Blk wr w.heap.size 16 f 47 ∧ Blk wr (w.heap.size + 1) 2 (fcF e) 155 ∧ Blk wr (w.heap.size + 1 + 1) 2 (fun _ => 0) 155 ∧ Blk wr q 2 (fcF S.v) 155 ∧ Hid (Below w.heap.size w wr))
  case atStart => exact ⟨0, bm0, by omega, rfl, rfl, rfl, rfl, K3, K5, K7, K10, HB⟩
  case round =>
    obtain ⟨k, S, hkg, rfl, HS, rfl, rfl, K3, K5, K7, K10, HB⟩ := hrel
    cases gk with
    | zero =>
      have hk : ¬ ((k : Int) < 4) := by omega
      obtain rfl : k = 4 := by omega
      clear hkg hk
      have HE : Hid (bmF f V 4 = S) := HS.out.symm
      go_wp2_with fail
      refine wp_region_held_drew (S := fun W => (∃ g, Blk W (w.heap.size + 1 + 1) 2 g 155) ∧ Blk W q 2 (fcF S.v) 155) (by kernel_rfl) (⟨⟨_, K7.drew⟩, K10.drew⟩) (fun hHeld => ?_)
      have K7 : Blk wr.drew (w.heap.size + 1 + 1) 2 (fun _ => 0) 155 := K7.drew
      have K10 : Blk wr.drew q 2 (fcF S.v) 155 := K10.drew
      have HB : Hid (Below w.heap.size w wr.drew) := HB.out.drew
      generalize wr.drew = x0 at *
      refine wpAnyH_take (i := 0) (oi := { dst := some 42, op := _, type := _, pos := _, after := _, guard := _ }) (v := .int .i64 (S.d : Int)) rfl (by kernel_rfl) (by kernel_rfl) (by kernel_rfl) (fun _ _ _ h => h) (Or.inl ⟨by rfl, by intro w hSw; clear hSw; go_simp; (try with_reducible rfl)⟩) (by assumption) ?_
      try simp only [Act.put, List.setIfInBounds_toArray, List.set_cons_zero, List.set_cons_succ]
      refine wpAnyH_take (i := 1) (oi := { dst := some 43, op := _, type := _, pos := _, after := _, guard := _ }) (v := .agg (mk 2 (fcF S.v))) rfl (by kernel_rfl) (by kernel_rfl) (by kernel_rfl) (fun _ _ _ h => h) (Or.inl ⟨by rfl, fun _ q => execF9 q.2 rfl rfl⟩) (by assumption) ?_
      try simp only [Act.put, List.setIfInBounds_toArray, List.set_cons_zero, List.set_cons_succ]
      refine wpAnyH_take (i := 2) (oi := { dst := some 44, op := _, type := _, pos := _, after := _, guard := _ }) (v := .bool S.ok) rfl (by kernel_rfl) (by kernel_rfl) (by kernel_rfl) (fun _ _ _ h => h) (Or.inl ⟨by rfl, by intro w hSw; clear hSw; go_simp; (try with_reducible rfl)⟩) (by assumption) ?_
      try simp only [Act.put, List.setIfInBounds_toArray, List.set_cons_zero, List.set_cons_succ]
      refine wpAnyH_take (i := 3) (oi := { dst := some 6, op := _, type := _, pos := _, after := _, guard := _ }) (v := .int .i64 (S.d : Int)) rfl (by kernel_rfl) (by kernel_rfl) (by kernel_rfl) (fun _ _ _ h => h) (Or.inl ⟨by rfl, by intro w hSw; clear hSw; go_simp; (try with_reducible rfl)⟩) (by assumption) ?_
      try simp only [Act.put, List.setIfInBounds_toArray, List.set_cons_zero, List.set_cons_succ]
      refine wpAnyH_ready (rs := [4]) (by kernel_rfl) (by simp) ?_
      refine AllReadyH.cons rfl (fun K hK => ?_) AllReadyH.nil
      have st1 := run_store_blk (P := Try.prog) (g := fcF S.v) K7
      have ms1 : (mk 2 (fcF S.v)).size = 2 := mk_size 2 _
      go_simp
      clear st1 ms1 hHeld
      have K10 := K10.rowOther (w.heap.size + 1 + 1) (mk 2 (fcF S.v)) (by omega)
      have HB : Hid (Below w.heap.size w (x0.setRow (w.heap.size + 1 + 1) (mk 2 (fcF S.v)))) := below_setRow HB.out (by omega) _
      have K7 := K7.row 2 (fcF S.v)
      generalize x0.setRow (w.heap.size + 1 + 1) (mk 2 (fcF S.v)) = x1 at *
      refine hK.out _ _ ⟨⟨_, K7⟩, K10⟩ (fun hHeld => ?_)
      clear hK K
      try simp only [Act.put, List.setIfInBounds_toArray, List.set_cons_zero, List.set_cons_succ]
      refine wpAnyH_take (i := 5) (oi := { dst := some 8, op := _, type := _, pos := _, after := _, guard := _ }) (v := .bool S.ok) rfl (by kernel_rfl) (by kernel_rfl) (by kernel_rfl) (fun _ _ _ h => h) (Or.inl ⟨by rfl, by intro w hSw; clear hSw; go_simp; (try with_reducible rfl)⟩) (by assumption) ?_
      try simp only [Act.put, List.setIfInBounds_toArray, List.set_cons_zero, List.set_cons_succ]
      refine wpAnyH_done (by kernel_rfl) ?_ _
      clear hHeld
      go_wp2_with fail
      try simp only [Exit.inBlock, Exit.then, Exit.noGoto]
      exact ret_tct Try.underlying155 rfl sizeF rfl rfl rfl K7 ⟨by rw [HE.out] <;> rfl, HB.out⟩
    | succ gk2 =>
      have hk8 : (k : Int) < 4 := by omega
      have hk0 : (0 : Int) ≤ (k : Int) := by omega
      have hk3 : (k : Int) ≤ 3 := by omega
      have hk4 : k < 4 := by omega
      go_wp2_with ((with_reducible show wpList _ _ _ (Oper.mk _ (Op.load 47 _) _ _ _ _ :: _) _ _); refine loadB (K3) rfl rfl rfl ?_)
      refine (slideTo_nat f k _ HV.out hk0 hk3).mono ?_
      rintro _ w4 ⟨rfl, hb⟩
      have hq4 : q < w4.heap.size := (K10.below hb K10.lt).lt
      have K3 := (K3.below hb K3.lt).alloc (.cells (mk 18 (slideV f k)) 144)
      have K5 := (K5.below hb K5.lt).alloc (.cells (mk 18 (slideV f k)) 144)
      have K7 := (K7.below hb K7.lt).alloc (.cells (mk 18 (slideV f k)) 144)
      have K10 := (K10.below hb K10.lt).alloc (.cells (mk 18 (slideV f k)) 144)
      have K13 := Blk.new w4 18 (slideV f k) 144
      have HB : Hid (Below w.heap.size w w4) := HB.out.trans (hb.mono HB.out.size)
      have HB : Hid (Below w.heap.size w (w4.alloc (.cells (mk 18 (slideV f k)) 144))) := HB.out.alloc HB.out.size _
      clear hb
      by_cases hm : isMv f k = true
      · have hq2 : sameB (slideB f k) f = false := by simpa [isMv] using hm
        have HM := Lib.hid hm
        have HCK := Lib.hid (fun W (hB : Below w.heap.size w W) => HCC.out k W hk4 hm hB)
        obtain ⟨hv0, hv1, hv2⟩ := HBD.out k hk4 hm
        obtain ⟨hs1, hs2⟩ := HBM.out k (by omega)
        rw [← HS.out] at hs1 hs2
        have HLS := Lib.hid (fun w => isLess_any S.v (V k) w (fc_mul hs1 hv2) (fc_mul hv1 hs2))
        clear hm hv0 hv1 hv2 hs1 hs2
        go_wp2_with (first | ((with_reducible show wpList _ _ _ (Oper.mk _ (Op.load 47 _) _ _ _ _ :: _) _ _); refine loadSB9 K13 rfl rfl rfl ?_) | ((with_reducible show wpList _ _ _ (Oper.mk _ (Op.load 47 _) _ _ _ _ :: _) _ _); refine loadB (K3) rfl rfl rfl ?_) | ((with_reducible show wpList _ _ _ (Oper.mk _ (Op.load 144 _) _ _ _ _ :: _) _ _); refine loadS (K13) rfl rfl rfl ?_))
        refine (HCK.out _ HB.out).mono ?_
        rintro _ w5 ⟨rfl, hb⟩
        have hq5 : q < w5.heap.size := (K10.below hb K10.lt).lt
        have K3 := (K3.below hb K3.lt).alloc (.cells (mk 2 (fcF (V k))) 155)
        have K5 := (K5.below hb K5.lt).alloc (.cells (mk 2 (fcF (V k))) 155)
        have K7 := (K7.below hb K7.lt).alloc (.cells (mk 2 (fcF (V k))) 155)
        have K10 := (K10.below hb K10.lt).alloc (.cells (mk 2 (fcF (V k))) 155)
        have K13 := (K13.below hb K13.lt).alloc (.cells (mk 2 (fcF (V k))) 155)
        have K14 := Blk.new w5 2 (fcF (V k)) 155
        have HB : Hid (Below w.heap.size w w5) := HB.out.trans (hb.mono HB.out.size)
        have HB : Hid (Below w.heap.size w (w5.alloc (.cells (mk 2 (fcF (V k))) 155))) := HB.out.alloc HB.out.size _
        clear hb
        have HVK : Hid (∃ p, p = V k) := ⟨_, rfl⟩
        by_cases hbt : S.ok = false ∨ ltF S.v (V k) = true
        · have HN : Hid (bmF f V (k + 1) = ⟨k, V k, true⟩) := bm_yes HM.out (by rw [← HS.out]; exact hbt)
          by_cases hbo : S.ok = false
          · clear hbt
            rw [hbo]
            go_wp2_with (first | ((with_reducible show wpList _ _ _ (Oper.mk _ (Op.load 155 _) _ _ _ (some _) :: _) _ _); refine loadgF (K10) rfl rfl rfl ?_) | ((with_reducible show wpList _ _ _ (Oper.mk _ (Op.load 155 _) _ _ _ (some _) :: _) _ _); refine loadgF (K14) rfl rfl rfl ?_))
            generalize w5.alloc (.cells (mk 2 (fcF (V k))) 155) = w6 at *
            refine wp_region_held_drew (S := fun W => Blk W w5.heap.size 2 (fcF (V k)) 155) (by kernel_rfl) (K14.drew) (fun hHeld => ?_)
            have K3 := K3.drew
            have K5 := K5.drew
            have K7 := K7.drew
            have K10 := K10.drew
            have K14 := K14.drew
            have HB : Hid (Below w.heap.size w w6.drew) := HB.out.drew
            clear hHeld
            generalize w6.drew = x1 at *
            have hHeld : Blk x1 w5.heap.size 2 (fcF (V k)) 155 := K14
            refine wpAnyH_take (i := 0) (oi := { dst := some 36, op := _, type := _, pos := _, after := _, guard := _ }) (v := .int .i64 (k : Int)) rfl (by kernel_rfl) (by kernel_rfl) (by kernel_rfl) (fun _ _ _ h => h) (Or.inl ⟨by rfl, by intro w hSw; clear hSw; go_simp; (try with_reducible rfl)⟩) (by assumption) ?_
            try simp only [Act.put, List.setIfInBounds_toArray, List.set_cons_zero, List.set_cons_succ]
            refine wpAnyH_take (i := 1) (oi := { dst := some 37, op := _, type := _, pos := _, after := _, guard := _ }) (v := .agg (mk 2 (fcF (V k)))) rfl (by kernel_rfl) (by kernel_rfl) (by kernel_rfl) (fun _ _ _ h => h) (Or.inl ⟨by rfl, fun _ q => execF9 q rfl rfl⟩) (by assumption) ?_
            try simp only [Act.put, List.setIfInBounds_toArray, List.set_cons_zero, List.set_cons_succ]
            refine wpAnyH_take (i := 2) (oi := { dst := some 9, op := _, type := _, pos := _, after := _, guard := _ }) (v := .int .i64 (k : Int)) rfl (by kernel_rfl) (by kernel_rfl) (by kernel_rfl) (fun _ _ _ h => h) (Or.inl ⟨by rfl, by intro w hSw; clear hSw; go_simp; (try with_reducible rfl)⟩) (by assumption) ?_
            try simp only [Act.put, List.setIfInBounds_toArray, List.set_cons_zero, List.set_cons_succ]
            refine wpAnyH_ready (rs := [3]) (by kernel_rfl) (by simp) ?_
            refine AllReadyH.cons rfl (fun K hK => ?_) AllReadyH.nil
            have st1 := run_store_blk (P := Try.prog) (g := fcF (V k)) K10
            have ms1 : (mk 2 (fcF (V k))).size = 2 := mk_size 2 _
            go_simp
            clear st1 ms1 hHeld
            have K3 := K3.rowOther q (mk 2 (fcF (V k))) (by omega)
            have K5 := K5.rowOther q (mk 2 (fcF (V k))) (by omega)
            have K7 := K7.rowOther q (mk 2 (fcF (V k))) (by omega)
            have K14 := K14.rowOther q (mk 2 (fcF (V k))) (by omega)
            have HB : Hid (Below w.heap.size w (x1.setRow q (mk 2 (fcF (V k))))) := below_setRow HB.out (by omega) _
            have K10 : Blk (x1.setRow q (mk 2 (fcF (V k)))) q 2 (fcF (Bm.mk k (V k) true).v) 155 := K10.row 2 (fcF (V k))
            generalize x1.setRow q (mk 2 (fcF (V k))) = x2 at *
            refine hK.out _ _ K14 (fun hHeld => ?_)
            clear hK K
            try simp only [Act.put, List.setIfInBounds_toArray, List.set_cons_zero, List.set_cons_succ]
            refine wpAnyH_take (i := 4) (oi := { dst := some 11, op := _, type := _, pos := _, after := _, guard := _ }) (v := .bool true) rfl (by kernel_rfl) (by kernel_rfl) (by kernel_rfl) (fun _ _ _ h => h) (Or.inl ⟨by rfl, by intro w hSw; clear hSw; go_simp; (try with_reducible rfl)⟩) (by assumption) ?_
            try simp only [Act.put, List.setIfInBounds_toArray, List.set_cons_zero, List.set_cons_succ]
            refine wpAnyH_done (by kernel_rfl) ?_ _
            clear hHeld
            by_cases hst : (Bm.mk k (V k) true).v = e
            · have hd : decide ((Bm.mk k (V k) true).v = e) = true := decide_eq_true hst
              have HE : Hid (bmF f V 4 = (Bm.mk k (V k) true)) := by
                have h1 := HST.out (k + 1) (by omega)
                rw [HN.out] at h1
                exact h1 rfl hst
              clear hst
              go_wp2_with (first | ((with_reducible show wpList _ _ _ (Oper.mk _ (Op.load 155 _) _ _ _ _ :: _) _ _); refine loadF (K10) rfl rfl rfl ?_) | ((with_reducible show wpList _ _ _ (Oper.mk _ (Op.load 155 _) _ _ _ _ :: _) _ _); refine loadF (K5) rfl rfl rfl ?_))
              refine wp_region_held_drew (S := fun W => (∃ g, Blk W (w.heap.size + 1 + 1) 2 g 155) ∧ Blk W q 2 (fcF (Bm.mk k (V k) true).v) 155) (by kernel_rfl) (⟨⟨_, K7.drew⟩, K10.drew⟩) (fun hHeld => ?_)
              have K7 : Blk x2.drew (w.heap.size + 1 + 1) 2 (fun _ => 0) 155 := K7.drew
              have K10 : Blk x2.drew q 2 (fcF (Bm.mk k (V k) true).v) 155 := K10.drew
              have HB : Hid (Below w.heap.size w x2.drew) := HB.out.drew
              generalize x2.drew = x0 at *
              refine wpAnyH_take (i := 0) (oi := { dst := some 42, op := _, type := _, pos := _, after := _, guard := _ }) (v := .int .i64 ((Bm.mk k (V k) true).d : Int)) rfl (by kernel_rfl) (by kernel_rfl) (by kernel_rfl) (fun _ _ _ h => h) (Or.inl ⟨by rfl, by intro w hSw; clear hSw; go_simp; (try with_reducible rfl)⟩) (by assumption) ?_
              try simp only [Act.put, List.setIfInBounds_toArray, List.set_cons_zero, List.set_cons_succ]
              refine wpAnyH_take (i := 1) (oi := { dst := some 43, op := _, type := _, pos := _, after := _, guard := _ }) (v := .agg (mk 2 (fcF (Bm.mk k (V k) true).v))) rfl (by kernel_rfl) (by kernel_rfl) (by kernel_rfl) (fun _ _ _ h => h) (Or.inl ⟨by rfl, fun _ q => execF9 q.2 rfl rfl⟩) (by assumption) ?_
              try simp only [Act.put, List.setIfInBounds_toArray, List.set_cons_zero, List.set_cons_succ]
              refine wpAnyH_take (i := 2) (oi := { dst := some 44, op := _, type := _, pos := _, after := _, guard := _ }) (v := .bool (Bm.mk k (V k) true).ok) rfl (by kernel_rfl) (by kernel_rfl) (by kernel_rfl) (fun _ _ _ h => h) (Or.inl ⟨by rfl, by intro w hSw; clear hSw; go_simp; (try with_reducible rfl)⟩) (by assumption) ?_
              try simp only [Act.put, List.setIfInBounds_toArray, List.set_cons_zero, List.set_cons_succ]
              refine wpAnyH_take (i := 3) (oi := { dst := some 6, op := _, type := _, pos := _, after := _, guard := _ }) (v := .int .i64 ((Bm.mk k (V k) true).d : Int)) rfl (by kernel_rfl) (by kernel_rfl) (by kernel_rfl) (fun _ _ _ h => h) (Or.inl ⟨by rfl, by intro w hSw; clear hSw; go_simp; (try with_reducible rfl)⟩) (by assumption) ?_
              try simp only [Act.put, List.setIfInBounds_toArray, List.set_cons_zero, List.set_cons_succ]
              refine wpAnyH_ready (rs := [4]) (by kernel_rfl) (by simp) ?_
              refine AllReadyH.cons rfl (fun K hK => ?_) AllReadyH.nil
              have st1 := run_store_blk (P := Try.prog) (g := fcF (Bm.mk k (V k) true).v) K7
              have ms1 : (mk 2 (fcF (Bm.mk k (V k) true).v)).size = 2 := mk_size 2 _
              go_simp
              clear st1 ms1 hHeld
              have K10 := K10.rowOther (w.heap.size + 1 + 1) (mk 2 (fcF (Bm.mk k (V k) true).v)) (by omega)
              have HB : Hid (Below w.heap.size w (x0.setRow (w.heap.size + 1 + 1) (mk 2 (fcF (Bm.mk k (V k) true).v)))) := below_setRow HB.out (by omega) _
              have K7 := K7.row 2 (fcF (Bm.mk k (V k) true).v)
              generalize x0.setRow (w.heap.size + 1 + 1) (mk 2 (fcF (Bm.mk k (V k) true).v)) = x1 at *
              refine hK.out _ _ ⟨⟨_, K7⟩, K10⟩ (fun hHeld => ?_)
              clear hK K
              try simp only [Act.put, List.setIfInBounds_toArray, List.set_cons_zero, List.set_cons_succ]
              refine wpAnyH_take (i := 5) (oi := { dst := some 8, op := _, type := _, pos := _, after := _, guard := _ }) (v := .bool (Bm.mk k (V k) true).ok) rfl (by kernel_rfl) (by kernel_rfl) (by kernel_rfl) (fun _ _ _ h => h) (Or.inl ⟨by rfl, by intro w hSw; clear hSw; go_simp; (try with_reducible rfl)⟩) (by assumption) ?_
              try simp only [Act.put, List.setIfInBounds_toArray, List.set_cons_zero, List.set_cons_succ]
              refine wpAnyH_done (by kernel_rfl) ?_ _
              clear hHeld
              go_wp2_with fail
              try simp only [Exit.inBlock, Exit.then, Exit.noGoto]
              exact ret_tct Try.underlying155 rfl sizeF rfl rfl rfl K7 ⟨by rw [HE.out] <;> rfl, HB.out⟩

            · have hd : decide ((Bm.mk k (V k) true).v = e) = false := decide_eq_false hst
              clear hst
              go_wp2_with (first | ((with_reducible show wpList _ _ _ (Oper.mk _ (Op.load 155 _) _ _ _ _ :: _) _ _); refine loadF (K10) rfl rfl rfl ?_) | ((with_reducible show wpList _ _ _ (Oper.mk _ (Op.load 155 _) _ _ _ _ :: _) _ _); refine loadF (K5) rfl rfl rfl ?_))
              go_roundg gk2
              case rel => exact ⟨k + 1, (Bm.mk k (V k) true), by omega, by go_num, HN.out.symm, rfl, rfl, K3, K5, K7, K10, HB⟩
              case measure => omega
          · have hbl : ltF S.v (V k) = true := hbt.resolve_left hbo
            have hbo : S.ok = true := by simpa using hbo
            clear hbt
            rw [hbo]
            go_wp2_with (first | ((with_reducible show wpList _ _ _ (Oper.mk _ (Op.load 155 _) _ _ _ (some _) :: _) _ _); refine loadgF (K10) rfl rfl rfl ?_) | ((with_reducible show wpList _ _ _ (Oper.mk _ (Op.load 155 _) _ _ _ (some _) :: _) _ _); refine loadgF (K14) rfl rfl rfl ?_))
            refine (HLS.out _).mono ?_
            rintro _ w7 ⟨rfl, hb⟩
            have K3 := K3.below hb K3.lt
            have K5 := K5.below hb K5.lt
            have K7 := K7.below hb K7.lt
            have K10 := K10.below hb K10.lt
            have K14 := K14.below hb K14.lt
            have HB : Hid (Below w.heap.size w w7) := HB.out.trans (hb.mono HB.out.size)
            clear hb
            go_wp2_with fail
            refine wp_region_held_drew (S := fun W => Blk W w5.heap.size 2 (fcF (V k)) 155) (by kernel_rfl) (K14.drew) (fun hHeld => ?_)
            have K3 := K3.drew
            have K5 := K5.drew
            have K7 := K7.drew
            have K10 := K10.drew
            have K14 := K14.drew
            have HB : Hid (Below w.heap.size w w7.drew) := HB.out.drew
            clear hHeld
            generalize w7.drew = x1 at *
            have hHeld : Blk x1 w5.heap.size 2 (fcF (V k)) 155 := K14
            refine wpAnyH_take (i := 0) (oi := { dst := some 36, op := _, type := _, pos := _, after := _, guard := _ }) (v := .int .i64 (k : Int)) rfl (by kernel_rfl) (by kernel_rfl) (by kernel_rfl) (fun _ _ _ h => h) (Or.inl ⟨by rfl, by intro w hSw; clear hSw; go_simp; (try with_reducible rfl)⟩) (by assumption) ?_
            try simp only [Act.put, List.setIfInBounds_toArray, List.set_cons_zero, List.set_cons_succ]
            refine wpAnyH_take (i := 1) (oi := { dst := some 37, op := _, type := _, pos := _, after := _, guard := _ }) (v := .agg (mk 2 (fcF (V k)))) rfl (by kernel_rfl) (by kernel_rfl) (by kernel_rfl) (fun _ _ _ h => h) (Or.inl ⟨by rfl, fun _ q => execF9 q rfl rfl⟩) (by assumption) ?_
            try simp only [Act.put, List.setIfInBounds_toArray, List.set_cons_zero, List.set_cons_succ]
            refine wpAnyH_take (i := 2) (oi := { dst := some 9, op := _, type := _, pos := _, after := _, guard := _ }) (v := .int .i64 (k : Int)) rfl (by kernel_rfl) (by kernel_rfl) (by kernel_rfl) (fun _ _ _ h => h) (Or.inl ⟨by rfl, by intro w hSw; clear hSw; go_simp; (try with_reducible rfl)⟩) (by assumption) ?_
            try simp only [Act.put, List.setIfInBounds_toArray, List.set_cons_zero, List.set_cons_succ]
            refine wpAnyH_ready (rs := [3]) (by kernel_rfl) (by simp) ?_
            refine AllReadyH.cons rfl (fun K hK => ?_) AllReadyH.nil
            have st1 := run_store_blk (P := Try.prog) (g := fcF (V k)) K10
            have ms1 : (mk 2 (fcF (V k))).size = 2 := mk_size 2 _
            go_simp
            clear st1 ms1 hHeld
            have K3 := K3.rowOther q (mk 2 (fcF (V k))) (by omega)
            have K5 := K5.rowOther q (mk 2 (fcF (V k))) (by omega)
            have K7 := K7.rowOther q (mk 2 (fcF (V k))) (by omega)
            have K14 := K14.rowOther q (mk 2 (fcF (V k))) (by omega)
            have HB : Hid (Below w.heap.size w (x1.setRow q (mk 2 (fcF (V k))))) := below_setRow HB.out (by omega) _
            have K10 : Blk (x1.setRow q (mk 2 (fcF (V k)))) q 2 (fcF (Bm.mk k (V k) true).v) 155 := K10.row 2 (fcF (V k))
            generalize x1.setRow q (mk 2 (fcF (V k))) = x2 at *
            refine hK.out _ _ K14 (fun hHeld => ?_)
            clear hK K
            try simp only [Act.put, List.setIfInBounds_toArray, List.set_cons_zero, List.set_cons_succ]
            refine wpAnyH_take (i := 4) (oi := { dst := some 11, op := _, type := _, pos := _, after := _, guard := _ }) (v := .bool true) rfl (by kernel_rfl) (by kernel_rfl) (by kernel_rfl) (fun _ _ _ h => h) (Or.inl ⟨by rfl, by intro w hSw; clear hSw; go_simp; (try with_reducible rfl)⟩) (by assumption) ?_
            try simp only [Act.put, List.setIfInBounds_toArray, List.set_cons_zero, List.set_cons_succ]
            refine wpAnyH_done (by kernel_rfl) ?_ _
            clear hHeld
            by_cases hst : (Bm.mk k (V k) true).v = e
            · have hd : decide ((Bm.mk k (V k) true).v = e) = true := decide_eq_true hst
              have HE : Hid (bmF f V 4 = (Bm.mk k (V k) true)) := by
                have h1 := HST.out (k + 1) (by omega)
                rw [HN.out] at h1
                exact h1 rfl hst
              clear hst
              go_wp2_with (first | ((with_reducible show wpList _ _ _ (Oper.mk _ (Op.load 155 _) _ _ _ _ :: _) _ _); refine loadF (K10) rfl rfl rfl ?_) | ((with_reducible show wpList _ _ _ (Oper.mk _ (Op.load 155 _) _ _ _ _ :: _) _ _); refine loadF (K5) rfl rfl rfl ?_))
              refine wp_region_held_drew (S := fun W => (∃ g, Blk W (w.heap.size + 1 + 1) 2 g 155) ∧ Blk W q 2 (fcF (Bm.mk k (V k) true).v) 155) (by kernel_rfl) (⟨⟨_, K7.drew⟩, K10.drew⟩) (fun hHeld => ?_)
              have K7 : Blk x2.drew (w.heap.size + 1 + 1) 2 (fun _ => 0) 155 := K7.drew
              have K10 : Blk x2.drew q 2 (fcF (Bm.mk k (V k) true).v) 155 := K10.drew
              have HB : Hid (Below w.heap.size w x2.drew) := HB.out.drew
              generalize x2.drew = x0 at *
              refine wpAnyH_take (i := 0) (oi := { dst := some 42, op := _, type := _, pos := _, after := _, guard := _ }) (v := .int .i64 ((Bm.mk k (V k) true).d : Int)) rfl (by kernel_rfl) (by kernel_rfl) (by kernel_rfl) (fun _ _ _ h => h) (Or.inl ⟨by rfl, by intro w hSw; clear hSw; go_simp; (try with_reducible rfl)⟩) (by assumption) ?_
              try simp only [Act.put, List.setIfInBounds_toArray, List.set_cons_zero, List.set_cons_succ]
              refine wpAnyH_take (i := 1) (oi := { dst := some 43, op := _, type := _, pos := _, after := _, guard := _ }) (v := .agg (mk 2 (fcF (Bm.mk k (V k) true).v))) rfl (by kernel_rfl) (by kernel_rfl) (by kernel_rfl) (fun _ _ _ h => h) (Or.inl ⟨by rfl, fun _ q => execF9 q.2 rfl rfl⟩) (by assumption) ?_
              try simp only [Act.put, List.setIfInBounds_toArray, List.set_cons_zero, List.set_cons_succ]
              refine wpAnyH_take (i := 2) (oi := { dst := some 44, op := _, type := _, pos := _, after := _, guard := _ }) (v := .bool (Bm.mk k (V k) true).ok) rfl (by kernel_rfl) (by kernel_rfl) (by kernel_rfl) (fun _ _ _ h => h) (Or.inl ⟨by rfl, by intro w hSw; clear hSw; go_simp; (try with_reducible rfl)⟩) (by assumption) ?_
              try simp only [Act.put, List.setIfInBounds_toArray, List.set_cons_zero, List.set_cons_succ]
              refine wpAnyH_take (i := 3) (oi := { dst := some 6, op := _, type := _, pos := _, after := _, guard := _ }) (v := .int .i64 ((Bm.mk k (V k) true).d : Int)) rfl (by kernel_rfl) (by kernel_rfl) (by kernel_rfl) (fun _ _ _ h => h) (Or.inl ⟨by rfl, by intro w hSw; clear hSw; go_simp; (try with_reducible rfl)⟩) (by assumption) ?_
              try simp only [Act.put, List.setIfInBounds_toArray, List.set_cons_zero, List.set_cons_succ]
              refine wpAnyH_ready (rs := [4]) (by kernel_rfl) (by simp) ?_
              refine AllReadyH.cons rfl (fun K hK => ?_) AllReadyH.nil
              have st1 := run_store_blk (P := Try.prog) (g := fcF (Bm.mk k (V k) true).v) K7
              have ms1 : (mk 2 (fcF (Bm.mk k (V k) true).v)).size = 2 := mk_size 2 _
              go_simp
              clear st1 ms1 hHeld
              have K10 := K10.rowOther (w.heap.size + 1 + 1) (mk 2 (fcF (Bm.mk k (V k) true).v)) (by omega)
              have HB : Hid (Below w.heap.size w (x0.setRow (w.heap.size + 1 + 1) (mk 2 (fcF (Bm.mk k (V k) true).v)))) := below_setRow HB.out (by omega) _
              have K7 := K7.row 2 (fcF (Bm.mk k (V k) true).v)
              generalize x0.setRow (w.heap.size + 1 + 1) (mk 2 (fcF (Bm.mk k (V k) true).v)) = x1 at *
              refine hK.out _ _ ⟨⟨_, K7⟩, K10⟩ (fun hHeld => ?_)
              clear hK K
              try simp only [Act.put, List.setIfInBounds_toArray, List.set_cons_zero, List.set_cons_succ]
              refine wpAnyH_take (i := 5) (oi := { dst := some 8, op := _, type := _, pos := _, after := _, guard := _ }) (v := .bool (Bm.mk k (V k) true).ok) rfl (by kernel_rfl) (by kernel_rfl) (by kernel_rfl) (fun _ _ _ h => h) (Or.inl ⟨by rfl, by intro w hSw; clear hSw; go_simp; (try with_reducible rfl)⟩) (by assumption) ?_
              try simp only [Act.put, List.setIfInBounds_toArray, List.set_cons_zero, List.set_cons_succ]
              refine wpAnyH_done (by kernel_rfl) ?_ _
              clear hHeld
              go_wp2_with fail
              try simp only [Exit.inBlock, Exit.then, Exit.noGoto]
              exact ret_tct Try.underlying155 rfl sizeF rfl rfl rfl K7 ⟨by rw [HE.out] <;> rfl, HB.out⟩

            · have hd : decide ((Bm.mk k (V k) true).v = e) = false := decide_eq_false hst
              clear hst
              go_wp2_with (first | ((with_reducible show wpList _ _ _ (Oper.mk _ (Op.load 155 _) _ _ _ _ :: _) _ _); refine loadF (K10) rfl rfl rfl ?_) | ((with_reducible show wpList _ _ _ (Oper.mk _ (Op.load 155 _) _ _ _ _ :: _) _ _); refine loadF (K5) rfl rfl rfl ?_))
              go_roundg gk2
              case rel => exact ⟨k + 1, (Bm.mk k (V k) true), by omega, by go_num, HN.out.symm, rfl, rfl, K3, K5, K7, K10, HB⟩
              case measure => omega
        · have HN : Hid (bmF f V (k + 1) = S) := by
            have e1 := bm_no (f := f) (V := V) HM.out (by rw [← HS.out]; exact hbt)
            show _ = _; rw [e1]; exact HS.out.symm
          simp only [not_or, Bool.not_eq_false, Bool.not_eq_true] at hbt
          obtain ⟨hbo, hbl⟩ := hbt
          have HOK := Lib.hid hbo
          go_wp2_with (first | ((with_reducible show wpList _ _ _ (Oper.mk _ (Op.load 155 _) _ _ _ (some _) :: _) _ _); refine loadgF (K10) rfl rfl rfl ?_) | ((with_reducible show wpList _ _ _ (Oper.mk _ (Op.load 155 _) _ _ _ (some _) :: _) _ _); refine loadgF (K14) rfl rfl rfl ?_))
          refine (HLS.out _).mono ?_
          rintro _ w7 ⟨rfl, hb⟩
          have K3 := K3.below hb K3.lt
          have K5 := K5.below hb K5.lt
          have K7 := K7.below hb K7.lt
          have K10 := K10.below hb K10.lt
          have K14 := K14.below hb K14.lt
          have HB : Hid (Below w.heap.size w w7) := HB.out.trans (hb.mono HB.out.size)
          clear hb
          by_cases hst : S.v = e
          · have hd : decide (S.v = e) = true := decide_eq_true hst
            have HE : Hid (bmF f V 4 = S) := by
              have h1 := HST.out (k + 1) (by omega)
              rw [HN.out] at h1
              exact h1 HOK.out hst
            clear hst
            go_wp2_with (first | ((with_reducible show wpList _ _ _ (Oper.mk _ (Op.load 155 _) _ _ _ _ :: _) _ _); refine loadF (K10) rfl rfl rfl ?_) | ((with_reducible show wpList _ _ _ (Oper.mk _ (Op.load 155 _) _ _ _ _ :: _) _ _); refine loadF (K5) rfl rfl rfl ?_))
            refine wp_region_held_drew (S := fun W => (∃ g, Blk W (w.heap.size + 1 + 1) 2 g 155) ∧ Blk W q 2 (fcF S.v) 155) (by kernel_rfl) (⟨⟨_, K7.drew⟩, K10.drew⟩) (fun hHeld => ?_)
            have K7 : Blk w7.drew (w.heap.size + 1 + 1) 2 (fun _ => 0) 155 := K7.drew
            have K10 : Blk w7.drew q 2 (fcF S.v) 155 := K10.drew
            have HB : Hid (Below w.heap.size w w7.drew) := HB.out.drew
            generalize w7.drew = x0 at *
            refine wpAnyH_take (i := 0) (oi := { dst := some 42, op := _, type := _, pos := _, after := _, guard := _ }) (v := .int .i64 (S.d : Int)) rfl (by kernel_rfl) (by kernel_rfl) (by kernel_rfl) (fun _ _ _ h => h) (Or.inl ⟨by rfl, by intro w hSw; clear hSw; go_simp; (try with_reducible rfl)⟩) (by assumption) ?_
            try simp only [Act.put, List.setIfInBounds_toArray, List.set_cons_zero, List.set_cons_succ]
            refine wpAnyH_take (i := 1) (oi := { dst := some 43, op := _, type := _, pos := _, after := _, guard := _ }) (v := .agg (mk 2 (fcF S.v))) rfl (by kernel_rfl) (by kernel_rfl) (by kernel_rfl) (fun _ _ _ h => h) (Or.inl ⟨by rfl, fun _ q => execF9 q.2 rfl rfl⟩) (by assumption) ?_
            try simp only [Act.put, List.setIfInBounds_toArray, List.set_cons_zero, List.set_cons_succ]
            refine wpAnyH_take (i := 2) (oi := { dst := some 44, op := _, type := _, pos := _, after := _, guard := _ }) (v := .bool S.ok) rfl (by kernel_rfl) (by kernel_rfl) (by kernel_rfl) (fun _ _ _ h => h) (Or.inl ⟨by rfl, by intro w hSw; clear hSw; go_simp; (try with_reducible rfl)⟩) (by assumption) ?_
            try simp only [Act.put, List.setIfInBounds_toArray, List.set_cons_zero, List.set_cons_succ]
            refine wpAnyH_take (i := 3) (oi := { dst := some 6, op := _, type := _, pos := _, after := _, guard := _ }) (v := .int .i64 (S.d : Int)) rfl (by kernel_rfl) (by kernel_rfl) (by kernel_rfl) (fun _ _ _ h => h) (Or.inl ⟨by rfl, by intro w hSw; clear hSw; go_simp; (try with_reducible rfl)⟩) (by assumption) ?_
            try simp only [Act.put, List.setIfInBounds_toArray, List.set_cons_zero, List.set_cons_succ]
            refine wpAnyH_ready (rs := [4]) (by kernel_rfl) (by simp) ?_
            refine AllReadyH.cons rfl (fun K hK => ?_) AllReadyH.nil
            have st1 := run_store_blk (P := Try.prog) (g := fcF S.v) K7
            have ms1 : (mk 2 (fcF S.v)).size = 2 := mk_size 2 _
            go_simp
            clear st1 ms1 hHeld
            have K10 := K10.rowOther (w.heap.size + 1 + 1) (mk 2 (fcF S.v)) (by omega)
            have HB : Hid (Below w.heap.size w (x0.setRow (w.heap.size + 1 + 1) (mk 2 (fcF S.v)))) := below_setRow HB.out (by omega) _
            have K7 := K7.row 2 (fcF S.v)
            generalize x0.setRow (w.heap.size + 1 + 1) (mk 2 (fcF S.v)) = x1 at *
            refine hK.out _ _ ⟨⟨_, K7⟩, K10⟩ (fun hHeld => ?_)
            clear hK K
            try simp only [Act.put, List.setIfInBounds_toArray, List.set_cons_zero, List.set_cons_succ]
            refine wpAnyH_take (i := 5) (oi := { dst := some 8, op := _, type := _, pos := _, after := _, guard := _ }) (v := .bool S.ok) rfl (by kernel_rfl) (by kernel_rfl) (by kernel_rfl) (fun _ _ _ h => h) (Or.inl ⟨by rfl, by intro w hSw; clear hSw; go_simp; (try with_reducible rfl)⟩) (by assumption) ?_
            try simp only [Act.put, List.setIfInBounds_toArray, List.set_cons_zero, List.set_cons_succ]
            refine wpAnyH_done (by kernel_rfl) ?_ _
            clear hHeld
            go_wp2_with fail
            try simp only [Exit.inBlock, Exit.then, Exit.noGoto]
            exact ret_tct Try.underlying155 rfl sizeF rfl rfl rfl K7 ⟨by rw [HE.out] <;> rfl, HB.out⟩

          · have hd : decide (S.v = e) = false := decide_eq_false hst
            clear hst
            go_wp2_with (first | ((with_reducible show wpList _ _ _ (Oper.mk _ (Op.load 155 _) _ _ _ _ :: _) _ _); refine loadF (K10) rfl rfl rfl ?_) | ((with_reducible show wpList _ _ _ (Oper.mk _ (Op.load 155 _) _ _ _ _ :: _) _ _); refine loadF (K5) rfl rfl rfl ?_))
            go_roundg gk2
            case rel => exact ⟨k + 1, S, by omega, by go_num, HN.out.symm, rfl, by rw [HOK.out], K3, K5, K7, K10, HB⟩
            case measure => omega
      · have hm : isMv f k = false := by simpa using hm
        have HN : Hid (bmF f V (k + 1) = S) := by show _ = _; rw [bm_still hm]; exact HS.out.symm
        have hq2 : sameB (slideB f k) f = true := by simpa [isMv] using hm
        clear hm
        go_wp2_with (first | ((with_reducible show wpList _ _ _ (Oper.mk _ (Op.load 47 _) _ _ _ _ :: _) _ _); refine loadSB9 K13 rfl rfl rfl ?_) | ((with_reducible show wpList _ _ _ (Oper.mk _ (Op.load 47 _) _ _ _ _ :: _) _ _); refine loadB (K3) rfl rfl rfl ?_))
        go_roundg gk2
        case rel => exact ⟨k + 1, S, by omega, by go_num, HN.out.symm, rfl, rfl, K3, K5, K7, K10, HB⟩
        case measure => omega
end Go.Proofs.Ytblcojacmjbjcab
namespace Go.Proofs.Ytblcojacmjbjcab
open Go.RowKit Plain
attribute [local go_sem] store_new
set_option linter.unusedVariables false
set_option linter.unusedSimpArgs false
theorem execB9 {o : Oper} {ev : Operand → Value} {w : World} {b : Nat} {f : Nat → Int} {t : TypeId} {x : Operand} (hg : Blk w b 16 f t) (ho : o.op = .load 47 x) (hx : ev x = .pointer (some ⟨b, 0, none⟩)) :
    (execOp ev o).run Try.prog w = .ok (.value (.agg (mk 16 f))) w := exec_load_blk _ x ho hx hg Try.underlying47 rfl sizeB
def KPn (n : Nat) : Prop := ∀ (f : Nat → Int) (w : World), Vd f → Calls Try.prog 208 #[.int .i64 (n : Int), .agg (mk 16 f)] w fun e w' => e = .returned (.agg (mk 2 (fcF (KpF n f)))) ∧ Below w.heap.size w w'
def KBn (n : Nat) : Prop := ∀ (f : Nat → Int) (d : Nat) (w : World), Vd f → isMv f d = true → Calls Try.prog 210 #[.int .i64 (n : Int), .agg (mk 18 (slideV f d))] w fun e w' => e = .returned (.agg (mk 2 (fcF (kbV n f d)))) ∧ Below w.heap.size w w'
theorem KPn_zero : KPn 0 := by
  intro f w hV
  show Calls _ _ _ _ fun e w' => e = .returned (.agg (mk 2 (fcF (1, 1)))) ∧ _
  have z2 := zero2
  have z16 := zero16
  have z18 := zero18
  have K3 := (Blk.new w 16 f 47).alloc (.cells (mk 2 fun _ => 0) 155)
  have K4 := Blk.new (w.alloc (.cells (mk 16 f) 47)) 2 (fun _ => 0) 155
  have HB := Lib.hid (((Below.refl w.heap.size w).alloc (Nat.le_refl _) (.cells (mk 16 f) 47)).alloc (by simp) (.cells (mk 2 fun _ => 0) 155))
  simp only [World.size_alloc] at K4
  go_enter Try.func208, Try.ntmps208
  go_wp2_with fail
  refine (whole_any _ 1 _ rfl).mono ?_
  rintro _ w2 ⟨rfl, hb⟩
  have K4 := K4.below hb K4.lt
  have HB : Hid (Below w.heap.size w w2) := HB.out.trans (hb.mono HB.out.size)
  clear hb
  go_wp2_with ((with_reducible show wpList _ _ _ (Oper.mk _ (Op.store 155 _ _) _ _ _ _ :: _) _ _); refine storeF (K4) rfl rfl rfl rfl ?_)
  try simp only [Exit.inBlock, Exit.then]
  exact retcF (K4.row 2 _) rfl rfl rfl ⟨rfl, below_setRow HB.out (by omega) _⟩
set_option maxHeartbeats 1000000 in
theorem KBn_of {n : Nat} (hn : n ≤ 2) (h : KPn n) : KBn n := by
  intro f d w hV hm
  have z2 := zero2
  have z16 := zero16
  have z18 := zero18
  have K3 := (Blk.new w 18 (slideV f d) 144).alloc (.cells (mk 2 fun _ => 0) 155)
  have K4 := Blk.new (w.alloc (.cells (mk 18 (slideV f d)) 144)) 2 (fun _ => 0) 155
  have HB := Lib.hid (((Below.refl w.heap.size w).alloc (Nat.le_refl _) (.cells (mk 18 (slideV f d)) 144)).alloc (by simp) (.cells (mk 2 fun _ => 0) 155))
  simp only [World.size_alloc] at K4
  have HM := Lib.hid (fun W => meanBehind_any (slideB f d) (KpF n) (dnK n) 1 208 #[.int .i64 (n : Int)] #[] W (slideB_vd hV d) (kp_dn hn (slideB_vd hV d)) (mv_room hV hm) (Go.Proofs.enters_of Try.func208 (by kernel_rfl) rfl) (fun p W' hp _ => h (plB (slideB f d) p) W' (plB_vd (slideB_vd hV d) hp)))
  go_enter Try.func210, Try.ntmps210
  go_wp2_with ((with_reducible show wpList _ _ _ (Oper.mk _ (Op.load 47 _) _ _ _ _ :: _) _ _); refine loadSB9 K3 rfl rfl rfl ?_)
  refine (HM.out _).mono ?_
  rintro _ w2 ⟨rfl, hb⟩
  have K4 := K4.below hb K4.lt
  have HB : Hid (Below w.heap.size w w2) := HB.out.trans (hb.mono HB.out.size)
  clear hb
  go_wp2_with ((with_reducible show wpList _ _ _ (Oper.mk _ (Op.store 155 _ _) _ _ _ _ :: _) _ _); refine storeF (K4) rfl rfl rfl rfl ?_)
  try simp only [Exit.inBlock, Exit.then]
  exact retcF (K4.row 2 _) rfl rfl rfl ⟨rfl, below_setRow HB.out (by omega) _⟩
set_option maxHeartbeats 2000000 in
set_option maxRecDepth 20000 in
theorem KPn_succ {n : Nat} (hn : n ≤ 2) (h : KBn n) : KPn (n + 1) := by
  intro f w hV
  rw [kp_succ]
  have z2 := zero2
  have z16 := zero16
  have z18 := zero18
  have K3 := (Blk.new w 16 f 47).alloc (.cells (mk 2 fun _ => 0) 155)
  have K4 := Blk.new (w.alloc (.cells (mk 16 f) 47)) 2 (fun _ => 0) 155
  have HB := Lib.hid (((Below.refl w.heap.size w).alloc (Nat.le_refl _) (.cells (mk 16 f) 47)).alloc (by simp) (.cells (mk 2 fun _ => 0) 155))
  simp only [World.size_alloc] at K4
  have HM := Lib.hid (fun W => bestMove_any f (kbV n f) (1, 1) 210 #[.int .i64 (n : Int)] #[] W hV (fun d hd hm => ⟨(kb_ok hn hV hm).1, by have := kb_ok hn hV hm; omega, by have := kb_ok hn hV hm; omega⟩) (fun d hd hm => ltF_one (kb_ok hn hV hm).2.1) (Go.Proofs.enters_of Try.func210 (by kernel_rfl) rfl) (fun d W' hd hm _ => h f d W' hV hm))
  generalize bmF f (kbV n f) 4 = R at *
  have hn1 : ¬ ((n : Int) + 1 = 0) := by omega
  have hn1b : (((n : Int) + 1) == 0) = false := by rw [beq_eq_false_iff_ne]; exact hn1
  have hn2 : (n : Int) + 1 - 1 = (n : Int) := by omega
  have hcast : ((n + 1 : Nat) : Int) = (n : Int) + 1 := by omega
  rw [hcast]
  clear hV h hcast
  go_enter Try.func208, Try.ntmps208
  go_wp2_with fail
  generalize (w.alloc (.cells (mk 16 f) 47)).alloc (.cells (mk 2 fun _ => 0) 155) = w1 at *
  refine wp_region_held_drew (S := fun W => Blk W w.heap.size 16 f 47) (by kernel_rfl) (K3.drew) (fun hHeld => ?_)
  have K3 := K3.drew
  have K4 := K4.drew
  have HB : Hid (Below w.heap.size w w1.drew) := HB.out.drew
  clear hHeld
  generalize w1.drew = xw at *
  have hHeld : Blk xw w.heap.size 16 f 47 := K3
  refine wpAnyH_take (i := 0) (oi := { dst := some 12, op := _, type := _, pos := _, after := _, guard := _ }) (v := .agg (mk 16 f)) rfl (by kernel_rfl) (by kernel_rfl) (by kernel_rfl) (fun _ _ _ h => h) (Or.inl ⟨by rfl, fun _ q => execB9 q rfl rfl⟩) (by assumption) ?_
  try simp only [Act.put, List.setIfInBounds_toArray, List.set_cons_zero, List.set_cons_succ]
  refine wpAnyH_take (i := 1) (oi := { dst := some 13, op := _, type := _, pos := _, after := _, guard := _ }) (v := .int .i64 ((n : Int) + 1)) rfl (by kernel_rfl) (by kernel_rfl) (by kernel_rfl) (fun _ _ _ h => h) (Or.inl ⟨by rfl, by intro w hSw; clear hSw; go_simp; (try with_reducible rfl)⟩) (by assumption) ?_
  try simp only [Act.put, List.setIfInBounds_toArray, List.set_cons_zero, List.set_cons_succ]
  refine wpAnyH_take (i := 2) (oi := { dst := some 14, op := _, type := _, pos := _, after := _, guard := _ }) (v := .int .i64 (n : Int)) rfl (by kernel_rfl) (by kernel_rfl) (by kernel_rfl) (fun _ _ _ h => h) (Or.inl ⟨by rfl, by intro W q; clear q; go_simp; exact fit62 (by omega)⟩) (by assumption) ?_
  try simp only [Act.put, List.setIfInBounds_toArray, List.set_cons_zero, List.set_cons_succ]
  refine wpAnyH_take (i := 3) (oi := { dst := some 15, op := _, type := _, pos := _, after := _, guard := _ }) (v := .func (.func 210) #[.int .i64 (n : Int)] #[]) rfl (by kernel_rfl) (by kernel_rfl) (by kernel_rfl) (fun _ _ _ h => h) (Or.inl ⟨by rfl, by intro w hSw; clear hSw; go_simp; (try with_reducible rfl)⟩) (by assumption) ?_
  try simp only [Act.put, List.setIfInBounds_toArray, List.set_cons_zero, List.set_cons_succ]
  refine wpAnyH_ready (rs := [4, 10]) (by kernel_rfl) (by simp) ?_
  refine AllReadyH.cons rfl (fun K hK => ?_) ?_
  · go_simp
    refine (whole_any _ 1 _ rfl).mono ?_
    rintro _ x1 ⟨rfl, hb⟩
    have K3 := K3.below hb K3.lt
    have K4 := K4.below hb K4.lt
    have HB : Hid (Below w.heap.size w x1) := HB.out.trans (hb.mono HB.out.size)
    clear hb hHeld
    go_wp2_with fail
    refine hK.out _ _ (K3) (fun hHeld => ?_)
    clear hK K
    try simp only [Act.put, List.setIfInBounds_toArray, List.set_cons_zero, List.set_cons_succ]
    refine wpAnyH_ready (rs := [5, 10]) (by kernel_rfl) (by simp) ?_
    refine AllReadyH.cons rfl (fun K hK => ?_) ?_
    · go_simp
      refine (HM.out _).mono ?_
      rintro _ x2 ⟨rfl, hb⟩
      have K3 := K3.below hb K3.lt
      have K4 := K4.below hb K4.lt
      have HB : Hid (Below w.heap.size w x2) := HB.out.trans (hb.mono HB.out.size)
      clear hb hHeld
      go_wp2_with fail
      refine hK.out _ _ (K3) (fun hHeld => ?_)
      clear hK K
      try simp only [Act.put, List.setIfInBounds_toArray, List.set_cons_zero, List.set_cons_succ]
      refine wpAnyH_take (i := 6) (oi := { dst := some 11, op := _, type := _, pos := _, after := _, guard := _ }) (v := .tuple #[.int .i64 ((R).d : Int), .agg (mk 2 (fcF (R).v)), .bool (R).ok]) rfl (by kernel_rfl) (by kernel_rfl) (by kernel_rfl) (fun _ _ _ h => h) (Or.inl ⟨by rfl, by intro w hSw; clear hSw; go_simp; (try with_reducible rfl)⟩) (by assumption) ?_
      try simp only [Act.put, List.setIfInBounds_toArray, List.set_cons_zero, List.set_cons_succ]
      refine wpAnyH_take (i := 7) (oi := { dst := some 18, op := _, type := _, pos := _, after := _, guard := _ }) (v := .int .i64 ((R).d : Int)) rfl (by kernel_rfl) (by kernel_rfl) (by kernel_rfl) (fun _ _ _ h => h) (Or.inl ⟨by rfl, by intro w hSw; clear hSw; go_simp; (try with_reducible rfl)⟩) (by assumption) ?_
      try simp only [Act.put, List.setIfInBounds_toArray, List.set_cons_zero, List.set_cons_succ]
      refine wpAnyH_take (i := 8) (oi := { dst := some 19, op := _, type := _, pos := _, after := _, guard := _ }) (v := .agg (mk 2 (fcF (R).v))) rfl (by kernel_rfl) (by kernel_rfl) (by kernel_rfl) (fun _ _ _ h => h) (Or.inl ⟨by rfl, by intro w hSw; clear hSw; go_simp; (try with_reducible rfl)⟩) (by assumption) ?_
      try simp only [Act.put, List.setIfInBounds_toArray, List.set_cons_zero, List.set_cons_succ]
      refine wpAnyH_take (i := 9) (oi := { dst := some 20, op := _, type := _, pos := _, after := _, guard := _ }) (v := .bool (R).ok) rfl (by kernel_rfl) (by kernel_rfl) (by kernel_rfl) (fun _ _ _ h => h) (Or.inl ⟨by rfl, by intro w hSw; clear hSw; go_simp; (try with_reducible rfl)⟩) (by assumption) ?_
      try simp only [Act.put, List.setIfInBounds_toArray, List.set_cons_zero, List.set_cons_succ]
      refine wpAnyH_ready (rs := [10]) (by kernel_rfl) (by simp) ?_
      refine AllReadyH.cons rfl (fun K hK => ?_) AllReadyH.nil
      go_simp
      clear hHeld
      have hl0 := K3.lt
      have hl1 := K4.lt
      have KN := Blk.new x2 2 (fun _ => 0) 155
      have K3 := K3.alloc (.cells (mk 2 fun _ => 0) 155)
      have K4 := K4.alloc (.cells (mk 2 fun _ => 0) 155)
      have HB : Hid (Below w.heap.size w (x2.alloc (.cells (mk 2 fun _ => 0) 155))) := HB.out.alloc HB.out.size _
      generalize x2.alloc (.cells (mk 2 fun _ => 0) 155) = xn3 at *
      generalize x2.heap.size = bN at *
      refine hK.out _ _ (K3) (fun hHeld => ?_)
      clear hK K
      try simp only [Act.put, List.setIfInBounds_toArray, List.set_cons_zero, List.set_cons_succ]
      refine wpAnyH_take (i := 11) (oi := { dst := some 5, op := _, type := _, pos := _, after := _, guard := _ }) (v := .int .i64 ((R).d : Int)) rfl (by kernel_rfl) (by kernel_rfl) (by kernel_rfl) (fun _ _ _ h => h) (Or.inl ⟨by rfl, by intro w hSw; clear hSw; go_simp; (try with_reducible rfl)⟩) (by assumption) ?_
      try simp only [Act.put, List.setIfInBounds_toArray, List.set_cons_zero, List.set_cons_succ]
      refine wpAnyH_ready (rs := [12]) (by kernel_rfl) (by simp) ?_
      refine AllReadyH.cons rfl (fun K hK => ?_) AllReadyH.nil
      have st1 := run_store_blk (P := Try.prog) (g := fcF (R).v) KN
      have ms1 : (mk 2 (fcF (R).v)).size = 2 := mk_size 2 _
      go_simp
      clear st1 ms1 hHeld
      have K3 := K3.rowOther bN (mk 2 (fcF (R).v)) (by omega)
      have K4 := K4.rowOther bN (mk 2 (fcF (R).v)) (by omega)
      have HB : Hid (Below w.heap.size w (xn3.setRow bN (mk 2 (fcF (R).v)))) := below_setRow HB.out (by omega) _
      have KN := KN.row 2 (fcF (R).v)
      generalize xn3.setRow bN (mk 2 (fcF (R).v)) = xs4 at *
      refine hK.out _ _ (K3) (fun hHeld => ?_)
      clear hK K
      try simp only [Act.put, List.setIfInBounds_toArray, List.set_cons_zero, List.set_cons_succ]
      refine wpAnyH_take (i := 13) (oi := { dst := some 7, op := _, type := _, pos := _, after := _, guard := _ }) (v := .bool (R).ok) rfl (by kernel_rfl) (by kernel_rfl) (by kernel_rfl) (fun _ _ _ h => h) (Or.inl ⟨by rfl, by intro w hSw; clear hSw; go_simp; (try with_reducible rfl)⟩) (by assumption) ?_
      try simp only [Act.put, List.setIfInBounds_toArray, List.set_cons_zero, List.set_cons_succ]
      refine wpAnyH_done (by kernel_rfl) ?_ _
      clear hHeld
      go_wp2_with (first | ((with_reducible show wpList _ _ _ (Oper.mk _ (Op.load 155 _) _ _ _ _ :: _) _ _); refine loadF (KN) rfl rfl rfl ?_) | ((with_reducible show wpList _ _ _ (Oper.mk _ (Op.store 155 _ _) _ _ _ _ :: _) _ _); refine storeF (K4) rfl rfl rfl rfl ?_))
      try simp only [Exit.inBlock, Exit.then]
      exact retcF (K4.row 2 _) rfl rfl rfl ⟨rfl, below_setRow HB.out (by omega) _⟩
    refine AllReadyH.cons rfl (fun K hK => ?_) AllReadyH.nil
    go_simp
    clear hHeld
    have hl0 := K3.lt
    have hl1 := K4.lt
    have KN := Blk.new x1 2 (fun _ => 0) 155
    have K3 := K3.alloc (.cells (mk 2 fun _ => 0) 155)
    have K4 := K4.alloc (.cells (mk 2 fun _ => 0) 155)
    have HB : Hid (Below w.heap.size w (x1.alloc (.cells (mk 2 fun _ => 0) 155))) := HB.out.alloc HB.out.size _
    generalize x1.alloc (.cells (mk 2 fun _ => 0) 155) = xn5 at *
    generalize x1.heap.size = bN at *
    refine hK.out _ _ (K3) (fun hHeld => ?_)
    clear hK K
    try simp only [Act.put, List.setIfInBounds_toArray, List.set_cons_zero, List.set_cons_succ]
    refine wpAnyH_ready (rs := [5]) (by kernel_rfl) (by simp) ?_
    refine AllReadyH.cons rfl (fun K hK => ?_) AllReadyH.nil
    go_simp
    refine (HM.out _).mono ?_
    rintro _ x6 ⟨rfl, hb⟩
    have K3 := K3.below hb K3.lt
    have K4 := K4.below hb K4.lt
    have KN := KN.below hb KN.lt
    have HB : Hid (Below w.heap.size w x6) := HB.out.trans (hb.mono HB.out.size)
    clear hb hHeld
    go_wp2_with fail
    refine hK.out _ _ (K3) (fun hHeld => ?_)
    clear hK K
    try simp only [Act.put, List.setIfInBounds_toArray, List.set_cons_zero, List.set_cons_succ]
    refine wpAnyH_take (i := 6) (oi := { dst := some 11, op := _, type := _, pos := _, after := _, guard := _ }) (v := .tuple #[.int .i64 ((R).d : Int), .agg (mk 2 (fcF (R).v)), .bool (R).ok]) rfl (by kernel_rfl) (by kernel_rfl) (by kernel_rfl) (fun _ _ _ h => h) (Or.inl ⟨by rfl, by intro w hSw; clear hSw; go_simp; (try with_reducible rfl)⟩) (by assumption) ?_
    try simp only [Act.put, List.setIfInBounds_toArray, List.set_cons_zero, List.set_cons_succ]
    refine wpAnyH_take (i := 7) (oi := { dst := some 18, op := _, type := _, pos := _, after := _, guard := _ }) (v := .int .i64 ((R).d : Int)) rfl (by kernel_rfl) (by kernel_rfl) (by kernel_rfl) (fun _ _ _ h => h) (Or.inl ⟨by rfl, by intro w hSw; clear hSw; go_simp; (try with_reducible rfl)⟩) (by assumption) ?_
    try simp only [Act.put, List.setIfInBounds_toArray, List.set_cons_zero, List.set_cons_succ]
    refine wpAnyH_take (i := 8) (oi := { dst := some 19, op := _, type := _, pos := _, after := _, guard := _ }) (v := .agg (mk 2 (fcF (R).v))) rfl (by kernel_rfl) (by kernel_rfl) (by kernel_rfl) (fun _ _ _ h => h) (Or.inl ⟨by rfl, by intro w hSw; clear hSw; go_simp; (try with_reducible rfl)⟩) (by assumption) ?_
    try simp only [Act.put, List.setIfInBounds_toArray, List.set_cons_zero, List.set_cons_succ]
    refine wpAnyH_take (i := 9) (oi := { dst := some 20, op := _, type := _, pos := _, after := _, guard := _ }) (v := .bool (R).ok) rfl (by kernel_rfl) (by kernel_rfl) (by kernel_rfl) (fun _ _ _ h => h) (Or.inl ⟨by rfl, by intro w hSw; clear hSw; go_simp; (try with_reducible rfl)⟩) (by assumption) ?_
    try simp only [Act.put, List.setIfInBounds_toArray, List.set_cons_zero, List.set_cons_succ]
    refine wpAnyH_take (i := 11) (oi := { dst := some 5, op := _, type := _, pos := _, after := _, guard := _ }) (v := .int .i64 ((R).d : Int)) rfl (by kernel_rfl) (by kernel_rfl) (by kernel_rfl) (fun _ _ _ h => h) (Or.inl ⟨by rfl, by intro w hSw; clear hSw; go_simp; (try with_reducible rfl)⟩) (by assumption) ?_
    try simp only [Act.put, List.setIfInBounds_toArray, List.set_cons_zero, List.set_cons_succ]
    refine wpAnyH_ready (rs := [12]) (by kernel_rfl) (by simp) ?_
    refine AllReadyH.cons rfl (fun K hK => ?_) AllReadyH.nil
    have st1 := run_store_blk (P := Try.prog) (g := fcF (R).v) KN
    have ms1 : (mk 2 (fcF (R).v)).size = 2 := mk_size 2 _
    go_simp
    clear st1 ms1 hHeld
    have K3 := K3.rowOther bN (mk 2 (fcF (R).v)) (by omega)
    have K4 := K4.rowOther bN (mk 2 (fcF (R).v)) (by omega)
    have HB : Hid (Below w.heap.size w (x6.setRow bN (mk 2 (fcF (R).v)))) := below_setRow HB.out (by omega) _
    have KN := KN.row 2 (fcF (R).v)
    generalize x6.setRow bN (mk 2 (fcF (R).v)) = xs7 at *
    refine hK.out _ _ (K3) (fun hHeld => ?_)
    clear hK K
    try simp only [Act.put, List.setIfInBounds_toArray, List.set_cons_zero, List.set_cons_succ]
    refine wpAnyH_take (i := 13) (oi := { dst := some 7, op := _, type := _, pos := _, after := _, guard := _ }) (v := .bool (R).ok) rfl (by kernel_rfl) (by kernel_rfl) (by kernel_rfl) (fun _ _ _ h => h) (Or.inl ⟨by rfl, by intro w hSw; clear hSw; go_simp; (try with_reducible rfl)⟩) (by assumption) ?_
    try simp only [Act.put, List.setIfInBounds_toArray, List.set_cons_zero, List.set_cons_succ]
    refine wpAnyH_done (by kernel_rfl) ?_ _
    clear hHeld
    go_wp2_with (first | ((with_reducible show wpList _ _ _ (Oper.mk _ (Op.load 155 _) _ _ _ _ :: _) _ _); refine loadF (KN) rfl rfl rfl ?_) | ((with_reducible show wpList _ _ _ (Oper.mk _ (Op.store 155 _ _) _ _ _ _ :: _) _ _); refine storeF (K4) rfl rfl rfl rfl ?_))
    try simp only [Exit.inBlock, Exit.then]
    exact retcF (K4.row 2 _) rfl rfl rfl ⟨rfl, below_setRow HB.out (by omega) _⟩
  refine AllReadyH.cons rfl (fun K hK => ?_) AllReadyH.nil
  go_simp
  clear hHeld
  have hl0 := K3.lt
  have hl1 := K4.lt
  have KN := Blk.new xw 2 (fun _ => 0) 155
  have K3 := K3.alloc (.cells (mk 2 fun _ => 0) 155)
  have K4 := K4.alloc (.cells (mk 2 fun _ => 0) 155)
  have HB : Hid (Below w.heap.size w (xw.alloc (.cells (mk 2 fun _ => 0) 155))) := HB.out.alloc HB.out.size _
  generalize xw.alloc (.cells (mk 2 fun _ => 0) 155) = xn8 at *
  generalize xw.heap.size = bN at *
  refine hK.out _ _ (K3) (fun hHeld => ?_)
  clear hK K
  try simp only [Act.put, List.setIfInBounds_toArray, List.set_cons_zero, List.set_cons_succ]
  refine wpAnyH_ready (rs := [4]) (by kernel_rfl) (by simp) ?_
  refine AllReadyH.cons rfl (fun K hK => ?_) AllReadyH.nil
  go_simp
  refine (whole_any _ 1 _ rfl).mono ?_
  rintro _ x9 ⟨rfl, hb⟩
  have K3 := K3.below hb K3.lt
  have K4 := K4.below hb K4.lt
  have KN := KN.below hb KN.lt
  have HB : Hid (Below w.heap.size w x9) := HB.out.trans (hb.mono HB.out.size)
  clear hb hHeld
  go_wp2_with fail
  refine hK.out _ _ (K3) (fun hHeld => ?_)
  clear hK K
  try simp only [Act.put, List.setIfInBounds_toArray, List.set_cons_zero, List.set_cons_succ]
  refine wpAnyH_ready (rs := [5]) (by kernel_rfl) (by simp) ?_
  refine AllReadyH.cons rfl (fun K hK => ?_) AllReadyH.nil
  go_simp
  refine (HM.out _).mono ?_
  rintro _ x10 ⟨rfl, hb⟩
  have K3 := K3.below hb K3.lt
  have K4 := K4.below hb K4.lt
  have KN := KN.below hb KN.lt
  have HB : Hid (Below w.heap.size w x10) := HB.out.trans (hb.mono HB.out.size)
  clear hb hHeld
  go_wp2_with fail
  refine hK.out _ _ (K3) (fun hHeld => ?_)
  clear hK K
  try simp only [Act.put, List.setIfInBounds_toArray, List.set_cons_zero, List.set_cons_succ]
  refine wpAnyH_take (i := 6) (oi := { dst := some 11, op := _, type := _, pos := _, after := _, guard := _ }) (v := .tuple #[.int .i64 ((R).d : Int), .agg (mk 2 (fcF (R).v)), .bool (R).ok]) rfl (by kernel_rfl) (by kernel_rfl) (by kernel_rfl) (fun _ _ _ h => h) (Or.inl ⟨by rfl, by intro w hSw; clear hSw; go_simp; (try with_reducible rfl)⟩) (by assumption) ?_
  try simp only [Act.put, List.setIfInBounds_toArray, List.set_cons_zero, List.set_cons_succ]
  refine wpAnyH_take (i := 7) (oi := { dst := some 18, op := _, type := _, pos := _, after := _, guard := _ }) (v := .int .i64 ((R).d : Int)) rfl (by kernel_rfl) (by kernel_rfl) (by kernel_rfl) (fun _ _ _ h => h) (Or.inl ⟨by rfl, by intro w hSw; clear hSw; go_simp; (try with_reducible rfl)⟩) (by assumption) ?_
  try simp only [Act.put, List.setIfInBounds_toArray, List.set_cons_zero, List.set_cons_succ]
  refine wpAnyH_take (i := 8) (oi := { dst := some 19, op := _, type := _, pos := _, after := _, guard := _ }) (v := .agg (mk 2 (fcF (R).v))) rfl (by kernel_rfl) (by kernel_rfl) (by kernel_rfl) (fun _ _ _ h => h) (Or.inl ⟨by rfl, by intro w hSw; clear hSw; go_simp; (try with_reducible rfl)⟩) (by assumption) ?_
  try simp only [Act.put, List.setIfInBounds_toArray, List.set_cons_zero, List.set_cons_succ]
  refine wpAnyH_take (i := 9) (oi := { dst := some 20, op := _, type := _, pos := _, after := _, guard := _ }) (v := .bool (R).ok) rfl (by kernel_rfl) (by kernel_rfl) (by kernel_rfl) (fun _ _ _ h => h) (Or.inl ⟨by rfl, by intro w hSw; clear hSw; go_simp; (try with_reducible rfl)⟩) (by assumption) ?_
  try simp only [Act.put, List.setIfInBounds_toArray, List.set_cons_zero, List.set_cons_succ]
  refine wpAnyH_take (i := 11) (oi := { dst := some 5, op := _, type := _, pos := _, after := _, guard := _ }) (v := .int .i64 ((R).d : Int)) rfl (by kernel_rfl) (by kernel_rfl) (by kernel_rfl) (fun _ _ _ h => h) (Or.inl ⟨by rfl, by intro w hSw; clear hSw; go_simp; (try with_reducible rfl)⟩) (by assumption) ?_
  try simp only [Act.put, List.setIfInBounds_toArray, List.set_cons_zero, List.set_cons_succ]
  refine wpAnyH_ready (rs := [12]) (by kernel_rfl) (by simp) ?_
  refine AllReadyH.cons rfl (fun K hK => ?_) AllReadyH.nil
  have st1 := run_store_blk (P := Try.prog) (g := fcF (R).v) KN
  have ms1 : (mk 2 (fcF (R).v)).size = 2 := mk_size 2 _
  go_simp
  clear st1 ms1 hHeld
  have K3 := K3.rowOther bN (mk 2 (fcF (R).v)) (by omega)
  have K4 := K4.rowOther bN (mk 2 (fcF (R).v)) (by omega)
  have HB : Hid (Below w.heap.size w (x10.setRow bN (mk 2 (fcF (R).v)))) := below_setRow HB.out (by omega) _
  have KN := KN.row 2 (fcF (R).v)
  generalize x10.setRow bN (mk 2 (fcF (R).v)) = xs11 at *
  refine hK.out _ _ (K3) (fun hHeld => ?_)
  clear hK K
  try simp only [Act.put, List.setIfInBounds_toArray, List.set_cons_zero, List.set_cons_succ]
  refine wpAnyH_take (i := 13) (oi := { dst := some 7, op := _, type := _, pos := _, after := _, guard := _ }) (v := .bool (R).ok) rfl (by kernel_rfl) (by kernel_rfl) (by kernel_rfl) (fun _ _ _ h => h) (Or.inl ⟨by rfl, by intro w hSw; clear hSw; go_simp; (try with_reducible rfl)⟩) (by assumption) ?_
  try simp only [Act.put, List.setIfInBounds_toArray, List.set_cons_zero, List.set_cons_succ]
  refine wpAnyH_done (by kernel_rfl) ?_ _
  clear hHeld
  go_wp2_with (first | ((with_reducible show wpList _ _ _ (Oper.mk _ (Op.load 155 _) _ _ _ _ :: _) _ _); refine loadF (KN) rfl rfl rfl ?_) | ((with_reducible show wpList _ _ _ (Oper.mk _ (Op.store 155 _ _) _ _ _ _ :: _) _ _); refine storeF (K4) rfl rfl rfl rfl ?_))
  try simp only [Exit.inBlock, Exit.then]
  exact retcF (K4.row 2 _) rfl rfl rfl ⟨rfl, below_setRow HB.out (by omega) _⟩
theorem kp_all : ∀ n, n ≤ 3 → KPn n
  | 0, _ => KPn_zero
  | n + 1, h => KPn_succ (by omega) (KBn_of (by omega) (kp_all n (by omega)))
theorem kb_all (n : Nat) (h : n ≤ 2) : KBn n := KBn_of h (kp_all n (by omega))
def SPn (n : Nat) : Prop := ∀ (f : Nat → Int) (w : World), Vd f → Calls Try.prog 205 #[.int .i64 (n : Int), .agg (mk 16 f)] w fun e w' => e = .returned (.agg (mk 2 (fcF (ScF n f)))) ∧ Below w.heap.size w w'
def SWn (n : Nat) : Prop := ∀ (f : Nat → Int) (d : Nat) (w : World), Vd f → isMv f d = true → Calls Try.prog 253 #[.int .i64 (n : Int), .agg (mk 18 (slideV f d))] w fun e w' => e = .returned (.agg (mk 2 (fcF (scV n f d)))) ∧ Below w.heap.size w w'
end Go.Proofs.Ytblcojacmjbjcab
