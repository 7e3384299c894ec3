/-
  Fractions as the program keeps them: two numbers, read, written and built; and the contracts of the program's own arithmetic on them.
-/
import Derived.Test.YtkocfpldgjfpeaaBaseA
import Derived.Test.YtkocfpldgjfpeaaMeanSteps
namespace Go.Proofs.Ytkocfpldgjfpeaa
open Go.RowKit Plain
attribute [local go_sem] store_new
set_option linter.unusedVariables false
set_option linter.unusedSimpArgs false
theorem sizeF : (Try.prog.info? 53).map (·.size) = some 2 := by kernel_rfl
theorem loadF {ops : Array Oper} {rest : List Oper} {o : Oper} {a : Act} {w : World} {Q : Exit → Act → World → Prop} {x : Operand} {b : Nat} {f : Nat → Int} {t : TypeId}
    (hg : Blk w b 2 f t) (hgd : o.guard = none) (ho : o.op = .load 53 x) (hx : a.eval x = .pointer (some ⟨b, 0, none⟩))
    (h : wpList Try.prog ops Q rest (a.put o.dst (.agg (mk 2 f))) w) : wpList Try.prog ops Q (o :: rest) a w :=
  wpList_load_blk hgd _ x ho b 2 f t _ hx hg Try.underlying53 rfl sizeF h
theorem storeF {ops : Array Oper} {rest : List Oper} {o : Oper} {a : Act} {w : World} {Q : Exit → Act → World → Prop} {x y : Operand} {b : Nat} {f g : Nat → Int} {t : TypeId}
    (hg : Blk w b 2 f t) (hgd : o.guard = none) (ho : o.op = .store 53 x y) (hx : a.eval x = .pointer (some ⟨b, 0, none⟩)) (hy : a.eval y = .agg (mk 2 g))
    (h : wpList Try.prog ops Q rest (a.put o.dst undef) (w.setRow b (mk 2 g))) : wpList Try.prog ops Q (o :: rest) a w :=
  wpList_store_blk hgd _ x y ho b 2 f g t hx hy hg sizeF h
theorem loadPF {ops : Array Oper} {rest : List Oper} {o : Oper} {a : Act} {w : World} {Q : Exit → Act → World → Prop} {x : Operand} {b n off : Nat} {f : Nat → Int} {t : TypeId}
    (hg : Blk w b n f t) (hm : off + 2 ≤ n) (hgd : o.guard = none) (ho : o.op = .load 53 x) (hx : a.eval x = .pointer (some ⟨b, off, none⟩))
    (h : wpList Try.prog ops Q rest (a.put o.dst (.agg (mk 2 (fun i => f (off + i))))) w) : wpList Try.prog ops Q (o :: rest) a w :=
  wpList_load_part hgd _ x ho b n off 2 f t _ hx hg hm Try.underlying53 rfl sizeF h
theorem storePF {ops : Array Oper} {rest : List Oper} {o : Oper} {a : Act} {w : World} {Q : Exit → Act → World → Prop} {x y : Operand} {b n off : Nat} {f g : Nat → Int} {t : TypeId}
    (hg : Blk w b n f t) (hm : off + 2 ≤ n) (hgd : o.guard = none) (ho : o.op = .store 53 x y) (hx : a.eval x = .pointer (some ⟨b, off, none⟩)) (hy : a.eval y = .agg (mk 2 g))
    (h : wpList Try.prog ops Q rest (a.put o.dst undef) (w.setRow b (mk n (patch f off 2 g)))) : wpList Try.prog ops Q (o :: rest) a w :=
  wpList_store_part hgd _ x y ho b n off 2 f g t hx hy hg hm sizeF h
theorem retcF {fn : Func} {R : Ending → World → Prop} {a : Act} {w : World} {p : Tmp} {t : TypeId} {b : Nat} {f : Nat → Int}
    (hg : Blk w b 2 f t) (h : fn.results = #[.cell p 53]) (hp : a.tmps.getD p undef = .pointer (some ⟨b, 0, none⟩)) (hdf : a.defers = [])
    (hR : R (.returned (.agg (mk 2 f))) w) : bodyPost Try.prog fn R .ret a w := ret_c Try.underlying53 rfl sizeF h hp hdf hg hR
theorem retctF {fn : Func} {R : Ending → World → Prop} {a : Act} {w : World} {p q : Tmp} {t : TypeId} {b : Nat} {f : Nat → Int}
    (hg : Blk w b 2 f t) (h : fn.results = #[.cell p 53, .tmp q]) (hp : a.tmps.getD p undef = .pointer (some ⟨b, 0, none⟩)) (hdf : a.defers = [])
    (hR : R (.returned (.tuple #[.agg (mk 2 f), a.tmps.getD q undef])) w) : bodyPost Try.prog fn R .ret a w := ret_ct Try.underlying53 rfl sizeF h hp hdf hg hR
theorem retcttF {fn : Func} {R : Ending → World → Prop} {a : Act} {w : World} {p q r : Tmp} {t : TypeId} {b : Nat} {f : Nat → Int}
    (hg : Blk w b 2 f t) (h : fn.results = #[.cell p 53, .tmp q, .tmp r]) (hp : a.tmps.getD p undef = .pointer (some ⟨b, 0, none⟩)) (hdf : a.defers = [])
    (hR : R (.returned (.tuple #[.agg (mk 2 f), a.tmps.getD q undef, a.tmps.getD r undef])) w) : bodyPost Try.prog fn R .ret a w := ret_ctt Try.underlying53 rfl sizeF h hp hdf hg hR
theorem two_fc (p : Fc) : two (p.1 : Int) (p.2 : Int) = fcF p := rfl
theorem run_buildF (a b : Int) (w : World) : (Instr.build 53 #[(0, .int .i64 a), (1, .int .i64 b)]).run Try.prog w = .ok (.agg (mk 2 (two a b))) w := by kernel_rfl
theorem run_buildF0 (w : World) : (Instr.build 53 #[]).run Try.prog w = .ok (.agg (mk 2 fun _ => 0)) w := by kernel_rfl
theorem exec_buildF {o : Oper} {ev : Operand → Value} {w : World} (x y : Operand) (ho : o.op = .build 53 #[(0, x), (1, y)]) {a b : Int}
    (hx : ev x = .int .i64 a) (hy : ev y = .int .i64 b) : (execOp ev o).run Try.prog w = .ok (.value (.agg (mk 2 (two a b)))) w := by
  have hr := run_buildF a b w
  simp [execOp, ho, hx, hy, hr, Result.andThen]
theorem rd_end {a b d : Nat} (h : d = Nat.gcd a b) : rd a b = (a / d, b / d) := by subst h; rfl
theorem fit62 {a : Nat} (h : a ≤ 4611686018427387904) : IntKind.wrap .i64 (a : Int) = (a : Int) := by rw [IntKind.wrap_i64]; omega
set_option maxHeartbeats 1000000 in
theorem reduced_any (a b : Nat) (w : World) (hb : 0 < b) (ha : a ≤ 4611686018427387904) (hb2 : b ≤ 4611686018427387904) :
    Calls Try.prog 61 #[.int .i64 (a : Int), .int .i64 (b : Int)] w fun e w' => e = .returned (.agg (mk 2 (fcF (rd a b)))) ∧ Below w.heap.size w w' := by
  have z2 := zero2
  have K1 := Blk.new w 2 (fun _ => 0) 53
  have HB := Lib.hid ((Below.refl w.heap.size w).alloc (Nat.le_refl _) (.cells (mk 2 fun _ => 0) 53))
  go_enter Try.func61, Try.ntmps61
  go_wp2_with fail
  generalize w.alloc (.cells (mk 2 fun _ => 0) 53) = w1 at *
  go_loopw [5, 6] (fun d r wr => ∃ d' r' : Nat, d = .int .i64 (d' : Int) ∧ r = .int .i64 (r' : Int) ∧ 0 < d' ∧ d' ≤ 4611686018427387904 ∧ r' ≤ 4611686018427387904 ∧ Nat.gcd d' r' = Nat.gcd a b ∧ Blk wr w.heap.size 2 (fun _ => 0) 53 ∧ Hid (Below w.heap.size w wr)) (fun _ r _ => (intOf r).toNat)
  case atStart => exact ⟨b, a, rfl, rfl, hb, hb2, ha, Nat.gcd_comm b a, K1, HB⟩
  case round =>
    obtain ⟨d, r, rfl, rfl, hd, hd2, hr2, hg, K1, HB⟩ := hrel
    by_cases hr : 0 < r
    · have hri : (r : Int) > 0 := by omega
      have hrn : ((r : Int) == 0) = false := by rw [beq_eq_false_iff_ne]; omega
      have hlt := Nat.mod_lt d hr
      have hgs := gcd_step d r
      go_wp2_with fail
      go_quiet (fail)
      go_wp2_with fail
      go_roundw
      case rel => exact ⟨r, d % r, rfl, rfl, hr, hr2, by omega, by rw [hgs]; exact hg, K1.drewN _, Lib.hid (below_drewN HB.out _)⟩
      case measure =>
        show ((d % r : Nat) : Int).toNat < ((r : Nat) : Int).toNat
        omega
    · have hri : ¬ (r : Int) > 0 := by omega
      have hdn : ((d : Int) == 0) = false := by rw [beq_eq_false_iff_ne]; omega
      obtain rfl : r = 0 := by omega
      rw [gcd_end] at hg
      have HE := Lib.hid (rd_end hg)
      have hd0 : ¬ d = 0 := by omega
      have hqa : IntKind.wrap .i64 ((a : Int) / (d : Int)) = (a : Int) / (d : Int) := fit62 (a := a / d) (Nat.le_trans (Nat.div_le_self _ _) ha)
      have hqb : IntKind.wrap .i64 ((b : Int) / (d : Int)) = (b : Int) / (d : Int) := fit62 (a := b / d) (Nat.le_trans (Nat.div_le_self _ _) hb2)
      have HEV : Hid (mk 2 (two ((a : Int) / (d : Int)) ((b : Int) / (d : Int))) = mk 2 (fcF (rd a b))) := by
        show _ = _
        rw [HE.out]; rfl
      clear hg HE
      go_wp2_with fail
      refine wp_region_held_drew (S := fun W => (∃ g, Blk W w.heap.size 2 g 53) ∧ Hid (Below w.heap.size w W)) (by kernel_rfl) (⟨⟨_, K1.drew⟩, Lib.hid HB.out.drew⟩) (fun hHeld => ?_)
      have K1 : Blk wr.drew w.heap.size 2 (fun _ => 0) 53 := K1.drew
      have HB : Hid (Below w.heap.size w wr.drew) := HB.out.drew
      generalize wr.drew = x0 at *
      refine wpAnyH_take (i := 0) (oi := { dst := some 15, op := _, type := _, pos := _, after := _, guard := _ }) (v := .int .i64 (a : Int)) rfl (by kernel_rfl) (by kernel_rfl) (by kernel_rfl) (fun _ _ _ h => h) (Or.inl ⟨by rfl, by intro w hSw; clear hSw; go_simp; (try with_reducible rfl)⟩) (by assumption) ?_
      try simp only [Act.put, List.setIfInBounds_toArray, List.set_cons_zero, List.set_cons_succ]
      refine wpAnyH_take (i := 1) (oi := { dst := some 16, op := _, type := _, pos := _, after := _, guard := _ }) (v := .int .i64 (d : Int)) rfl (by kernel_rfl) (by kernel_rfl) (by kernel_rfl) (fun _ _ _ h => h) (Or.inl ⟨by rfl, by intro w hSw; clear hSw; go_simp; (try with_reducible rfl)⟩) (by assumption) ?_
      try simp only [Act.put, List.setIfInBounds_toArray, List.set_cons_zero, List.set_cons_succ]
      refine wpAnyH_take (i := 2) (oi := { dst := some 17, op := _, type := _, pos := _, after := _, guard := _ }) (v := .int .i64 ((a : Int) / (d : Int))) rfl (by kernel_rfl) (by kernel_rfl) (by kernel_rfl) (fun _ _ _ h => h) (Or.inl ⟨by rfl, by intro w hSw; clear hSw; go_simp; (try with_reducible rfl)⟩) (by assumption) ?_
      try simp only [Act.put, List.setIfInBounds_toArray, List.set_cons_zero, List.set_cons_succ]
      refine wpAnyH_take (i := 3) (oi := { dst := some 18, op := _, type := _, pos := _, after := _, guard := _ }) (v := .int .i64 (b : Int)) rfl (by kernel_rfl) (by kernel_rfl) (by kernel_rfl) (fun _ _ _ h => h) (Or.inl ⟨by rfl, by intro w hSw; clear hSw; go_simp; (try with_reducible rfl)⟩) (by assumption) ?_
      try simp only [Act.put, List.setIfInBounds_toArray, List.set_cons_zero, List.set_cons_succ]
      refine wpAnyH_take (i := 4) (oi := { dst := some 19, op := _, type := _, pos := _, after := _, guard := _ }) (v := .int .i64 (d : Int)) rfl (by kernel_rfl) (by kernel_rfl) (by kernel_rfl) (fun _ _ _ h => h) (Or.inl ⟨by rfl, by intro w hSw; clear hSw; go_simp; (try with_reducible rfl)⟩) (by assumption) ?_
      try simp only [Act.put, List.setIfInBounds_toArray, List.set_cons_zero, List.set_cons_succ]
      refine wpAnyH_take (i := 5) (oi := { dst := some 20, op := _, type := _, pos := _, after := _, guard := _ }) (v := .int .i64 ((b : Int) / (d : Int))) rfl (by kernel_rfl) (by kernel_rfl) (by kernel_rfl) (fun _ _ _ h => h) (Or.inl ⟨by rfl, by intro w hSw; clear hSw; go_simp; (try with_reducible rfl)⟩) (by assumption) ?_
      try simp only [Act.put, List.setIfInBounds_toArray, List.set_cons_zero, List.set_cons_succ]
      refine wpAnyH_take (i := 6) (oi := { dst := some 21, op := _, type := _, pos := _, after := _, guard := _ }) (v := .agg (mk 2 (two ((a : Int) / (d : Int)) ((b : Int) / (d : Int))))) rfl (by kernel_rfl) (by kernel_rfl) (by kernel_rfl) (fun _ _ _ h => h) (Or.inl ⟨by rfl, fun _ _ => exec_buildF _ _ rfl rfl rfl⟩) (by assumption) ?_
      try simp only [Act.put, List.setIfInBounds_toArray, List.set_cons_zero, List.set_cons_succ]
      refine wpAnyH_ready (rs := [7]) (by kernel_rfl) (by simp) ?_
      refine AllReadyH.cons rfl (fun K hK => ?_) AllReadyH.nil
      rw [HEV.out]
      have st1 := run_store_blk (P := Try.prog) (g := fcF (rd a b)) K1
      have ms1 : (mk 2 (fcF (rd a b))).size = 2 := mk_size 2 _
      go_simp
      clear st1 ms1 hHeld
      have HB : Hid (Below w.heap.size w (x0.setRow w.heap.size (mk 2 (fcF (rd a b))))) := below_setRow HB.out (by omega) _
      have K1 := K1.row 2 (fcF (rd a b))
      generalize x0.setRow w.heap.size (mk 2 (fcF (rd a b))) = x1 at *
      refine hK.out _ _ ⟨⟨_, K1⟩, HB⟩ (fun hHeld => ?_)
      clear hK K
      try simp only [Act.put, List.setIfInBounds_toArray, List.set_cons_zero, List.set_cons_succ]
      refine wpAnyH_done (by kernel_rfl) ?_ _
      clear hHeld
      go_wp2_with fail
      try simp only [Exit.inBlock, Exit.then]
      exact retcF K1 rfl rfl rfl ⟨rfl, HB.out⟩
theorem whole_any (n : Int) (a : Nat) (w : World) (hn : n = (a : Int)) : Calls Try.prog 59 #[.int .i64 n] w fun e w' => e = .returned (.agg (mk 2 (fcF (a, 1)))) ∧ Below w.heap.size w w' := by
  subst hn
  have z2 := zero2
  have K1 := Blk.new w 2 (fun _ => 0) 53
  have HB := Lib.hid ((Below.refl w.heap.size w).alloc (Nat.le_refl _) (.cells (mk 2 fun _ => 0) 53))
  go_enter Try.func59, Try.ntmps59
  go_wp2_with ((with_reducible show wpList _ _ _ (Oper.mk _ (Op.store 53 _ _) _ _ _ _ :: _) _ _); refine storeF (g := two _ _) (K1) rfl rfl rfl rfl ?_)
  try simp only [Exit.inBlock, Exit.then]
  exact retcF (K1.row 2 _) rfl rfl rfl ⟨rfl, below_setRow HB.out (by omega) _⟩
theorem endless_any (w : World) : Calls Try.prog 53 #[] w fun e w' => e = .returned (.agg (mk 2 (fcF (1, 0)))) ∧ Below w.heap.size w w' := by
  have z2 := zero2
  have K1 := Blk.new w 2 (fun _ => 0) 53
  have HB := Lib.hid ((Below.refl w.heap.size w).alloc (Nat.le_refl _) (.cells (mk 2 fun _ => 0) 53))
  go_enter Try.func53, Try.ntmps53
  go_wp2_with ((with_reducible show wpList _ _ _ (Oper.mk _ (Op.store 53 _ _) _ _ _ _ :: _) _ _); refine storeF (g := two _ _) (K1) rfl rfl rfl rfl ?_)
  try simp only [Exit.inBlock, Exit.then]
  exact retcF (K1.row 2 _) rfl rfl rfl ⟨rfl, below_setRow HB.out (by omega) _⟩
theorem chanceIf_any (is : Bool) (w : World) : Calls Try.prog 83 #[.bool is] w fun e w' => e = .returned (.agg (mk 2 (fcF (if is then 1 else 0, 1)))) ∧ Below w.heap.size w w' := by
  have z2 := zero2
  have K1 := Blk.new w 2 (fun _ => 0) 53
  have HB := Lib.hid ((Below.refl w.heap.size w).alloc (Nat.le_refl _) (.cells (mk 2 fun _ => 0) 53))
  cases is with
  | true =>
    go_enter Try.func83, Try.ntmps83
    go_wp2_with fail
    refine (whole_any _ 1 _ rfl).mono ?_
    rintro e w2 ⟨rfl, hb⟩
    have K1 := K1.below hb K1.lt
    have HB : Hid (Below w.heap.size w w2) := HB.out.trans (hb.mono HB.out.size)
    clear hb
    go_wp2_with ((with_reducible show wpList _ _ _ (Oper.mk _ (Op.store 53 _ _) _ _ _ _ :: _) _ _); refine storeF (K1) rfl rfl rfl rfl ?_)
    try simp only [Exit.inBlock, Exit.then]
    exact retcF (K1.row 2 _) rfl rfl rfl ⟨rfl, below_setRow HB.out (by omega) _⟩
  | false =>
    go_enter Try.func83, Try.ntmps83
    go_wp2_with fail
    refine (whole_any _ 0 _ rfl).mono ?_
    rintro e w2 ⟨rfl, hb⟩
    have K1 := K1.below hb K1.lt
    have HB : Hid (Below w.heap.size w w2) := HB.out.trans (hb.mono HB.out.size)
    clear hb
    go_wp2_with ((with_reducible show wpList _ _ _ (Oper.mk _ (Op.store 53 _ _) _ _ _ _ :: _) _ _); refine storeF (K1) rfl rfl rfl rfl ?_)
    try simp only [Exit.inBlock, Exit.then]
    exact retcF (K1.row 2 _) rfl rfl rfl ⟨rfl, below_setRow HB.out (by omega) _⟩
set_option maxHeartbeats 400000 in
theorem plus_any (p q : Fc) (w : World) (hp : 0 < p.2) (hq : 0 < q.2) (h1 : p.1 * q.2 ≤ 2305843009213693952) (h2 : q.1 * p.2 ≤ 2305843009213693952) (h3 : p.2 * q.2 ≤ 4611686018427387904) :
    Calls Try.prog 60 #[.agg (mk 2 (fcF p)), .agg (mk 2 (fcF q))] w fun e w' => e = .returned (.agg (mk 2 (fcF (plusF p q)))) ∧ Below w.heap.size w w' := by
  have z2 := zero2
  have K1 := ((Blk.new w 2 (fcF p) 53).alloc (.cells (mk 2 (fcF q)) 53)).alloc (.cells (mk 2 fun _ => 0) 53)
  have K2 := (Blk.new (w.alloc (.cells (mk 2 (fcF p)) 53)) 2 (fcF q) 53).alloc (.cells (mk 2 fun _ => 0) 53)
  have K3 := Blk.new ((w.alloc (.cells (mk 2 (fcF p)) 53)).alloc (.cells (mk 2 (fcF q)) 53)) 2 (fun _ => 0) 53
  have HB := Lib.hid ((((Below.refl w.heap.size w).alloc (Nat.le_refl _) (.cells (mk 2 (fcF p)) 53)).alloc (by simp) (.cells (mk 2 (fcF q)) 53)).alloc (by simp; omega) (.cells (mk 2 fun _ => 0) 53))
  simp only [World.size_alloc] at K1 K2 K3
  have c10 := K1.cell (i := 0) (by omega)
  have c11 := K1.cell (i := 1) (by omega)
  have c20 := K2.cell (i := 0) (by omega)
  have c21 := K2.cell (i := 1) (by omega)
  simp only [fcF0, fcF1] at c10 c11 c20 c21
  have e1 : (p.1 : Int) * (q.2 : Int) = ((p.1 * q.2 : Nat) : Int) := (Int.natCast_mul _ _).symm
  have e2 : (q.1 : Int) * (p.2 : Int) = ((q.1 * p.2 : Nat) : Int) := (Int.natCast_mul _ _).symm
  have e3 : (p.2 : Int) * (q.2 : Int) = ((p.2 * q.2 : Nat) : Int) := (Int.natCast_mul _ _).symm
  have h4 := Nat.mul_pos hp hq
  have HR := Lib.hid (fun w => reduced_any (p.1 * q.2 + q.1 * p.2) (p.2 * q.2) w h4 (by omega) h3)
  show Calls _ _ _ _ fun e w' => e = .returned (.agg (mk 2 (fcF (rd (p.1 * q.2 + q.1 * p.2) (p.2 * q.2))))) ∧ _
  generalize hX : p.1 * q.2 = X at *
  generalize hY : q.1 * p.2 = Y at *
  generalize hZ : p.2 * q.2 = Z at *
  have e4 : (X : Int) + (Y : Int) = ((X + Y : Nat) : Int) := by omega
  generalize hS : X + Y = S at *
  have hS2 : S ≤ 4611686018427387904 := by omega
  clear hX hY hZ hS
  go_enter Try.func60, Try.ntmps60
  go_wp2_with fail
  refine (HR.out _).mono ?_
  rintro e w2 ⟨rfl, hb⟩
  have K3 := K3.below hb K3.lt
  have HB : Hid (Below w.heap.size w w2) := HB.out.trans (hb.mono HB.out.size)
  clear hb
  go_wp2_with ((with_reducible show wpList _ _ _ (Oper.mk _ (Op.store 53 _ _) _ _ _ _ :: _) _ _); refine storeF (K3) rfl rfl rfl rfl ?_)
  try simp only [Exit.inBlock, Exit.then]
  exact retcF (K3.row 2 _) rfl rfl rfl ⟨rfl, below_setRow HB.out (by omega) _⟩
set_option maxHeartbeats 400000 in
theorem times_any (p : Fc) (n : Nat) (w : World) (hp : 0 < p.2) (h1 : p.1 * n ≤ 4611686018427387904) (h2 : p.2 ≤ 4611686018427387904) :
    Calls Try.prog 102 #[.agg (mk 2 (fcF p)), .int .i64 (n : Int)] w fun e w' => e = .returned (.agg (mk 2 (fcF (timesF p n)))) ∧ Below w.heap.size w w' := by
  have z2 := zero2
  have K1 := (Blk.new w 2 (fcF p) 53).alloc (.cells (mk 2 fun _ => 0) 53)
  have K3 := Blk.new (w.alloc (.cells (mk 2 (fcF p)) 53)) 2 (fun _ => 0) 53
  have HB := Lib.hid (((Below.refl w.heap.size w).alloc (Nat.le_refl _) (.cells (mk 2 (fcF p)) 53)).alloc (by simp) (.cells (mk 2 fun _ => 0) 53))
  simp only [World.size_alloc] at K1 K3
  have c10 := K1.cell (i := 0) (by omega)
  have c11 := K1.cell (i := 1) (by omega)
  simp only [fcF0, fcF1] at c10 c11
  have e1 : (p.1 : Int) * (n : Int) = ((p.1 * n : Nat) : Int) := (Int.natCast_mul _ _).symm
  have HR := Lib.hid (fun w => reduced_any (p.1 * n) p.2 w hp h1 h2)
  show Calls _ _ _ _ fun e w' => e = .returned (.agg (mk 2 (fcF (rd (p.1 * n) p.2)))) ∧ _
  generalize hX : p.1 * n = X at *
  clear hX
  go_enter Try.func102, Try.ntmps102
  go_wp2_with fail
  refine (HR.out _).mono ?_
  rintro e w2 ⟨rfl, hb⟩
  have K3 := K3.below hb K3.lt
  have HB : Hid (Below w.heap.size w w2) := HB.out.trans (hb.mono HB.out.size)
  clear hb
  go_wp2_with ((with_reducible show wpList _ _ _ (Oper.mk _ (Op.store 53 _ _) _ _ _ _ :: _) _ _); refine storeF (K3) rfl rfl rfl rfl ?_)
  try simp only [Exit.inBlock, Exit.then]
  exact retcF (K3.row 2 _) rfl rfl rfl ⟨rfl, below_setRow HB.out (by omega) _⟩
set_option maxHeartbeats 400000 in
theorem divided_any (p : Fc) (n : Nat) (w : World) (hp : 0 < p.2) (hn : 0 < n) (h1 : p.1 ≤ 4611686018427387904) (h2 : p.2 * n ≤ 4611686018427387904) :
    Calls Try.prog 103 #[.agg (mk 2 (fcF p)), .int .i64 (n : Int)] w fun e w' => e = .returned (.agg (mk 2 (fcF (divF p n)))) ∧ Below w.heap.size w w' := by
  have z2 := zero2
  have K1 := (Blk.new w 2 (fcF p) 53).alloc (.cells (mk 2 fun _ => 0) 53)
  have K3 := Blk.new (w.alloc (.cells (mk 2 (fcF p)) 53)) 2 (fun _ => 0) 53
  have HB := Lib.hid (((Below.refl w.heap.size w).alloc (Nat.le_refl _) (.cells (mk 2 (fcF p)) 53)).alloc (by simp) (.cells (mk 2 fun _ => 0) 53))
  simp only [World.size_alloc] at K1 K3
  have c10 := K1.cell (i := 0) (by omega)
  have c11 := K1.cell (i := 1) (by omega)
  simp only [fcF0, fcF1] at c10 c11
  have e1 : (p.2 : Int) * (n : Int) = ((p.2 * n : Nat) : Int) := (Int.natCast_mul _ _).symm
  have HR := Lib.hid (fun w => reduced_any p.1 (p.2 * n) w (Nat.mul_pos hp hn) h1 h2)
  show Calls _ _ _ _ fun e w' => e = .returned (.agg (mk 2 (fcF (rd p.1 (p.2 * n))))) ∧ _
  generalize hX : p.2 * n = X at *
  clear hX
  go_enter Try.func103, Try.ntmps103
  go_wp2_with fail
  refine (HR.out _).mono ?_
  rintro e w2 ⟨rfl, hb⟩
  have K3 := K3.below hb K3.lt
  have HB : Hid (Below w.heap.size w w2) := HB.out.trans (hb.mono HB.out.size)
  clear hb
  go_wp2_with ((with_reducible show wpList _ _ _ (Oper.mk _ (Op.store 53 _ _) _ _ _ _ :: _) _ _); refine storeF (K3) rfl rfl rfl rfl ?_)
  try simp only [Exit.inBlock, Exit.then]
  exact retcF (K3.row 2 _) rfl rfl rfl ⟨rfl, below_setRow HB.out (by omega) _⟩
set_option maxHeartbeats 400000 in
theorem isLess_any (p q : Fc) (w : World) (h1 : p.1 * q.2 ≤ 4611686018427387904) (h2 : q.1 * p.2 ≤ 4611686018427387904) :
    Calls Try.prog 89 #[.agg (mk 2 (fcF p)), .agg (mk 2 (fcF q))] w fun e w' => e = .returned (.bool (ltF p q)) ∧ Below w.heap.size w w' := by
  have z2 := zero2
  have K1 := ((Blk.new w 2 (fcF p) 53).alloc (.cells (mk 2 (fcF q)) 53))
  have K2 := (Blk.new (w.alloc (.cells (mk 2 (fcF p)) 53)) 2 (fcF q) 53)
  have HB := Lib.hid (((Below.refl w.heap.size w).alloc (Nat.le_refl _) (.cells (mk 2 (fcF p)) 53)).alloc (by simp) (.cells (mk 2 (fcF q)) 53))
  simp only [World.size_alloc] at K1 K2
  have c10 := K1.cell (i := 0) (by omega)
  have c11 := K1.cell (i := 1) (by omega)
  have c20 := K2.cell (i := 0) (by omega)
  have c21 := K2.cell (i := 1) (by omega)
  simp only [fcF0, fcF1] at c10 c11 c20 c21
  have e1 : (p.1 : Int) * (q.2 : Int) = ((p.1 * q.2 : Nat) : Int) := (Int.natCast_mul _ _).symm
  have e2 : (q.1 : Int) * (p.2 : Int) = ((q.1 * p.2 : Nat) : Int) := (Int.natCast_mul _ _).symm
  have HL : Hid (decide (p.1 * q.2 < q.1 * p.2) = ltF p q) := by show _ = _; rfl
  generalize hX : p.1 * q.2 = X at *
  generalize hY : q.1 * p.2 = Y at *
  generalize ltF p q = O at *
  clear hX hY
  go_enter Try.func89, Try.ntmps89
  go_wp2_with fail
  go_ret
  exact ⟨by rw [← HL.out]; rfl, HB.out⟩
end Go.Proofs.Ytkocfpldgjfpeaa
