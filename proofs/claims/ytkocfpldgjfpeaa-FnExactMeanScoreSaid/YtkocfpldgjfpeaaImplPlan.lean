/-
  The contracts of the program's plans: the chance that is kept, the mean that is scored, and what is told of a slide; by the number of moves.
-/
import Derived.Test.YtkocfpldgjfpeaaMeanR
import Derived.Test.YtkocfpldgjfpeaaBestR
namespace Go.Proofs.Ytkocfpldgjfpeaa
open Go.RowKit Plain
attribute [local go_sem] store_new
set_option linter.unusedVariables false
set_option linter.unusedSimpArgs false
theorem execB9 {o : Oper} {ev : Operand → Value} {w : World} {b : Nat} {f : Nat → Int} {t : TypeId} {x : Operand} (hg : Blk w b 16 f t) (ho : o.op = .load 29 x) (hx : ev x = .pointer (some ⟨b, 0, none⟩)) :
    (execOp ev o).run Try.prog w = .ok (.value (.agg (mk 16 f))) w := exec_load_blk _ x ho hx hg Try.underlying29 rfl sizeB
theorem execSB9 {o : Oper} {ev : Operand → Value} {w : World} {b d : Nat} {f : Nat → Int} {t : TypeId} {x : Operand} (hg : Blk w b 18 (slideV f d) t) (ho : o.op = .load 29 x) (hx : ev x = .pointer (some ⟨b, 0, none⟩)) :
    (execOp ev o).run Try.prog w = .ok (.value (.agg (mk 16 (slideB f d)))) w := by
  have e : mk 16 (fun i => slideV f d (0 + i)) = mk 16 (slideB f d) := mk_congr fun i hi => by rw [Nat.zero_add]; unfold slideV; rw [if_pos hi]
  rw [← e]
  exact exec_load_at _ x ho hx hg.at (by decide) Try.underlying29 rfl sizeB
def KPn (n : Nat) : Prop := ∀ (f : Nat → Int) (w : World), Vd f → Calls Try.prog 63 #[.int .i64 (n : Int), .agg (mk 16 f)] w fun e w' => e = .returned (.agg (mk 2 (fcF (KpF n f)))) ∧ Below w.heap.size w w'
def KBn (n : Nat) : Prop := ∀ (f : Nat → Int) (d : Nat) (w : World), Vd f → isMv f d = true → Calls Try.prog 67 #[.int .i64 (n : Int), .agg (mk 18 (slideV f d))] w fun e w' => e = .returned (.agg (mk 2 (fcF (kbV n f d)))) ∧ Below w.heap.size w w'
theorem KPn_zero : KPn 0 := by
  intro f w hV
  show Calls _ _ _ _ fun e w' => e = .returned (.agg (mk 2 (fcF (1, 1)))) ∧ _
  have z2 := zero2
  have z16 := zero16
  have z18 := zero18
  have K3 := (Blk.new w 16 f 29).alloc (.cells (mk 2 fun _ => 0) 53)
  have K4 := Blk.new (w.alloc (.cells (mk 16 f) 29)) 2 (fun _ => 0) 53
  have HB := Lib.hid (((Below.refl w.heap.size w).alloc (Nat.le_refl _) (.cells (mk 16 f) 29)).alloc (by simp) (.cells (mk 2 fun _ => 0) 53))
  simp only [World.size_alloc] at K4
  go_enter Try.func63, Try.ntmps63
  go_wp2_with fail
  refine (whole_any _ 1 _ rfl).mono ?_
  rintro _ w2 ⟨rfl, hb⟩
  have K4 := K4.below hb K4.lt
  have HB : Hid (Below w.heap.size w w2) := HB.out.trans (hb.mono HB.out.size)
  clear hb
  go_wp2_with ((with_reducible show wpList _ _ _ (Oper.mk _ (Op.store 53 _ _) _ _ _ _ :: _) _ _); refine storeF (K4) rfl rfl rfl rfl ?_)
  try simp only [Exit.inBlock, Exit.then]
  exact retcF (K4.row 2 _) rfl rfl rfl ⟨rfl, below_setRow HB.out (by omega) _⟩
set_option maxHeartbeats 1000000 in
theorem KBn_of {n : Nat} (hn : n ≤ 2) (h : KPn n) : KBn n := by
  intro f d w hV hm
  have z2 := zero2
  have z16 := zero16
  have z18 := zero18
  have K3 := (Blk.new w 18 (slideV f d) 64).alloc (.cells (mk 2 fun _ => 0) 53)
  have K4 := Blk.new (w.alloc (.cells (mk 18 (slideV f d)) 64)) 2 (fun _ => 0) 53
  have HB := Lib.hid (((Below.refl w.heap.size w).alloc (Nat.le_refl _) (.cells (mk 18 (slideV f d)) 64)).alloc (by simp) (.cells (mk 2 fun _ => 0) 53))
  simp only [World.size_alloc] at K4
  have HM := Lib.hid (fun W => meanBehind_any (slideB f d) (KpF n) (dnK n) 1 63 #[.int .i64 (n : Int)] #[] W (slideB_vd hV d) (kp_dn hn (slideB_vd hV d)) (mv_room hV hm) (Go.Proofs.enters_of Try.func63 (by kernel_rfl) rfl) (fun p W' hp _ => h (plB (slideB f d) p) W' (plB_vd (slideB_vd hV d) hp)))
  go_enter Try.func67, Try.ntmps67
  go_wp2_with ((with_reducible show wpList _ _ _ (Oper.mk _ (Op.load 29 _) _ _ _ _ :: _) _ _); refine loadSB9 K3 rfl rfl rfl ?_)
  refine (HM.out _).mono ?_
  rintro _ w2 ⟨rfl, hb⟩
  have K4 := K4.below hb K4.lt
  have HB : Hid (Below w.heap.size w w2) := HB.out.trans (hb.mono HB.out.size)
  clear hb
  go_wp2_with ((with_reducible show wpList _ _ _ (Oper.mk _ (Op.store 53 _ _) _ _ _ _ :: _) _ _); refine storeF (K4) rfl rfl rfl rfl ?_)
  try simp only [Exit.inBlock, Exit.then]
  exact retcF (K4.row 2 _) rfl rfl rfl ⟨rfl, below_setRow HB.out (by omega) _⟩
set_option maxHeartbeats 2000000 in
set_option maxRecDepth 20000 in
theorem KPn_succ {n : Nat} (hn : n ≤ 2) (h : KBn n) : KPn (n + 1) := by
  intro f w hV
  rw [kp_succ]
  have z2 := zero2
  have z16 := zero16
  have z18 := zero18
  have K3 := (Blk.new w 16 f 29).alloc (.cells (mk 2 fun _ => 0) 53)
  have K4 := Blk.new (w.alloc (.cells (mk 16 f) 29)) 2 (fun _ => 0) 53
  have HB := Lib.hid (((Below.refl w.heap.size w).alloc (Nat.le_refl _) (.cells (mk 16 f) 29)).alloc (by simp) (.cells (mk 2 fun _ => 0) 53))
  simp only [World.size_alloc] at K4
  have HM := Lib.hid (fun W => bestMove_any f (kbV n f) (1, 1) 67 #[.int .i64 (n : Int)] #[] W hV (fun d hd hm => ⟨(kb_ok hn hV hm).1, by have := kb_ok hn hV hm; omega, by have := kb_ok hn hV hm; omega⟩) (fun d hd hm => ltF_one (kb_ok hn hV hm).2.1) (Go.Proofs.enters_of Try.func67 (by kernel_rfl) rfl) (fun d W' hd hm _ => h f d W' hV hm))
  generalize bmF f (kbV n f) 4 = R at *
  have hn1 : ¬ ((n : Int) + 1 = 0) := by omega
  have hn1b : (((n : Int) + 1) == 0) = false := by rw [beq_eq_false_iff_ne]; exact hn1
  have hn2 : (n : Int) + 1 - 1 = (n : Int) := by omega
  have hcast : ((n + 1 : Nat) : Int) = (n : Int) + 1 := by omega
  rw [hcast]
  clear hV h hcast
  go_enter Try.func63, Try.ntmps63
  go_wp2_with fail
  generalize (w.alloc (.cells (mk 16 f) 29)).alloc (.cells (mk 2 fun _ => 0) 53) = w1 at *
  refine wp_region_held_drew (S := fun W => Blk W w.heap.size 16 f 29) (by kernel_rfl) (K3.drew) (fun hHeld => ?_)
  have K3 := K3.drew
  have K4 := K4.drew
  have HB : Hid (Below w.heap.size w w1.drew) := HB.out.drew
  clear hHeld
  generalize w1.drew = xw at *
  have hHeld : Blk xw w.heap.size 16 f 29 := K3
  refine wpAnyH_take (i := 0) (oi := { dst := some 12, op := _, type := _, pos := _, after := _, guard := _ }) (v := .agg (mk 16 f)) rfl (by kernel_rfl) (by kernel_rfl) (by kernel_rfl) (fun _ _ _ h => h) (Or.inl ⟨by rfl, fun _ q => execB9 q rfl rfl⟩) (by assumption) ?_
  try simp only [Act.put, List.setIfInBounds_toArray, List.set_cons_zero, List.set_cons_succ]
  refine wpAnyH_take (i := 1) (oi := { dst := some 13, op := _, type := _, pos := _, after := _, guard := _ }) (v := .int .i64 ((n : Int) + 1)) rfl (by kernel_rfl) (by kernel_rfl) (by kernel_rfl) (fun _ _ _ h => h) (Or.inl ⟨by rfl, by intro w hSw; clear hSw; go_simp; (try with_reducible rfl)⟩) (by assumption) ?_
  try simp only [Act.put, List.setIfInBounds_toArray, List.set_cons_zero, List.set_cons_succ]
  refine wpAnyH_take (i := 2) (oi := { dst := some 14, op := _, type := _, pos := _, after := _, guard := _ }) (v := .int .i64 (n : Int)) rfl (by kernel_rfl) (by kernel_rfl) (by kernel_rfl) (fun _ _ _ h => h) (Or.inl ⟨by rfl, by intro W q; clear q; go_simp; exact fit62 (by omega)⟩) (by assumption) ?_
  try simp only [Act.put, List.setIfInBounds_toArray, List.set_cons_zero, List.set_cons_succ]
  refine wpAnyH_take (i := 3) (oi := { dst := some 15, op := _, type := _, pos := _, after := _, guard := _ }) (v := .func (.func 67) #[.int .i64 (n : Int)] #[]) rfl (by kernel_rfl) (by kernel_rfl) (by kernel_rfl) (fun _ _ _ h => h) (Or.inl ⟨by rfl, by intro w hSw; clear hSw; go_simp; (try with_reducible rfl)⟩) (by assumption) ?_
  try simp only [Act.put, List.setIfInBounds_toArray, List.set_cons_zero, List.set_cons_succ]
  refine wpAnyH_ready (rs := [4, 10]) (by kernel_rfl) (by simp) ?_
  refine AllReadyH.cons rfl (fun K hK => ?_) ?_
  · go_simp
    refine (whole_any _ 1 _ rfl).mono ?_
    rintro _ x1 ⟨rfl, hb⟩
    have K3 := K3.below hb K3.lt
    have K4 := K4.below hb K4.lt
    have HB : Hid (Below w.heap.size w x1) := HB.out.trans (hb.mono HB.out.size)
    clear hb hHeld
    go_wp2_with fail
    refine hK.out _ _ (K3) (fun hHeld => ?_)
    clear hK K
    try simp only [Act.put, List.setIfInBounds_toArray, List.set_cons_zero, List.set_cons_succ]
    refine wpAnyH_ready (rs := [5, 10]) (by kernel_rfl) (by simp) ?_
    refine AllReadyH.cons rfl (fun K hK => ?_) ?_
    · go_simp
      refine (HM.out _).mono ?_
      rintro _ x2 ⟨rfl, hb⟩
      have K3 := K3.below hb K3.lt
      have K4 := K4.below hb K4.lt
      have HB : Hid (Below w.heap.size w x2) := HB.out.trans (hb.mono HB.out.size)
      clear hb hHeld
      go_wp2_with fail
      refine hK.out _ _ (K3) (fun hHeld => ?_)
      clear hK K
      try simp only [Act.put, List.setIfInBounds_toArray, List.set_cons_zero, List.set_cons_succ]
      refine wpAnyH_take (i := 6) (oi := { dst := some 11, op := _, type := _, pos := _, after := _, guard := _ }) (v := .tuple #[.int .i64 ((R).d : Int), .agg (mk 2 (fcF (R).v)), .bool (R).ok]) rfl (by kernel_rfl) (by kernel_rfl) (by kernel_rfl) (fun _ _ _ h => h) (Or.inl ⟨by rfl, by intro w hSw; clear hSw; go_simp; (try with_reducible rfl)⟩) (by assumption) ?_
      try simp only [Act.put, List.setIfInBounds_toArray, List.set_cons_zero, List.set_cons_succ]
      refine wpAnyH_take (i := 7) (oi := { dst := some 18, op := _, type := _, pos := _, after := _, guard := _ }) (v := .int .i64 ((R).d : Int)) rfl (by kernel_rfl) (by kernel_rfl) (by kernel_rfl) (fun _ _ _ h => h) (Or.inl ⟨by rfl, by intro w hSw; clear hSw; go_simp; (try with_reducible rfl)⟩) (by assumption) ?_
      try simp only [Act.put, List.setIfInBounds_toArray, List.set_cons_zero, List.set_cons_succ]
      refine wpAnyH_take (i := 8) (oi := { dst := some 19, op := _, type := _, pos := _, after := _, guard := _ }) (v := .agg (mk 2 (fcF (R).v))) rfl (by kernel_rfl) (by kernel_rfl) (by kernel_rfl) (fun _ _ _ h => h) (Or.inl ⟨by rfl, by intro w hSw; clear hSw; go_simp; (try with_reducible rfl)⟩) (by assumption) ?_
      try simp only [Act.put, List.setIfInBounds_toArray, List.set_cons_zero, List.set_cons_succ]
      refine wpAnyH_take (i := 9) (oi := { dst := some 20, op := _, type := _, pos := _, after := _, guard := _ }) (v := .bool (R).ok) rfl (by kernel_rfl) (by kernel_rfl) (by kernel_rfl) (fun _ _ _ h => h) (Or.inl ⟨by rfl, by intro w hSw; clear hSw; go_simp; (try with_reducible rfl)⟩) (by assumption) ?_
      try simp only [Act.put, List.setIfInBounds_toArray, List.set_cons_zero, List.set_cons_succ]
      refine wpAnyH_ready (rs := [10]) (by kernel_rfl) (by simp) ?_
      refine AllReadyH.cons rfl (fun K hK => ?_) AllReadyH.nil
      go_simp
      clear hHeld
      have hl0 := K3.lt
      have hl1 := K4.lt
      have KN := Blk.new x2 2 (fun _ => 0) 53
      have K3 := K3.alloc (.cells (mk 2 fun _ => 0) 53)
      have K4 := K4.alloc (.cells (mk 2 fun _ => 0) 53)
      have HB : Hid (Below w.heap.size w (x2.alloc (.cells (mk 2 fun _ => 0) 53))) := HB.out.alloc HB.out.size _
      generalize x2.alloc (.cells (mk 2 fun _ => 0) 53) = xn3 at *
      generalize x2.heap.size = bN at *
      refine hK.out _ _ (K3) (fun hHeld => ?_)
      clear hK K
      try simp only [Act.put, List.setIfInBounds_toArray, List.set_cons_zero, List.set_cons_succ]
      refine wpAnyH_take (i := 11) (oi := { dst := some 5, op := _, type := _, pos := _, after := _, guard := _ }) (v := .int .i64 ((R).d : Int)) rfl (by kernel_rfl) (by kernel_rfl) (by kernel_rfl) (fun _ _ _ h => h) (Or.inl ⟨by rfl, by intro w hSw; clear hSw; go_simp; (try with_reducible rfl)⟩) (by assumption) ?_
      try simp only [Act.put, List.setIfInBounds_toArray, List.set_cons_zero, List.set_cons_succ]
      refine wpAnyH_ready (rs := [12]) (by kernel_rfl) (by simp) ?_
      refine AllReadyH.cons rfl (fun K hK => ?_) AllReadyH.nil
      have st1 := run_store_blk (P := Try.prog) (g := fcF (R).v) KN
      have ms1 : (mk 2 (fcF (R).v)).size = 2 := mk_size 2 _
      go_simp
      clear st1 ms1 hHeld
      have K3 := K3.rowOther bN (mk 2 (fcF (R).v)) (by omega)
      have K4 := K4.rowOther bN (mk 2 (fcF (R).v)) (by omega)
      have HB : Hid (Below w.heap.size w (xn3.setRow bN (mk 2 (fcF (R).v)))) := below_setRow HB.out (by omega) _
      have KN := KN.row 2 (fcF (R).v)
      generalize xn3.setRow bN (mk 2 (fcF (R).v)) = xs4 at *
      refine hK.out _ _ (K3) (fun hHeld => ?_)
      clear hK K
      try simp only [Act.put, List.setIfInBounds_toArray, List.set_cons_zero, List.set_cons_succ]
      refine wpAnyH_take (i := 13) (oi := { dst := some 7, op := _, type := _, pos := _, after := _, guard := _ }) (v := .bool (R).ok) rfl (by kernel_rfl) (by kernel_rfl) (by kernel_rfl) (fun _ _ _ h => h) (Or.inl ⟨by rfl, by intro w hSw; clear hSw; go_simp; (try with_reducible rfl)⟩) (by assumption) ?_
      try simp only [Act.put, List.setIfInBounds_toArray, List.set_cons_zero, List.set_cons_succ]
      refine wpAnyH_done (by kernel_rfl) ?_ _
      clear hHeld
      go_wp2_with (first | ((with_reducible show wpList _ _ _ (Oper.mk _ (Op.load 53 _) _ _ _ _ :: _) _ _); refine loadF (KN) rfl rfl rfl ?_) | ((with_reducible show wpList _ _ _ (Oper.mk _ (Op.store 53 _ _) _ _ _ _ :: _) _ _); refine storeF (K4) rfl rfl rfl rfl ?_))
      try simp only [Exit.inBlock, Exit.then]
      exact retcF (K4.row 2 _) rfl rfl rfl ⟨rfl, below_setRow HB.out (by omega) _⟩
    refine AllReadyH.cons rfl (fun K hK => ?_) AllReadyH.nil
    go_simp
    clear hHeld
    have hl0 := K3.lt
    have hl1 := K4.lt
    have KN := Blk.new x1 2 (fun _ => 0) 53
    have K3 := K3.alloc (.cells (mk 2 fun _ => 0) 53)
    have K4 := K4.alloc (.cells (mk 2 fun _ => 0) 53)
    have HB : Hid (Below w.heap.size w (x1.alloc (.cells (mk 2 fun _ => 0) 53))) := HB.out.alloc HB.out.size _
    generalize x1.alloc (.cells (mk 2 fun _ => 0) 53) = xn5 at *
    generalize x1.heap.size = bN at *
    refine hK.out _ _ (K3) (fun hHeld => ?_)
    clear hK K
    try simp only [Act.put, List.setIfInBounds_toArray, List.set_cons_zero, List.set_cons_succ]
    refine wpAnyH_ready (rs := [5]) (by kernel_rfl) (by simp) ?_
    refine AllReadyH.cons rfl (fun K hK => ?_) AllReadyH.nil
    go_simp
    refine (HM.out _).mono ?_
    rintro _ x6 ⟨rfl, hb⟩
    have K3 := K3.below hb K3.lt
    have K4 := K4.below hb K4.lt
    have KN := KN.below hb KN.lt
    have HB : Hid (Below w.heap.size w x6) := HB.out.trans (hb.mono HB.out.size)
    clear hb hHeld
    go_wp2_with fail
    refine hK.out _ _ (K3) (fun hHeld => ?_)
    clear hK K
    try simp only [Act.put, List.setIfInBounds_toArray, List.set_cons_zero, List.set_cons_succ]
    refine wpAnyH_take (i := 6) (oi := { dst := some 11, op := _, type := _, pos := _, after := _, guard := _ }) (v := .tuple #[.int .i64 ((R).d : Int), .agg (mk 2 (fcF (R).v)), .bool (R).ok]) rfl (by kernel_rfl) (by kernel_rfl) (by kernel_rfl) (fun _ _ _ h => h) (Or.inl ⟨by rfl, by intro w hSw; clear hSw; go_simp; (try with_reducible rfl)⟩) (by assumption) ?_
    try simp only [Act.put, List.setIfInBounds_toArray, List.set_cons_zero, List.set_cons_succ]
    refine wpAnyH_take (i := 7) (oi := { dst := some 18, op := _, type := _, pos := _, after := _, guard := _ }) (v := .int .i64 ((R).d : Int)) rfl (by kernel_rfl) (by kernel_rfl) (by kernel_rfl) (fun _ _ _ h => h) (Or.inl ⟨by rfl, by intro w hSw; clear hSw; go_simp; (try with_reducible rfl)⟩) (by assumption) ?_
    try simp only [Act.put, List.setIfInBounds_toArray, List.set_cons_zero, List.set_cons_succ]
    refine wpAnyH_take (i := 8) (oi := { dst := some 19, op := _, type := _, pos := _, after := _, guard := _ }) (v := .agg (mk 2 (fcF (R).v))) rfl (by kernel_rfl) (by kernel_rfl) (by kernel_rfl) (fun _ _ _ h => h) (Or.inl ⟨by rfl, by intro w hSw; clear hSw; go_simp; (try with_reducible rfl)⟩) (by assumption) ?_
    try simp only [Act.put, List.setIfInBounds_toArray, List.set_cons_zero, List.set_cons_succ]
    refine wpAnyH_take (i := 9) (oi := { dst := some 20, op := _, type := _, pos := _, after := _, guard := _ }) (v := .bool (R).ok) rfl (by kernel_rfl) (by kernel_rfl) (by kernel_rfl) (fun _ _ _ h => h) (Or.inl ⟨by rfl, by intro w hSw; clear hSw; go_simp; (try with_reducible rfl)⟩) (by assumption) ?_
    try simp only [Act.put, List.setIfInBounds_toArray, List.set_cons_zero, List.set_cons_succ]
    refine wpAnyH_take (i := 11) (oi := { dst := some 5, op := _, type := _, pos := _, after := _, guard := _ }) (v := .int .i64 ((R).d : Int)) rfl (by kernel_rfl) (by kernel_rfl) (by kernel_rfl) (fun _ _ _ h => h) (Or.inl ⟨by rfl, by intro w hSw; clear hSw; go_simp; (try with_reducible rfl)⟩) (by assumption) ?_
    try simp only [Act.put, List.setIfInBounds_toArray, List.set_cons_zero, List.set_cons_succ]
    refine wpAnyH_ready (rs := [12]) (by kernel_rfl) (by simp) ?_
    refine AllReadyH.cons rfl (fun K hK => ?_) AllReadyH.nil
    have st1 := run_store_blk (P := Try.prog) (g := fcF (R).v) KN
    have ms1 : (mk 2 (fcF (R).v)).size = 2 := mk_size 2 _
    go_simp
    clear st1 ms1 hHeld
    have K3 := K3.rowOther bN (mk 2 (fcF (R).v)) (by omega)
    have K4 := K4.rowOther bN (mk 2 (fcF (R).v)) (by omega)
    have HB : Hid (Below w.heap.size w (x6.setRow bN (mk 2 (fcF (R).v)))) := below_setRow HB.out (by omega) _
    have KN := KN.row 2 (fcF (R).v)
    generalize x6.setRow bN (mk 2 (fcF (R).v)) = xs7 at *
    refine hK.out _ _ (K3) (fun hHeld => ?_)
    clear hK K
    try simp only [Act.put, List.setIfInBounds_toArray, List.set_cons_zero, List.set_cons_succ]
    refine wpAnyH_take (i := 13) (oi := { dst := some 7, op := _, type := _, pos := _, after := _, guard := _ }) (v := .bool (R).ok) rfl (by kernel_rfl) (by kernel_rfl) (by kernel_rfl) (fun _ _ _ h => h) (Or.inl ⟨by rfl, by intro w hSw; clear hSw; go_simp; (try with_reducible rfl)⟩) (by assumption) ?_
    try simp only [Act.put, List.setIfInBounds_toArray, List.set_cons_zero, List.set_cons_succ]
    refine wpAnyH_done (by kernel_rfl) ?_ _
    clear hHeld
    go_wp2_with (first | ((with_reducible show wpList _ _ _ (Oper.mk _ (Op.load 53 _) _ _ _ _ :: _) _ _); refine loadF (KN) rfl rfl rfl ?_) | ((with_reducible show wpList _ _ _ (Oper.mk _ (Op.store 53 _ _) _ _ _ _ :: _) _ _); refine storeF (K4) rfl rfl rfl rfl ?_))
    try simp only [Exit.inBlock, Exit.then]
    exact retcF (K4.row 2 _) rfl rfl rfl ⟨rfl, below_setRow HB.out (by omega) _⟩
  refine AllReadyH.cons rfl (fun K hK => ?_) AllReadyH.nil
  go_simp
  clear hHeld
  have hl0 := K3.lt
  have hl1 := K4.lt
  have KN := Blk.new xw 2 (fun _ => 0) 53
  have K3 := K3.alloc (.cells (mk 2 fun _ => 0) 53)
  have K4 := K4.alloc (.cells (mk 2 fun _ => 0) 53)
  have HB : Hid (Below w.heap.size w (xw.alloc (.cells (mk 2 fun _ => 0) 53))) := HB.out.alloc HB.out.size _
  generalize xw.alloc (.cells (mk 2 fun _ => 0) 53) = xn8 at *
  generalize xw.heap.size = bN at *
  refine hK.out _ _ (K3) (fun hHeld => ?_)
  clear hK K
  try simp only [Act.put, List.setIfInBounds_toArray, List.set_cons_zero, List.set_cons_succ]
  refine wpAnyH_ready (rs := [4]) (by kernel_rfl) (by simp) ?_
  refine AllReadyH.cons rfl (fun K hK => ?_) AllReadyH.nil
  go_simp
  refine (whole_any _ 1 _ rfl).mono ?_
  rintro _ x9 ⟨rfl, hb⟩
  have K3 := K3.below hb K3.lt
  have K4 := K4.below hb K4.lt
  have KN := KN.below hb KN.lt
  have HB : Hid (Below w.heap.size w x9) := HB.out.trans (hb.mono HB.out.size)
  clear hb hHeld
  go_wp2_with fail
  refine hK.out _ _ (K3) (fun hHeld => ?_)
  clear hK K
  try simp only [Act.put, List.setIfInBounds_toArray, List.set_cons_zero, List.set_cons_succ]
  refine wpAnyH_ready (rs := [5]) (by kernel_rfl) (by simp) ?_
  refine AllReadyH.cons rfl (fun K hK => ?_) AllReadyH.nil
  go_simp
  refine (HM.out _).mono ?_
  rintro _ x10 ⟨rfl, hb⟩
  have K3 := K3.below hb K3.lt
  have K4 := K4.below hb K4.lt
  have KN := KN.below hb KN.lt
  have HB : Hid (Below w.heap.size w x10) := HB.out.trans (hb.mono HB.out.size)
  clear hb hHeld
  go_wp2_with fail
  refine hK.out _ _ (K3) (fun hHeld => ?_)
  clear hK K
  try simp only [Act.put, List.setIfInBounds_toArray, List.set_cons_zero, List.set_cons_succ]
  refine wpAnyH_take (i := 6) (oi := { dst := some 11, op := _, type := _, pos := _, after := _, guard := _ }) (v := .tuple #[.int .i64 ((R).d : Int), .agg (mk 2 (fcF (R).v)), .bool (R).ok]) rfl (by kernel_rfl) (by kernel_rfl) (by kernel_rfl) (fun _ _ _ h => h) (Or.inl ⟨by rfl, by intro w hSw; clear hSw; go_simp; (try with_reducible rfl)⟩) (by assumption) ?_
  try simp only [Act.put, List.setIfInBounds_toArray, List.set_cons_zero, List.set_cons_succ]
  refine wpAnyH_take (i := 7) (oi := { dst := some 18, op := _, type := _, pos := _, after := _, guard := _ }) (v := .int .i64 ((R).d : Int)) rfl (by kernel_rfl) (by kernel_rfl) (by kernel_rfl) (fun _ _ _ h => h) (Or.inl ⟨by rfl, by intro w hSw; clear hSw; go_simp; (try with_reducible rfl)⟩) (by assumption) ?_
  try simp only [Act.put, List.setIfInBounds_toArray, List.set_cons_zero, List.set_cons_succ]
  refine wpAnyH_take (i := 8) (oi := { dst := some 19, op := _, type := _, pos := _, after := _, guard := _ }) (v := .agg (mk 2 (fcF (R).v))) rfl (by kernel_rfl) (by kernel_rfl) (by kernel_rfl) (fun _ _ _ h => h) (Or.inl ⟨by rfl, by intro w hSw; clear hSw; go_simp; (try with_reducible rfl)⟩) (by assumption) ?_
  try simp only [Act.put, List.setIfInBounds_toArray, List.set_cons_zero, List.set_cons_succ]
  refine wpAnyH_take (i := 9) (oi := { dst := some 20, op := _, type := _, pos := _, after := _, guard := _ }) (v := .bool (R).ok) rfl (by kernel_rfl) (by kernel_rfl) (by kernel_rfl) (fun _ _ _ h => h) (Or.inl ⟨by rfl, by intro w hSw; clear hSw; go_simp; (try with_reducible rfl)⟩) (by assumption) ?_
  try simp only [Act.put, List.setIfInBounds_toArray, List.set_cons_zero, List.set_cons_succ]
  refine wpAnyH_take (i := 11) (oi := { dst := some 5, op := _, type := _, pos := _, after := _, guard := _ }) (v := .int .i64 ((R).d : Int)) rfl (by kernel_rfl) (by kernel_rfl) (by kernel_rfl) (fun _ _ _ h => h) (Or.inl ⟨by rfl, by intro w hSw; clear hSw; go_simp; (try with_reducible rfl)⟩) (by assumption) ?_
  try simp only [Act.put, List.setIfInBounds_toArray, List.set_cons_zero, List.set_cons_succ]
  refine wpAnyH_ready (rs := [12]) (by kernel_rfl) (by simp) ?_
  refine AllReadyH.cons rfl (fun K hK => ?_) AllReadyH.nil
  have st1 := run_store_blk (P := Try.prog) (g := fcF (R).v) KN
  have ms1 : (mk 2 (fcF (R).v)).size = 2 := mk_size 2 _
  go_simp
  clear st1 ms1 hHeld
  have K3 := K3.rowOther bN (mk 2 (fcF (R).v)) (by omega)
  have K4 := K4.rowOther bN (mk 2 (fcF (R).v)) (by omega)
  have HB : Hid (Below w.heap.size w (x10.setRow bN (mk 2 (fcF (R).v)))) := below_setRow HB.out (by omega) _
  have KN := KN.row 2 (fcF (R).v)
  generalize x10.setRow bN (mk 2 (fcF (R).v)) = xs11 at *
  refine hK.out _ _ (K3) (fun hHeld => ?_)
  clear hK K
  try simp only [Act.put, List.setIfInBounds_toArray, List.set_cons_zero, List.set_cons_succ]
  refine wpAnyH_take (i := 13) (oi := { dst := some 7, op := _, type := _, pos := _, after := _, guard := _ }) (v := .bool (R).ok) rfl (by kernel_rfl) (by kernel_rfl) (by kernel_rfl) (fun _ _ _ h => h) (Or.inl ⟨by rfl, by intro w hSw; clear hSw; go_simp; (try with_reducible rfl)⟩) (by assumption) ?_
  try simp only [Act.put, List.setIfInBounds_toArray, List.set_cons_zero, List.set_cons_succ]
  refine wpAnyH_done (by kernel_rfl) ?_ _
  clear hHeld
  go_wp2_with (first | ((with_reducible show wpList _ _ _ (Oper.mk _ (Op.load 53 _) _ _ _ _ :: _) _ _); refine loadF (KN) rfl rfl rfl ?_) | ((with_reducible show wpList _ _ _ (Oper.mk _ (Op.store 53 _ _) _ _ _ _ :: _) _ _); refine storeF (K4) rfl rfl rfl rfl ?_))
  try simp only [Exit.inBlock, Exit.then]
  exact retcF (K4.row 2 _) rfl rfl rfl ⟨rfl, below_setRow HB.out (by omega) _⟩
theorem kp_all : ∀ n, n ≤ 3 → KPn n
  | 0, _ => KPn_zero
  | n + 1, h => KPn_succ (by omega) (KBn_of (by omega) (kp_all n (by omega)))
theorem kb_all (n : Nat) (h : n ≤ 2) : KBn n := KBn_of h (kp_all n (by omega))
def SPn (n : Nat) : Prop := ∀ (f : Nat → Int) (w : World), Vd f → Calls Try.prog 65 #[.int .i64 (n : Int), .agg (mk 16 f)] w fun e w' => e = .returned (.agg (mk 2 (fcF (ScF n f)))) ∧ Below w.heap.size w w'
def SWn (n : Nat) : Prop := ∀ (f : Nat → Int) (d : Nat) (w : World), Vd f → isMv f d = true → Calls Try.prog 94 #[.int .i64 (n : Int), .agg (mk 18 (slideV f d))] w fun e w' => e = .returned (.agg (mk 2 (fcF (scV n f d)))) ∧ Below w.heap.size w w'
theorem SPn_zero : SPn 0 := by
  intro f w hV
  show Calls _ _ _ _ fun e w' => e = .returned (.agg (mk 2 (fcF (0, 1)))) ∧ _
  have z2 := zero2
  have z16 := zero16
  have z18 := zero18
  have K3 := (Blk.new w 16 f 29).alloc (.cells (mk 2 fun _ => 0) 53)
  have K4 := Blk.new (w.alloc (.cells (mk 16 f) 29)) 2 (fun _ => 0) 53
  have HB := Lib.hid (((Below.refl w.heap.size w).alloc (Nat.le_refl _) (.cells (mk 16 f) 29)).alloc (by simp) (.cells (mk 2 fun _ => 0) 53))
  simp only [World.size_alloc] at K4
  go_enter Try.func65, Try.ntmps65
  go_wp2_with fail
  refine (whole_any _ 0 _ rfl).mono ?_
  rintro _ w2 ⟨rfl, hb⟩
  have K4 := K4.below hb K4.lt
  have HB : Hid (Below w.heap.size w w2) := HB.out.trans (hb.mono HB.out.size)
  clear hb
  go_wp2_with ((with_reducible show wpList _ _ _ (Oper.mk _ (Op.store 53 _ _) _ _ _ _ :: _) _ _); refine storeF (K4) rfl rfl rfl rfl ?_)
  try simp only [Exit.inBlock, Exit.then]
  exact retcF (K4.row 2 _) rfl rfl rfl ⟨rfl, below_setRow HB.out (by omega) _⟩
set_option maxHeartbeats 1000000 in
theorem SWn_of {n : Nat} (hn : n ≤ 1) (h : SPn n) : SWn n := by
  intro f d w hV hm
  have z2 := zero2
  have z16 := zero16
  have z18 := zero18
  have K3 := (Blk.new w 18 (slideV f d) 64).alloc (.cells (mk 2 fun _ => 0) 53)
  have K4 := Blk.new (w.alloc (.cells (mk 18 (slideV f d)) 64)) 2 (fun _ => 0) 53
  have HB := Lib.hid (((Below.refl w.heap.size w).alloc (Nat.le_refl _) (.cells (mk 18 (slideV f d)) 64)).alloc (by simp) (.cells (mk 2 fun _ => 0) 53))
  simp only [World.size_alloc] at K4
  have HM := Lib.hid (fun W => meanBehind_any (slideB f d) (ScF n) 1 4194304 65 #[.int .i64 (n : Int)] #[] W (slideB_vd hV d) (scm_dn hn (slideB_vd hV d)) (mv_room hV hm) (Go.Proofs.enters_of Try.func65 (by kernel_rfl) rfl) (fun p W' hp _ => h (plB (slideB f d) p) W' (plB_vd (slideB_vd hV d) hp)))
  have b16 := slideS_bd hV d 4 (Nat.le_refl _)
  obtain ⟨hp, hp2, hp1, _⟩ := scm_ok hn hV hm
  have HPL := Lib.hid (fun w => plus_any ((slideS f d 4).toNat, 1) (mnF (ScF n) (slideB f d)) w Nat.one_pos hp.pos (by have := ss_bd hV d; have := Nat.mul_le_mul this hp2; show (slideS f d 4).toNat * (mnF (ScF n) (slideB f d)).2 ≤ _; omega) (by show (mnF (ScF n) (slideB f d)).1 * 1 ≤ _; omega) (by show 1 * (mnF (ScF n) (slideB f d)).2 ≤ _; omega))
  have HW := Lib.hid (fun w => whole_any (slideS f d 4) (slideS f d 4).toNat w (by omega))
  have HR : Hid (plusF ((slideS f d 4).toNat, 1) (mnF (ScF n) (slideB f d)) = scV n f d) := rfl
  clear hp hp2 hp1 h b16
  go_enter Try.func94, Try.ntmps94
  go_wp2_with fail
  generalize (w.alloc (.cells (mk 18 (slideV f d)) 64)).alloc (.cells (mk 2 fun _ => 0) 53) = w1 at *
  refine wp_region_held_drew (S := fun W => Blk W w.heap.size 18 (slideV f d) 64) (by kernel_rfl) (K3.drew) (fun hHeld => ?_)
  have K3 : Blk w1.drew w.heap.size 18 (slideV f d) 64 := K3.drew
  have K4 : Blk w1.drew (w.heap.size + 1) 2 (fun _ => 0) 53 := K4.drew
  have HB : Hid (Below w.heap.size w w1.drew) := HB.out.drew
  clear hHeld
  generalize w1.drew = x0 at *
  have hHeld : Blk x0 w.heap.size 18 (slideV f d) 64 := K3
  refine wpAnyH_take (i := 0) (oi := { dst := some 5, op := _, type := _, pos := _, after := _, guard := _ }) (v := .pointer (some ⟨w.heap.size, 16, none⟩)) rfl (by kernel_rfl) (by kernel_rfl) (by kernel_rfl) (fun _ _ _ h => h) (Or.inl ⟨by rfl, by intro w hSw; clear hSw; go_simp; (try with_reducible rfl)⟩) (by assumption) ?_
  try simp only [Act.put, List.setIfInBounds_toArray, List.set_cons_zero, List.set_cons_succ]
  refine wpAnyH_take (i := 1) (oi := { dst := some 6, op := _, type := _, pos := _, after := _, guard := _ }) (v := .int .i64 (slideS f d 4)) rfl (by kernel_rfl) (by kernel_rfl) (by kernel_rfl) (fun _ _ _ h => h) (Or.inl ⟨by rfl, by intro W q; have c0 : W.cell? ⟨w.heap.size, 16, none⟩ = some (.int .i64 (slideS f d 4)) := q.cell (i := 16) (by omega); clear q; go_simp⟩) (by assumption) ?_
  try simp only [Act.put, List.setIfInBounds_toArray, List.set_cons_zero, List.set_cons_succ]
  refine wpAnyH_take (i := 3) (oi := { dst := some 8, op := _, type := _, pos := _, after := _, guard := _ }) (v := .pointer (some ⟨w.heap.size, 0, none⟩)) rfl (by kernel_rfl) (by kernel_rfl) (by kernel_rfl) (fun _ _ _ h => h) (Or.inl ⟨by rfl, by intro w hSw; clear hSw; go_simp; (try with_reducible rfl)⟩) (by assumption) ?_
  try simp only [Act.put, List.setIfInBounds_toArray, List.set_cons_zero, List.set_cons_succ]
  refine wpAnyH_take (i := 4) (oi := { dst := some 9, op := _, type := _, pos := _, after := _, guard := _ }) (v := .agg (mk 16 (slideB f d))) rfl (by kernel_rfl) (by kernel_rfl) (by kernel_rfl) (fun _ _ _ h => h) (Or.inl ⟨by rfl, fun _ q => execSB9 q rfl rfl⟩) (by assumption) ?_
  try simp only [Act.put, List.setIfInBounds_toArray, List.set_cons_zero, List.set_cons_succ]
  refine wpAnyH_take (i := 5) (oi := { dst := some 10, op := _, type := _, pos := _, after := _, guard := _ }) (v := .int .i64 (n : Int)) rfl (by kernel_rfl) (by kernel_rfl) (by kernel_rfl) (fun _ _ _ h => h) (Or.inl ⟨by rfl, by intro w hSw; clear hSw; go_simp; (try with_reducible rfl)⟩) (by assumption) ?_
  try simp only [Act.put, List.setIfInBounds_toArray, List.set_cons_zero, List.set_cons_succ]
  refine wpAnyH_take (i := 6) (oi := { dst := some 11, op := _, type := _, pos := _, after := _, guard := _ }) (v := .func (.func 65) #[.int .i64 (n : Int)] #[]) rfl (by kernel_rfl) (by kernel_rfl) (by kernel_rfl) (fun _ _ _ h => h) (Or.inl ⟨by rfl, by intro w hSw; clear hSw; go_simp; (try with_reducible rfl)⟩) (by assumption) ?_
  try simp only [Act.put, List.setIfInBounds_toArray, List.set_cons_zero, List.set_cons_succ]
  refine wpAnyH_ready (rs := [2]) (by kernel_rfl) (by simp) ?_
  refine AllReadyH.cons rfl (fun K hK => ?_) AllReadyH.nil
  go_simp
  refine (HW.out _).mono ?_
  rintro _ x1 ⟨rfl, hb⟩
  have K3 := K3.below hb K3.lt
  have K4 := K4.below hb K4.lt
  have HB : Hid (Below w.heap.size w x1) := HB.out.trans (hb.mono HB.out.size)
  clear hb hHeld
  go_wp2_with fail
  refine hK.out _ _ K3 (fun hHeld => ?_)
  clear hK K
  try simp only [Act.put, List.setIfInBounds_toArray, List.set_cons_zero, List.set_cons_succ]
  refine wpAnyH_ready (rs := [7]) (by kernel_rfl) (by simp) ?_
  refine AllReadyH.cons rfl (fun K hK => ?_) AllReadyH.nil
  go_simp
  refine (HM.out _).mono ?_
  rintro _ x2 ⟨rfl, hb⟩
  have K3 := K3.below hb K3.lt
  have K4 := K4.below hb K4.lt
  have HB : Hid (Below w.heap.size w x2) := HB.out.trans (hb.mono HB.out.size)
  clear hb hHeld
  go_wp2_with fail
  refine hK.out _ _ K3 (fun hHeld => ?_)
  clear hK K
  try simp only [Act.put, List.setIfInBounds_toArray, List.set_cons_zero, List.set_cons_succ]
  refine wpAnyH_ready (rs := [8]) (by kernel_rfl) (by simp) ?_
  refine AllReadyH.cons rfl (fun K hK => ?_) AllReadyH.nil
  go_simp
  refine (HPL.out _).mono ?_
  rintro _ x3 ⟨rfl, hb⟩
  have K3 := K3.below hb K3.lt
  have K4 := K4.below hb K4.lt
  have HB : Hid (Below w.heap.size w x3) := HB.out.trans (hb.mono HB.out.size)
  clear hb hHeld
  go_wp2_with fail
  refine hK.out _ _ K3 (fun hHeld => ?_)
  clear hK K
  try simp only [Act.put, List.setIfInBounds_toArray, List.set_cons_zero, List.set_cons_succ]
  refine wpAnyH_ready (rs := [9]) (by kernel_rfl) (by simp) ?_
  refine AllReadyH.cons rfl (fun K hK => ?_) AllReadyH.nil
  have st1 := run_store_blk (P := Try.prog) (g := fcF (plusF ((slideS f d 4).toNat, 1) (mnF (ScF n) (slideB f d)))) K4
  have ms1 : (mk 2 (fcF (plusF ((slideS f d 4).toNat, 1) (mnF (ScF n) (slideB f d))))).size = 2 := mk_size 2 _
  rw [HR.out] at *
  go_simp
  clear st1 ms1 hHeld
  have K3 := K3.rowOther (w.heap.size + 1) (mk 2 (fcF (scV n f d))) (by omega)
  have HB : Hid (Below w.heap.size w (x3.setRow (w.heap.size + 1) (mk 2 (fcF (scV n f d))))) := below_setRow HB.out (by omega) _
  have K4 := K4.row 2 (fcF (scV n f d))
  generalize x3.setRow (w.heap.size + 1) (mk 2 (fcF (scV n f d))) = x4 at *
  refine hK.out _ _ K3 (fun hHeld => ?_)
  clear hK K
  try simp only [Act.put, List.setIfInBounds_toArray, List.set_cons_zero, List.set_cons_succ]
  refine wpAnyH_done (by kernel_rfl) ?_ _
  clear hHeld
  go_wp2_with fail
  try simp only [Exit.inBlock, Exit.then]
  exact retcF K4 rfl rfl rfl ⟨rfl, HB.out⟩
set_option maxHeartbeats 2000000 in
set_option maxRecDepth 20000 in
theorem SPn_succ {n : Nat} (hn : n ≤ 1) (h : SWn n) : SPn (n + 1) := by
  intro f w hV
  rw [scm_succ]
  have z2 := zero2
  have z16 := zero16
  have z18 := zero18
  have K3 := (Blk.new w 16 f 29).alloc (.cells (mk 2 fun _ => 0) 53)
  have K4 := Blk.new (w.alloc (.cells (mk 16 f) 29)) 2 (fun _ => 0) 53
  have HB := Lib.hid (((Below.refl w.heap.size w).alloc (Nat.le_refl _) (.cells (mk 16 f) 29)).alloc (by simp) (.cells (mk 2 fun _ => 0) 53))
  simp only [World.size_alloc] at K4
  have HM := Lib.hid (fun W => bestMove_any f (scV n f) (1, 0) 94 #[.int .i64 (n : Int)] #[] W hV (fun d hd hm => ⟨(scm_ok hn hV hm).2.2.2.1, by have := scm_ok hn hV hm; omega, by have := scm_ok hn hV hm; omega⟩) (fun d hd hm => ltF_end _) (Go.Proofs.enters_of Try.func94 (by kernel_rfl) rfl) (fun d W' hd hm _ => h f d W' hV hm))
  generalize bmF f (scV n f) 4 = R at *
  have hn1 : ¬ ((n : Int) + 1 = 0) := by omega
  have hn1b : (((n : Int) + 1) == 0) = false := by rw [beq_eq_false_iff_ne]; exact hn1
  have hn2 : (n : Int) + 1 - 1 = (n : Int) := by omega
  have hcast : ((n + 1 : Nat) : Int) = (n : Int) + 1 := by omega
  rw [hcast]
  clear hV h hcast
  go_enter Try.func65, Try.ntmps65
  go_wp2_with fail
  generalize (w.alloc (.cells (mk 16 f) 29)).alloc (.cells (mk 2 fun _ => 0) 53) = w1 at *
  refine wp_region_held_drew (S := fun W => Blk W w.heap.size 16 f 29) (by kernel_rfl) (K3.drew) (fun hHeld => ?_)
  have K3 := K3.drew
  have K4 := K4.drew
  have HB : Hid (Below w.heap.size w w1.drew) := HB.out.drew
  clear hHeld
  generalize w1.drew = xw at *
  have hHeld : Blk xw w.heap.size 16 f 29 := K3
  refine wpAnyH_take (i := 0) (oi := { dst := some 12, op := _, type := _, pos := _, after := _, guard := _ }) (v := .agg (mk 16 f)) rfl (by kernel_rfl) (by kernel_rfl) (by kernel_rfl) (fun _ _ _ h => h) (Or.inl ⟨by rfl, fun _ q => execB9 q rfl rfl⟩) (by assumption) ?_
  try simp only [Act.put, List.setIfInBounds_toArray, List.set_cons_zero, List.set_cons_succ]
  refine wpAnyH_take (i := 1) (oi := { dst := some 13, op := _, type := _, pos := _, after := _, guard := _ }) (v := .int .i64 ((n : Int) + 1)) rfl (by kernel_rfl) (by kernel_rfl) (by kernel_rfl) (fun _ _ _ h => h) (Or.inl ⟨by rfl, by intro w hSw; clear hSw; go_simp; (try with_reducible rfl)⟩) (by assumption) ?_
  try simp only [Act.put, List.setIfInBounds_toArray, List.set_cons_zero, List.set_cons_succ]
  refine wpAnyH_take (i := 2) (oi := { dst := some 14, op := _, type := _, pos := _, after := _, guard := _ }) (v := .int .i64 (n : Int)) rfl (by kernel_rfl) (by kernel_rfl) (by kernel_rfl) (fun _ _ _ h => h) (Or.inl ⟨by rfl, by intro W q; clear q; go_simp; exact fit62 (by omega)⟩) (by assumption) ?_
  try simp only [Act.put, List.setIfInBounds_toArray, List.set_cons_zero, List.set_cons_succ]
  refine wpAnyH_take (i := 3) (oi := { dst := some 15, op := _, type := _, pos := _, after := _, guard := _ }) (v := .func (.func 94) #[.int .i64 (n : Int)] #[]) rfl (by kernel_rfl) (by kernel_rfl) (by kernel_rfl) (fun _ _ _ h => h) (Or.inl ⟨by rfl, by intro w hSw; clear hSw; go_simp; (try with_reducible rfl)⟩) (by assumption) ?_
  try simp only [Act.put, List.setIfInBounds_toArray, List.set_cons_zero, List.set_cons_succ]
  refine wpAnyH_ready (rs := [4, 10]) (by kernel_rfl) (by simp) ?_
  refine AllReadyH.cons rfl (fun K hK => ?_) ?_
  · go_simp
    refine (endless_any _).mono ?_
    rintro _ x1 ⟨rfl, hb⟩
    have K3 := K3.below hb K3.lt
    have K4 := K4.below hb K4.lt
    have HB : Hid (Below w.heap.size w x1) := HB.out.trans (hb.mono HB.out.size)
    clear hb hHeld
    go_wp2_with fail
    refine hK.out _ _ (K3) (fun hHeld => ?_)
    clear hK K
    try simp only [Act.put, List.setIfInBounds_toArray, List.set_cons_zero, List.set_cons_succ]
    refine wpAnyH_ready (rs := [5, 10]) (by kernel_rfl) (by simp) ?_
    refine AllReadyH.cons rfl (fun K hK => ?_) ?_
    · go_simp
      refine (HM.out _).mono ?_
      rintro _ x2 ⟨rfl, hb⟩
      have K3 := K3.below hb K3.lt
      have K4 := K4.below hb K4.lt
      have HB : Hid (Below w.heap.size w x2) := HB.out.trans (hb.mono HB.out.size)
      clear hb hHeld
      go_wp2_with fail
      refine hK.out _ _ (K3) (fun hHeld => ?_)
      clear hK K
      try simp only [Act.put, List.setIfInBounds_toArray, List.set_cons_zero, List.set_cons_succ]
      refine wpAnyH_take (i := 6) (oi := { dst := some 11, op := _, type := _, pos := _, after := _, guard := _ }) (v := .tuple #[.int .i64 ((R).d : Int), .agg (mk 2 (fcF (R).v)), .bool (R).ok]) rfl (by kernel_rfl) (by kernel_rfl) (by kernel_rfl) (fun _ _ _ h => h) (Or.inl ⟨by rfl, by intro w hSw; clear hSw; go_simp; (try with_reducible rfl)⟩) (by assumption) ?_
      try simp only [Act.put, List.setIfInBounds_toArray, List.set_cons_zero, List.set_cons_succ]
      refine wpAnyH_take (i := 7) (oi := { dst := some 18, op := _, type := _, pos := _, after := _, guard := _ }) (v := .int .i64 ((R).d : Int)) rfl (by kernel_rfl) (by kernel_rfl) (by kernel_rfl) (fun _ _ _ h => h) (Or.inl ⟨by rfl, by intro w hSw; clear hSw; go_simp; (try with_reducible rfl)⟩) (by assumption) ?_
      try simp only [Act.put, List.setIfInBounds_toArray, List.set_cons_zero, List.set_cons_succ]
      refine wpAnyH_take (i := 8) (oi := { dst := some 19, op := _, type := _, pos := _, after := _, guard := _ }) (v := .agg (mk 2 (fcF (R).v))) rfl (by kernel_rfl) (by kernel_rfl) (by kernel_rfl) (fun _ _ _ h => h) (Or.inl ⟨by rfl, by intro w hSw; clear hSw; go_simp; (try with_reducible rfl)⟩) (by assumption) ?_
      try simp only [Act.put, List.setIfInBounds_toArray, List.set_cons_zero, List.set_cons_succ]
      refine wpAnyH_take (i := 9) (oi := { dst := some 20, op := _, type := _, pos := _, after := _, guard := _ }) (v := .bool (R).ok) rfl (by kernel_rfl) (by kernel_rfl) (by kernel_rfl) (fun _ _ _ h => h) (Or.inl ⟨by rfl, by intro w hSw; clear hSw; go_simp; (try with_reducible rfl)⟩) (by assumption) ?_
      try simp only [Act.put, List.setIfInBounds_toArray, List.set_cons_zero, List.set_cons_succ]
      refine wpAnyH_ready (rs := [10]) (by kernel_rfl) (by simp) ?_
      refine AllReadyH.cons rfl (fun K hK => ?_) AllReadyH.nil
      go_simp
      clear hHeld
      have hl0 := K3.lt
      have hl1 := K4.lt
      have KN := Blk.new x2 2 (fun _ => 0) 53
      have K3 := K3.alloc (.cells (mk 2 fun _ => 0) 53)
      have K4 := K4.alloc (.cells (mk 2 fun _ => 0) 53)
      have HB : Hid (Below w.heap.size w (x2.alloc (.cells (mk 2 fun _ => 0) 53))) := HB.out.alloc HB.out.size _
      generalize x2.alloc (.cells (mk 2 fun _ => 0) 53) = xn3 at *
      generalize x2.heap.size = bN at *
      refine hK.out _ _ (K3) (fun hHeld => ?_)
      clear hK K
      try simp only [Act.put, List.setIfInBounds_toArray, List.set_cons_zero, List.set_cons_succ]
      refine wpAnyH_take (i := 11) (oi := { dst := some 5, op := _, type := _, pos := _, after := _, guard := _ }) (v := .int .i64 ((R).d : Int)) rfl (by kernel_rfl) (by kernel_rfl) (by kernel_rfl) (fun _ _ _ h => h) (Or.inl ⟨by rfl, by intro w hSw; clear hSw; go_simp; (try with_reducible rfl)⟩) (by assumption) ?_
      try simp only [Act.put, List.setIfInBounds_toArray, List.set_cons_zero, List.set_cons_succ]
      refine wpAnyH_ready (rs := [12]) (by kernel_rfl) (by simp) ?_
      refine AllReadyH.cons rfl (fun K hK => ?_) AllReadyH.nil
      have st1 := run_store_blk (P := Try.prog) (g := fcF (R).v) KN
      have ms1 : (mk 2 (fcF (R).v)).size = 2 := mk_size 2 _
      go_simp
      clear st1 ms1 hHeld
      have K3 := K3.rowOther bN (mk 2 (fcF (R).v)) (by omega)
      have K4 := K4.rowOther bN (mk 2 (fcF (R).v)) (by omega)
      have HB : Hid (Below w.heap.size w (xn3.setRow bN (mk 2 (fcF (R).v)))) := below_setRow HB.out (by omega) _
      have KN := KN.row 2 (fcF (R).v)
      generalize xn3.setRow bN (mk 2 (fcF (R).v)) = xs4 at *
      refine hK.out _ _ (K3) (fun hHeld => ?_)
      clear hK K
      try simp only [Act.put, List.setIfInBounds_toArray, List.set_cons_zero, List.set_cons_succ]
      refine wpAnyH_take (i := 13) (oi := { dst := some 7, op := _, type := _, pos := _, after := _, guard := _ }) (v := .bool (R).ok) rfl (by kernel_rfl) (by kernel_rfl) (by kernel_rfl) (fun _ _ _ h => h) (Or.inl ⟨by rfl, by intro w hSw; clear hSw; go_simp; (try with_reducible rfl)⟩) (by assumption) ?_
      try simp only [Act.put, List.setIfInBounds_toArray, List.set_cons_zero, List.set_cons_succ]
      refine wpAnyH_done (by kernel_rfl) ?_ _
      clear hHeld
      go_wp2_with (first | ((with_reducible show wpList _ _ _ (Oper.mk _ (Op.load 53 _) _ _ _ _ :: _) _ _); refine loadF (KN) rfl rfl rfl ?_) | ((with_reducible show wpList _ _ _ (Oper.mk _ (Op.store 53 _ _) _ _ _ _ :: _) _ _); refine storeF (K4) rfl rfl rfl rfl ?_))
      try simp only [Exit.inBlock, Exit.then]
      exact retcF (K4.row 2 _) rfl rfl rfl ⟨rfl, below_setRow HB.out (by omega) _⟩
    refine AllReadyH.cons rfl (fun K hK => ?_) AllReadyH.nil
    go_simp
    clear hHeld
    have hl0 := K3.lt
    have hl1 := K4.lt
    have KN := Blk.new x1 2 (fun _ => 0) 53
    have K3 := K3.alloc (.cells (mk 2 fun _ => 0) 53)
    have K4 := K4.alloc (.cells (mk 2 fun _ => 0) 53)
    have HB : Hid (Below w.heap.size w (x1.alloc (.cells (mk 2 fun _ => 0) 53))) := HB.out.alloc HB.out.size _
    generalize x1.alloc (.cells (mk 2 fun _ => 0) 53) = xn5 at *
    generalize x1.heap.size = bN at *
    refine hK.out _ _ (K3) (fun hHeld => ?_)
    clear hK K
    try simp only [Act.put, List.setIfInBounds_toArray, List.set_cons_zero, List.set_cons_succ]
    refine wpAnyH_ready (rs := [5]) (by kernel_rfl) (by simp) ?_
    refine AllReadyH.cons rfl (fun K hK => ?_) AllReadyH.nil
    go_simp
    refine (HM.out _).mono ?_
    rintro _ x6 ⟨rfl, hb⟩
    have K3 := K3.below hb K3.lt
    have K4 := K4.below hb K4.lt
    have KN := KN.below hb KN.lt
    have HB : Hid (Below w.heap.size w x6) := HB.out.trans (hb.mono HB.out.size)
    clear hb hHeld
    go_wp2_with fail
    refine hK.out _ _ (K3) (fun hHeld => ?_)
    clear hK K
    try simp only [Act.put, List.setIfInBounds_toArray, List.set_cons_zero, List.set_cons_succ]
    refine wpAnyH_take (i := 6) (oi := { dst := some 11, op := _, type := _, pos := _, after := _, guard := _ }) (v := .tuple #[.int .i64 ((R).d : Int), .agg (mk 2 (fcF (R).v)), .bool (R).ok]) rfl (by kernel_rfl) (by kernel_rfl) (by kernel_rfl) (fun _ _ _ h => h) (Or.inl ⟨by rfl, by intro w hSw; clear hSw; go_simp; (try with_reducible rfl)⟩) (by assumption) ?_
    try simp only [Act.put, List.setIfInBounds_toArray, List.set_cons_zero, List.set_cons_succ]
    refine wpAnyH_take (i := 7) (oi := { dst := some 18, op := _, type := _, pos := _, after := _, guard := _ }) (v := .int .i64 ((R).d : Int)) rfl (by kernel_rfl) (by kernel_rfl) (by kernel_rfl) (fun _ _ _ h => h) (Or.inl ⟨by rfl, by intro w hSw; clear hSw; go_simp; (try with_reducible rfl)⟩) (by assumption) ?_
    try simp only [Act.put, List.setIfInBounds_toArray, List.set_cons_zero, List.set_cons_succ]
    refine wpAnyH_take (i := 8) (oi := { dst := some 19, op := _, type := _, pos := _, after := _, guard := _ }) (v := .agg (mk 2 (fcF (R).v))) rfl (by kernel_rfl) (by kernel_rfl) (by kernel_rfl) (fun _ _ _ h => h) (Or.inl ⟨by rfl, by intro w hSw; clear hSw; go_simp; (try with_reducible rfl)⟩) (by assumption) ?_
    try simp only [Act.put, List.setIfInBounds_toArray, List.set_cons_zero, List.set_cons_succ]
    refine wpAnyH_take (i := 9) (oi := { dst := some 20, op := _, type := _, pos := _, after := _, guard := _ }) (v := .bool (R).ok) rfl (by kernel_rfl) (by kernel_rfl) (by kernel_rfl) (fun _ _ _ h => h) (Or.inl ⟨by rfl, by intro w hSw; clear hSw; go_simp; (try with_reducible rfl)⟩) (by assumption) ?_
    try simp only [Act.put, List.setIfInBounds_toArray, List.set_cons_zero, List.set_cons_succ]
    refine wpAnyH_take (i := 11) (oi := { dst := some 5, op := _, type := _, pos := _, after := _, guard := _ }) (v := .int .i64 ((R).d : Int)) rfl (by kernel_rfl) (by kernel_rfl) (by kernel_rfl) (fun _ _ _ h => h) (Or.inl ⟨by rfl, by intro w hSw; clear hSw; go_simp; (try with_reducible rfl)⟩) (by assumption) ?_
    try simp only [Act.put, List.setIfInBounds_toArray, List.set_cons_zero, List.set_cons_succ]
    refine wpAnyH_ready (rs := [12]) (by kernel_rfl) (by simp) ?_
    refine AllReadyH.cons rfl (fun K hK => ?_) AllReadyH.nil
    have st1 := run_store_blk (P := Try.prog) (g := fcF (R).v) KN
    have ms1 : (mk 2 (fcF (R).v)).size = 2 := mk_size 2 _
    go_simp
    clear st1 ms1 hHeld
    have K3 := K3.rowOther bN (mk 2 (fcF (R).v)) (by omega)
    have K4 := K4.rowOther bN (mk 2 (fcF (R).v)) (by omega)
    have HB : Hid (Below w.heap.size w (x6.setRow bN (mk 2 (fcF (R).v)))) := below_setRow HB.out (by omega) _
    have KN := KN.row 2 (fcF (R).v)
    generalize x6.setRow bN (mk 2 (fcF (R).v)) = xs7 at *
    refine hK.out _ _ (K3) (fun hHeld => ?_)
    clear hK K
    try simp only [Act.put, List.setIfInBounds_toArray, List.set_cons_zero, List.set_cons_succ]
    refine wpAnyH_take (i := 13) (oi := { dst := some 7, op := _, type := _, pos := _, after := _, guard := _ }) (v := .bool (R).ok) rfl (by kernel_rfl) (by kernel_rfl) (by kernel_rfl) (fun _ _ _ h => h) (Or.inl ⟨by rfl, by intro w hSw; clear hSw; go_simp; (try with_reducible rfl)⟩) (by assumption) ?_
    try simp only [Act.put, List.setIfInBounds_toArray, List.set_cons_zero, List.set_cons_succ]
    refine wpAnyH_done (by kernel_rfl) ?_ _
    clear hHeld
    go_wp2_with (first | ((with_reducible show wpList _ _ _ (Oper.mk _ (Op.load 53 _) _ _ _ _ :: _) _ _); refine loadF (KN) rfl rfl rfl ?_) | ((with_reducible show wpList _ _ _ (Oper.mk _ (Op.store 53 _ _) _ _ _ _ :: _) _ _); refine storeF (K4) rfl rfl rfl rfl ?_))
    try simp only [Exit.inBlock, Exit.then]
    exact retcF (K4.row 2 _) rfl rfl rfl ⟨rfl, below_setRow HB.out (by omega) _⟩
  refine AllReadyH.cons rfl (fun K hK => ?_) AllReadyH.nil
  go_simp
  clear hHeld
  have hl0 := K3.lt
  have hl1 := K4.lt
  have KN := Blk.new xw 2 (fun _ => 0) 53
  have K3 := K3.alloc (.cells (mk 2 fun _ => 0) 53)
  have K4 := K4.alloc (.cells (mk 2 fun _ => 0) 53)
  have HB : Hid (Below w.heap.size w (xw.alloc (.cells (mk 2 fun _ => 0) 53))) := HB.out.alloc HB.out.size _
  generalize xw.alloc (.cells (mk 2 fun _ => 0) 53) = xn8 at *
  generalize xw.heap.size = bN at *
  refine hK.out _ _ (K3) (fun hHeld => ?_)
  clear hK K
  try simp only [Act.put, List.setIfInBounds_toArray, List.set_cons_zero, List.set_cons_succ]
  refine wpAnyH_ready (rs := [4]) (by kernel_rfl) (by simp) ?_
  refine AllReadyH.cons rfl (fun K hK => ?_) AllReadyH.nil
  go_simp
  refine (endless_any _).mono ?_
  rintro _ x9 ⟨rfl, hb⟩
  have K3 := K3.below hb K3.lt
  have K4 := K4.below hb K4.lt
  have KN := KN.below hb KN.lt
  have HB : Hid (Below w.heap.size w x9) := HB.out.trans (hb.mono HB.out.size)
  clear hb hHeld
  go_wp2_with fail
  refine hK.out _ _ (K3) (fun hHeld => ?_)
  clear hK K
  try simp only [Act.put, List.setIfInBounds_toArray, List.set_cons_zero, List.set_cons_succ]
  refine wpAnyH_ready (rs := [5]) (by kernel_rfl) (by simp) ?_
  refine AllReadyH.cons rfl (fun K hK => ?_) AllReadyH.nil
  go_simp
  refine (HM.out _).mono ?_
  rintro _ x10 ⟨rfl, hb⟩
  have K3 := K3.below hb K3.lt
  have K4 := K4.below hb K4.lt
  have KN := KN.below hb KN.lt
  have HB : Hid (Below w.heap.size w x10) := HB.out.trans (hb.mono HB.out.size)
  clear hb hHeld
  go_wp2_with fail
  refine hK.out _ _ (K3) (fun hHeld => ?_)
  clear hK K
  try simp only [Act.put, List.setIfInBounds_toArray, List.set_cons_zero, List.set_cons_succ]
  refine wpAnyH_take (i := 6) (oi := { dst := some 11, op := _, type := _, pos := _, after := _, guard := _ }) (v := .tuple #[.int .i64 ((R).d : Int), .agg (mk 2 (fcF (R).v)), .bool (R).ok]) rfl (by kernel_rfl) (by kernel_rfl) (by kernel_rfl) (fun _ _ _ h => h) (Or.inl ⟨by rfl, by intro w hSw; clear hSw; go_simp; (try with_reducible rfl)⟩) (by assumption) ?_
  try simp only [Act.put, List.setIfInBounds_toArray, List.set_cons_zero, List.set_cons_succ]
  refine wpAnyH_take (i := 7) (oi := { dst := some 18, op := _, type := _, pos := _, after := _, guard := _ }) (v := .int .i64 ((R).d : Int)) rfl (by kernel_rfl) (by kernel_rfl) (by kernel_rfl) (fun _ _ _ h => h) (Or.inl ⟨by rfl, by intro w hSw; clear hSw; go_simp; (try with_reducible rfl)⟩) (by assumption) ?_
  try simp only [Act.put, List.setIfInBounds_toArray, List.set_cons_zero, List.set_cons_succ]
  refine wpAnyH_take (i := 8) (oi := { dst := some 19, op := _, type := _, pos := _, after := _, guard := _ }) (v := .agg (mk 2 (fcF (R).v))) rfl (by kernel_rfl) (by kernel_rfl) (by kernel_rfl) (fun _ _ _ h => h) (Or.inl ⟨by rfl, by intro w hSw; clear hSw; go_simp; (try with_reducible rfl)⟩) (by assumption) ?_
  try simp only [Act.put, List.setIfInBounds_toArray, List.set_cons_zero, List.set_cons_succ]
  refine wpAnyH_take (i := 9) (oi := { dst := some 20, op := _, type := _, pos := _, after := _, guard := _ }) (v := .bool (R).ok) rfl (by kernel_rfl) (by kernel_rfl) (by kernel_rfl) (fun _ _ _ h => h) (Or.inl ⟨by rfl, by intro w hSw; clear hSw; go_simp; (try with_reducible rfl)⟩) (by assumption) ?_
  try simp only [Act.put, List.setIfInBounds_toArray, List.set_cons_zero, List.set_cons_succ]
  refine wpAnyH_take (i := 11) (oi := { dst := some 5, op := _, type := _, pos := _, after := _, guard := _ }) (v := .int .i64 ((R).d : Int)) rfl (by kernel_rfl) (by kernel_rfl) (by kernel_rfl) (fun _ _ _ h => h) (Or.inl ⟨by rfl, by intro w hSw; clear hSw; go_simp; (try with_reducible rfl)⟩) (by assumption) ?_
  try simp only [Act.put, List.setIfInBounds_toArray, List.set_cons_zero, List.set_cons_succ]
  refine wpAnyH_ready (rs := [12]) (by kernel_rfl) (by simp) ?_
  refine AllReadyH.cons rfl (fun K hK => ?_) AllReadyH.nil
  have st1 := run_store_blk (P := Try.prog) (g := fcF (R).v) KN
  have ms1 : (mk 2 (fcF (R).v)).size = 2 := mk_size 2 _
  go_simp
  clear st1 ms1 hHeld
  have K3 := K3.rowOther bN (mk 2 (fcF (R).v)) (by omega)
  have K4 := K4.rowOther bN (mk 2 (fcF (R).v)) (by omega)
  have HB : Hid (Below w.heap.size w (x10.setRow bN (mk 2 (fcF (R).v)))) := below_setRow HB.out (by omega) _
  have KN := KN.row 2 (fcF (R).v)
  generalize x10.setRow bN (mk 2 (fcF (R).v)) = xs11 at *
  refine hK.out _ _ (K3) (fun hHeld => ?_)
  clear hK K
  try simp only [Act.put, List.setIfInBounds_toArray, List.set_cons_zero, List.set_cons_succ]
  refine wpAnyH_take (i := 13) (oi := { dst := some 7, op := _, type := _, pos := _, after := _, guard := _ }) (v := .bool (R).ok) rfl (by kernel_rfl) (by kernel_rfl) (by kernel_rfl) (fun _ _ _ h => h) (Or.inl ⟨by rfl, by intro w hSw; clear hSw; go_simp; (try with_reducible rfl)⟩) (by assumption) ?_
  try simp only [Act.put, List.setIfInBounds_toArray, List.set_cons_zero, List.set_cons_succ]
  refine wpAnyH_done (by kernel_rfl) ?_ _
  clear hHeld
  go_wp2_with (first | ((with_reducible show wpList _ _ _ (Oper.mk _ (Op.load 53 _) _ _ _ _ :: _) _ _); refine loadF (KN) rfl rfl rfl ?_) | ((with_reducible show wpList _ _ _ (Oper.mk _ (Op.store 53 _ _) _ _ _ _ :: _) _ _); refine storeF (K4) rfl rfl rfl rfl ?_))
  try simp only [Exit.inBlock, Exit.then]
  exact retcF (K4.row 2 _) rfl rfl rfl ⟨rfl, below_setRow HB.out (by omega) _⟩
theorem sp_all : ∀ n, n ≤ 2 → SPn n
  | 0, _ => SPn_zero
  | n + 1, h => SPn_succ (by omega) (SWn_of (by omega) (sp_all n (by omega)))
end Go.Proofs.Ytkocfpldgjfpeaa
