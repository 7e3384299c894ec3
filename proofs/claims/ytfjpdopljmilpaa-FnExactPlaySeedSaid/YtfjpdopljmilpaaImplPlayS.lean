/-
  The contract of PlaySeed in the program.
-/
import Derived.Test.YtfjpdopljmilpaaSpecPlayS
import Derived.Test.YtfjpdopljmilpaaImplDo
import Derived.ScopeJumps
import Derived.WalkMore
namespace Go.Proofs.Ytfjpdopljmilpaa
open Go.RowKit Plain
attribute [local go_sem] store_new store_newR
set_option linter.unusedVariables false
set_option linter.unusedSimpArgs false
theorem run_buildRp0 (w : World) : (Instr.build 29 #[]).run Try.prog w = .ok (.agg (rpl (fun _ => 0) (.slice none 0 0))) w := by kernel_rfl
theorem wpl_buildRp {w : World} {ops : Array Oper} {rest : List Oper} {o : Oper} {a : Act} {Q : Exit → Act → World → Prop} (x y : Operand) (hg : o.guard = none) (ho : o.op = .build 29 #[(0, x), (1, y)]) {f : Nat → Int} {p : Option Addr} {n c : Nat}
    (hx : a.eval x = .agg (mk 16 f)) (hy : a.eval y = .slice p n c) (h : wpList Try.prog ops Q rest (a.put o.dst (.agg (rpl f (.slice p n c)))) w) : wpList Try.prog ops Q (o :: rest) a w := by
  refine wpList_plain hg fun K' hK' => ?_
  unfold Oper.wp
  have hr := run_buildRp f p n c w
  simp [execOp, ho, hx, hy, hr, Result.andThen]
  exact hK' _ _ h
theorem wpl_buildRp0 {w : World} {ops : Array Oper} {rest : List Oper} {o : Oper} {a : Act} {Q : Exit → Act → World → Prop} (hg : o.guard = none) (ho : o.op = .build 29 #[])
    (h : wpList Try.prog ops Q rest (a.put o.dst (.agg (rpl (fun _ => 0) (.slice none 0 0)))) w) : wpList Try.prog ops Q (o :: rest) a w := by
  refine wpList_plain hg fun K' hK' => ?_
  unfold Oper.wp
  have hr := run_buildRp0 w
  simp [execOp, ho, hr, Result.andThen]
  exact hK' _ _ h
theorem wpl_allocRp {w : World} {ops : Array Oper} {rest : List Oper} {o : Oper} {a : Act} {Q : Exit → Act → World → Prop} (hg : o.guard = none) (ho : o.op = .alloc 29)
    (h : wpList Try.prog ops Q rest (a.put o.dst (.pointer (some ⟨w.heap.size, 0, none⟩))) (w.alloc (.cells (rpl (fun _ => 0) (.slice none 0 0)) 29))) : wpList Try.prog ops Q (o :: rest) a w := by
  refine wpList_plain hg fun K' hK' => ?_
  exact wp_allocRp ho (hK' _ _ h)
def mu11 (N : Nat) (a : Act) (w : World) : Nat := match a.tmps.getD 11 undef with
  | .pointer (some p) => match w.cell? ⟨p.block, 16, none⟩ with
    | some (.slice _ m _) => N - m
    | _ => 0
  | _ => 0
theorem mu11_at {N : Nat} {a : Act} {w : World} {b m : Nat} {p : Option Addr} {c : Nat} (h : a.tmps.getD 11 undef = .pointer (some ⟨b, 0, none⟩)) (hc : w.cell? ⟨b, 16, none⟩ = some (.slice p m c)) : mu11 N a w = N - m := by
  unfold mu11
  rw [h]
  simp only [hc]
theorem jump_mono {l : Nat} {J J' : Act → World → Prop} {Q : Exit → Act → World → Prop} (h : ∀ a w, J a w → J' a w) : ∀ e a w, Exit.jump l J Q e a w → Exit.jump l J' Q e a w := by
  intro e a w q
  cases e <;> first | exact q | exact ⟨q.1, h _ _ q.2⟩
theorem wp_scope_jumps2 {P : Program} {a : Act} {w : World} {Q : Exit → Act → World → Prop} {c rest : Code} (l : Nat) (J : Act → World → Prop) (μ : Act → World → Nat) (hf : findLabel c l = some (Code.skip.seq rest))
    (pass : ∀ a w, J a w → rest.wp P (Exit.jump l (fun a' w' => J a' w' ∧ μ a' w' < μ a w) Q) a w)
    (first : (∀ a w, J a w → rest.wp P (Exit.jump l J Q) a w) → c.wp P (Exit.jump l J Q) a w) : (Code.scope c).wp P Q a w :=
  wp_scope_jumps l J μ hf (first fun a w h => Code.wp_mono (jump_mono fun _ _ q => q.1) (pass a w h)) fun a w h => wp_seq (wp_skip (pass a w h))
def PlJ (f o : Nat → Int) (s : Int) (N : Nat) (w : World) (a' : Act) (wr : World) : Prop := ∃ (k : Nat) (a : Option Addr) (c b11 : Nat) (F : Nat → Int) (q : Int) (L : List (List Int)) (u6 u7 u12 u13 u14 u15 u16 u17 u18 u19 u20 u21 u22 u23 u24 u25 u26 u27 u28 u29 u30 u31 u32 u33 u34 u35 u36 u37 u38 u39 u40 u41 u42 u43 u44 u45 u46 u47 u48 u49 u50 u51 u52 u53 u54 u55 u56 u57 u58 u59 u60 u61 u62 u63 u64 u65 u66 u67 u68 u69 u70 u71 : Value), a' = { tmps := #[.agg (mk 16 f), .agg (mk 4 o), .int .i64 q, .int .i64 (N : Int), .pointer (some ⟨w.heap.size, 0, none⟩), .pointer (some ⟨w.heap.size + 1, 0, none⟩), u6, u7, .pointer (some ⟨w.heap.size + 1 + 1, 0, none⟩), .int .i64 0, .bool false, .pointer (some ⟨b11, 0, none⟩), u12, u13, u14, u15, u16, u17, u18, u19, u20, u21, u22, u23, u24, u25, u26, u27, u28, u29, u30, u31, u32, u33, u34, u35, u36, u37, u38, u39, u40, u41, u42, u43, u44, u45, u46, u47, u48, u49, u50, u51, u52, u53, u54, u55, u56, u57, u58, u59, u60, u61, u62, u63, u64, u65, u66, u67, u68, u69, u70, u71], defers := [] } ∧ k ≤ N ∧ Hid (psA f o s k = (F, q, L)) ∧ Hid (L.length = k) ∧ Blk wr w.heap.size 16 F 26 ∧ Blk wr (w.heap.size + 1) 4 o 22 ∧ Rp wr (w.heap.size + 1 + 1) (fun _ => 0) (.slice none 0 0) 29 ∧ Rp wr b11 f (.slice a k c) 29 ∧ w.heap.size + 1 + 1 < b11 ∧ Hid (OwnsL 52 4 wr (w.heap.size + 1 + 1 + 1) (.slice a k c) L) ∧ Hid (∀ j, (Value.slice a k c).ownBlock = some j → j ≠ b11) ∧ Hid (Below w.heap.size w wr)
set_option maxHeartbeats 8000000 in
set_option maxRecDepth 20000 in
theorem implPlayS_any (f o : Nat → Int) (s n : Int) (w : World) :
    Calls Try.prog 17 #[.agg (mk 16 f), .agg (mk 4 o), .int .i64 s, .int .i64 n] w fun e w' => ∃ a c, e = .returned (.tuple #[.agg (rpl (psB f o s n) (.slice a (psL f o s n).length c)), .int .i64 (psS f o s n), .bool (psO f o s n)]) ∧
      OwnsL 52 4 w' w.heap.size (.slice a (psL f o s n).length c) (psL f o s n) ∧ Below w.heap.size w w' := by
  have z17 := zeroRp
  have z16 := zero16
  have z4 := zero4
  have z2 := zero2
  obtain ⟨i0, hi, hz0, hz1, hz2⟩ := info_parts infoT
  have K4 := ((Blk.new w 16 f 26).alloc (.cells (mk 4 o) 22)).alloc (.cells (rpl (fun _ => 0) (.slice none 0 0)) 29)
  have K5 := (Blk.new (w.alloc (.cells (mk 16 f) 26)) 4 o 22).alloc (.cells (rpl (fun _ => 0) (.slice none 0 0)) 29)
  have K8 := Rp.new ((w.alloc (.cells (mk 16 f) 26)).alloc (.cells (mk 4 o) 22)) (fun _ => 0) (.slice none 0 0) 29
  have HB := Lib.hid ((((Below.refl w.heap.size w).alloc (Nat.le_refl _) (.cells (mk 16 f) 26)).alloc (by simp) (.cells (mk 4 o) 22)).alloc (by simp; omega) (.cells (rpl (fun _ => 0) (.slice none 0 0)) 29))
  simp only [World.size_alloc] at K5 K8
  by_cases hV : Vd f
  · by_cases hO : OrdOk o
    · by_cases hs : SeedOk s
      · by_cases hn : 0 ≤ n ∧ n ≤ 40
        · obtain ⟨y1, y2, y3, y4⟩ := ps_yes (f := f) (o := o) (s := s) (n := n) ⟨hV, hO, hs, hn⟩
          obtain ⟨N, rfl⟩ := Int.eq_ofNat_of_zero_le hn.1
          rw [Int.toNat_natCast] at y2 y3
          have HY := Lib.hid (show psB f o s (N : Int) = f ∧ psL f o s (N : Int) = (psA f o s N).2.2 ∧ psS f o s (N : Int) = (psA f o s N).2.1 ∧ psO f o s (N : Int) = true from ⟨y1, y2, y3, y4⟩)
          obtain ⟨RB, hRB⟩ : ∃ x, x = psB f o s (N : Int) := ⟨_, rfl⟩
          obtain ⟨RL, hRL⟩ : ∃ x, x = psL f o s (N : Int) := ⟨_, rfl⟩
          obtain ⟨RS, hRS⟩ : ∃ x, x = psS f o s (N : Int) := ⟨_, rfl⟩
          obtain ⟨RO, hRO⟩ : ∃ x, x = psO f o s (N : Int) := ⟨_, rfl⟩
          rw [← hRB, ← hRL, ← hRS, ← hRO]
          rw [← hRB, ← hRL, ← hRS, ← hRO] at HY
          have HV := Lib.hid hV
          have HOr := Lib.hid hO
          have HS := Lib.hid hs
          have hN40 : N ≤ 40 := by omega
          have hn1 : ¬ ((N : Int) < 0) := by omega
          have hn2 : ¬ (40 < (N : Int)) := by omega
          have HA := Lib.hid (fun k => psA_vd (o := o) hV hs k)
          have hdo : decide (OrdOk o) = true := decide_eq_true hO
          have hds : decide (SeedOk s) = true := decide_eq_true hs
          clear hV hO hs hn y1 y2 y3 y4 hRB hRL hRS hRO
          go_enter Try.func17, Try.ntmps17
          go_wp2_with fail
          refine wp_scope_jumps2 0 (PlJ f o s N w) (mu11 N) (by rfl) ?_ ?_
          · rintro a1 wr ⟨k, a, c, b11, F, q, L, u6, u7, u12, u13, u14, u15, u16, u17, u18, u19, u20, u21, u22, u23, u24, u25, u26, u27, u28, u29, u30, u31, u32, u33, u34, u35, u36, u37, u38, u39, u40, u41, u42, u43, u44, u45, u46, u47, u48, u49, u50, u51, u52, u53, u54, u55, u56, u57, u58, u59, u60, u61, u62, u63, u64, u65, u66, u67, u68, u69, u70, u71, rfl, hkN, HP, HLn, K4, K5, K8, K11, h11, HO, HOO, HB⟩
            have hmu : ∀ tt, mu11 N { tmps := tt, defers := [] } wr = mu11 N { tmps := tt, defers := [] } wr := fun _ => rfl
            clear hmu
            have c16 := K11.last
            have HC16 := Lib.hid c16
            have hVS := HA.out k
            rw [HP.out] at hVS
            have HVF := Lib.hid hVS.1
            have HSq := Lib.hid hVS.2.1
            clear hVS
            by_cases hkn : k < N
            · have hk1 : (k : Int) < (N : Int) := by omega
              by_cases hfm : fmN F o 4 < 4
              · have HSS := Lib.hid (fun W => seedStep_any F o q W HVF.out HOr.out HSq.out)
                have hss : ssV F o q = sdStep F o q := by unfold ssV; rw [if_pos hfm]
                rw [hss, decide_eq_true hfm] at HSS
                have HST : Hid (psA f o s (k + 1) = (doB F (sdStep F o q), nxS q, L ++ [cl 4 (sdStep F o q)])) := by
                  have hh : fmN (psA f o s k).1 o 4 < 4 := by rw [HP.out]; exact hfm
                  have := psA_on hh
                  rw [HP.out] at this
                  exact this
                have HDO := Lib.hid (fun W => implDo_any F (sdStep F o q) W)
                rw [(doR_yes HVF.out).1] at HDO
                have HNX := Lib.hid (fun W => implNextSeed_any q W)
                rw [(nsd_yes HSq.out).1, (nsd_yes HSq.out).2] at HNX
                clear hss hfm
                generalize sdStep F o q = X at *
                generalize doRS F X = XS at *
                generalize doRO F X = XO at *
                go_wp2_with (first | ((with_reducible show wpList _ _ _ (Oper.mk _ (Op.load 26 _) _ _ _ _ :: _) _ _); refine loadB (K4) rfl rfl rfl ?_) | ((with_reducible show wpList _ _ _ (Oper.mk _ (Op.load 22 _) _ _ _ _ :: _) _ _); refine loadR (K5) rfl rfl rfl ?_))
                refine (HSS.out _).mono ?_
                clear HSS
                rintro e w4 ⟨rfl, hb⟩
                have K4 := K4.below hb K4.lt
                have K5 := K5.below hb K5.lt
                have K8 := K8.below hb K8.lt
                have K11 := K11.below hb K11.lt
                have HO := Lib.hid (OwnsL.below HO.out hb)
                have HB : Hid (Below w.heap.size w w4) := HB.out.trans (hb.mono HB.out.size)
                clear hb
                clear c16
                have H14 : Hid (b11 < w4.heap.size ∧ w.heap.size + 1 + 1 < w4.heap.size ∧ ∀ j, (Value.slice a k c).ownBlock = some j → j ≠ w4.heap.size) := ⟨K11.lt, K8.lt, fun j e => by have := (HO.out.lt j e).2; omega⟩
                have K14 := Blk.new w4 4 X 52
                have K4 := K4.alloc (.cells (mk 4 X) 52)
                have K5 := K5.alloc (.cells (mk 4 X) 52)
                have K8 := K8.alloc (.cells (mk 4 X) 52)
                have K11 := K11.alloc (.cells (mk 4 X) 52)
                have HO := Lib.hid (OwnsL.alloc HO.out (.cells (mk 4 X) 52))
                have HB : Hid (Below w.heap.size w (w4.alloc (.cells (mk 4 X) 52))) := HB.out.alloc HB.out.size _
                generalize hb14 : w4.heap.size = b14 at *
                have c16 := K11.last
                have hs8 := K8.lt
                go_wp2_with (first | ((with_reducible show wpList _ _ _ (Oper.mk _ (Op.load 52 _) _ _ _ _ :: _) _ _); refine loadT (K14) rfl rfl rfl ?_) | ((with_reducible show wpList _ _ _ (Oper.mk _ (Op.buildSlice _ 1 _) _ _ _ _ :: _) _ _); refine wpl_buildT _ rfl rfl (f := X) rfl ?_) | (at_builtin; refine wpl_app (v := .slice a k c) rfl _ _ 27 rfl (w.heap.size + 1 + 1 + 1) 52 i0 _ 4 32 Try.underlying27 hi hz0 hz1 hz2 rfl (by decide) (by rw [← HLn.out]; rfl) (HO.out.alloc (.cells (mk 4 X) 52)) _ 0 1 1 X 4 rfl (Blk.new _ _ _ _).at (by omega) (by have := HLn.out; unfold maxLen; omega) (by have := HLn.out; omega) (by have := H14.out; simp at hs8 ⊢; omega) ?_))
                intro v' y2 R hbl hgr hloc
                have HL1 : (L ++ [cl 4 X]).length = k + 1 := by rw [List.length_append, HLn.out]; rfl
                have ON : OwnsL 52 4 y2 (w.heap.size + 1 + 1 + 1) v' (L ++ [cl 4 X]) := by
                  rw [snoc_walk] at R
                  unfold OwnsL
                  rw [List.length_append]
                  exact R
                obtain ⟨a2, c2, rfl⟩ := OwnsL.form ON HL1
                have HO2 : Hid (∀ j, (Value.slice a2 (k + 1) c2).ownBlock = some j → j ≠ b11) := by
                  intro j e
                  rcases hloc with r | r
                  · rw [r] at e; exact HOO.out _ e
                  · rw [r] at e
                    have e := Option.some.inj e
                    have := H14.out
                    try simp only [World.size_alloc] at e
                    omega
                have n11 : (Value.slice a k c).ownBlock ≠ some b11 := fun e => HOO.out _ e rfl
                have n14 : (Value.slice a k c).ownBlock ≠ some b14 := fun e => H14.out.2.2 _ e rfl
                have K4 := (K4.alloc (.cells (mk 4 X) 52)).below hbl (by omega)
                have K5 := (K5.alloc (.cells (mk 4 X) 52)).below hbl (by omega)
                have K8 := (K8.alloc (.cells (mk 4 X) 52)).below hbl (by omega)
                have K11 := Rp.grown (K11.alloc (.cells (mk 4 X) 52)) hgr n11
                have K14 := Blk.grown (K14.alloc (.cells (mk 4 X) 52)) hgr (fun e => n14 e.symm)
                have HB : Hid (Below w.heap.size w y2) := (HB.out.alloc HB.out.size _).trans (hbl.mono (by omega))
                clear hbl hgr hloc R n11 n14 c16 HOO
                have d16 := K11.last
                have f16 := K11.free 16
                have K4 := K4.setOther ⟨b11, 16, none⟩ (.slice a2 (k + 1) c2) (by dsimp only; omega)
                have K5 := K5.setOther ⟨b11, 16, none⟩ (.slice a2 (k + 1) c2) (by dsimp only; omega)
                have K8 := K8.setOther ⟨b11, 16, none⟩ (.slice a2 (k + 1) c2) (by dsimp only; omega)
                have K14 := K14.setOther ⟨b11, 16, none⟩ (.slice a2 (k + 1) c2) (by have := H14.out; dsimp only; omega)
                have HO : Hid (OwnsL 52 4 (y2.setCell ⟨b11, 16, none⟩ (.slice a2 (k + 1) c2)) (w.heap.size + 1 + 1 + 1) (.slice a2 (k + 1) c2) (L ++ [cl 4 X])) := OwnsL.kept11 ON (grown_cellAt y2 ⟨b11, 16, none⟩ _) (fun e => HO2.out _ e rfl)
                have HB : Hid (Below w.heap.size w (y2.setCell ⟨b11, 16, none⟩ (.slice a2 (k + 1) c2))) := HB.out.setCell (by dsimp only; omega) _
                have K11 := K11.set (.slice a2 (k + 1) c2)
                clear ON
                go_wp2_with (first | ((with_reducible show wpList _ _ _ (Oper.mk _ (Op.load 26 _) _ _ _ _ :: _) _ _); refine loadB (K4) rfl rfl rfl ?_) | ((with_reducible show wpList _ _ _ (Oper.mk _ (Op.load 52 _) _ _ _ _ :: _) _ _); refine loadT (K14) rfl rfl rfl ?_))
                refine (HDO.out _).mono ?_
                clear HDO
                rintro e w6 ⟨rfl, hb⟩
                have K4 := K4.below hb K4.lt
                have K5 := K5.below hb K5.lt
                have K8 := K8.below hb K8.lt
                have K11 := K11.below hb K11.lt
                have HO := Lib.hid (OwnsL.below HO.out hb)
                have HB : Hid (Below w.heap.size w w6) := HB.out.trans (hb.mono HB.out.size)
                clear hb
                clear d16 f16 K14
                have HOs : Hid (OwnsL 52 4 (w6.setRow w.heap.size (mk 16 (doB F X))) (w.heap.size + 1 + 1 + 1) (.slice a2 (k + 1) c2) (L ++ [cl 4 X])) := OwnsL.kept11 HO.out (grown_row K4 _) (fun e => by have := (HO.out.lt _ e).1; omega)
                have HBs : Hid (Below w.heap.size w (w6.setRow w.heap.size (mk 16 (doB F X)))) := below_setRow HB.out (Nat.le_refl _) _
                have K5s := K5.rowOther w.heap.size (mk 16 (doB F X)) (by omega)
                have K8s := K8.rowOther w.heap.size (mk 16 (doB F X)) (by omega)
                have K11s := K11.rowOther w.heap.size (mk 16 (doB F X)) (by omega)
                have K4s := K4.row 16 (doB F X)
                clear HO HB K5 K8 K11
                go_wp2_with ((with_reducible show wpList _ _ _ (Oper.mk _ (Op.store 26 _ _) _ _ _ _ :: _) _ _); refine storeB (K4) rfl rfl rfl rfl ?_)
                refine (HNX.out _).mono ?_
                clear HNX
                rintro e w' ⟨rfl, rfl⟩
                go_wp2_with fail
                try refine wp_goto ?_
                refine ⟨rfl, ⟨k + 1, a2, c2, b11, doB F X, nxS q, L ++ [cl 4 X], _, _, _, _, _, _, _, _, _, _, _, _, _, _, _, _, _, _, _, _, _, _, _, _, _, _, _, _, _, _, _, _, _, _, _, _, _, _, _, _, _, _, _, _, _, _, _, _, _, _, _, _, _, _, _, _, _, _, _, _, _, _, rfl, by omega, HST, HL1, K4s, K5s, K8s, K11s, h11, HOs, HO2, HBs⟩, ?_⟩
                rw [mu11_at (b := b11) rfl K11s.last, mu11_at (b := b11) rfl HC16.out]
                omega
              · have h4 : fmN F o 4 = 4 := by have := fmN_le F o 4; omega
                have HSS := Lib.hid (fun W => seedStep_any F o q W HVF.out HOr.out HSq.out)
                rw [decide_eq_false hfm] at HSS
                have HF : Hid (psA f o s N = (F, q, L)) := by
                  show _ = _
                  rw [← HP.out]
                  exact psA_over (by rw [HP.out]; exact h4) N (by omega)
                generalize ssV F o q = X at *
                have hRV : RB = f ∧ RL = L ∧ RS = q ∧ RO = true := by
                  obtain ⟨y1, y2, y3, y4⟩ := HY.out
                  rw [HF.out] at y2 y3
                  exact ⟨y1, y2, y3, y4⟩
                have HRV := Lib.hid hRV
                clear hRV HY
                have HLk : Hid (RL.length = k) := by show _ = _; rw [HRV.out.2.1]; exact HLn.out
                clear hfm h4
                go_wp2_with (first | ((with_reducible show wpList _ _ _ (Oper.mk _ (Op.load 26 _) _ _ _ _ :: _) _ _); refine loadB (K4) rfl rfl rfl ?_) | ((with_reducible show wpList _ _ _ (Oper.mk _ (Op.load 22 _) _ _ _ _ :: _) _ _); refine loadR (K5) rfl rfl rfl ?_))
                refine (HSS.out _).mono ?_
                clear HSS
                rintro e w4 ⟨rfl, hb⟩
                have K4 := K4.below hb K4.lt
                have K5 := K5.below hb K5.lt
                have K8 := K8.below hb K8.lt
                have K11 := K11.below hb K11.lt
                have HO := Lib.hid (OwnsL.below HO.out hb)
                have HB : Hid (Below w.heap.size w w4) := HB.out.trans (hb.mono HB.out.size)
                clear hb
                clear c16
                have K4 := K4.alloc (.cells (mk 4 X) 52)
                have K5 := K5.alloc (.cells (mk 4 X) 52)
                have K8 := K8.alloc (.cells (mk 4 X) 52)
                have K11 := K11.alloc (.cells (mk 4 X) 52)
                have HO := Lib.hid (OwnsL.alloc HO.out (.cells (mk 4 X) 52))
                have HB : Hid (Below w.heap.size w (w4.alloc (.cells (mk 4 X) 52))) := HB.out.alloc HB.out.size _
                have HOf : Hid (OwnsL 52 4 ((w4.alloc (.cells (mk 4 X) 52)).setRow (w.heap.size + 1 + 1) (rpl f (.slice a k c))) (w.heap.size + 1 + 1 + 1) (.slice a k c) L) := OwnsL.kept11 HO.out (grown_rp K8 _) (fun e => by have := (HO.out.lt _ e).1; omega)
                have HBf : Hid (Below w.heap.size w ((w4.alloc (.cells (mk 4 X) 52)).setRow (w.heap.size + 1 + 1) (rpl f (.slice a k c)))) := below_setRow HB.out (by omega) _
                have HSSX := Lib.hid hk1
                clear HSSX
                go_wp2_with (first | ((with_reducible show wpList _ _ _ (Oper.mk _ (Op.load 29 _) _ _ _ _ :: _) _ _); refine loadRp (K11) rfl rfl rfl ?_) | ((with_reducible show wpList _ _ _ (Oper.mk _ (Op.store 29 _ _) _ _ _ _ :: _) _ _); refine storeRp (K8) (by rfl) rfl rfl rfl rfl ?_))
                try simp only [Exit.inBlock, Exit.then, Exit.jump]
                refine retRpTT (K8.row _ _) rfl rfl rfl ?_
                rw [HLk.out, HRV.out.1, HRV.out.2.1, HRV.out.2.2.1, HRV.out.2.2.2]
                exact ⟨a, c, rfl, HOf.out.wide (by omega), HBf.out⟩
            · have hk1 : ¬ ((k : Int) < (N : Int)) := by omega
              · have HF : Hid (psA f o s N = (F, q, L)) := by
                  show _ = _
                  rw [← HP.out, show k = N by omega]
                have hRV : RB = f ∧ RL = L ∧ RS = q ∧ RO = true := by
                  obtain ⟨y1, y2, y3, y4⟩ := HY.out
                  rw [HF.out] at y2 y3
                  exact ⟨y1, y2, y3, y4⟩
                have HRV := Lib.hid hRV
                clear hRV HY
                have HLk : Hid (RL.length = k) := by show _ = _; rw [HRV.out.2.1]; exact HLn.out
                have HOf : Hid (OwnsL 52 4 (wr.setRow (w.heap.size + 1 + 1) (rpl f (.slice a k c))) (w.heap.size + 1 + 1 + 1) (.slice a k c) L) := OwnsL.kept11 HO.out (grown_rp K8 _) (fun e => by have := (HO.out.lt _ e).1; omega)
                have HBf : Hid (Below w.heap.size w (wr.setRow (w.heap.size + 1 + 1) (rpl f (.slice a k c)))) := below_setRow HB.out (by omega) _
                have HSSX := Lib.hid hk1
                clear HSSX
                go_wp2_with (first | ((with_reducible show wpList _ _ _ (Oper.mk _ (Op.load 29 _) _ _ _ _ :: _) _ _); refine loadRp (K11) rfl rfl rfl ?_) | ((with_reducible show wpList _ _ _ (Oper.mk _ (Op.store 29 _ _) _ _ _ _ :: _) _ _); refine storeRp (K8) (by rfl) rfl rfl rfl rfl ?_))
                try simp only [Exit.inBlock, Exit.then, Exit.jump]
                refine retRpTT (K8.row _ _) rfl rfl rfl ?_
                rw [HLk.out, HRV.out.1, HRV.out.2.1, HRV.out.2.2.1, HRV.out.2.2.2]
                exact ⟨a, c, rfl, HOf.out.wide (by omega), HBf.out⟩
          intro HBODY
          go_wp2_with ((with_reducible show wpList _ _ _ (Oper.mk _ (Op.load 26 _) _ _ _ _ :: _) _ _); refine loadB (K4) rfl rfl rfl ?_)
          refine (implBoard_yes _ _ HV.out).mono ?_
          rintro e w1 ⟨rfl, hb⟩
          have K4 := K4.below hb K4.lt
          have K5 := K5.below hb K5.lt
          have K8 := K8.below hb K8.lt
          have HB : Hid (Below w.heap.size w w1) := HB.out.trans (hb.mono HB.out.size)
          clear hb
          go_wp2_with ((with_reducible show wpList _ _ _ (Oper.mk _ (Op.load 22 _) _ _ _ (some _) :: _) _ _); refine loadgR (K5) rfl rfl rfl ?_)
          have hc := isOrder_any o w1
          rw [hdo] at hc
          refine hc.mono ?_
          clear hc
          rintro e w2 ⟨rfl, hb⟩
          have K4 := K4.below hb K4.lt
          have K5 := K5.below hb K5.lt
          have K8 := K8.below hb K8.lt
          have HB : Hid (Below w.heap.size w w2) := HB.out.trans (hb.mono HB.out.size)
          clear hb
          go_wp2_with fail
          refine (isSeed_yes s _ HS.out.1 HS.out.2).mono ?_
          rintro e w' ⟨rfl, rfl⟩
          have K40 := K4
          have K44 := K4
          have K55 := K5
          have K88 := K8
          have HB0 := HB
          have hl4 := K8.lt
          have K4 := (K4.alloc (.cells #[] 52)).alloc (.cells (rpl (fun _ => 0) (.slice none 0 0)) 29)
          have K5 := (K5.alloc (.cells #[] 52)).alloc (.cells (rpl (fun _ => 0) (.slice none 0 0)) 29)
          have K8 := (K8.alloc (.cells #[] 52)).alloc (.cells (rpl (fun _ => 0) (.slice none 0 0)) 29)
          have K11 := Rp.new (w2.alloc (.cells #[] 52)) (fun _ => 0) (.slice none 0 0) 29
          have hsz : (w2.alloc (.cells #[] 52)).heap.size = w2.heap.size + 1 := by simp
          rw [hsz] at K11
          have HO : Hid (OwnsL 52 4 ((w2.alloc (.cells #[] 52)).alloc (.cells (rpl (fun _ => 0) (.slice none 0 0)) 29)) (w.heap.size + 1 + 1 + 1) (.slice (some ⟨w2.heap.size, 0, none⟩) 0 0) []) := OwnsL.alloc (OwnsL.made w2 (by omega)) _
          have HB : Hid (Below w.heap.size w ((w2.alloc (.cells #[] 52)).alloc (.cells (rpl (fun _ => 0) (.slice none 0 0)) 29))) := (HB.out.alloc HB.out.size _).alloc (by have := HB.out.size; simp; omega) _
          go_wp2_with (first | ((with_reducible show wpList _ _ _ (Oper.mk _ (Op.load 26 _) _ _ _ _ :: _) _ _); refine loadB (K40) rfl rfl rfl ?_) | ((with_reducible show wpList _ _ _ (Oper.mk _ (Op.build 29 _) _ _ _ _ :: _) _ _); refine wpl_buildRp _ _ rfl rfl rfl rfl ?_) | ((with_reducible show wpList _ _ _ (Oper.mk _ (Op.alloc 29) _ _ _ _ :: _) _ _); refine wpl_allocRp rfl rfl ?_) | ((with_reducible show wpList _ _ _ (Oper.mk _ (Op.store 29 _ _) _ _ _ _ :: _) _ _); refine storeRp (K11) (by rfl) rfl rfl rfl rfl ?_))
          refine wp_label ?_
          simp only [Exit.then]
          apply_assumption
          refine HBODY _ _ ?_
          clear HBODY
          have K11 : Rp ((w2.alloc (.cells #[] 52)).alloc (.cells (rpl f (.slice (some ⟨w2.heap.size, 0, none⟩) 0 0)) 29)) (w2.heap.size + 1) f (.slice (some ⟨w2.heap.size, 0, none⟩) 0 0) 29 := by have := Rp.new (w2.alloc (.cells #[] 52)) f (.slice (some ⟨w2.heap.size, 0, none⟩) 0 0) 29; rwa [hsz] at this
          have HOf : Hid (OwnsL 52 4 ((w2.alloc (.cells #[] 52)).alloc (.cells (rpl f (.slice (some ⟨w2.heap.size, 0, none⟩) 0 0)) 29)) (w.heap.size + 1 + 1 + 1) (.slice (some ⟨w2.heap.size, 0, none⟩) 0 0) []) := OwnsL.alloc (OwnsL.made w2 (by omega)) _
          refine ⟨0, _, _, _, f, s, [], _, _, _, _, _, _, _, _, _, _, _, _, _, _, _, _, _, _, _, _, _, _, _, _, _, _, _, _, _, _, _, _, _, _, _, _, _, _, _, _, _, _, _, _, _, _, _, _, _, _, _, _, _, _, _, _, _, _, _, _, _, _, rfl, by omega, rfl, rfl, (K44.alloc (.cells #[] 52)).alloc _, (K55.alloc (.cells #[] 52)).alloc _, (K88.alloc (.cells #[] 52)).alloc _, K11, by omega, HOf, fun j e => by have e : w2.heap.size = j := Option.some.inj e; omega, (HB0.out.alloc HB0.out.size _).alloc (by have := HB0.out.size; simp; omega) _⟩
        · have HV := Lib.hid hV
          have HS := Lib.hid hs
          have HN : n < 0 ∨ ¬ (n < 0) ∧ 40 < n := by omega
          have hdo : decide (OrdOk o) = true := decide_eq_true hO
          obtain ⟨y1, y2, y3, y4⟩ := ps_no (f := f) (o := o) (s := s) (n := n) (fun q => hn q.2.2.2)
          rw [y1, y2, y3, y4]
          clear y1 y2 y3 y4
          clear hV hO hs hn
          rcases HN with h1 | ⟨h1, h2⟩
          · go_enter Try.func17, Try.ntmps17
            go_wp2_with fail
            refine wp_scope_jumps2 0 (fun _ _ => False) (fun _ _ => 0) (by rfl) (fun _ _ h => h.elim) ?_
            intro HBODY
            clear HBODY
            go_wp2_with ((with_reducible show wpList _ _ _ (Oper.mk _ (Op.load 26 _) _ _ _ _ :: _) _ _); refine loadB (K4) rfl rfl rfl ?_)
            refine (implBoard_yes _ _ HV.out).mono ?_
            rintro e w1 ⟨rfl, hb⟩
            have K4 := K4.below hb K4.lt
            have K5 := K5.below hb K5.lt
            have K8 := K8.below hb K8.lt
            have HB : Hid (Below w.heap.size w w1) := HB.out.trans (hb.mono HB.out.size)
            clear hb
            go_wp2_with ((with_reducible show wpList _ _ _ (Oper.mk _ (Op.load 22 _) _ _ _ (some _) :: _) _ _); refine loadgR (K5) rfl rfl rfl ?_)
            have hc := isOrder_any o w1
            rw [hdo] at hc
            refine hc.mono ?_
            clear hc
            rintro e w2 ⟨rfl, hb⟩
            have K4 := K4.below hb K4.lt
            have K5 := K5.below hb K5.lt
            have K8 := K8.below hb K8.lt
            have HB : Hid (Below w.heap.size w w2) := HB.out.trans (hb.mono HB.out.size)
            clear hb
            go_wp2_with fail
            refine (isSeed_yes s _ HS.out.1 HS.out.2).mono ?_
            rintro e w' ⟨rfl, rfl⟩
            go_wp2_with (first | ((with_reducible show wpList _ _ _ (Oper.mk _ (Op.build 29 _) _ _ _ _ :: _) _ _); refine wpl_buildRp0 rfl rfl ?_) | ((with_reducible show wpList _ _ _ (Oper.mk _ (Op.store 29 _ _) _ _ _ _ :: _) _ _); refine storeRp (K8) (by rfl) rfl rfl rfl rfl ?_))
            try simp only [Exit.inBlock, Exit.then, Exit.jump]
            exact retRpTT (K8.row _ _) rfl rfl rfl ⟨none, 0, rfl, OwnsL.nil0 _ _, below_setRow HB.out (by omega) _⟩
          · go_enter Try.func17, Try.ntmps17
            go_wp2_with fail
            refine wp_scope_jumps2 0 (fun _ _ => False) (fun _ _ => 0) (by rfl) (fun _ _ h => h.elim) ?_
            intro HBODY
            clear HBODY
            go_wp2_with ((with_reducible show wpList _ _ _ (Oper.mk _ (Op.load 26 _) _ _ _ _ :: _) _ _); refine loadB (K4) rfl rfl rfl ?_)
            refine (implBoard_yes _ _ HV.out).mono ?_
            rintro e w1 ⟨rfl, hb⟩
            have K4 := K4.below hb K4.lt
            have K5 := K5.below hb K5.lt
            have K8 := K8.below hb K8.lt
            have HB : Hid (Below w.heap.size w w1) := HB.out.trans (hb.mono HB.out.size)
            clear hb
            go_wp2_with ((with_reducible show wpList _ _ _ (Oper.mk _ (Op.load 22 _) _ _ _ (some _) :: _) _ _); refine loadgR (K5) rfl rfl rfl ?_)
            have hc := isOrder_any o w1
            rw [hdo] at hc
            refine hc.mono ?_
            clear hc
            rintro e w2 ⟨rfl, hb⟩
            have K4 := K4.below hb K4.lt
            have K5 := K5.below hb K5.lt
            have K8 := K8.below hb K8.lt
            have HB : Hid (Below w.heap.size w w2) := HB.out.trans (hb.mono HB.out.size)
            clear hb
            go_wp2_with fail
            refine (isSeed_yes s _ HS.out.1 HS.out.2).mono ?_
            rintro e w' ⟨rfl, rfl⟩
            go_wp2_with (first | ((with_reducible show wpList _ _ _ (Oper.mk _ (Op.build 29 _) _ _ _ _ :: _) _ _); refine wpl_buildRp0 rfl rfl ?_) | ((with_reducible show wpList _ _ _ (Oper.mk _ (Op.store 29 _ _) _ _ _ _ :: _) _ _); refine storeRp (K8) (by rfl) rfl rfl rfl rfl ?_))
            try simp only [Exit.inBlock, Exit.then, Exit.jump]
            exact retRpTT (K8.row _ _) rfl rfl rfl ⟨none, 0, rfl, OwnsL.nil0 _ _, below_setRow HB.out (by omega) _⟩
      · have HV := Lib.hid hV
        have HS := Lib.hid (show s < 0 ∨ 65535 < s by unfold SeedOk at hs; omega)
        have hdo : decide (OrdOk o) = true := decide_eq_true hO
        obtain ⟨y1, y2, y3, y4⟩ := ps_no (f := f) (o := o) (s := s) (n := n) (fun q => hs q.2.2.1)
        rw [y1, y2, y3, y4]
        clear y1 y2 y3 y4
        clear hV hO hs
        go_enter Try.func17, Try.ntmps17
        go_wp2_with fail
        refine wp_scope_jumps2 0 (fun _ _ => False) (fun _ _ => 0) (by rfl) (fun _ _ h => h.elim) ?_
        intro HBODY
        clear HBODY
        go_wp2_with ((with_reducible show wpList _ _ _ (Oper.mk _ (Op.load 26 _) _ _ _ _ :: _) _ _); refine loadB (K4) rfl rfl rfl ?_)
        refine (implBoard_yes _ _ HV.out).mono ?_
        rintro e w1 ⟨rfl, hb⟩
        have K4 := K4.below hb K4.lt
        have K5 := K5.below hb K5.lt
        have K8 := K8.below hb K8.lt
        have HB : Hid (Below w.heap.size w w1) := HB.out.trans (hb.mono HB.out.size)
        clear hb
        go_wp2_with ((with_reducible show wpList _ _ _ (Oper.mk _ (Op.load 22 _) _ _ _ (some _) :: _) _ _); refine loadgR (K5) rfl rfl rfl ?_)
        have hc := isOrder_any o w1
        rw [hdo] at hc
        refine hc.mono ?_
        clear hc
        rintro e w2 ⟨rfl, hb⟩
        have K4 := K4.below hb K4.lt
        have K5 := K5.below hb K5.lt
        have K8 := K8.below hb K8.lt
        have HB : Hid (Below w.heap.size w w2) := HB.out.trans (hb.mono HB.out.size)
        clear hb
        go_wp2_with fail
        refine (isSeed_no s _ HS.out).mono ?_
        rintro e w' ⟨rfl, rfl⟩
        go_wp2_with (first | ((with_reducible show wpList _ _ _ (Oper.mk _ (Op.build 29 _) _ _ _ _ :: _) _ _); refine wpl_buildRp0 rfl rfl ?_) | ((with_reducible show wpList _ _ _ (Oper.mk _ (Op.store 29 _ _) _ _ _ _ :: _) _ _); refine storeRp (K8) (by rfl) rfl rfl rfl rfl ?_))
        try simp only [Exit.inBlock, Exit.then, Exit.jump]
        exact retRpTT (K8.row _ _) rfl rfl rfl ⟨none, 0, rfl, OwnsL.nil0 _ _, below_setRow HB.out (by omega) _⟩
    · have HV := Lib.hid hV
      have hdo : decide (OrdOk o) = false := decide_eq_false hO
      obtain ⟨y1, y2, y3, y4⟩ := ps_no (f := f) (o := o) (s := s) (n := n) (fun q => hO q.2.1)
      rw [y1, y2, y3, y4]
      clear y1 y2 y3 y4
      clear hV hO
      go_enter Try.func17, Try.ntmps17
      go_wp2_with fail
      refine wp_scope_jumps2 0 (fun _ _ => False) (fun _ _ => 0) (by rfl) (fun _ _ h => h.elim) ?_
      intro HBODY
      clear HBODY
      go_wp2_with ((with_reducible show wpList _ _ _ (Oper.mk _ (Op.load 26 _) _ _ _ _ :: _) _ _); refine loadB (K4) rfl rfl rfl ?_)
      refine (implBoard_yes _ _ HV.out).mono ?_
      rintro e w1 ⟨rfl, hb⟩
      have K4 := K4.below hb K4.lt
      have K5 := K5.below hb K5.lt
      have K8 := K8.below hb K8.lt
      have HB : Hid (Below w.heap.size w w1) := HB.out.trans (hb.mono HB.out.size)
      clear hb
      go_wp2_with ((with_reducible show wpList _ _ _ (Oper.mk _ (Op.load 22 _) _ _ _ (some _) :: _) _ _); refine loadgR (K5) rfl rfl rfl ?_)
      have hc := isOrder_any o w1
      rw [hdo] at hc
      refine hc.mono ?_
      clear hc
      rintro e w2 ⟨rfl, hb⟩
      have K4 := K4.below hb K4.lt
      have K5 := K5.below hb K5.lt
      have K8 := K8.below hb K8.lt
      have HB : Hid (Below w.heap.size w w2) := HB.out.trans (hb.mono HB.out.size)
      clear hb
      go_wp2_with (first | ((with_reducible show wpList _ _ _ (Oper.mk _ (Op.build 29 _) _ _ _ _ :: _) _ _); refine wpl_buildRp0 rfl rfl ?_) | ((with_reducible show wpList _ _ _ (Oper.mk _ (Op.store 29 _ _) _ _ _ _ :: _) _ _); refine storeRp (K8) (by rfl) rfl rfl rfl rfl ?_))
      try simp only [Exit.inBlock, Exit.then, Exit.jump]
      exact retRpTT (K8.row _ _) rfl rfl rfl ⟨none, 0, rfl, OwnsL.nil0 _ _, below_setRow HB.out (by omega) _⟩
  · have HV := Lib.hid hV
    obtain ⟨y1, y2, y3, y4⟩ := ps_no (f := f) (o := o) (s := s) (n := n) (fun q => hV q.1)
    rw [y1, y2, y3, y4]
    clear y1 y2 y3 y4
    clear hV
    go_enter Try.func17, Try.ntmps17
    go_wp2_with fail
    refine wp_scope_jumps2 0 (fun _ _ => False) (fun _ _ => 0) (by rfl) (fun _ _ h => h.elim) ?_
    intro HBODY
    clear HBODY
    go_wp2_with ((with_reducible show wpList _ _ _ (Oper.mk _ (Op.load 26 _) _ _ _ _ :: _) _ _); refine loadB (K4) rfl rfl rfl ?_)
    refine (implBoard_no _ _ HV.out).mono ?_
    rintro e w1 ⟨rfl, hb⟩
    have K4 := K4.below hb K4.lt
    have K5 := K5.below hb K5.lt
    have K8 := K8.below hb K8.lt
    have HB : Hid (Below w.heap.size w w1) := HB.out.trans (hb.mono HB.out.size)
    clear hb
    go_wp2_with (first | ((with_reducible show wpList _ _ _ (Oper.mk _ (Op.build 29 _) _ _ _ _ :: _) _ _); refine wpl_buildRp0 rfl rfl ?_) | ((with_reducible show wpList _ _ _ (Oper.mk _ (Op.store 29 _ _) _ _ _ _ :: _) _ _); refine storeRp (K8) (by rfl) rfl rfl rfl rfl ?_))
    try simp only [Exit.inBlock, Exit.then, Exit.jump]
    exact retRpTT (K8.row _ _) rfl rfl rfl ⟨none, 0, rfl, OwnsL.nil0 _ _, below_setRow HB.out (by omega) _⟩
end Go.Proofs.Ytfjpdopljmilpaa
