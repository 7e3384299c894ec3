/-
  The contract of SnakeBoard in the reference, for every board and every number.
-/
import Derived.Test.YtmcmpedmgibmkabSpecOrd
import Derived.Test.YtmcmpedmgibmkabSnakeBd
import Derived.Test.YtmcmpedmgibmkabCount
namespace Go.Proofs.Ytmcmpedmgibmkab
open Go.RowKit Plain
attribute [local go_sem] store_new Oper.semAt_some
set_option linter.unusedVariables false
set_option linter.unusedSimpArgs false
theorem wp_ldB9 {o : Oper} {a : Act} {w : World} {K : Act → World → Prop} {Q : Exit → Act → World → Prop} {x : Operand} {b : Nat} {f : Nat → Int} {t : TypeId} (hg : Blk w b 16 f t) (ho : o.op = .load 35 x) (hx : a.eval x = .pointer (some ⟨b, 0, none⟩))
    (h : K (a.put o.dst (.agg (mk 16 f))) w) : o.wp Try.prog a w K Q :=
  wp_load_row _ x ho b hx t _ _ _ hg Try.underlying35 rfl (by rw [mk_size]; exact sizeB) h
namespace Plain
def AtT (f : Nat → Int) (t n : Nat) : Prop := ∃ P : List Int, P ++ (tlL f t ++ List.replicate (cnN f 0) 0) = xsL f ∧ P.length = n
def AtS (f : Nat → Int) (T t c n : Nat) : Prop := ∃ P : List Int, P ++ (List.replicate c (T : Int) ++ (tlL f t ++ List.replicate (cnN f 0) 0)) = xsL f ∧ P.length = n
theorem at_first (f : Nat → Int) : AtT f 17 0 := ⟨[], rfl, rfl⟩
theorem at_start {f : Nat → Int} {T t n : Nat} (hT : T = t + 1) (h : AtT f T n) : AtS f T t (cnN f T) n := by
  subst hT
  obtain ⟨P, h1, h2⟩ := h
  exact ⟨P, by rw [← h1]; show _ = P ++ ((List.replicate (cnN f (t + 1)) ((t + 1 : Nat) : Int) ++ tlL f t) ++ _); rw [List.append_assoc], h2⟩
theorem at_step {f : Nat → Int} (hf : Vd f) {T t c n : Nat} (h : AtS f T t (c + 1) n) : (xsL f).getD n 0 = (T : Int) ∧ AtS f T t c (n + 1) ∧ n < 16 := by
  obtain ⟨P, h1, h2⟩ := h
  rw [List.replicate_succ, List.cons_append] at h1
  have hl := xs_len hf
  rw [← h1] at hl
  refine ⟨?_, ⟨P ++ [(T : Int)], ?_, ?_⟩, ?_⟩
  · rw [← h1, List.getD_eq_getElem?_getD, List.getElem?_append_right (by omega), h2, Nat.sub_self]; rfl
  · rw [← h1, List.append_assoc]; rfl
  · rw [List.length_append, h2]; rfl
  · rw [List.length_append, List.length_cons] at hl; omega
theorem at_end {f : Nat → Int} {T t n : Nat} (h : AtS f T t 0 n) : AtT f t n := h
theorem at_last {f : Nat → Int} (hf : Vd f) {n : Nat} (h : AtT f 0 n) : n ≤ 16 ∧ ∀ j, n ≤ j → j < 16 → (xsL f).getD j 0 = 0 := by
  obtain ⟨P, h1, h2⟩ := h
  have hl := xs_len hf
  rw [← h1] at hl
  refine ⟨by rw [List.length_append] at hl; omega, fun j hj hj2 => ?_⟩
  rw [← h1, List.getD_eq_getElem?_getD, List.getElem?_append_right (by omega)]
  show ((List.replicate (cnN f 0) (0 : Int))[j - P.length]?).getD 0 = 0
  rw [List.getElem?_replicate]
  split <;> rfl
end Plain
set_option maxHeartbeats 4000000 in
set_option maxRecDepth 20000 in
theorem specSbd_any (f : Nat → Int) (k : Int) (w : World) :
    Calls Try.prog 16 #[.agg (mk 16 f), .int .i64 k] w fun e w' => e = .returned (.tuple #[.agg (mk 16 (sbdR f k)), .bool (sbdO f k)]) ∧ Below w.heap.size w w' := by
  have z16 := zero16
  have z32 := zero32
  have z18 := zero18
  have K2 := (Blk.new w 16 f 35).alloc (.cells (mk 16 fun _ => 0) 35)
  have K4 := Blk.new (w.alloc (.cells (mk 16 f) 35)) 16 (fun _ => 0) 35
  simp only [World.size_alloc] at K4
  have HB := Lib.hid (((Below.refl w.heap.size w).alloc (Nat.le_refl _) (.cells (mk 16 f) 35)).alloc (by simp) (.cells (mk 16 fun _ => 0) 35))
  have HCN := Lib.hid (fun w => specCount_any f w)
  by_cases hV : Vd f
  · rw [cntR_yes hV, vdO_yes hV] at HCN
    have HCC := Lib.hid (fun t => cn_cnt f t)
    generalize cntF f 16 = cc at *
    by_cases hk : 0 ≤ k ∧ k ≤ 7
    · have hS : SbdOk f k := ⟨hV, hk⟩
      rw [(sbd_yes hS).1, (sbd_yes hS).2]
      obtain ⟨k, rfl⟩ := Int.eq_ofNat_of_zero_le hk.1
      rw [Int.toNat_natCast]
      have HF := Lib.hid (fun w => l3Form_yes (k : Int) w hk.1 hk.2)
      have hk8 : k < 8 := by omega
      have HSN := Lib.hid (fun w => l7Snake_any k w hk8)
      have HPL := Lib.hid (fun n (hn : n < 16) => plP_lt hk8 hn)
      have HPX := Lib.hid (fun (F : Nat → Int) (n : Nat) (hn : n < 16) (t : Int) (w : World) => (show Calls Try.prog 38 #[.agg (mk 16 F), .agg (mk 2 fun c => spF k (n * 2 + c)), .int .i64 t] w (fun e w' => e = .returned (.agg (mk 16 (upd F (plP k n) t))) ∧ Below w.heap.size w w') from by
        have h := plP_lt hk8 hn
        have hh := l2Put_any F (fun c => spF k (n * 2 + c)) (plP k n / 4) (plP k n % 4) t w (sp_row k n) (sp_col k n) (by omega) (by omega)
        rw [show plP k n / 4 * 4 + plP k n % 4 = plP k n by omega] at hh
        exact hh))
      have HLA := Lib.hid (fun n (h : AtT f 0 n) => (show mk 16 (ouF k (xsL f) n) = mk 16 (ouF k (xsL f) 16) from mk_congr fun p _ => by
        obtain ⟨h1, h2⟩ := at_last hV h
        have := ou_rest hk8 h2 (16 - n) (by omega) p
        rw [show n + (16 - n) = 16 by omega] at this
        exact this.symm))
      have HAS := Lib.hid (fun T t c n (h : AtS f T t (c + 1) n) => at_step hV h)
      clear hS hk hV
      go_enter Try.func16, Try.ntmps16
      go_wp2_with ((with_reducible show wpList _ _ _ (Oper.mk _ (Op.load 35 _) _ _ _ _ :: _) _ _); refine loadB (K2) rfl rfl rfl ?_)
      refine (HCN.out _).mono ?_
      rintro e w1 ⟨rfl, hb⟩
      have K4 := (K4.below hb K4.lt)
      have h4 := K4.lt
      have K4 := K4.alloc (.cells (mk 18 cc) 51)
      have HB := HB.out.trans (hb.mono HB.out.size)
      have HB : Hid (Below w.heap.size w (w1.alloc (.cells (mk 18 cc) 51))) := HB.alloc HB.size _
      have K6 := Blk.new w1 18 cc 51
      have H46 : Hid (w.heap.size + 1 < w1.heap.size) := h4
      clear hb HCN K2 h4
      go_wp2_with fail
      generalize w1.alloc (.cells (mk 18 cc) 51) = w2 at *
      generalize w1.heap.size = b6 at *
      refine (HF.out _).mono ?_
      rintro e w' ⟨rfl, rfl⟩
      go_wp2_with fail
      refine (HSN.out _).mono ?_
      rintro e w3 ⟨rfl, hb⟩
      have K4 := K4.below hb K4.lt
      have K6 := K6.below hb K6.lt
      have H68 : Hid (b6 < w3.heap.size) := K6.lt
      have HB := HB.out.trans (hb.mono HB.out.size)
      have hsz := HB.size
      have K4 := (K4.alloc (.cells (mk 16 fun _ => 0) 35)).alloc (.cells (mk 32 fun _ => 0) 23)
      have K6 := (K6.alloc (.cells (mk 16 fun _ => 0) 35)).alloc (.cells (mk 32 fun _ => 0) 23)
      have K8 := (Blk.new w3 16 (fun _ => 0) 35).alloc (.cells (mk 32 fun _ => 0) 23)
      have K9 := Blk.new (w3.alloc (.cells (mk 16 fun _ => 0) 35)) 32 (fun _ => 0) 23
      simp only [World.size_alloc] at K9
      have K9s := K9.rowOther w3.heap.size (mk 16 fun _ => 0) (by omega)
      clear hb HSN
      go_wp2_with (first | ((with_reducible show wpList _ _ _ (Oper.mk _ (Op.store 35 _ _) _ _ _ _ :: _) _ _); refine storeB (K8) rfl rfl rfl rfl ?_) | ((with_reducible show wpList _ _ _ (Oper.mk _ (Op.store 23 _ _) _ _ _ _ :: _) _ _); refine storeP (K9s) rfl rfl rfl rfl ?_))
      have HN : Hid (w.heap.size + 1 < w3.heap.size ∧ b6 < w3.heap.size) := ⟨Nat.lt_trans H46.out H68.out, H68.out⟩
      have HB := HB.alloc hsz (.cells (mk 16 fun _ => 0) 35)
      have HB := HB.alloc HB.size (.cells (mk 32 fun _ => 0) 23)
      have HB : Hid (Below w.heap.size w ((((w3.alloc (.cells (mk 16 fun _ => 0) 35)).alloc (.cells (mk 32 fun _ => 0) 23)).setRow w3.heap.size (mk 16 fun _ => 0)).setRow (w3.heap.size + 1) (mk 32 (spF k)))) := below_setRow (below_setRow HB hsz _) (by omega) _
      have K4 := (K4.rowOther w3.heap.size (mk 16 fun _ => 0) (by have := HN.out; omega)).rowOther (w3.heap.size + 1) (mk 32 (spF k)) (by have := HN.out; omega)
      have K6 := (K6.rowOther w3.heap.size (mk 16 fun _ => 0) (by have := HN.out; omega)).rowOther (w3.heap.size + 1) (mk 32 (spF k)) (by have := HN.out; omega)
      have K8 := (K8.row 16 fun _ => 0).rowOther (w3.heap.size + 1) (mk 32 (spF k)) (by omega)
      have K9 := K9s.row 32 (spF k)
      clear K9s hsz H68
      generalize (((w3.alloc (.cells (mk 16 fun _ => 0) 35)).alloc (.cells (mk 32 fun _ => 0) 23)).setRow w3.heap.size (mk 16 fun _ => 0)).setRow (w3.heap.size + 1) (mk 32 (spF k)) = w4 at *
      generalize w3.heap.size = b8 at *
      clear z16 z32 z18
      have H0 : Hid (AtT f 17 0) := at_first f
      generalize hX : xsL f = X at *
      go_loopg [11, 10] 17 (fun g s11 s10 wr => ∃ T n : Nat, T = g ∧ T ≤ 17 ∧ s11 = .int .i64 T ∧ s10 = .int .i64 n ∧ Hid (AtT f T n) ∧ Blk wr (w.heap.size + 1) 16 (fun _ => 0) 35 ∧ Blk wr b6 18 cc 51 ∧ Blk wr b8 16 (ouF k X n) 35 ∧ Blk wr (b8 + 1) 32 (spF k) 23 ∧ Hid (Below w.heap.size w wr))
      case atStart => exact ⟨17, 0, rfl, Nat.le_refl _, rfl, rfl, H0, K4, K6, K8, K9, HB⟩
      case round =>
        clear K4 K6 K8 K9 HB
        obtain ⟨T, n, hT, hT17, rfl, rfl, HA, K4, K6, K8, K9, HB⟩ := hrel
        cases gk with
        | zero =>
          obtain rfl : T = 0 := hT
          have HF := HLA.out n HA.out
          go_wp2_with (first | ((with_reducible show wpList _ _ _ (Oper.mk _ (Op.load 35 _) _ _ _ _ :: _) _ _); refine loadB (K8) rfl rfl rfl ?_) | ((with_reducible show wpList _ _ _ (Oper.mk _ (Op.store 35 _ _) _ _ _ _ :: _) _ _); refine storeB (K4) rfl rfl rfl rfl ?_))
          try simp only [Act.put, List.setIfInBounds_toArray, List.set_cons_zero, List.set_cons_succ]
          try simp only [Exit.inBlock, Exit.then]
          rw [← HF]
          exact retctB (K4.row 16 _) rfl rfl rfl ⟨rfl, below_setRow HB.out (by omega) _⟩
        | succ g =>
          have hd0 : (0 : Int) < (T : Int) := by omega
          have hd1 : decide ((T : Int) > 0) = true := decide_eq_true hd0
          have hd2 : decide (0 < T) = true := decide_eq_true (by omega)
          have hTi : (T : Int) < 18 := by omega
          have hT0 : (0 : Int) ≤ (T : Int) := by omega
          have HTE := Lib.hid hT
          obtain ⟨cn, hcn⟩ : ∃ c, c = cnN f T := ⟨_, rfl⟩
          have HA := Lib.hid (at_start hT HA.out)
          have HCV : Hid (cc T = (cn : Int)) := by show _ = _; rw [hcn]; exact HCC.out T
          rw [← hcn] at HA
          have HCB : Hid (cn ≤ 16) := by
            show cn ≤ 16
            rw [hcn]
            have h := List.count_le_length (a := (T : Int)) (l := bdL f)
            simpa [cnN, bdL] using h
          clear hT hcn
          go_wp2_with fail
          go_loopg [12, 10] cn (fun h s12 s10 wx => ∃ i n : Nat, i + h = cn ∧ s12 = .int .i64 i ∧ s10 = .int .i64 n ∧ Hid (AtS f T g (cn - i) n) ∧ Blk wx (w.heap.size + 1) 16 (fun _ => 0) 35 ∧ Blk wx b6 18 cc 51 ∧ Blk wx b8 16 (ouF k X n) 35 ∧ Blk wx (b8 + 1) 32 (spF k) 23 ∧ Hid (Below w.heap.size w wx))
          case atStart => exact ⟨0, n, by omega, rfl, rfl, HA, K4, K6, K8, K9, HB⟩
          case round =>
            clear K4 K6 K8 K9 HB HA
            obtain ⟨i, n, hih, rfl, rfl, HA, K4, K6, K8, K9, HB⟩ := hrel
            have c6 := K6.cell (i := T) (by omega)
            rw [HCV.out] at c6
            cases gk with
            | zero =>
              have hd : ¬ ((i : Int) < (cn : Int)) := by omega
              have HA : Hid (AtT f g n) := by
                have := HA.out
                rw [show cn - i = 0 by omega] at this
                exact at_end this
              clear hih
              go_wp2_with fail
              go_roundg g
              case rel => exact ⟨g, n, rfl, by have := HTE.out; omega, by have := HTE.out; congr 1; omega, rfl, HA, K4, K6, K8, K9, HB⟩
              case measure => omega
            | succ h =>
              have hd : (i : Int) < (cn : Int) := by omega
              obtain ⟨hx, ha, hn⟩ := HAS.out T g (cn - (i + 1)) n (by have := HA.out; rw [show cn - i = cn - (i + 1) + 1 by omega] at this; exact this)
              have HA2 := Lib.hid ha
              have HPT := Lib.hid (fun (F : Nat → Int) (w : World) => HPX.out F n hn (T : Int) w)
              have HOU : Hid (ouF k X (n + 1) = upd (ouF k X n) (plP k n) (T : Int)) := by rw [← hx]; rfl
              have hi16 : (i : Int) < 16 := by have := HCB.out; omega
              have hn16 : (n : Int) < 16 := by omega
              have hi0 : (0 : Int) ≤ (i : Int) := by omega
              have hn0 : (0 : Int) ≤ (n : Int) := by omega
              clear hx ha HA
              generalize hF : ouF k X n = F at *
              clear hF
              go_wp2_with fail
              refine wp_region_held_drew (S := fun W => CAt W (b8 + 1) 32 (spF k)) (by kernel_rfl) (K9.drew.at) (fun hHeld => ?_)
              have K4 := K4.drew
              have K6 := K6.drew
              have K8 := K8.drew
              have K9 := K9.drew
              have HB : Hid (Below w.heap.size w wr.drew) := HB.out.drew
              generalize wr.drew = x0 at *
              refine wpAnyH_take (i := 1) (oi := { dst := some 41, op := _, type := _, pos := _, after := _, guard := _ }) (v := .int .i64 (n : Int)) rfl (by kernel_rfl) (by kernel_rfl) (by kernel_rfl) (fun _ _ _ h => h) (Or.inl ⟨by rfl, by intro w hSw; clear hSw; go_simp; (try with_reducible rfl)⟩) (by assumption) ?_
              try simp only [Act.put, List.setIfInBounds_toArray, List.set_cons_zero, List.set_cons_succ]
              refine wpAnyH_take (i := 2) (oi := { dst := some 42, op := _, type := _, pos := _, after := _, guard := _ }) (v := .pointer (some ⟨b8 + 1, n * 2, none⟩)) rfl (by kernel_rfl) (by kernel_rfl) (by kernel_rfl) (fun _ _ _ h => h) (Or.inl ⟨by rfl, by intro w hSw; clear hSw; go_simp; (try with_reducible rfl)⟩) (by assumption) ?_
              try simp only [Act.put, List.setIfInBounds_toArray, List.set_cons_zero, List.set_cons_succ]
              refine wpAnyH_take (i := 3) (oi := { dst := some 43, op := _, type := _, pos := _, after := _, guard := _ }) (v := .agg (mk 2 fun c => spF k (n * 2 + c))) rfl (by kernel_rfl) (by kernel_rfl) (by kernel_rfl) (fun _ _ _ h => h) (Or.inl ⟨by rfl, fun _ q => execA7 q (by omega) rfl rfl⟩) (by assumption) ?_
              try simp only [Act.put, List.setIfInBounds_toArray, List.set_cons_zero, List.set_cons_succ]
              refine wpAnyH_take (i := 4) (oi := { dst := some 44, op := _, type := _, pos := _, after := _, guard := _ }) (v := .int .i64 (T : Int)) rfl (by kernel_rfl) (by kernel_rfl) (by kernel_rfl) (fun _ _ _ h => h) (Or.inl ⟨by rfl, by intro w hSw; clear hSw; go_simp; (try with_reducible rfl)⟩) (by assumption) ?_
              try simp only [Act.put, List.setIfInBounds_toArray, List.set_cons_zero, List.set_cons_succ]
              refine wpAnyH_ready (rs := [0]) (by kernel_rfl) (by simp) ?_
              refine AllReadyH.cons rfl (fun K hK => ?_) AllReadyH.nil
              rw [if_pos (by rfl)]
              refine wp_ldB9 K8 rfl rfl ?_
              clear hHeld
              refine hK.out _ _ K9.at (fun hHeld => ?_)
              clear hK K
              try simp only [Act.put, List.setIfInBounds_toArray, List.set_cons_zero, List.set_cons_succ]
              refine wpAnyH_ready (rs := [5]) (by kernel_rfl) (by simp) ?_
              refine AllReadyH.cons rfl (fun K hK => ?_) AllReadyH.nil
              go_simp
              refine (HPT.out F _).mono ?_
              rintro e x1 ⟨rfl, hb⟩
              have K4 := K4.below hb K4.lt
              have K6 := K6.below hb K6.lt
              have K8 := K8.below hb K8.lt
              have K9 := K9.below hb K9.lt
              have HB : Hid (Below w.heap.size w x1) := HB.out.trans (hb.mono HB.out.size)
              clear hb hHeld
              go_wp2_with fail
              refine hK.out _ _ K9.at (fun hHeld => ?_)
              clear hK K
              try simp only [Act.put, List.setIfInBounds_toArray, List.set_cons_zero, List.set_cons_succ]
              refine wpAnyH_ready (rs := [6]) (by kernel_rfl) (by simp) ?_
              refine AllReadyH.cons rfl (fun K hK => ?_) AllReadyH.nil
              have st1 := run_store_blk (P := Try.prog) (g := (upd F (plP k n) (T : Int))) K8
              have ms1 : (mk 16 (upd F (plP k n) (T : Int))).size = 16 := mk_size 16 _
              go_simp
              clear st1 ms1
              have K4 := K4.rowOther b8 (mk 16 (upd F (plP k n) (T : Int))) (by have := HN.out; omega)
              have K6 := K6.rowOther b8 (mk 16 (upd F (plP k n) (T : Int))) (by have := HN.out; omega)
              have K9 := K9.rowOther b8 (mk 16 (upd F (plP k n) (T : Int))) (by have := HN.out; omega)
              have HB : Hid (Below w.heap.size w (x1.setRow b8 (mk 16 (upd F (plP k n) (T : Int))))) := below_setRow HB.out (by have := HN.out; omega) _
              have K8 := K8.row 16 (upd F (plP k n) (T : Int))
              generalize x1.setRow b8 (mk 16 (upd F (plP k n) (T : Int))) = x2 at *
              clear hHeld
              refine hK.out _ _ K9.at (fun hHeld => ?_)
              clear hK K
              try simp only [Act.put, List.setIfInBounds_toArray, List.set_cons_zero, List.set_cons_succ]
              refine wpAnyH_done (by kernel_rfl) ?_ _
              clear hHeld
              go_wp2_with fail
              go_roundg h
              case rel => exact ⟨i + 1, n + 1, by omega, by go_num, by go_num, HA2, K4, K6, by rw [HOU.out]; exact K8, K9, HB⟩
              case measure => omega
    · have hS : ¬ SbdOk f k := fun h => hk h.2
      rw [(sbd_no hS).1, (sbd_no hS).2]
      have HF := Lib.hid (fun w => l3Form_no k w (by omega))
      clear hS hk hV
      go_enter Try.func16, Try.ntmps16
      go_wp2_with ((with_reducible show wpList _ _ _ (Oper.mk _ (Op.load 35 _) _ _ _ _ :: _) _ _); refine loadB (K2) rfl rfl rfl ?_)
      refine (HCN.out _).mono ?_
      rintro e w1 ⟨rfl, hb⟩
      have K4 := (K4.below hb K4.lt).alloc (.cells (mk 18 cc) 51)
      have HB := HB.out.trans (hb.mono HB.out.size)
      have HB : Hid (Below w.heap.size w (w1.alloc (.cells (mk 18 cc) 51))) := HB.alloc HB.size _
      clear hb HCN K2
      go_wp2_with fail
      generalize w1.alloc (.cells (mk 18 cc) 51) = w2 at *
      refine (HF.out _).mono ?_
      rintro e w' ⟨rfl, rfl⟩
      go_wp2_with ((with_reducible show wpList _ _ _ (Oper.mk _ (Op.store 35 _ _) _ _ _ _ :: _) _ _); refine storeB (K4) rfl rfl rfl rfl ?_)
      try simp only [Act.put, List.setIfInBounds_toArray, List.set_cons_zero, List.set_cons_succ]
      try simp only [Exit.inBlock, Exit.then]
      exact retctB (K4.row 16 _) rfl rfl rfl ⟨rfl, below_setRow HB.out (by omega) _⟩
  · have hS : ¬ SbdOk f k := fun h => hV h.1
    rw [(sbd_no hS).1, (sbd_no hS).2]
    rw [cntR_no hV, vdO_no hV] at HCN
    clear hS hV
    go_enter Try.func16, Try.ntmps16
    go_wp2_with ((with_reducible show wpList _ _ _ (Oper.mk _ (Op.load 35 _) _ _ _ _ :: _) _ _); refine loadB (K2) rfl rfl rfl ?_)
    refine (HCN.out _).mono ?_
    rintro e w1 ⟨rfl, hb⟩
    have K4 := (K4.below hb K4.lt).alloc (.cells (mk 18 fun _ => 0) 51)
    have HB := HB.out.trans (hb.mono HB.out.size)
    have HB : Hid (Below w.heap.size w (w1.alloc (.cells (mk 18 fun _ => 0) 51))) := HB.alloc HB.size _
    clear hb HCN K2
    go_wp2_with ((with_reducible show wpList _ _ _ (Oper.mk _ (Op.store 35 _ _) _ _ _ _ :: _) _ _); refine storeB (K4) rfl rfl rfl rfl ?_)
    try simp only [Act.put, List.setIfInBounds_toArray, List.set_cons_zero, List.set_cons_succ]
    try simp only [Exit.inBlock, Exit.then]
    exact retctB (K4.row 16 _) rfl rfl rfl ⟨rfl, below_setRow HB.out (by omega) _⟩
end Go.Proofs.Ytmcmpedmgibmkab
