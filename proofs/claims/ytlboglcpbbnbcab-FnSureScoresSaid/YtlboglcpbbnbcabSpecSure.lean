/-
  The contracts of the reference's l8Sure and l8Least, by induction on the number of moves.
-/
import Derived.Test.YtlboglcpbbnbcabSpecDead
import Derived.Test.YtlboglcpbbnbcabImplWorst
import Derived.Test.YtlboglcpbbnbcabOver
namespace Go.Proofs.Ytlboglcpbbnbcab
open Go.RowKit Plain
attribute [local go_sem] store_new
set_option linter.unusedVariables false
set_option linter.unusedSimpArgs false
theorem execA0 {o : Oper} {ev : Operand → Value} {w : World} {b n : Nat} {f : Nat → Int} {x : Operand} (hg : CAt w b n f) (hm : 3 ≤ n) (ho : o.op = .load 70 x) (hx : ev x = .pointer (some ⟨b, 0, none⟩)) :
    (execOp ev o).run Try.prog w = .ok (.value (.agg (mk 3 f))) w := by
  have e : mk 3 (fun i => f (0 + i)) = mk 3 f := mk_congr fun i _ => by rw [Nat.zero_add]
  rw [← e]
  exact execAA hg (by omega) ho hx
theorem wp_allocA8 {w : World} {o : Oper} {a : Act} {K : Act → World → Prop} {Q : Exit → Act → World → Prop} (ho : o.op = .alloc 70)
    (h : K (a.put o.dst (.pointer (some ⟨w.heap.size, 0, none⟩))) (w.alloc (.cells (mk 3 fun _ => 0) 70))) : o.wp Try.prog a w K Q := by
  have z3 := zero3
  unfold Oper.wp
  go_simp
  exact h
/-- The number of a direction, minus one when there is none. -/
def dirN (S : Bst) : Int := if S.ok = true then (S.d : Int) else -1
/-- The sure score in m moves is what l8Sure returns. -/
def SUm (m : Nat) : Prop := ∀ (f : Nat → Int) (w : World), Vd f → Calls Try.prog 125 #[.agg (mk 16 f), .int .i64 (m : Int)] w fun e w' => ∃ wh : Int, e = .returned (.tuple #[.int .i64 (suF m f), .int .i64 wh]) ∧ Below w.heap.size w w'
def LEm (m : Nat) : Prop := ∀ (f : Nat → Int) (w : World), Vd f → plA f ≠ [] → Calls Try.prog 128 #[.agg (mk 16 f), .int .i64 (m : Int)] w fun e w' => e = .returned (.tuple #[.agg (mk 3 (plF (wrF m f).p)), .int .i64 (wrF m f).v]) ∧ Below w.heap.size w w'
set_option maxHeartbeats 4000000 in
set_option maxRecDepth 20000 in
theorem least_of_sure {m : Nat} (hS : SUm m) : LEm m := by
  intro f w hV hne
  have z3 := zero3
  have K1 := (Blk.new w 16 f 29).alloc (.cells (mk 3 fun _ => 0) 70)
  have K2 := Blk.new (w.alloc (.cells (mk 16 f) 29)) 3 (fun _ => 0) 70
  have HB := Lib.hid (((Below.refl w.heap.size w).alloc (Nat.le_refl _) (.cells (mk 16 f) 29)).alloc (by simp) (.cells (mk 3 fun _ => 0) 70))
  simp only [World.size_alloc] at K2
  obtain ⟨c, hc0⟩ : ∃ c : Nat × Nat → Int, c = fun p => suF m (plB f p) := ⟨_, rfl⟩
  have HSU : Hid (∀ p (W : World), PlOk f p → Calls Try.prog 125 #[.agg (mk 16 (plB f p)), .int .i64 (m : Int)] W fun e w' => ∃ wh : Int, e = .returned (.tuple #[.int .i64 (c p), .int .i64 wh]) ∧ Below W.heap.size W w') := by
    intro p W hp
    rw [hc0]
    exact hS (plB f p) W (pl_vd hV hp)
  clear hS
  generalize hNm : ((m : Nat) : Int) = N at *
  clear hNm
  go_enter Try.func128, Try.ntmps128
  go_wp2_with ((with_reducible show wpList _ _ _ (Oper.mk _ (Op.load 29 _) _ _ _ _ :: _) _ _); refine loadB (K1) rfl rfl rfl ?_)
  refine (l8Places_any f _).mono ?_
  rintro e w2 ⟨ga, ca, rfl, ho, hb⟩
  have K1 := K1.below hb K1.lt
  have K2 := K2.below hb K2.lt
  have hgw : ga < w2.heap.size := (ho.lt ga rfl).2
  have HB : Hid (Below w.heap.size w w2) := HB.out.trans (hb.mono HB.out.size)
  obtain ⟨_, _, e1, _, hc⟩ := KRow.of_list (pl_all (plA f)) ho
  cases e1
  have CM : CAt w2 ga ((plL (plA f)).length * 3) (flatF (plL (plA f))) := hc
  have hle : (plL (plA f)).length ≤ 32 := by rw [plL_len]; exact plA_le f
  have hpos : 0 < (plL (plA f)).length := by rw [plL_len]; exact List.length_pos_iff.2 hne
  have HGE := Lib.hid (fun k (hk : k < (plL (plA f)).length) => (show ∃ p, (plA f)[k]? = some p from ⟨(plA f)[k]'(by rw [plL_len] at hk; exact hk), List.getElem?_eq_getElem (by rw [plL_len] at hk; exact hk)⟩))
  have HAT := Lib.hid (fun k p (e : (plA f)[k]? = some p) => pl_at e)
  have HOK := Lib.hid (fun k p (e : (plA f)[k]? = some p) => plA_ok.1 (List.mem_of_getElem? e))
  have HTK := Lib.hid (fun k p (e : (plA f)[k]? = some p) => take_step e)
  have HTA : Hid ((plA f).take (plL (plA f)).length = plA f) := by show _ = _; rw [plL_len]; exact List.take_length
  have HWR : Hid (lsF c (plA f) = wrF m f) := by show _ = _; rw [hc0]; rfl
  clear hb ho hc hne hc0 hV
  generalize hLL : plA f = L at *
  generalize hN : (plL L).length = n at *
  generalize hH : flatF (plL L) = h at *
  go_wp2_with fail
  refine wp_region_held_drew (S := fun W => CAt W ga (n * 3) h) (by kernel_rfl) (CM.drew) (fun hHeld => ?_)
  have K1 : Blk w2.drew w.heap.size 16 f 29 := K1.drew
  have K2 : Blk w2.drew (w.heap.size + 1) 3 (fun _ => 0) 70 := K2.drew
  have CM : CAt w2.drew ga (n * 3) h := CM.drew
  have HB : Hid (Below w.heap.size w w2.drew) := HB.out.drew
  have hq0 : w2.drew.heap.size = w2.heap.size := rfl
  rw [← hq0] at hgw
  clear hq0
  generalize w2.drew = x0 at *
  refine wpAnyH_take (i := 0) (oi := { dst := some 14, op := _, type := _, pos := _, after := _, guard := _ }) (v := .slice (some ⟨ga, 0, none⟩) n ca) rfl (by kernel_rfl) (by kernel_rfl) (by kernel_rfl) (fun _ _ _ h => h) (Or.inl ⟨by rfl, by intro w hSw; clear hSw; go_simp; (try with_reducible rfl)⟩) (by assumption) ?_
  try simp only [Act.put, List.setIfInBounds_toArray, List.set_cons_zero, List.set_cons_succ]
  refine wpAnyH_take (i := 1) (oi := { dst := some 15, op := _, type := _, pos := _, after := _, guard := _ }) (v := .pointer (some ⟨ga, 0, none⟩)) rfl (by kernel_rfl) (by kernel_rfl) (by kernel_rfl) (fun _ _ _ h => h) (Or.inl ⟨by rfl, by intro w hSw; clear hSw; go_simp; (try with_reducible rfl)⟩) (by assumption) ?_
  try simp only [Act.put, List.setIfInBounds_toArray, List.set_cons_zero, List.set_cons_succ]
  refine wpAnyH_take (i := 2) (oi := { dst := some 16, op := _, type := _, pos := _, after := _, guard := _ }) (v := .agg (mk 3 h)) rfl (by kernel_rfl) (by kernel_rfl) (by kernel_rfl) (fun _ _ _ h => h) (Or.inl ⟨by rfl, fun W q => execA0 q (by omega) rfl rfl⟩) (by assumption) ?_
  try simp only [Act.put, List.setIfInBounds_toArray, List.set_cons_zero, List.set_cons_succ]
  refine wpAnyH_ready (rs := [3]) (by kernel_rfl) (by simp) ?_
  refine AllReadyH.cons rfl (fun K hK => ?_) AllReadyH.nil
  rw [if_pos (by rfl)]
  refine wp_allocA8 rfl ?_
  have K3 := Blk.new x0 3 (fun _ => 0) 70
  have hqs : w.heap.size + 1 < x0.heap.size := K2.lt
  have K1 := K1.alloc (.cells (mk 3 fun _ => 0) 70)
  have K2 := K2.alloc (.cells (mk 3 fun _ => 0) 70)
  have CM := CM.alloc (.cells (mk 3 fun _ => 0) 70)
  have HB : Hid (Below w.heap.size w (x0.alloc (.cells (mk 3 fun _ => 0) 70))) := HB.out.alloc HB.out.size _
  clear hHeld
  generalize x0.alloc (.cells (mk 3 fun _ => 0) 70) = x1 at *
  generalize x0.heap.size = q at *
  refine hK.out _ _ CM (fun hHeld => ?_)
  clear hK K
  try simp only [Act.put, List.setIfInBounds_toArray, List.set_cons_zero, List.set_cons_succ]
  refine wpAnyH_take (i := 4) (oi := { dst := some 7, op := _, type := _, pos := _, after := _, guard := _ }) (v := .int .i64 0) rfl (by kernel_rfl) (by kernel_rfl) (by kernel_rfl) (fun _ _ _ h => h) (Or.inl ⟨by rfl, by intro w hSw; clear hSw; go_simp; (try with_reducible rfl)⟩) (by assumption) ?_
  try simp only [Act.put, List.setIfInBounds_toArray, List.set_cons_zero, List.set_cons_succ]
  refine wpAnyH_ready (rs := [5]) (by kernel_rfl) (by simp) ?_
  refine AllReadyH.cons rfl (fun K hK => ?_) AllReadyH.nil
  have st1 := run_store_blk (P := Try.prog) (g := h) K3
  have ms1 : (mk 3 h).size = 3 := mk_size 3 _
  go_simp
  clear st1 ms1
  have hsn : some ga ≠ some q := fun e => by have := Option.some.inj e; omega
  have CM := CM.grownP (grown_rowP K3 (mk 3 h)) hsn
  have K1 := K1.rowOther q (mk 3 h) (by omega)
  have K2 := K2.rowOther q (mk 3 h) (by omega)
  have K3 := K3.row 3 h
  have HB : Hid (Below w.heap.size w (x1.setRow q (mk 3 h))) := below_setRow HB.out (by omega) _
  clear hHeld
  generalize x1.setRow q (mk 3 h) = x2 at *
  refine hK.out _ _ CM (fun hHeld => ?_)
  clear hK K
  try simp only [Act.put, List.setIfInBounds_toArray, List.set_cons_zero, List.set_cons_succ]
  refine wpAnyH_done (by kernel_rfl) ?_ _
  clear hHeld
  go_wp2_with fail
  go_loopg [7, 9] n (fun gk s7 s9 wr => ∃ (k : Nat) (S : Lst) (FF : Nat → Int), k + gk = n ∧ s9 = .int .i64 k ∧ Hid (S = lsF c (L.take k)) ∧ Hid ((k = 0 → S.ok = false) ∧ (k ≠ 0 → S.ok = true ∧ mk 3 FF = mk 3 (plF S.p))) ∧ s7 = .int .i64 S.v ∧ Blk wr q 3 FF 70 ∧ CAt wr ga (n * 3) h ∧ Blk wr w.heap.size 16 f 29 ∧ Blk wr (w.heap.size + 1) 3 (fun _ => 0) 70 ∧ Hid (Below w.heap.size w wr))
  case atStart => exact ⟨0, ls0, h, by omega, rfl, rfl, ⟨fun _ => rfl, fun e => absurd rfl e⟩, rfl, K3, CM, K1, K2, HB⟩
  case round =>
    obtain ⟨k, S, FF, hkg, rfl, HSS, HKK, rfl, K3, CM, K1, K2, HB⟩ := hrel
    cases gk with
    | zero =>
      have hk : ¬ ((k : Int) < (n : Int)) := by omega
      obtain rfl : k = n := by omega
      have HF : Hid (mk 3 FF = mk 3 (plF S.p)) := (HKK.out.2 (by omega)).2
      clear hkg
      go_wp2_with (first | ((with_reducible show wpList _ _ _ (Oper.mk _ (Op.load 70 _) _ _ _ _ :: _) _ _); refine loadA (K3) rfl rfl rfl ?_) | ((with_reducible show wpList _ _ _ (Oper.mk _ (Op.store 70 _ _) _ _ _ _ :: _) _ _); refine storeA (K2) rfl rfl rfl rfl ?_))
      try simp only [Exit.inBlock, Exit.then]
      refine retctA (K2.row 3 _) rfl rfl rfl ⟨?_, below_setRow HB.out (by omega) _⟩
      rw [← HWR.out, ← HTA.out, ← HSS.out, HF.out]
      rfl
    | succ gk2 =>
      have hk8 : (k : Int) < (n : Int) := by omega
      have hk9 : k < n := by omega
      have hk0 : (0 : Int) ≤ (k : Int) := by omega
      obtain ⟨p, hkp⟩ := HGE.out k hk9
      have HPV : Hid (mk 3 (fun j => h (k * 3 + j)) = mk 3 (plF p)) := HAT.out k p hkp
      have HPO : Hid (PlOk f p) := HOK.out k p hkp
      have HT : Hid (L.take (k + 1) = L.take k ++ [p]) := HTK.out k p hkp
      clear hkp
      by_cases hkz : k = 0
      · have Y : Hid (lsStep c S p = ⟨p, c p, true⟩) := lsStep_yes (.inl (HKK.out.1 hkz))
        have hkb : (((k : Nat) : Int) == 0) = true := by rw [hkz]; rfl
        clear hkz
        go_wp2_with fail
        refine wp_region_held_drew (S := fun W => Blk W w.heap.size 16 f 29 ∧ CAt W ga (n * 3) h) (by kernel_rfl) (⟨K1.drew, CM.drew⟩) (fun hHeld => ?_)
        have K1 : Blk wr.drew w.heap.size 16 f 29 := K1.drew
        have CM : CAt wr.drew ga (n * 3) h := CM.drew
        have BX : Hid (Below wr.heap.size wr wr.drew) := (Below.refl _ wr).drew
        generalize wr.drew = x0 at *
        refine wpAnyH_take (i := 0) (oi := { dst := some 24, op := _, type := _, pos := _, after := _, guard := _ }) (v := .agg (mk 16 f)) rfl (by kernel_rfl) (by kernel_rfl) (by kernel_rfl) (fun _ _ _ h => h) (Or.inl ⟨by rfl, fun _ q => execB q.1 rfl rfl⟩) (by assumption) ?_
        try simp only [Act.put, List.setIfInBounds_toArray, List.set_cons_zero, List.set_cons_succ]
        refine wpAnyH_take (i := 1) (oi := { dst := some 25, op := _, type := _, pos := _, after := _, guard := _ }) (v := .slice (some ⟨ga, 0, none⟩) n ca) rfl (by kernel_rfl) (by kernel_rfl) (by kernel_rfl) (fun _ _ _ h => h) (Or.inl ⟨by rfl, by intro w hSw; clear hSw; go_simp; (try with_reducible rfl)⟩) (by assumption) ?_
        try simp only [Act.put, List.setIfInBounds_toArray, List.set_cons_zero, List.set_cons_succ]
        refine wpAnyH_take (i := 2) (oi := { dst := some 26, op := _, type := _, pos := _, after := _, guard := _ }) (v := .int .i64 (k : Int)) rfl (by kernel_rfl) (by kernel_rfl) (by kernel_rfl) (fun _ _ _ h => h) (Or.inl ⟨by rfl, by intro w hSw; clear hSw; go_simp; (try with_reducible rfl)⟩) (by assumption) ?_
        try simp only [Act.put, List.setIfInBounds_toArray, List.set_cons_zero, List.set_cons_succ]
        refine wpAnyH_take (i := 3) (oi := { dst := some 27, op := _, type := _, pos := _, after := _, guard := _ }) (v := .pointer (some ⟨ga, k * 3, none⟩)) rfl (by kernel_rfl) (by kernel_rfl) (by kernel_rfl) (fun _ _ _ h => h) (Or.inl ⟨by rfl, by intro w hSw; clear hSw; go_simp; (try with_reducible rfl)⟩) (by assumption) ?_
        try simp only [Act.put, List.setIfInBounds_toArray, List.set_cons_zero, List.set_cons_succ]
        refine wpAnyH_take (i := 4) (oi := { dst := some 28, op := _, type := _, pos := _, after := _, guard := _ }) (v := .agg (mk 3 (plF p))) rfl (by kernel_rfl) (by kernel_rfl) (by kernel_rfl) (fun _ _ _ h => h) (Or.inl ⟨by rfl, by intro W q; rw [← HPV.out]; exact execAA q.2 (by omega) rfl rfl⟩) (by assumption) ?_
        try simp only [Act.put, List.setIfInBounds_toArray, List.set_cons_zero, List.set_cons_succ]
        refine wpAnyH_take (i := 6) (oi := { dst := some 30, op := _, type := _, pos := _, after := _, guard := _ }) (v := .int .i64 N) rfl (by kernel_rfl) (by kernel_rfl) (by kernel_rfl) (fun _ _ _ h => h) (Or.inl ⟨by rfl, by intro w hSw; clear hSw; go_simp; (try with_reducible rfl)⟩) (by assumption) ?_
        try simp only [Act.put, List.setIfInBounds_toArray, List.set_cons_zero, List.set_cons_succ]
        refine wpAnyH_ready (rs := [5]) (by kernel_rfl) (by simp) ?_
        refine AllReadyH.cons rfl (fun K hK => ?_) AllReadyH.nil
        go_simp
        refine (putPl_any f p _ HPO.out).mono ?_
        rintro e x1 ⟨rfl, hb⟩
        have CM := CM.below hb
        have K1 := K1.below hb K1.lt
        have BX : Hid (Below wr.heap.size wr x1) := BX.out.trans (hb.mono BX.out.size)
        clear hb hHeld
        go_wp2_with fail
        refine hK.out _ _ ⟨K1, CM⟩ (fun hHeld => ?_)
        clear hK K
        try simp only [Act.put, List.setIfInBounds_toArray, List.set_cons_zero, List.set_cons_succ]
        refine wpAnyH_ready (rs := [7]) (by kernel_rfl) (by simp) ?_
        refine AllReadyH.cons rfl (fun K hK => ?_) AllReadyH.nil
        go_simp
        refine (HSU.out p _ HPO.out).mono ?_
        rintro e x2 ⟨wh, rfl, hb⟩
        have CM := CM.below hb
        have K1 := K1.below hb K1.lt
        have BX : Hid (Below wr.heap.size wr x2) := BX.out.trans (hb.mono BX.out.size)
        clear hb hHeld
        go_wp2_with fail
        refine hK.out _ _ ⟨K1, CM⟩ (fun hHeld => ?_)
        clear hK K
        try simp only [Act.put, List.setIfInBounds_toArray, List.set_cons_zero, List.set_cons_succ]
        refine wpAnyH_take (i := 8) (oi := { dst := some 23, op := _, type := _, pos := _, after := _, guard := _ }) (v := .tuple #[.int .i64 (c p), .int .i64 wh]) rfl (by kernel_rfl) (by kernel_rfl) (by kernel_rfl) (fun _ _ _ h => h) (Or.inl ⟨by rfl, by intro w hSw; clear hSw; go_simp; (try with_reducible rfl)⟩) (by assumption) ?_
        try simp only [Act.put, List.setIfInBounds_toArray, List.set_cons_zero, List.set_cons_succ]
        refine wpAnyH_take (i := 9) (oi := { dst := some 32, op := _, type := _, pos := _, after := _, guard := _ }) (v := .int .i64 (c p)) rfl (by kernel_rfl) (by kernel_rfl) (by kernel_rfl) (fun _ _ _ h => h) (Or.inl ⟨by rfl, by intro w hSw; clear hSw; go_simp; (try with_reducible rfl)⟩) (by assumption) ?_
        try simp only [Act.put, List.setIfInBounds_toArray, List.set_cons_zero, List.set_cons_succ]
        refine wpAnyH_take (i := 10) (oi := { dst := some 33, op := _, type := _, pos := _, after := _, guard := _ }) (v := .int .i64 wh) rfl (by kernel_rfl) (by kernel_rfl) (by kernel_rfl) (fun _ _ _ h => h) (Or.inl ⟨by rfl, by intro w hSw; clear hSw; go_simp; (try with_reducible rfl)⟩) (by assumption) ?_
        try simp only [Act.put, List.setIfInBounds_toArray, List.set_cons_zero, List.set_cons_succ]
        refine wpAnyH_take (i := 11) (oi := { dst := some 10, op := _, type := _, pos := _, after := _, guard := _ }) (v := .int .i64 (c p)) rfl (by kernel_rfl) (by kernel_rfl) (by kernel_rfl) (fun _ _ _ h => h) (Or.inl ⟨by rfl, by intro w hSw; clear hSw; go_simp; (try with_reducible rfl)⟩) (by assumption) ?_
        try simp only [Act.put, List.setIfInBounds_toArray, List.set_cons_zero, List.set_cons_succ]
        refine wpAnyH_take (i := 12) (oi := { dst := some 11, op := _, type := _, pos := _, after := _, guard := _ }) (v := .int .i64 wh) rfl (by kernel_rfl) (by kernel_rfl) (by kernel_rfl) (fun _ _ _ h => h) (Or.inl ⟨by rfl, by intro w hSw; clear hSw; go_simp; (try with_reducible rfl)⟩) (by assumption) ?_
        try simp only [Act.put, List.setIfInBounds_toArray, List.set_cons_zero, List.set_cons_succ]
        refine wpAnyH_done (by kernel_rfl) ?_ _
        clear hHeld
        have K2 := K2.below BX.out K2.lt
        have K3 := K3.below BX.out K3.lt
        have HB : Hid (Below w.heap.size w x2) := HB.out.trans (BX.out.mono HB.out.size)
        clear BX
        generalize c p = cv at *
        go_wp2_with (first | ((with_reducible show wpList _ _ _ (Oper.mk _ (Op.load 70 _) _ _ _ _ :: _) _ _); refine loadAA (CM) (by omega) rfl rfl rfl ?_) | ((with_reducible show wpList _ _ _ (Oper.mk _ (Op.store 70 _ _) _ _ _ _ :: _) _ _); refine storeA (K3) rfl rfl rfl rfl ?_))
        have hsn : some ga ≠ some q := fun e => by have := Option.some.inj e; omega
        have CM := CM.grownP (grown_rowP K3 (mk 3 (fun j => h (k * 3 + j)))) hsn
        have K1 := K1.rowOther q (mk 3 (fun j => h (k * 3 + j))) (by omega)
        have K2 := K2.rowOther q (mk 3 (fun j => h (k * 3 + j))) (by omega)
        have K3 : Blk (x2.setRow q (mk 3 (fun j => h (k * 3 + j)))) q 3 (plF p) 70 := by rw [HPV.out]; exact K3.row 3 (plF p)
        have HB : Hid (Below w.heap.size w (x2.setRow q (mk 3 (fun j => h (k * 3 + j))))) := below_setRow HB.out (by omega) _
        go_roundg gk2
        case rel => exact ⟨k + 1, ⟨p, cv, true⟩, plF p, by omega, by go_num, by show _ = _; rw [HT.out, lsF_snoc, ← HSS.out, Y.out], ⟨fun e => by omega, fun _ => ⟨rfl, rfl⟩⟩, rfl, K3, CM, K1, K2, HB⟩
        case measure => omega
      · have HK0 := Lib.hid hkz
        have hkb : (((k : Nat) : Int) == 0) = false := by rw [beq_eq_false_iff_ne]; omega
        by_cases hlt : c p < S.v
        · have Y : Hid (lsStep c S p = ⟨p, c p, true⟩) := lsStep_yes (.inr hlt)
          generalize hsv : S.v = sv at *
          clear hsv hkz
          go_wp2_with fail
          refine wp_region_held_drew (S := fun W => Blk W w.heap.size 16 f 29 ∧ CAt W ga (n * 3) h) (by kernel_rfl) (⟨K1.drew, CM.drew⟩) (fun hHeld => ?_)
          have K1 : Blk wr.drew w.heap.size 16 f 29 := K1.drew
          have CM : CAt wr.drew ga (n * 3) h := CM.drew
          have BX : Hid (Below wr.heap.size wr wr.drew) := (Below.refl _ wr).drew
          generalize wr.drew = x0 at *
          refine wpAnyH_take (i := 0) (oi := { dst := some 24, op := _, type := _, pos := _, after := _, guard := _ }) (v := .agg (mk 16 f)) rfl (by kernel_rfl) (by kernel_rfl) (by kernel_rfl) (fun _ _ _ h => h) (Or.inl ⟨by rfl, fun _ q => execB q.1 rfl rfl⟩) (by assumption) ?_
          try simp only [Act.put, List.setIfInBounds_toArray, List.set_cons_zero, List.set_cons_succ]
          refine wpAnyH_take (i := 1) (oi := { dst := some 25, op := _, type := _, pos := _, after := _, guard := _ }) (v := .slice (some ⟨ga, 0, none⟩) n ca) rfl (by kernel_rfl) (by kernel_rfl) (by kernel_rfl) (fun _ _ _ h => h) (Or.inl ⟨by rfl, by intro w hSw; clear hSw; go_simp; (try with_reducible rfl)⟩) (by assumption) ?_
          try simp only [Act.put, List.setIfInBounds_toArray, List.set_cons_zero, List.set_cons_succ]
          refine wpAnyH_take (i := 2) (oi := { dst := some 26, op := _, type := _, pos := _, after := _, guard := _ }) (v := .int .i64 (k : Int)) rfl (by kernel_rfl) (by kernel_rfl) (by kernel_rfl) (fun _ _ _ h => h) (Or.inl ⟨by rfl, by intro w hSw; clear hSw; go_simp; (try with_reducible rfl)⟩) (by assumption) ?_
          try simp only [Act.put, List.setIfInBounds_toArray, List.set_cons_zero, List.set_cons_succ]
          refine wpAnyH_take (i := 3) (oi := { dst := some 27, op := _, type := _, pos := _, after := _, guard := _ }) (v := .pointer (some ⟨ga, k * 3, none⟩)) rfl (by kernel_rfl) (by kernel_rfl) (by kernel_rfl) (fun _ _ _ h => h) (Or.inl ⟨by rfl, by intro w hSw; clear hSw; go_simp; (try with_reducible rfl)⟩) (by assumption) ?_
          try simp only [Act.put, List.setIfInBounds_toArray, List.set_cons_zero, List.set_cons_succ]
          refine wpAnyH_take (i := 4) (oi := { dst := some 28, op := _, type := _, pos := _, after := _, guard := _ }) (v := .agg (mk 3 (plF p))) rfl (by kernel_rfl) (by kernel_rfl) (by kernel_rfl) (fun _ _ _ h => h) (Or.inl ⟨by rfl, by intro W q; rw [← HPV.out]; exact execAA q.2 (by omega) rfl rfl⟩) (by assumption) ?_
          try simp only [Act.put, List.setIfInBounds_toArray, List.set_cons_zero, List.set_cons_succ]
          refine wpAnyH_take (i := 6) (oi := { dst := some 30, op := _, type := _, pos := _, after := _, guard := _ }) (v := .int .i64 N) rfl (by kernel_rfl) (by kernel_rfl) (by kernel_rfl) (fun _ _ _ h => h) (Or.inl ⟨by rfl, by intro w hSw; clear hSw; go_simp; (try with_reducible rfl)⟩) (by assumption) ?_
          try simp only [Act.put, List.setIfInBounds_toArray, List.set_cons_zero, List.set_cons_succ]
          refine wpAnyH_ready (rs := [5]) (by kernel_rfl) (by simp) ?_
          refine AllReadyH.cons rfl (fun K hK => ?_) AllReadyH.nil
          go_simp
          refine (putPl_any f p _ HPO.out).mono ?_
          rintro e x1 ⟨rfl, hb⟩
          have CM := CM.below hb
          have K1 := K1.below hb K1.lt
          have BX : Hid (Below wr.heap.size wr x1) := BX.out.trans (hb.mono BX.out.size)
          clear hb hHeld
          go_wp2_with fail
          refine hK.out _ _ ⟨K1, CM⟩ (fun hHeld => ?_)
          clear hK K
          try simp only [Act.put, List.setIfInBounds_toArray, List.set_cons_zero, List.set_cons_succ]
          refine wpAnyH_ready (rs := [7]) (by kernel_rfl) (by simp) ?_
          refine AllReadyH.cons rfl (fun K hK => ?_) AllReadyH.nil
          go_simp
          refine (HSU.out p _ HPO.out).mono ?_
          rintro e x2 ⟨wh, rfl, hb⟩
          have CM := CM.below hb
          have K1 := K1.below hb K1.lt
          have BX : Hid (Below wr.heap.size wr x2) := BX.out.trans (hb.mono BX.out.size)
          clear hb hHeld
          go_wp2_with fail
          refine hK.out _ _ ⟨K1, CM⟩ (fun hHeld => ?_)
          clear hK K
          try simp only [Act.put, List.setIfInBounds_toArray, List.set_cons_zero, List.set_cons_succ]
          refine wpAnyH_take (i := 8) (oi := { dst := some 23, op := _, type := _, pos := _, after := _, guard := _ }) (v := .tuple #[.int .i64 (c p), .int .i64 wh]) rfl (by kernel_rfl) (by kernel_rfl) (by kernel_rfl) (fun _ _ _ h => h) (Or.inl ⟨by rfl, by intro w hSw; clear hSw; go_simp; (try with_reducible rfl)⟩) (by assumption) ?_
          try simp only [Act.put, List.setIfInBounds_toArray, List.set_cons_zero, List.set_cons_succ]
          refine wpAnyH_take (i := 9) (oi := { dst := some 32, op := _, type := _, pos := _, after := _, guard := _ }) (v := .int .i64 (c p)) rfl (by kernel_rfl) (by kernel_rfl) (by kernel_rfl) (fun _ _ _ h => h) (Or.inl ⟨by rfl, by intro w hSw; clear hSw; go_simp; (try with_reducible rfl)⟩) (by assumption) ?_
          try simp only [Act.put, List.setIfInBounds_toArray, List.set_cons_zero, List.set_cons_succ]
          refine wpAnyH_take (i := 10) (oi := { dst := some 33, op := _, type := _, pos := _, after := _, guard := _ }) (v := .int .i64 wh) rfl (by kernel_rfl) (by kernel_rfl) (by kernel_rfl) (fun _ _ _ h => h) (Or.inl ⟨by rfl, by intro w hSw; clear hSw; go_simp; (try with_reducible rfl)⟩) (by assumption) ?_
          try simp only [Act.put, List.setIfInBounds_toArray, List.set_cons_zero, List.set_cons_succ]
          refine wpAnyH_take (i := 11) (oi := { dst := some 10, op := _, type := _, pos := _, after := _, guard := _ }) (v := .int .i64 (c p)) rfl (by kernel_rfl) (by kernel_rfl) (by kernel_rfl) (fun _ _ _ h => h) (Or.inl ⟨by rfl, by intro w hSw; clear hSw; go_simp; (try with_reducible rfl)⟩) (by assumption) ?_
          try simp only [Act.put, List.setIfInBounds_toArray, List.set_cons_zero, List.set_cons_succ]
          refine wpAnyH_take (i := 12) (oi := { dst := some 11, op := _, type := _, pos := _, after := _, guard := _ }) (v := .int .i64 wh) rfl (by kernel_rfl) (by kernel_rfl) (by kernel_rfl) (fun _ _ _ h => h) (Or.inl ⟨by rfl, by intro w hSw; clear hSw; go_simp; (try with_reducible rfl)⟩) (by assumption) ?_
          try simp only [Act.put, List.setIfInBounds_toArray, List.set_cons_zero, List.set_cons_succ]
          refine wpAnyH_done (by kernel_rfl) ?_ _
          clear hHeld
          have K2 := K2.below BX.out K2.lt
          have K3 := K3.below BX.out K3.lt
          have HB : Hid (Below w.heap.size w x2) := HB.out.trans (BX.out.mono HB.out.size)
          clear BX
          generalize c p = cv at *
          go_wp2_with (first | ((with_reducible show wpList _ _ _ (Oper.mk _ (Op.load 70 _) _ _ _ _ :: _) _ _); refine loadAA (CM) (by omega) rfl rfl rfl ?_) | ((with_reducible show wpList _ _ _ (Oper.mk _ (Op.store 70 _ _) _ _ _ _ :: _) _ _); refine storeA (K3) rfl rfl rfl rfl ?_))
          have hsn : some ga ≠ some q := fun e => by have := Option.some.inj e; omega
          have CM := CM.grownP (grown_rowP K3 (mk 3 (fun j => h (k * 3 + j)))) hsn
          have K1 := K1.rowOther q (mk 3 (fun j => h (k * 3 + j))) (by omega)
          have K2 := K2.rowOther q (mk 3 (fun j => h (k * 3 + j))) (by omega)
          have K3 : Blk (x2.setRow q (mk 3 (fun j => h (k * 3 + j)))) q 3 (plF p) 70 := by rw [HPV.out]; exact K3.row 3 (plF p)
          have HB : Hid (Below w.heap.size w (x2.setRow q (mk 3 (fun j => h (k * 3 + j))))) := below_setRow HB.out (by omega) _
          go_roundg gk2
          case rel => exact ⟨k + 1, ⟨p, cv, true⟩, plF p, by omega, by go_num, by show _ = _; rw [HT.out, lsF_snoc, ← HSS.out, Y.out], ⟨fun e => by omega, fun _ => ⟨rfl, rfl⟩⟩, rfl, K3, CM, K1, K2, HB⟩
          case measure => omega
        · have Y : Hid (lsStep c S p = S) := lsStep_no (fun q => q.elim (fun q => by rw [(HKK.out.2 HK0.out).1] at q; cases q) hlt)
          clear hkz
          go_wp2_with fail
          refine wp_region_held_drew (S := fun W => Blk W w.heap.size 16 f 29 ∧ CAt W ga (n * 3) h) (by kernel_rfl) (⟨K1.drew, CM.drew⟩) (fun hHeld => ?_)
          have K1 : Blk wr.drew w.heap.size 16 f 29 := K1.drew
          have CM : CAt wr.drew ga (n * 3) h := CM.drew
          have BX : Hid (Below wr.heap.size wr wr.drew) := (Below.refl _ wr).drew
          generalize wr.drew = x0 at *
          refine wpAnyH_take (i := 0) (oi := { dst := some 24, op := _, type := _, pos := _, after := _, guard := _ }) (v := .agg (mk 16 f)) rfl (by kernel_rfl) (by kernel_rfl) (by kernel_rfl) (fun _ _ _ h => h) (Or.inl ⟨by rfl, fun _ q => execB q.1 rfl rfl⟩) (by assumption) ?_
          try simp only [Act.put, List.setIfInBounds_toArray, List.set_cons_zero, List.set_cons_succ]
          refine wpAnyH_take (i := 1) (oi := { dst := some 25, op := _, type := _, pos := _, after := _, guard := _ }) (v := .slice (some ⟨ga, 0, none⟩) n ca) rfl (by kernel_rfl) (by kernel_rfl) (by kernel_rfl) (fun _ _ _ h => h) (Or.inl ⟨by rfl, by intro w hSw; clear hSw; go_simp; (try with_reducible rfl)⟩) (by assumption) ?_
          try simp only [Act.put, List.setIfInBounds_toArray, List.set_cons_zero, List.set_cons_succ]
          refine wpAnyH_take (i := 2) (oi := { dst := some 26, op := _, type := _, pos := _, after := _, guard := _ }) (v := .int .i64 (k : Int)) rfl (by kernel_rfl) (by kernel_rfl) (by kernel_rfl) (fun _ _ _ h => h) (Or.inl ⟨by rfl, by intro w hSw; clear hSw; go_simp; (try with_reducible rfl)⟩) (by assumption) ?_
          try simp only [Act.put, List.setIfInBounds_toArray, List.set_cons_zero, List.set_cons_succ]
          refine wpAnyH_take (i := 3) (oi := { dst := some 27, op := _, type := _, pos := _, after := _, guard := _ }) (v := .pointer (some ⟨ga, k * 3, none⟩)) rfl (by kernel_rfl) (by kernel_rfl) (by kernel_rfl) (fun _ _ _ h => h) (Or.inl ⟨by rfl, by intro w hSw; clear hSw; go_simp; (try with_reducible rfl)⟩) (by assumption) ?_
          try simp only [Act.put, List.setIfInBounds_toArray, List.set_cons_zero, List.set_cons_succ]
          refine wpAnyH_take (i := 4) (oi := { dst := some 28, op := _, type := _, pos := _, after := _, guard := _ }) (v := .agg (mk 3 (plF p))) rfl (by kernel_rfl) (by kernel_rfl) (by kernel_rfl) (fun _ _ _ h => h) (Or.inl ⟨by rfl, by intro W q; rw [← HPV.out]; exact execAA q.2 (by omega) rfl rfl⟩) (by assumption) ?_
          try simp only [Act.put, List.setIfInBounds_toArray, List.set_cons_zero, List.set_cons_succ]
          refine wpAnyH_take (i := 6) (oi := { dst := some 30, op := _, type := _, pos := _, after := _, guard := _ }) (v := .int .i64 N) rfl (by kernel_rfl) (by kernel_rfl) (by kernel_rfl) (fun _ _ _ h => h) (Or.inl ⟨by rfl, by intro w hSw; clear hSw; go_simp; (try with_reducible rfl)⟩) (by assumption) ?_
          try simp only [Act.put, List.setIfInBounds_toArray, List.set_cons_zero, List.set_cons_succ]
          refine wpAnyH_ready (rs := [5]) (by kernel_rfl) (by simp) ?_
          refine AllReadyH.cons rfl (fun K hK => ?_) AllReadyH.nil
          go_simp
          refine (putPl_any f p _ HPO.out).mono ?_
          rintro e x1 ⟨rfl, hb⟩
          have CM := CM.below hb
          have K1 := K1.below hb K1.lt
          have BX : Hid (Below wr.heap.size wr x1) := BX.out.trans (hb.mono BX.out.size)
          clear hb hHeld
          go_wp2_with fail
          refine hK.out _ _ ⟨K1, CM⟩ (fun hHeld => ?_)
          clear hK K
          try simp only [Act.put, List.setIfInBounds_toArray, List.set_cons_zero, List.set_cons_succ]
          refine wpAnyH_ready (rs := [7]) (by kernel_rfl) (by simp) ?_
          refine AllReadyH.cons rfl (fun K hK => ?_) AllReadyH.nil
          go_simp
          refine (HSU.out p _ HPO.out).mono ?_
          rintro e x2 ⟨wh, rfl, hb⟩
          have CM := CM.below hb
          have K1 := K1.below hb K1.lt
          have BX : Hid (Below wr.heap.size wr x2) := BX.out.trans (hb.mono BX.out.size)
          clear hb hHeld
          go_wp2_with fail
          refine hK.out _ _ ⟨K1, CM⟩ (fun hHeld => ?_)
          clear hK K
          try simp only [Act.put, List.setIfInBounds_toArray, List.set_cons_zero, List.set_cons_succ]
          refine wpAnyH_take (i := 8) (oi := { dst := some 23, op := _, type := _, pos := _, after := _, guard := _ }) (v := .tuple #[.int .i64 (c p), .int .i64 wh]) rfl (by kernel_rfl) (by kernel_rfl) (by kernel_rfl) (fun _ _ _ h => h) (Or.inl ⟨by rfl, by intro w hSw; clear hSw; go_simp; (try with_reducible rfl)⟩) (by assumption) ?_
          try simp only [Act.put, List.setIfInBounds_toArray, List.set_cons_zero, List.set_cons_succ]
          refine wpAnyH_take (i := 9) (oi := { dst := some 32, op := _, type := _, pos := _, after := _, guard := _ }) (v := .int .i64 (c p)) rfl (by kernel_rfl) (by kernel_rfl) (by kernel_rfl) (fun _ _ _ h => h) (Or.inl ⟨by rfl, by intro w hSw; clear hSw; go_simp; (try with_reducible rfl)⟩) (by assumption) ?_
          try simp only [Act.put, List.setIfInBounds_toArray, List.set_cons_zero, List.set_cons_succ]
          refine wpAnyH_take (i := 10) (oi := { dst := some 33, op := _, type := _, pos := _, after := _, guard := _ }) (v := .int .i64 wh) rfl (by kernel_rfl) (by kernel_rfl) (by kernel_rfl) (fun _ _ _ h => h) (Or.inl ⟨by rfl, by intro w hSw; clear hSw; go_simp; (try with_reducible rfl)⟩) (by assumption) ?_
          try simp only [Act.put, List.setIfInBounds_toArray, List.set_cons_zero, List.set_cons_succ]
          refine wpAnyH_take (i := 11) (oi := { dst := some 10, op := _, type := _, pos := _, after := _, guard := _ }) (v := .int .i64 (c p)) rfl (by kernel_rfl) (by kernel_rfl) (by kernel_rfl) (fun _ _ _ h => h) (Or.inl ⟨by rfl, by intro w hSw; clear hSw; go_simp; (try with_reducible rfl)⟩) (by assumption) ?_
          try simp only [Act.put, List.setIfInBounds_toArray, List.set_cons_zero, List.set_cons_succ]
          refine wpAnyH_take (i := 12) (oi := { dst := some 11, op := _, type := _, pos := _, after := _, guard := _ }) (v := .int .i64 wh) rfl (by kernel_rfl) (by kernel_rfl) (by kernel_rfl) (fun _ _ _ h => h) (Or.inl ⟨by rfl, by intro w hSw; clear hSw; go_simp; (try with_reducible rfl)⟩) (by assumption) ?_
          try simp only [Act.put, List.setIfInBounds_toArray, List.set_cons_zero, List.set_cons_succ]
          refine wpAnyH_done (by kernel_rfl) ?_ _
          clear hHeld
          have K2 := K2.below BX.out K2.lt
          have K3 := K3.below BX.out K3.lt
          have HB : Hid (Below w.heap.size w x2) := HB.out.trans (BX.out.mono HB.out.size)
          clear BX
          generalize c p = cv at *
          generalize hsv : S.v = sv at *
          have HSV : Hid (S.v = sv) := hsv
          clear hsv
          go_wp2_with fail
          go_roundg gk2
          case rel => exact ⟨k + 1, S, FF, by omega, by go_num, by show _ = _; rw [HT.out, lsF_snoc, ← HSS.out, Y.out], ⟨fun e => by omega, fun _ => HKK.out.2 HK0.out⟩, by rw [HSV.out], K3, CM, K1, K2, HB⟩
          case measure => omega
end Go.Proofs.Ytlboglcpbbnbcab
