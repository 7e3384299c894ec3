/-
  The contracts of l11Cut and UndoSteps in the reference, and of UndoSteps in the program.
-/
import Derived.Test.YtekdodlkimgbhaaRepOwn
import Derived.Test.YtekdodlkimgbhaaRepTop
import Derived.Test.YtekdodlkimgbhaaRepImpl
namespace Go.Proofs.Ytekdodlkimgbhaa
open Go.RowKit Plain
attribute [local go_sem] store_new
set_option linter.unusedVariables false
set_option linter.unusedSimpArgs false
/-- What UndoSteps returns. -/
def undF (f h : Nat → Int) (n : Nat) (k : Int) : Nat → Int := if undOk f h n k then f else fun _ => 0
def undN (f h : Nat → Int) (n : Nat) (k : Int) : Nat := if undOk f h n k then n - k.toNat else 0
theorem und_yes {f h : Nat → Int} {n : Nat} {k : Int} (q : undOk f h n k) : undF f h n k = f ∧ undN f h n k = n - k.toNat := by simp [undF, undN, q]
theorem und_no {f h : Nat → Int} {n : Nat} {k : Int} (q : ¬ undOk f h n k) : undF f h n k = (fun _ => 0) ∧ undN f h n k = 0 := by simp [undF, undN, q]
set_option maxHeartbeats 4000000 in
set_option maxRecDepth 20000 in
theorem l11Cut_any (f : Nat → Int) (v : Value) (n k : Nat) (h : Nat → Int) (w : World) (hv : KRow 4 w v n h) (hk : k ≤ n) (hn : n ≤ 1048576) :
    Calls Try.prog 56 #[.agg (rpl f v), .int .i64 k] w fun e w' => ∃ a c, e = .returned (.agg (rpl f (.slice a k c))) ∧ OwnT w' w.heap.size (.slice a k c) k h ∧ Below w.heap.size w w' := by
  obtain ⟨i0, hi, hz0, hz1, hz2⟩ := info_parts infoT
  obtain ⟨g, cap, rfl, hle, hc⟩ := hv
  have z17 := zeroRp
  have K1 := (Rp.new w f (.slice (some ⟨g, 0, none⟩) n cap) 34).alloc (.cells (rpl (fun _ => 0) (.slice none 0 0)) 34)
  have K2 := Rp.new (w.alloc (.cells (rpl f (.slice (some ⟨g, 0, none⟩) n cap)) 34)) (fun _ => 0) (.slice none 0 0) 34
  have HB : Hid (Below w.heap.size w ((w.alloc (.cells (rpl f (.slice (some ⟨g, 0, none⟩) n cap)) 34)).alloc (.cells (rpl (fun _ => 0) (.slice none 0 0)) 34))) := ((Below.refl w.heap.size w).alloc (Nat.le_refl _) _).alloc (by simp) _
  simp only [World.size_alloc] at K2
  have CM : CAt ((w.alloc (.cells (rpl f (.slice (some ⟨g, 0, none⟩) n cap)) 34)).alloc (.cells (rpl (fun _ => 0) (.slice none 0 0)) 34)) g (n * 4) h := (hc.alloc _).alloc _
  have hg0 := hc.1
  clear hc
  have d1 : (0 : Int) ≤ (k : Int) := by omega
  have d2 : (k : Int) ≤ (cap : Int) := by omega
  have d3 : (k : Int) ≤ (n : Int) := by omega
  go_enter Try.func56, Try.ntmps56
  go_wp2_with fail
  generalize ((w.alloc (.cells (rpl f (.slice (some ⟨g, 0, none⟩) n cap)) 34)).alloc (.cells (rpl (fun _ => 0) (.slice none 0 0)) 34)) = wr at *
  refine wp_region_held_drew (S := fun W => Rp W w.heap.size f (.slice (some ⟨g, 0, none⟩) n cap) 34 ∧ CAt W g (n * 4) h) (by kernel_rfl) (⟨K1.drew, CM.drew⟩) (fun hHeld => ?_)
  have K1 : Rp wr.drew w.heap.size f (.slice (some ⟨g, 0, none⟩) n cap) 34 := K1.drew
  have K2 : Rp wr.drew (w.heap.size + 1) (fun _ => 0) (.slice none 0 0) 34 := K2.drew
  have CM : CAt wr.drew g (n * 4) h := CM.drew
  have HB : Hid (Below w.heap.size w wr.drew) := HB.out.drew
  generalize wr.drew = x0 at *
  refine wpAnyH_take (i := 0) (oi := { dst := some 5, op := _, type := _, pos := _, after := _, guard := _ }) (v := .pointer (some ⟨w.heap.size, 0, none⟩)) rfl (by kernel_rfl) (by kernel_rfl) (by kernel_rfl) (fun _ _ _ h => h) (Or.inl ⟨by rfl, by intro w hSw; clear hSw; go_simp; (try with_reducible rfl)⟩) (by assumption) ?_
  try simp only [Act.put, List.setIfInBounds_toArray, List.set_cons_zero, List.set_cons_succ]
  refine wpAnyH_take (i := 1) (oi := { dst := some 6, op := _, type := _, pos := _, after := _, guard := _ }) (v := .agg (mk 16 f)) rfl (by kernel_rfl) (by kernel_rfl) (by kernel_rfl) (fun _ _ _ h => h) (Or.inl ⟨by rfl, fun _ q => execRB q.1 rfl rfl⟩) (by assumption) ?_
  try simp only [Act.put, List.setIfInBounds_toArray, List.set_cons_zero, List.set_cons_succ]
  refine wpAnyH_take (i := 3) (oi := { dst := some 8, op := _, type := _, pos := _, after := _, guard := _ }) (v := .pointer (some ⟨w.heap.size, 16, none⟩)) rfl (by kernel_rfl) (by kernel_rfl) (by kernel_rfl) (fun _ _ _ h => h) (Or.inl ⟨by rfl, by intro w hSw; clear hSw; go_simp; (try with_reducible rfl)⟩) (by assumption) ?_
  try simp only [Act.put, List.setIfInBounds_toArray, List.set_cons_zero, List.set_cons_succ]
  refine wpAnyH_take (i := 4) (oi := { dst := some 9, op := _, type := _, pos := _, after := _, guard := _ }) (v := .slice (some ⟨g, 0, none⟩) n cap) rfl (by kernel_rfl) (by kernel_rfl) (by kernel_rfl) (fun _ _ _ h => h) (Or.inl ⟨by rfl, by intro W hSw; have c16 := Rp.last hSw.1; clear hSw; go_simp; (try with_reducible rfl)⟩) (by assumption) ?_
  try simp only [Act.put, List.setIfInBounds_toArray, List.set_cons_zero, List.set_cons_succ]
  refine wpAnyH_take (i := 5) (oi := { dst := some 10, op := _, type := _, pos := _, after := _, guard := _ }) (v := .int .i64 (k : Int)) rfl (by kernel_rfl) (by kernel_rfl) (by kernel_rfl) (fun _ _ _ h => h) (Or.inl ⟨by rfl, by intro w hSw; clear hSw; go_simp; (try with_reducible rfl)⟩) (by assumption) ?_
  try simp only [Act.put, List.setIfInBounds_toArray, List.set_cons_zero, List.set_cons_succ]
  refine wpAnyH_take (i := 6) (oi := { dst := some 11, op := _, type := _, pos := _, after := _, guard := _ }) (v := .slice (some ⟨g, 0, none⟩) k cap) rfl (by kernel_rfl) (by kernel_rfl) (by kernel_rfl) (fun _ _ _ h => h) (Or.inl ⟨by rfl, by intro w hSw; clear hSw; go_simp; (try with_reducible rfl)⟩) (by assumption) ?_
  try simp only [Act.put, List.setIfInBounds_toArray, List.set_cons_zero, List.set_cons_succ]
  refine wpAnyH_ready (rs := [2]) (by kernel_rfl) (by simp) ?_
  refine AllReadyH.cons rfl (fun K hK => ?_) AllReadyH.nil
  go_simp
  have HO : Hid (OwnT (x0.alloc (.cells #[] 49)) x0.heap.size (.slice (some ⟨x0.heap.size, 0, none⟩) 0 0) 0 (fun _ => 0)) := World.ownsRow_made (base := x0.heap.size) (e := 49) (size := 4) x0 #[] 0 (Nat.le_refl _) (by decide) (by simp)
  have hlt := K1.lt
  have hlt2 := K2.lt
  have hlt3 := CM.1
  have HS : Hid (w.heap.size ≤ x0.heap.size) := HB.out.size
  have hsz : x0.heap.size < (x0.alloc (.cells #[] 49)).heap.size := by simp
  have K1 := K1.alloc (.cells #[] 49)
  have K2 := K2.alloc (.cells #[] 49)
  have CM := CM.alloc (.cells #[] 49)
  have HB : Hid (Below w.heap.size w (x0.alloc (.cells #[] 49))) := HB.out.alloc HB.out.size _
  clear hHeld
  generalize x0.alloc (.cells #[] 49) = x1 at *
  generalize x0.heap.size = b5 at *
  refine hK.out _ _ ⟨K1, CM⟩ (fun hHeld => ?_)
  clear hK K
  try simp only [Act.put, List.setIfInBounds_toArray, List.set_cons_zero, List.set_cons_succ]
  refine wpAnyH_ready (rs := [7]) (by kernel_rfl) (by simp) ?_
  refine AllReadyH.cons rfl (fun K hK => ?_) AllReadyH.nil
  rw [if_pos (by rfl)]
  refine wp_app _ _ 32 rfl b5 49 i0 _ 4 32 Try.underlying32 hi hz0 hz1 hz2 rfl (by decide) rfl HO.out g 0 k cap h (n * 4) rfl CM (by omega) (by unfold maxLen; omega) (by omega) (by omega) (fun v5 x2 R hbl _ => ?_)
  have HO5 : Hid (OwnT x2 b5 v5 k h) := by
    rw [Nat.zero_add] at R
    refine OwnT.congr (H := fun j => h (0 + j)) ?_ (fun j _ => by rw [Nat.zero_add])
    show World.ownsRow _ _ _ _ _ _ _
    have e : (mk (0 * 4) fun _ => 0).toList = [] := rfl
    rw [e, List.nil_append] at R
    exact R
  obtain ⟨a5, c5, rfl⟩ := HO5.out.form
  have K1 := K1.below hbl hlt
  have K2 := K2.below hbl hlt2
  have CM := CAt.low CM hbl hlt3
  have HB : Hid (Below w.heap.size w x2) := HB.out.trans (hbl.mono HS.out)
  clear hHeld R hbl HO
  refine hK.out _ _ ⟨K1, CM⟩ (fun hHeld => ?_)
  clear hK K
  try simp only [Act.put, List.setIfInBounds_toArray, List.set_cons_zero, List.set_cons_succ]
  refine wpAnyH_take (i := 8) (oi := { dst := some 13, op := _, type := _, pos := _, after := _, guard := _ }) (v := .agg (rpl f (.slice a5 k c5))) rfl (by kernel_rfl) (by kernel_rfl) (by kernel_rfl) (fun _ _ _ h => h) (Or.inl ⟨by rfl, fun _ _ => exec_buildRp _ _ rfl rfl rfl⟩) (by assumption) ?_
  try simp only [Act.put, List.setIfInBounds_toArray, List.set_cons_zero, List.set_cons_succ]
  refine wpAnyH_ready (rs := [9]) (by kernel_rfl) (by simp) ?_
  refine AllReadyH.cons rfl (fun K hK => ?_) AllReadyH.nil
  have st1 := run_store_rp (g := f) (a := a5) (n := k) (c := c5) K2
  have ms1 : (rpl f (.slice a5 k c5)).size = 17 := rpl_size _ _
  go_simp
  clear st1 ms1
  have HO6 : Hid (OwnT (x2.setRow (w.heap.size + 1) (rpl f (.slice a5 k c5))) b5 (.slice a5 k c5) k h) := HO5.out.kept (grown_rp K2 _) (fun q => by have := (HO5.out.lt _ q).1; omega)
  have K1 := K1.rowOther ((w.heap.size + 1)) (rpl f (.slice a5 k c5)) (by omega)
  have CM := CM.grown (grown_rp K2 (rpl f (.slice a5 k c5))) (fun q => by have : g = w.heap.size + 1 := Option.some.inj q; omega)
  have HB : Hid (Below w.heap.size w (x2.setRow (w.heap.size + 1) (rpl f (.slice a5 k c5)))) := below_setRow HB.out (by omega) _
  have K2 := K2.row f (.slice a5 k c5)
  clear hHeld HO5
  generalize x2.setRow (w.heap.size + 1) (rpl f (.slice a5 k c5)) = x3 at *
  refine hK.out _ _ ⟨K1, CM⟩ (fun hHeld => ?_)
  clear hK K
  try simp only [Act.put, List.setIfInBounds_toArray, List.set_cons_zero, List.set_cons_succ]
  refine wpAnyH_done (by kernel_rfl) ?_ _
  clear hHeld
  go_wp2_with fail
  try simp only [Exit.inBlock, Exit.then]
  exact retRp K2 rfl rfl rfl ⟨a5, c5, rfl, HO6.out.wide HS.out, HB.out⟩
set_option maxHeartbeats 4000000 in
set_option maxRecDepth 20000 in
theorem specUndo_any (f : Nat → Int) (v : Value) (n : Nat) (h : Nat → Int) (k : Int) (w : World) (hv : KRow 4 w v n h) (hn : n ≤ 1048576) :
    Calls Try.prog 30 #[.agg (rpl f v), .int .i64 k] w fun e w' => ∃ a c, e = .returned (.tuple #[.agg (rpl (undF f h n k) (.slice a (undN f h n k) c)), .bool (decide (undOk f h n k))]) ∧ OwnT w' w.heap.size (.slice a (undN f h n k) c) (undN f h n k) h ∧ Below w.heap.size w w' := by
  obtain ⟨i0, hi, hz0, hz1, hz2⟩ := info_parts infoT
  have hb0 := ((Below.refl w.heap.size w).alloc (Nat.le_refl _) (.cells (rpl f v) 34)).alloc (by simp) (.cells (rpl (fun _ => 0) (.slice none 0 0)) 34)
  have HV := Lib.hid (hv.below hb0)
  have HCon := specIs_any f v n h _ HV.out hn
  obtain ⟨g, cap, rfl, hle, hc⟩ := hv
  have hg0 := hc.1
  clear hb0 hc
  have z17 := zeroRp
  have K1 := (Rp.new w f (.slice (some ⟨g, 0, none⟩) n cap) 34).alloc (.cells (rpl (fun _ => 0) (.slice none 0 0)) 34)
  have K2 := Rp.new (w.alloc (.cells (rpl f (.slice (some ⟨g, 0, none⟩) n cap)) 34)) (fun _ => 0) (.slice none 0 0) 34
  have HB : Hid (Below w.heap.size w ((w.alloc (.cells (rpl f (.slice (some ⟨g, 0, none⟩) n cap)) 34)).alloc (.cells (rpl (fun _ => 0) (.slice none 0 0)) 34))) := ((Below.refl w.heap.size w).alloc (Nat.le_refl _) _).alloc (by simp) _
  simp only [World.size_alloc] at K2
  by_cases hR : RpOk f h n
  · rw [rplO_yes hR] at HCon
    have HCon := Lib.hid HCon
    by_cases hk : 0 ≤ k ∧ k ≤ n
    · obtain ⟨y1, y2⟩ := und_yes (f := f) (h := h) (n := n) (k := k) ⟨hR, hk⟩
      rw [y1, y2, decide_eq_true (p := undOk f h n k) ⟨hR, hk⟩]
      clear y1 y2
      obtain ⟨q, rfl⟩ := Int.eq_ofNat_of_zero_le hk.1
      rw [Int.toNat_natCast]
      have hq : q ≤ n := by omega
      have h40 := hR.2.1
      obtain ⟨k, rfl⟩ : ∃ k, n = k + q := ⟨n - q, by omega⟩
      rw [show k + q - q = k by omega]
      have hkk : k ≤ k + q := by omega
      clear hR
      go_enter Try.func30, Try.ntmps30
      go_wp2_with ((with_reducible show wpList _ _ _ (Oper.mk _ (Op.load 34 _) _ _ _ _ :: _) _ _); refine loadRp (K1) rfl rfl rfl ?_)
      refine HCon.out.mono ?_
      clear HCon
      rintro e w1 ⟨rfl, hb⟩
      have K1 := K1.below hb K1.lt
      have K2 := K2.below hb K2.lt
      have HV := Lib.hid (HV.out.below hb)
      have HB : Hid (Below w.heap.size w w1) := HB.out.trans (hb.mono HB.out.size)
      have c16 := K1.last
      clear hb
      have d1 : (0 : Int) ≤ (q : Int) := by omega
      have d2 : (q : Int) ≤ ((k : Int) + (q : Int)) := by omega
      have q1 : IntKind.i64.wrap ((k : Int) + (q : Int) - (q : Int)) = (k : Int) := by rw [show (k : Int) + (q : Int) - (q : Int) = (k : Int) by omega]; exact IntWalk.i64_in _ (by omega)
      go_wp2_with fail
      refine (l1In_yes (q : Int) 0 ((k : Int) + (q : Int)) _ d1 d2).mono ?_
      rintro e w' ⟨rfl, rfl⟩
      go_wp2_with ((with_reducible show wpList _ _ _ (Oper.mk _ (Op.load 34 _) _ _ _ _ :: _) _ _); refine loadRp (K1) rfl rfl rfl ?_)
      refine (l11Cut_any f _ (k + q) k h _ HV.out hkk hn).mono ?_
      rintro e w2 ⟨a, c, rfl, ho, hb⟩
      have HS1 := K2.lt
      have K2 := K2.below hb K2.lt
      have HB : Hid (Below w.heap.size w w2) := HB.out.trans (hb.mono HB.out.size)
      have HO : Hid (OwnT w2 w1.heap.size (.slice a k c) k h) := ho
      clear hb HV K1 c16 ho
      have HO6 : Hid (OwnT (w2.setRow (w.heap.size + 1) (rpl f (.slice a k c))) w1.heap.size (.slice a k c) k h) := HO.out.kept (grown_rp K2 _) (fun z => by have := (HO.out.lt _ z).1; omega)
      have HB2 : Hid (Below w.heap.size w (w2.setRow (w.heap.size + 1) (rpl f (.slice a k c)))) := below_setRow HB.out (by omega) _
      go_wp2_with ((with_reducible show wpList _ _ _ (Oper.mk _ (Op.store 34 _ _) _ _ _ _ :: _) _ _); refine storeRp (K2) (by rfl) rfl rfl rfl rfl ?_)
      try simp only [Exit.inBlock, Exit.then]
      exact retRpT (K2.row _ _) rfl rfl rfl ⟨a, c, rfl, HO6.out.wide (by omega), HB2.out⟩
    · obtain ⟨y1, y2⟩ := und_no (f := f) (h := h) (n := n) (k := k) (fun q => hk q.2)
      rw [y1, y2, decide_eq_false (p := undOk f h n k) (fun q => hk q.2)]
      clear y1 y2
      have HK := Lib.hid (show k < 0 ∨ (n : Int) < k by omega)
      clear hR hk
      go_enter Try.func30, Try.ntmps30
      go_wp2_with ((with_reducible show wpList _ _ _ (Oper.mk _ (Op.load 34 _) _ _ _ _ :: _) _ _); refine loadRp (K1) rfl rfl rfl ?_)
      refine HCon.out.mono ?_
      clear HCon
      rintro e w1 ⟨rfl, hb⟩
      have K1 := K1.below hb K1.lt
      have K2 := K2.below hb K2.lt
      have HV := Lib.hid (HV.out.below hb)
      have HB : Hid (Below w.heap.size w w1) := HB.out.trans (hb.mono HB.out.size)
      have c16 := K1.last
      clear hb
      go_wp2_with fail
      refine (l1In_no k 0 (n : Int) _ HK.out).mono ?_
      rintro e w' ⟨rfl, rfl⟩
      have HB2 : Hid (Below w.heap.size w (w1.setRow (w.heap.size + 1) (rpl (fun _ => 0) (.slice none 0 0)))) := below_setRow HB.out (by omega) _
      go_wp2_with ((with_reducible show wpList _ _ _ (Oper.mk _ (Op.store 34 _ _) _ _ _ _ :: _) _ _); refine storeRp (K2) (by rfl) rfl rfl rfl rfl ?_)
      try simp only [Exit.inBlock, Exit.then]
      exact retRpT (K2.row _ _) rfl rfl rfl ⟨none, 0, rfl, OwnT.none _ _ _, HB2.out⟩
  · obtain ⟨y1, y2⟩ := und_no (f := f) (h := h) (n := n) (k := k) (fun q => hR q.1)
    rw [y1, y2, decide_eq_false (p := undOk f h n k) (fun q => hR q.1)]
    clear y1 y2
    rw [rplO_no hR] at HCon
    have HCon := Lib.hid HCon
    clear hR
    go_enter Try.func30, Try.ntmps30
    go_wp2_with ((with_reducible show wpList _ _ _ (Oper.mk _ (Op.load 34 _) _ _ _ _ :: _) _ _); refine loadRp (K1) rfl rfl rfl ?_)
    refine HCon.out.mono ?_
    clear HCon
    rintro e w1 ⟨rfl, hb⟩
    have K1 := K1.below hb K1.lt
    have K2 := K2.below hb K2.lt
    have HV := Lib.hid (HV.out.below hb)
    have HB : Hid (Below w.heap.size w w1) := HB.out.trans (hb.mono HB.out.size)
    have c16 := K1.last
    clear hb
    have HB2 : Hid (Below w.heap.size w (w1.setRow (w.heap.size + 1) (rpl (fun _ => 0) (.slice none 0 0)))) := below_setRow HB.out (by omega) _
    go_wp2_with ((with_reducible show wpList _ _ _ (Oper.mk _ (Op.store 34 _ _) _ _ _ _ :: _) _ _); refine storeRp (K2) (by rfl) rfl rfl rfl rfl ?_)
    try simp only [Exit.inBlock, Exit.then]
    exact retRpT (K2.row _ _) rfl rfl rfl ⟨none, 0, rfl, OwnT.none _ _ _, HB2.out⟩
set_option maxHeartbeats 4000000 in
set_option maxRecDepth 20000 in
theorem implUndo_any (f : Nat → Int) (v : Value) (n : Nat) (h : Nat → Int) (k : Int) (w : World) (hv : KRow 4 w v n h) (hn : n ≤ 1048576) :
    Calls Try.prog 31 #[.agg (rpl f v), .int .i64 k] w fun e w' => ∃ a c, e = .returned (.tuple #[.agg (rpl (undF f h n k) (.slice a (undN f h n k) c)), .bool (decide (undOk f h n k))]) ∧ OwnT w' w.heap.size (.slice a (undN f h n k) c) (undN f h n k) h ∧ Below w.heap.size w w' := by
  obtain ⟨i0, hi, hz0, hz1, hz2⟩ := info_parts infoT
  have hb0 := ((Below.refl w.heap.size w).alloc (Nat.le_refl _) (.cells (rpl f v) 34)).alloc (by simp) (.cells (rpl (fun _ => 0) (.slice none 0 0)) 34)
  have HV := Lib.hid (hv.below hb0)
  have HCon := implIs_any f v n h _ HV.out hn
  obtain ⟨g, cap, rfl, hle, hc⟩ := hv
  have hg0 := hc.1
  clear hb0 hc
  have z17 := zeroRp
  have K1 := (Rp.new w f (.slice (some ⟨g, 0, none⟩) n cap) 34).alloc (.cells (rpl (fun _ => 0) (.slice none 0 0)) 34)
  have K2 := Rp.new (w.alloc (.cells (rpl f (.slice (some ⟨g, 0, none⟩) n cap)) 34)) (fun _ => 0) (.slice none 0 0) 34
  have HB : Hid (Below w.heap.size w ((w.alloc (.cells (rpl f (.slice (some ⟨g, 0, none⟩) n cap)) 34)).alloc (.cells (rpl (fun _ => 0) (.slice none 0 0)) 34))) := ((Below.refl w.heap.size w).alloc (Nat.le_refl _) _).alloc (by simp) _
  simp only [World.size_alloc] at K2
  by_cases hR : RpOk f h n
  · rw [rplO_yes hR] at HCon
    have HCon := Lib.hid HCon
    by_cases hk : 0 ≤ k ∧ k ≤ n
    · obtain ⟨y1, y2⟩ := und_yes (f := f) (h := h) (n := n) (k := k) ⟨hR, hk⟩
      rw [y1, y2, decide_eq_true (p := undOk f h n k) ⟨hR, hk⟩]
      clear y1 y2
      obtain ⟨q, rfl⟩ := Int.eq_ofNat_of_zero_le hk.1
      rw [Int.toNat_natCast]
      have hq : q ≤ n := by omega
      have h40 := hR.2.1
      obtain ⟨k, rfl⟩ : ∃ k, n = k + q := ⟨n - q, by omega⟩
      rw [show k + q - q = k by omega]
      have hkk : k ≤ k + q := by omega
      clear hR
      go_enter Try.func31, Try.ntmps31
      go_wp2_with ((with_reducible show wpList _ _ _ (Oper.mk _ (Op.load 34 _) _ _ _ _ :: _) _ _); refine loadRp (K1) rfl rfl rfl ?_)
      refine HCon.out.mono ?_
      clear HCon
      rintro e w1 ⟨rfl, hb⟩
      have K1 := K1.below hb K1.lt
      have K2 := K2.below hb K2.lt
      have HV := Lib.hid (HV.out.below hb)
      have HB : Hid (Below w.heap.size w w1) := HB.out.trans (hb.mono HB.out.size)
      have c16 := K1.last
      clear hb
      have d1 : ¬ ((q : Int) < 0) := by omega
      have d2 : ¬ ((k : Int) + (q : Int) < (q : Int)) := by omega
      have q1 : IntKind.i64.wrap ((k : Int) + (q : Int) - (q : Int)) = (k : Int) := by rw [show (k : Int) + (q : Int) - (q : Int) = (k : Int) by omega]; exact IntWalk.i64_in _ (by omega)
      obtain ⟨g', cap', e1, _, CM⟩ := HV.out
      cases e1
      have d3 : (k : Int) ≤ (cap : Int) := by omega
      have d4 : (0 : Int) ≤ (k : Int) := by omega
      go_wp2_with fail
      clear c16
      refine wp_region_held_drew (S := fun W => Rp W w.heap.size f (.slice (some ⟨g, 0, none⟩) (k + q) cap) 34 ∧ CAt W g ((k + q) * 4) h) (by kernel_rfl) (⟨K1.drew, CM.drew⟩) (fun hHeld => ?_)
      have K1 : Rp w1.drew w.heap.size f (.slice (some ⟨g, 0, none⟩) (k + q) cap) 34 := K1.drew
      have K2 : Rp w1.drew (w.heap.size + 1) (fun _ => 0) (.slice none 0 0) 34 := K2.drew
      have CM : CAt w1.drew g ((k + q) * 4) h := CM.drew
      have HB : Hid (Below w.heap.size w w1.drew) := HB.out.drew
      generalize w1.drew = x0 at *
      refine wpAnyH_take (i := 0) (oi := { dst := some 27, op := _, type := _, pos := _, after := _, guard := _ }) (v := .pointer (some ⟨w.heap.size, 0, none⟩)) rfl (by kernel_rfl) (by kernel_rfl) (by kernel_rfl) (fun _ _ _ h => h) (Or.inl ⟨by rfl, by intro w hSw; clear hSw; go_simp; (try with_reducible rfl)⟩) (by assumption) ?_
      try simp only [Act.put, List.setIfInBounds_toArray, List.set_cons_zero, List.set_cons_succ]
      refine wpAnyH_take (i := 1) (oi := { dst := some 28, op := _, type := _, pos := _, after := _, guard := _ }) (v := .agg (mk 16 f)) rfl (by kernel_rfl) (by kernel_rfl) (by kernel_rfl) (fun _ _ _ h => h) (Or.inl ⟨by rfl, fun _ q => execRB q.1 rfl rfl⟩) (by assumption) ?_
      try simp only [Act.put, List.setIfInBounds_toArray, List.set_cons_zero, List.set_cons_succ]
      refine wpAnyH_take (i := 3) (oi := { dst := some 30, op := _, type := _, pos := _, after := _, guard := _ }) (v := .pointer (some ⟨w.heap.size, 16, none⟩)) rfl (by kernel_rfl) (by kernel_rfl) (by kernel_rfl) (fun _ _ _ h => h) (Or.inl ⟨by rfl, by intro w hSw; clear hSw; go_simp; (try with_reducible rfl)⟩) (by assumption) ?_
      try simp only [Act.put, List.setIfInBounds_toArray, List.set_cons_zero, List.set_cons_succ]
      refine wpAnyH_take (i := 4) (oi := { dst := some 31, op := _, type := _, pos := _, after := _, guard := _ }) (v := .slice (some ⟨g, 0, none⟩) (k + q) cap) rfl (by kernel_rfl) (by kernel_rfl) (by kernel_rfl) (fun _ _ _ h => h) (Or.inl ⟨by rfl, by intro W hSw; have c16 := Rp.last hSw.1; clear hSw; go_simp; (try with_reducible rfl)⟩) (by assumption) ?_
      try simp only [Act.put, List.setIfInBounds_toArray, List.set_cons_zero, List.set_cons_succ]
      refine wpAnyH_take (i := 5) (oi := { dst := some 32, op := _, type := _, pos := _, after := _, guard := _ }) (v := .int .i64 (k : Int)) rfl (by kernel_rfl) (by kernel_rfl) (by kernel_rfl) (fun _ _ _ h => h) (Or.inl ⟨by rfl, by intro w hSw; clear hSw; go_simp; (try with_reducible rfl)⟩) (by assumption) ?_
      try simp only [Act.put, List.setIfInBounds_toArray, List.set_cons_zero, List.set_cons_succ]
      refine wpAnyH_take (i := 6) (oi := { dst := some 33, op := _, type := _, pos := _, after := _, guard := _ }) (v := .slice (some ⟨g, 0, none⟩) k cap) rfl (by kernel_rfl) (by kernel_rfl) (by kernel_rfl) (fun _ _ _ h => h) (Or.inl ⟨by rfl, by intro w hSw; clear hSw; go_simp; (try with_reducible rfl)⟩) (by assumption) ?_
      try simp only [Act.put, List.setIfInBounds_toArray, List.set_cons_zero, List.set_cons_succ]
      refine wpAnyH_ready (rs := [2]) (by kernel_rfl) (by simp) ?_
      refine AllReadyH.cons rfl (fun K hK => ?_) AllReadyH.nil
      go_simp
      have HO : Hid (OwnT (x0.alloc (.cells #[] 49)) x0.heap.size (.slice (some ⟨x0.heap.size, 0, none⟩) 0 0) 0 (fun _ => 0)) := World.ownsRow_made (base := x0.heap.size) (e := 49) (size := 4) x0 #[] 0 (Nat.le_refl _) (by decide) (by simp)
      have hlt := K1.lt
      have hlt2 := K2.lt
      have hlt3 := CM.1
      have HS : Hid (w.heap.size ≤ x0.heap.size) := HB.out.size
      have hsz : x0.heap.size < (x0.alloc (.cells #[] 49)).heap.size := by simp
      have K1 := K1.alloc (.cells #[] 49)
      have K2 := K2.alloc (.cells #[] 49)
      have CM := CM.alloc (.cells #[] 49)
      have HB : Hid (Below w.heap.size w (x0.alloc (.cells #[] 49))) := HB.out.alloc HB.out.size _
      clear hHeld
      generalize x0.alloc (.cells #[] 49) = x1 at *
      generalize x0.heap.size = b5 at *
      refine hK.out _ _ ⟨K1, CM⟩ (fun hHeld => ?_)
      clear hK K
      try simp only [Act.put, List.setIfInBounds_toArray, List.set_cons_zero, List.set_cons_succ]
      refine wpAnyH_ready (rs := [7]) (by kernel_rfl) (by simp) ?_
      refine AllReadyH.cons rfl (fun K hK => ?_) AllReadyH.nil
      rw [if_pos (by rfl)]
      refine wp_app _ _ 32 rfl b5 49 i0 _ 4 32 Try.underlying32 hi hz0 hz1 hz2 rfl (by decide) rfl HO.out g 0 k cap h ((k + q) * 4) rfl CM (by omega) (by unfold maxLen; omega) (by omega) (by omega) (fun v5 x2 R hbl _ => ?_)
      have HO5 : Hid (OwnT x2 b5 v5 k h) := by
        rw [Nat.zero_add] at R
        refine OwnT.congr (H := fun j => h (0 + j)) ?_ (fun j _ => by rw [Nat.zero_add])
        show World.ownsRow _ _ _ _ _ _ _
        have e : (mk (0 * 4) fun _ => 0).toList = [] := rfl
        rw [e, List.nil_append] at R
        exact R
      obtain ⟨a5, c5, rfl⟩ := HO5.out.form
      have K1 := K1.below hbl hlt
      have K2 := K2.below hbl hlt2
      have CM := CAt.low CM hbl hlt3
      have HB : Hid (Below w.heap.size w x2) := HB.out.trans (hbl.mono HS.out)
      clear hHeld R hbl HO
      refine hK.out _ _ ⟨K1, CM⟩ (fun hHeld => ?_)
      clear hK K
      try simp only [Act.put, List.setIfInBounds_toArray, List.set_cons_zero, List.set_cons_succ]
      refine wpAnyH_take (i := 8) (oi := { dst := some 35, op := _, type := _, pos := _, after := _, guard := _ }) (v := .agg (rpl f (.slice a5 k c5))) rfl (by kernel_rfl) (by kernel_rfl) (by kernel_rfl) (fun _ _ _ h => h) (Or.inl ⟨by rfl, fun _ _ => exec_buildRp _ _ rfl rfl rfl⟩) (by assumption) ?_
      try simp only [Act.put, List.setIfInBounds_toArray, List.set_cons_zero, List.set_cons_succ]
      refine wpAnyH_ready (rs := [9]) (by kernel_rfl) (by simp) ?_
      refine AllReadyH.cons rfl (fun K hK => ?_) AllReadyH.nil
      have st1 := run_store_rp (g := f) (a := a5) (n := k) (c := c5) K2
      have ms1 : (rpl f (.slice a5 k c5)).size = 17 := rpl_size _ _
      go_simp
      clear st1 ms1
      have HO6 : Hid (OwnT (x2.setRow (w.heap.size + 1) (rpl f (.slice a5 k c5))) b5 (.slice a5 k c5) k h) := HO5.out.kept (grown_rp K2 _) (fun q => by have := (HO5.out.lt _ q).1; omega)
      have K1 := K1.rowOther ((w.heap.size + 1)) (rpl f (.slice a5 k c5)) (by omega)
      have CM := CM.grown (grown_rp K2 (rpl f (.slice a5 k c5))) (fun q => by have : g = w.heap.size + 1 := Option.some.inj q; omega)
      have HB : Hid (Below w.heap.size w (x2.setRow (w.heap.size + 1) (rpl f (.slice a5 k c5)))) := below_setRow HB.out (by omega) _
      have K2 := K2.row f (.slice a5 k c5)
      clear hHeld HO5
      generalize x2.setRow (w.heap.size + 1) (rpl f (.slice a5 k c5)) = x3 at *
      refine hK.out _ _ ⟨K1, CM⟩ (fun hHeld => ?_)
      clear hK K
      try simp only [Act.put, List.setIfInBounds_toArray, List.set_cons_zero, List.set_cons_succ]
      refine wpAnyH_take (i := 10) (oi := { dst := some 5, op := _, type := _, pos := _, after := _, guard := _ }) (v := .bool true) rfl (by kernel_rfl) (by kernel_rfl) (by kernel_rfl) (fun _ _ _ h => h) (Or.inl ⟨by rfl, by intro w hSw; clear hSw; go_simp; (try with_reducible rfl)⟩) (by assumption) ?_
      try simp only [Act.put, List.setIfInBounds_toArray, List.set_cons_zero, List.set_cons_succ]
      refine wpAnyH_done (by kernel_rfl) ?_ _
      clear hHeld
      go_wp2_with fail
      try simp only [Exit.inBlock, Exit.then]
      exact retRpT K2 rfl rfl rfl ⟨a5, c5, rfl, HO6.out.wide HS.out, HB.out⟩
    · obtain ⟨y1, y2⟩ := und_no (f := f) (h := h) (n := n) (k := k) (fun q => hk q.2)
      rw [y1, y2, decide_eq_false (p := undOk f h n k) (fun q => hk q.2)]
      clear y1 y2
      clear hR
      by_cases hk0 : k < 0
      · go_enter Try.func31, Try.ntmps31
        go_wp2_with ((with_reducible show wpList _ _ _ (Oper.mk _ (Op.load 34 _) _ _ _ _ :: _) _ _); refine loadRp (K1) rfl rfl rfl ?_)
        refine HCon.out.mono ?_
        clear HCon
        rintro e w1 ⟨rfl, hb⟩
        have K1 := K1.below hb K1.lt
        have K2 := K2.below hb K2.lt
        have HV := Lib.hid (HV.out.below hb)
        have HB : Hid (Below w.heap.size w w1) := HB.out.trans (hb.mono HB.out.size)
        have c16 := K1.last
        clear hb
        have HB2 : Hid (Below w.heap.size w (w1.setRow (w.heap.size + 1) (rpl (fun _ => 0) (.slice none 0 0)))) := below_setRow HB.out (by omega) _
        go_wp2_with ((with_reducible show wpList _ _ _ (Oper.mk _ (Op.store 34 _ _) _ _ _ _ :: _) _ _); refine storeRp (K2) (by rfl) rfl rfl rfl rfl ?_)
        try simp only [Exit.inBlock, Exit.then]
        exact retRpT (K2.row _ _) rfl rfl rfl ⟨none, 0, rfl, OwnT.none _ _ _, HB2.out⟩
      · have hk1 : (n : Int) < k := by omega
        clear hk
        go_enter Try.func31, Try.ntmps31
        go_wp2_with ((with_reducible show wpList _ _ _ (Oper.mk _ (Op.load 34 _) _ _ _ _ :: _) _ _); refine loadRp (K1) rfl rfl rfl ?_)
        refine HCon.out.mono ?_
        clear HCon
        rintro e w1 ⟨rfl, hb⟩
        have K1 := K1.below hb K1.lt
        have K2 := K2.below hb K2.lt
        have HV := Lib.hid (HV.out.below hb)
        have HB : Hid (Below w.heap.size w w1) := HB.out.trans (hb.mono HB.out.size)
        have c16 := K1.last
        clear hb
        have HB2 : Hid (Below w.heap.size w (w1.setRow (w.heap.size + 1) (rpl (fun _ => 0) (.slice none 0 0)))) := below_setRow HB.out (by omega) _
        go_wp2_with ((with_reducible show wpList _ _ _ (Oper.mk _ (Op.store 34 _ _) _ _ _ _ :: _) _ _); refine storeRp (K2) (by rfl) rfl rfl rfl rfl ?_)
        try simp only [Exit.inBlock, Exit.then]
        exact retRpT (K2.row _ _) rfl rfl rfl ⟨none, 0, rfl, OwnT.none _ _ _, HB2.out⟩
  · obtain ⟨y1, y2⟩ := und_no (f := f) (h := h) (n := n) (k := k) (fun q => hR q.1)
    rw [y1, y2, decide_eq_false (p := undOk f h n k) (fun q => hR q.1)]
    clear y1 y2
    rw [rplO_no hR] at HCon
    have HCon := Lib.hid HCon
    clear hR
    go_enter Try.func31, Try.ntmps31
    go_wp2_with ((with_reducible show wpList _ _ _ (Oper.mk _ (Op.load 34 _) _ _ _ _ :: _) _ _); refine loadRp (K1) rfl rfl rfl ?_)
    refine HCon.out.mono ?_
    clear HCon
    rintro e w1 ⟨rfl, hb⟩
    have K1 := K1.below hb K1.lt
    have K2 := K2.below hb K2.lt
    have HV := Lib.hid (HV.out.below hb)
    have HB : Hid (Below w.heap.size w w1) := HB.out.trans (hb.mono HB.out.size)
    have c16 := K1.last
    clear hb
    have HB2 : Hid (Below w.heap.size w (w1.setRow (w.heap.size + 1) (rpl (fun _ => 0) (.slice none 0 0)))) := below_setRow HB.out (by omega) _
    go_wp2_with ((with_reducible show wpList _ _ _ (Oper.mk _ (Op.store 34 _ _) _ _ _ _ :: _) _ _); refine storeRp (K2) (by rfl) rfl rfl rfl rfl ?_)
    try simp only [Exit.inBlock, Exit.then]
    exact retRpT (K2.row _ _) rfl rfl rfl ⟨none, 0, rfl, OwnT.none _ _ _, HB2.out⟩
end Go.Proofs.Ytekdodlkimgbhaa
