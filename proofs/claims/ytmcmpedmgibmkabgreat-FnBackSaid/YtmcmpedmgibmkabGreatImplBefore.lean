/-
  The contract of the program's RowsBefore, for every row.
-/
import Derived.Test.YtmcmpedmgibmkabGreatSortsA
import Derived.Test.YtmcmpedmgibmkabGreatComeFrom
import Derived.Test.YtmcmpedmgibmkabGreatSpread4
import Derived.Test.YtmcmpedmgibmkabGreatRowsA
import Derived.Test.YtmcmpedmgibmkabGreatSlideLine
namespace Go.Proofs.YtmcmpedmgibmkabGreat.Plain
def slT (r : Nat → Int) (x : List Int) : Bool := sameR (slid (fn x) 4).row r
def bfP (r : Nat → Int) (i : Nat) : List (List Int) := ((cfL r 4).take i).flatMap fun ts => (sprL ts 16).filter (slT r)
theorem bfP_zero (r : Nat → Int) : bfP r 0 = [] := rfl
theorem bfP_step {r : Nat → Int} {i : Nat} {ts : List Int} (h : (cfL r 4)[i]? = some ts) : bfP r (i + 1) = bfP r i ++ (sprL ts 16).filter (slT r) := by
  unfold bfP; rw [List.take_add_one, h, List.flatMap_append]; simp
theorem bfP_all (r : Nat → Int) : bfP r (cfL r 4).length = befP r := by
  unfold bfP befP; rw [List.take_length]; rfl
def fiL (r : Nat → Int) (X : List (List Int)) (j : Nat) : List (List Int) := (X.take j).filter (slT r)
theorem fiL_all (r : Nat → Int) (X : List (List Int)) : fiL r X X.length = X.filter (slT r) := by unfold fiL; rw [List.take_length]
theorem fiL_yes {r : Nat → Int} {X : List (List Int)} {j : Nat} {x : List Int} (h : X[j]? = some x) (hs : slT r x = true) : fiL r X (j + 1) = fiL r X j ++ [x] := by
  unfold fiL; rw [List.take_add_one, h, List.filter_append]; simp [hs]
theorem fiL_no {r : Nat → Int} {X : List (List Int)} {j : Nat} {x : List Int} (h : X[j]? = some x) (hs : slT r x = false) : fiL r X (j + 1) = fiL r X j := by
  unfold fiL; rw [List.take_add_one, h, List.filter_append]; simp [hs]
theorem fiL_len (r : Nat → Int) (X : List (List Int)) (j : Nat) : (fiL r X j).length ≤ j := by
  unfold fiL
  have h1 := List.length_filter_le (slT r) (X.take j)
  have h2 := List.length_take_le j X
  omega
/-- Some rows, and those of the first j that slide to r. -/
def afL (r : Nat → Int) (A X : List (List Int)) (j : Nat) : List (List Int) := A ++ fiL r X j
theorem afL_zero (r : Nat → Int) (A X : List (List Int)) : afL r A X 0 = A := by simp [afL, fiL]
theorem afL_all (r : Nat → Int) (A X : List (List Int)) : afL r A X X.length = A ++ X.filter (slT r) := by unfold afL; rw [fiL_all]
theorem afL_yes {r : Nat → Int} {A X : List (List Int)} {j : Nat} {x : List Int} (h : X[j]? = some x) (hs : slT r x = true) : afL r A X (j + 1) = afL r A X j ++ [x] := by
  unfold afL; rw [fiL_yes h hs, List.append_assoc]
theorem afL_no {r : Nat → Int} {A X : List (List Int)} {j : Nat} {x : List Int} (h : X[j]? = some x) (hs : slT r x = false) : afL r A X (j + 1) = afL r A X j := by
  unfold afL; rw [fiL_no h hs]
theorem afL_len (r : Nat → Int) (A X : List (List Int)) (j : Nat) : (afL r A X j).length ≤ A.length + j := by
  unfold afL; rw [List.length_append]; have := fiL_len r X j; omega
theorem bfP_len (r : Nat → Int) : ∀ i, (bfP r i).length ≤ i * 16
  | 0 => by simp [bfP]
  | i + 1 => by
    have ih := bfP_len r i
    cases h : (cfL r 4)[i]? with
    | none =>
      have : bfP r (i + 1) = bfP r i := by unfold bfP; rw [List.take_add_one, h]; simp
      rw [this]; omega
    | some ts =>
      rw [bfP_step h, List.length_append]
      have h1 := List.length_filter_le (slT r) (sprL ts 16)
      have h2 := sprL_len ts 16
      omega
end Go.Proofs.YtmcmpedmgibmkabGreat.Plain
namespace Go.Proofs.YtmcmpedmgibmkabGreat
open Go.RowKit Plain
attribute [local go_sem] store_new
set_option linter.unusedVariables false
set_option linter.unusedSimpArgs false

theorem befP_vd {r : Nat → Int} (h : VdRow r) : VdL 4 (befP r) := fun l hl => by
  have hb := (befP_mem h l).1 hl
  exact ⟨hb.1, fun i hi => hb.2.1 i hi⟩
/-- The blocks between b0 and those of w3 are what they were in w3. -/
def Mid (b0 : Nat) (w3 w : World) : Prop := w3.heap.size ≤ w.heap.size ∧ ∀ g, b0 < g → g < w3.heap.size → w.heap[g]? = w3.heap[g]?
theorem Mid.refl (b0 : Nat) (w : World) : Mid b0 w w := ⟨Nat.le_refl _, fun _ _ _ => rfl⟩
theorem Mid.below {b0 : Nat} {w3 w w' : World} (h : Mid b0 w3 w) (hb : Below w.heap.size w w') : Mid b0 w3 w' :=
  ⟨Nat.le_trans h.1 hb.size, fun g h1 h2 => (hb.block g (Nat.lt_of_lt_of_le h2 h.1)).trans (h.2 g h1 h2)⟩
theorem Mid.alloc {b0 : Nat} {w3 w : World} (h : Mid b0 w3 w) (o : Obj) : Mid b0 w3 (w.alloc o) := h.below ((Below.refl _ w).alloc (Nat.le_refl _) o)
theorem Mid.grown {b0 g : Nat} {w3 w w' : World} (h : Mid b0 w3 w) (hg : w.grownBy w' (some g)) (hf : g ≤ b0 ∨ w3.heap.size ≤ g) : Mid b0 w3 w' :=
  ⟨Nat.le_trans h.1 hg.size, fun k h1 h2 => (hg.block k (Nat.lt_of_lt_of_le h2 h.1) (fun e => by cases e; omega)).trans (h.2 k h1 h2)⟩
theorem Mid.cell {b0 g : Nat} {w3 w : World} (h : Mid b0 w3 w) (h1 : b0 < g) (h2 : g < w3.heap.size) (i : Nat) : w.cell? ⟨g, i, none⟩ = w3.cell? ⟨g, i, none⟩ := by
  unfold World.cell?; simp only [h.2 g h1 h2]
theorem CAt.mid {b0 g n : Nat} {f : Nat → Int} {w3 w : World} (r : CAt w3 g n f) (h : Mid b0 w3 w) (h1 : b0 < g) : CAt w g n f :=
  ⟨Nat.lt_of_lt_of_le r.1 h.1, fun j hj => (h.cell h1 r.1 j).trans (r.2 j hj)⟩

set_option maxHeartbeats 8000000 in
set_option maxRecDepth 100000 in
theorem implBefore_any (r : Nat → Int) (w : World) :
    Calls Tryz.prog 60 #[.agg (mk 4 r)] w fun e w' => ∃ g cap, e = .returned (.tuple #[.slice (some ⟨g, 0, none⟩) (rbR r).length cap, .bool (rwO r)]) ∧
      OwnsL 24 4 w' w.heap.size (.slice (some ⟨g, 0, none⟩) (rbR r).length cap) (rbR r) ∧ Below w.heap.size w w' := by
  obtain ⟨i0, hi, hz0, hz1, hz2⟩ := info_parts infoR
  have K1 := Blk.new w 4 r 24
  have HB := Lib.hid ((Below.refl w.heap.size w).alloc (Nat.le_refl _) (.cells (mk 4 r) 24))
  have HIR := Lib.hid (implIsRow_any r)
  by_cases hV : VdRow r
  · rw [rbR_yes hV, rwO_yes hV]
    have hO := rwO_yes hV
    have HV := Lib.hid hV
    clear hV
    go_enter Tryz.func60, Tryz.ntmps60
    go_wp2_with ((with_reducible show wpList _ _ _ (Oper.mk _ (Op.load 24 _) _ _ _ _ :: _) _ _); refine loadR (K1) rfl rfl rfl ?_)
    refine (HIR.out _).mono ?_
    rw [hO]
    clear hO HIR
    rintro e w1 ⟨rfl, hb⟩
    have K1 := K1.below hb K1.lt
    have HB : Hid (Below w.heap.size w w1) := HB.out.trans (hb.mono HB.out.size)
    clear hb
    have hs1 := K1.lt
    have HO : Hid (OwnsL 24 4 (w1.alloc (.cells #[] 24)) (w.heap.size + 1) (.slice (some ⟨w1.heap.size, 0, none⟩) 0 0) []) := OwnsL.made w1 (by omega)
    have K1 := K1.alloc (.cells #[] 24)
    have HB : Hid (Below w.heap.size w (w1.alloc (.cells #[] 24))) := HB.out.alloc HB.out.size _
    have hz : (w1.alloc (.cells #[] 24)).heap.size = w1.heap.size + 1 := by simp
    go_wp2_with ((with_reducible show wpList _ _ _ (Oper.mk _ (Op.load 24 _) _ _ _ _ :: _) _ _); refine loadR (K1) rfl rfl rfl ?_)
    generalize w1.alloc (.cells #[] 24) = w2 at *
    generalize w1.heap.size = b0 at *
    refine (comeFrom_any r _ HV.out).mono ?_
    rintro e w3 ⟨gl, cl0, rfl, hls, hb⟩
    have HGL : Hid (b0 < gl ∧ gl < w3.heap.size) := by
      obtain ⟨vals, h1, _⟩ := hls
      have := h1.lt gl rfl
      exact ⟨by omega, this.2⟩
    have HLF : Hid (∀ i l, (cfL r 4)[i]? = some l → ∃ g c, w3.cell? ⟨gl, i, none⟩ = some (.slice (some ⟨g, 0, none⟩) l.length c) ∧ CAt w3 g l.length (fn l) ∧ b0 < g) := fun i l hl => by
      obtain ⟨g, c, q1, q2, q3⟩ := hls.at rfl hl
      exact ⟨g, c, q1, q2, by omega⟩
    have K1 := K1.below hb K1.lt
    have HO : Hid (OwnsL 24 4 w3 (w.heap.size + 1) (.slice (some ⟨b0, 0, none⟩) 0 0) []) := HO.out.below hb
    have HB : Hid (Below w.heap.size w w3) := HB.out.trans (hb.mono HB.out.size)
    have HM := Lib.hid (Mid.refl b0 w3)
    have HLV : Hid (∀ l, l ∈ cfL r 4 → l.length ≤ 8 ∧ ∀ x, x ∈ l → 1 ≤ x ∧ x ≤ 17) := fun l hl => ⟨(cf_len r 4).2 l hl, cf_vd HV.out 4 (Nat.le_refl _) l hl⟩
    have hn16 : (cfL r 4).length ≤ 16 := (cf_len r 4).1
    have HN : Hid (bfP r (cfL r 4).length = befP r) := bfP_all r
    clear hls hb hz hs1
    generalize hN : (cfL r 4).length = n at *
    have HNN := Lib.hid hN
    clear hN
    go_wp2_with fail
    go_loopg [4, 20] n (fun gk s4 s20 wr => ∃ (i : Nat) (v : Value), i + gk = n ∧ s20 = .int .i64 i ∧ v = s4 ∧ (∃ gg cap, v = .slice (some ⟨gg, 0, none⟩) (bfP r i).length cap ∧ (gg ≤ b0 ∨ w3.heap.size ≤ gg)) ∧ Hid (OwnsL 24 4 wr (w.heap.size + 1) v (bfP r i)) ∧ Hid (Mid b0 w3 wr) ∧ Blk wr w.heap.size 4 r 24 ∧ Hid (Below w.heap.size w wr))
    case atStart => exact ⟨0, _, by omega, rfl, rfl, ⟨_, _, rfl, .inl (Nat.le_refl _)⟩, HO, HM, K1, HB⟩
    case round =>
      clear HO HM K1 HB
      obtain ⟨i, v, hig, rfl, rfl, ⟨gg, cap1, hv, hfar⟩, HO, HM, K1, HB⟩ := hrel
      subst hv
      have HFR := Lib.hid hfar
      clear hfar
      cases gk with
      | zero =>
        have hk : ¬ ((i : Int) < (n : Int)) := by omega
        obtain rfl : i = n := by omega
        have HVL := Lib.hid (befP_vd HV.out)
        have HLE := Lib.hid (befP_le r)
        have HSA : Hid (srtL 4 (befP r) = befS r 16) := bef_same HV.out
        rw [← HN.out] at HVL HLE HSA
        generalize hL : bfP r i = L at *
        clear hL
        go_wp2_with fail
        refine (sortQ_any (w.heap.size + 1) gg cap1 24 L _ HVL.out (by have := HLE.out; omega) HO.out).mono ?_
        rintro e w9 ⟨rfl, hown, hbl⟩
        have hln := srt_len 4 L
        rw [HSA.out] at hown hln
        rw [← hln] at hown ⊢
        have HO : Hid (OwnsL 24 4 w9 (w.heap.size + 1) (.slice (some ⟨gg, 0, none⟩) (befS r 16).length cap1) (befS r 16)) := hown
        have HB : Hid (Below w.heap.size w w9) := HB.out.trans (hbl.mono (by omega))
        clear hown hbl hln
        go_wp2_with fail
        go_ret2
        exact ⟨gg, cap1, rfl, HO.out.wide (by omega), HB.out⟩
      | succ gk2 =>
        have hi4 : (i : Int) < (n : Int) := by omega
        have hi0 : (0 : Int) ≤ (i : Int) := by omega
        obtain ⟨ts, hts⟩ : ∃ ts, (cfL r 4)[i]? = some ts := ⟨(cfL r 4)[i]'(by have := HNN.out; omega), List.getElem?_eq_getElem _⟩
        obtain ⟨g2, c2, d1, CT, hg2⟩ := HLF.out i ts hts
        rw [← HM.out.cell HGL.out.1 HGL.out.2 i] at d1
        have CT := CT.mid HM.out hg2
        obtain ⟨ht8, htv⟩ := HLV.out ts (List.mem_of_getElem? hts)
        have HTV := Lib.hid htv
        have Y := Lib.hid (bfP_step hts)
        have hA := bfP_len r i
        clear htv hts hg2
        go_wp2_with fail
        refine (spread_any g2 c2 ts _ (by omega) CT).mono ?_
        rintro e w5 ⟨gx, cx, rfl, hox, hb⟩
        have hgx : wr.heap.size ≤ gx := (hox.lt gx rfl).1
        have hgg : gg < wr.heap.size := (HO.out.lt gg rfl).2
        obtain ⟨_, _, e1, hcx, CX⟩ := KRow.of_list (sprL_all ts 16) hox
        cases e1
        have HXA : Hid (∀ i x, (sprL ts 16)[i]? = some x → ∀ j, j < 4 → flatF (sprL ts 16) (i * 4 + j) = fn x j) := fun i x hx j hj => flatF_at (sprL_all ts 16) hx hj
        have HXL : Hid (∀ x, x ∈ sprL ts 16 → x.length = 4) := sprL_all ts 16
        have HXV : Hid (∀ x, x ∈ sprL ts 16 → VdRow (fn x)) := fun x hx => sprL_vd (fun y hy => by have := HTV.out y hy; omega) hx
        have hx16 := sprL_len ts 16
        have K1 := K1.below hb K1.lt
        have HM : Hid (Mid b0 w3 w5) := HM.out.below hb
        have HO : Hid (OwnsL 24 4 w5 (w.heap.size + 1) (.slice (some ⟨gg, 0, none⟩) (bfP r i).length cap1) (bfP r i)) := HO.out.below hb
        have HB : Hid (Below w.heap.size w w5) := HB.out.trans (hb.mono HB.out.size)
        have HNE : Hid (gg ≠ gx) := by show gg ≠ gx; omega
        have HZ : Hid (bfP r (i + 1) = afL r (bfP r i) (sprL ts 16) (sprL ts 16).length) := by show _ = _; rw [Y.out, afL_all]
        clear hb hox CT d1 hgx hgg hcx Y
        generalize hXX : sprL ts 16 = X at *
        generalize hFX : flatF X = hX at *
        generalize hNX : X.length = nX at *
        generalize hAA : bfP r i = A at *
        have HX0 : Hid (afL r A X 0 = A) := afL_zero r A X
        have HNX := Lib.hid hNX
        clear hXX hFX hNX hAA
        go_wp2_with fail
        go_loopg [4, 27] nX (fun gj s4 s27 wx => ∃ (j : Nat) (v : Value), j + gj = nX ∧ s27 = .int .i64 j ∧ v = s4 ∧ (∃ gg cap, v = .slice (some ⟨gg, 0, none⟩) (afL r A X j).length cap ∧ (gg ≤ b0 ∨ w3.heap.size ≤ gg) ∧ gg ≠ gx) ∧ Hid (OwnsL 24 4 wx (w.heap.size + 1) v (afL r A X j)) ∧ CAt wx gx (nX * 4) hX ∧ Hid (Mid b0 w3 wx) ∧ Blk wx w.heap.size 4 r 24 ∧ Hid (Below w.heap.size w wx))
        case atStart => exact ⟨0, _, by omega, rfl, rfl, ⟨gg, cap1, by rw [HX0.out], HFR.out, HNE.out⟩, by rw [HX0.out]; exact HO, CX, HM, K1, HB⟩
        case round =>
          clear HO CX HM K1 HB HNE HFR
          obtain ⟨j, v, hjg, rfl, rfl, ⟨gg, cap1, hv, hfar, hne⟩, HO, CX, HM, K1, HB⟩ := hrel
          subst hv
          have HFR := Lib.hid hfar
          have HNE := Lib.hid hne
          clear hfar hne
          cases gk with
          | zero =>
            have hk : ¬ ((j : Int) < (nX : Int)) := by omega
            obtain rfl : j = nX := by omega
            rw [← HZ.out] at HO ⊢
            go_wp2_with fail
            go_roundg gk2
            case rel => exact ⟨i + 1, _, by omega, by go_num, rfl, ⟨gg, cap1, rfl, HFR.out⟩, HO, HM, K1, HB⟩
            case measure => omega
          | succ gj2 =>
            have hj4 : (j : Int) < (nX : Int) := by omega
            have hj0 : (0 : Int) ≤ (j : Int) := by omega
            have hj9 : j < nX := by omega
            have hF := afL_len r A X j
            obtain ⟨x, hx⟩ : ∃ x, X[j]? = some x := ⟨X[j]'(by have := HNX.out; omega), List.getElem?_eq_getElem _⟩
            have HFX : Hid (∀ c, c < 4 → hX (j * 4 + c) = fn x c) := HXA.out j x hx
            have HFV : Hid (VdRow (fun c => hX (j * 4 + c))) := fun c hc => by
              show 0 ≤ hX (j * 4 + c) ∧ hX (j * 4 + c) ≤ 17
              rw [HFX.out c hc]; exact HXV.out x (List.mem_of_getElem? hx) c hc
            have HCX : Hid (cl 4 (fun c => hX (j * 4 + c)) = x) := by
              show _ = _
              rw [← cl_fn (HXL.out x (List.mem_of_getElem? hx)), cl_inj]; exact HFX.out
            have HSL : Hid (slid (fn x) 4 = slid (fun c => hX (j * 4 + c)) 4) := slid_congr 4 fun c hc => (HFX.out c hc).symm
            have HYT : Hid (sameR (slid (fun c => hX (j * 4 + c)) 4).row r = true → afL r A X (j + 1) = (afL r A X j) ++ [x]) := fun q => by
              exact afL_yes hx (by unfold slT; rw [HSL.out]; exact q)
            have HYF : Hid (sameR (slid (fun c => hX (j * 4 + c)) 4).row r = false → afL r A X (j + 1) = afL r A X j) := fun q => by
              exact afL_no hx (by unfold slT; rw [HSL.out]; exact q)
            have hLL : (afL r A X j).length ≤ 1024 := by omega
            clear hx
            have z4 := zero4
            have sr := World.setRow_alloc_new
            have K8 := Blk.new wr 4 (fun c => hX (j * 4 + c)) 24
            have CX0 := CX
            have K1 := K1.alloc (.cells (mk 4 (fun c => hX (j * 4 + c))) 24)
            have CX := CX.alloc (.cells (mk 4 (fun c => hX (j * 4 + c))) 24)
            have HM : Hid (Mid b0 w3 (wr.alloc (.cells (mk 4 (fun c => hX (j * 4 + c))) 24))) := HM.out.alloc _
            have HO : Hid (OwnsL 24 4 (wr.alloc (.cells (mk 4 (fun c => hX (j * 4 + c))) 24)) (w.heap.size + 1) (.slice (some ⟨gg, 0, none⟩) (afL r A X j).length cap1) (afL r A X j)) := HO.out.alloc _
            have HB : Hid (Below w.heap.size w (wr.alloc (.cells (mk 4 (fun c => hX (j * 4 + c))) 24))) := HB.out.alloc HB.out.size _
            go_wp2_with (first | ((with_reducible show wpList _ _ _ (Oper.mk _ (Op.load 24 _) _ _ _ _ :: _) _ _); refine loadR (K8) rfl rfl rfl ?_) | ((with_reducible show wpList _ _ _ (Oper.mk _ (Op.load 24 _) _ _ _ _ :: _) _ _); refine loadAR (off := j * 4) CX0 (by omega) rfl rfl rfl ?_))
            refine (slideLine_any (fun c => hX (j * 4 + c)) _ HFV.out).mono ?_
            clear z4 sr CX0
            rintro e w6 ⟨rfl, hb⟩
            have K1 := K1.below hb K1.lt
            have K8 := K8.below hb K8.lt
            have CX := CX.below hb
            have HM : Hid (Mid b0 w3 w6) := HM.out.below hb
            have HO : Hid (OwnsL 24 4 w6 (w.heap.size + 1) (.slice (some ⟨gg, 0, none⟩) (afL r A X j).length cap1) (afL r A X j)) := HO.out.below hb
            have HB : Hid (Below w.heap.size w w6) := HB.out.trans (hb.mono HB.out.size)
            clear hb
            have iE : ∀ (w : World), (Op.equalIn 10000 24 (.agg (mk 4 (slid (fun c => hX (j * 4 + c)) 4).row)) (.agg (mk 4 r))).run Tryz.prog w = .ok (sameR (slid (fun c => hX (j * 4 + c)) 4).row r) w := fun w => eqR 9998 _ _ w
            generalize hR9 : (slid (fun c => hX (j * 4 + c)) 4).row = R9 at *
            clear hR9
            have z4 := zero4
            have K9 := Blk.new w6 4 R9 24
            have K1 := K1.alloc (.cells (mk 4 R9) 24)
            have K8 := K8.alloc (.cells (mk 4 R9) 24)
            have CX := CX.alloc (.cells (mk 4 R9) 24)
            have HM : Hid (Mid b0 w3 (w6.alloc (.cells (mk 4 R9) 24))) := HM.out.alloc _
            have HO : Hid (OwnsL 24 4 (w6.alloc (.cells (mk 4 R9) 24)) (w.heap.size + 1) (.slice (some ⟨gg, 0, none⟩) (afL r A X j).length cap1) (afL r A X j)) := HO.out.alloc _
            have HB : Hid (Below w.heap.size w (w6.alloc (.cells (mk 4 R9) 24))) := HB.out.alloc HB.out.size _
            cases hs : sameR R9 r with
            | true =>
              have Z := Lib.hid (HYT.out hs)
              rw [hs] at iE
              clear hs HYT HYF
              go_wp2_with (first | ((with_reducible show wpList _ _ _ (Oper.mk _ (Op.load 24 _) _ _ _ _ :: _) _ _); refine loadR (K9) rfl rfl rfl ?_) | ((with_reducible show wpList _ _ _ (Oper.mk _ (Op.load 24 _) _ _ _ _ :: _) _ _); refine loadR (K1) rfl rfl rfl ?_) | ((with_reducible show wpList _ _ _ (Oper.mk _ (Op.load 24 _) _ _ _ _ :: _) _ _); refine loadR (K8) rfl rfl rfl ?_) | ((with_reducible show wpList _ _ _ (Oper.mk _ (Op.buildSlice _ 1 _) _ _ _ _ :: _) _ _); refine wpl_buildR _ rfl rfl (f := fun c => hX (j * 4 + c)) rfl ?_) | (at_builtin; refine wpl_app (v := .slice (some ⟨gg, 0, none⟩) (afL r A X j).length cap1) rfl _ _ 64 rfl (w.heap.size + 1) 24 i0 _ 4 32 Tryz.underlying64 hi hz0 hz1 hz2 rfl (by decide) rfl (World.ownsRow.alloc HO.out _) (w6.alloc (.cells (mk 4 R9) 24)).heap.size 0 1 1 (fun c => hX (j * 4 + c)) 4 rfl (Blk.new _ _ _ _).at (by omega) (by unfold maxLen; omega) (by omega) (by have := K1.lt; simp at this ⊢; omega) ?_))
              intro v' w8 R hbl hgr hloc
              obtain ⟨g', cap', hv'⟩ := ownsRow_succ R
              have hsz := HM.out.1
              have hcs := CX.1
              have HFR2 : Hid (g' ≤ b0 ∨ w3.heap.size ≤ g') := by
                rcases hloc with q | q
                · rw [hv'] at q; simp [Value.ownBlock] at q; rw [q]; exact HFR.out
                · rw [hv'] at q; simp [Value.ownBlock] at q; simp at hsz; right; omega
              have HNE2 : Hid (g' ≠ gx) := by
                rcases hloc with q | q
                · rw [hv'] at q; simp [Value.ownBlock] at q; rw [q]; exact HNE.out
                · rw [hv'] at q; simp [Value.ownBlock] at q; simp at hcs; show g' ≠ gx; omega
              have HVv : Hid (v' = .slice (some ⟨g', 0, none⟩) (afL r A X (j + 1)).length cap') := by show _ = _; rw [Z.out, List.length_append]; exact hv'
              have HR : Hid (OwnsL 24 4 w8 (w.heap.size + 1) v' (afL r A X (j + 1))) := by
                rw [snoc_walk (m := 4) _ (fun c => hX (j * 4 + c)), HCX.out] at R
                show OwnsL _ _ _ _ _ _
                rw [Z.out]
                unfold OwnsL
                rw [List.length_append]
                exact R
              have CX := (CX.alloc (.cells (mk 4 fun c => hX (j * 4 + c)) 24)).grown hgr (by simp only [Value.ownBlock]; intro e; cases e; exact HNE.out rfl)
              have HM : Hid (Mid b0 w3 w8) := (HM.out.alloc (.cells (mk 4 fun c => hX (j * 4 + c)) 24)).grown hgr HFR.out
              have K1 := (K1.alloc (.cells (mk 4 fun c => hX (j * 4 + c)) 24)).below hbl (by omega)
              have HB : Hid (Below w.heap.size w w8) := (HB.out.alloc HB.out.size _).trans (hbl.mono (by omega))
              clear hbl hgr R hv' HO hloc hsz hcs
              go_wp2_with fail
              go_roundg gj2
              case rel => exact ⟨j + 1, _, by omega, by go_num, rfl, ⟨g', cap', HVv.out, HFR2.out, HNE2.out⟩, HR, CX, HM, K1, HB⟩
              case measure => omega
            | false =>
              have Z := Lib.hid (HYF.out hs)
              rw [hs] at iE
              clear hs HYT HYF
              go_wp2_with (first | ((with_reducible show wpList _ _ _ (Oper.mk _ (Op.load 24 _) _ _ _ _ :: _) _ _); refine loadR (K9) rfl rfl rfl ?_) | ((with_reducible show wpList _ _ _ (Oper.mk _ (Op.load 24 _) _ _ _ _ :: _) _ _); refine loadR (K1) rfl rfl rfl ?_) | ((with_reducible show wpList _ _ _ (Oper.mk _ (Op.load 24 _) _ _ _ _ :: _) _ _); refine loadR (K8) rfl rfl rfl ?_))
              go_roundg gj2
              case rel => exact ⟨j + 1, _, by omega, by go_num, rfl, ⟨gg, cap1, by rw [Z.out], HFR.out, HNE.out⟩, by rw [Z.out]; exact HO, CX, HM, K1, HB⟩
              case measure => omega
  · rw [rbR_no hV, rwO_no hV]
    have hO := rwO_no hV
    go_enter Tryz.func60, Tryz.ntmps60
    go_wp2_with ((with_reducible show wpList _ _ _ (Oper.mk _ (Op.load 24 _) _ _ _ _ :: _) _ _); refine loadR (K1) rfl rfl rfl ?_)
    refine (HIR.out _).mono ?_
    rw [hO]
    clear hO HIR hV
    rintro e w1 ⟨rfl, hb⟩
    have HB : Hid (Below w.heap.size w w1) := HB.out.trans (hb.mono HB.out.size)
    have HO : Hid (OwnsL 24 4 (w1.alloc (.cells #[] 24)) w.heap.size (.slice (some ⟨w1.heap.size, 0, none⟩) 0 0) []) := OwnsL.made w1 HB.out.size
    have HB : Hid (Below w.heap.size w (w1.alloc (.cells #[] 24))) := HB.out.alloc HB.out.size _
    clear hb
    go_wp2_with fail
    go_ret2
    exact ⟨_, _, rfl, HO.out, HB.out⟩
end Go.Proofs.YtmcmpedmgibmkabGreat
