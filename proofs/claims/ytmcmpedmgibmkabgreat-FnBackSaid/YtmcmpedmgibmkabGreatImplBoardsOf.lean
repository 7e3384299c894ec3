/-
  The contract of the program's boardsOf: all boards that have in each row one of the rows given for it.
-/
import Derived.Test.YtmcmpedmgibmkabGreatSpecMerge
import Derived.Test.YtmcmpedmgibmkabGreatImplWays
import Derived.Test.YtmcmpedmgibmkabGreatPreList
namespace Go.Proofs.YtmcmpedmgibmkabGreat
open Go.RowKit Plain
attribute [local go_sem] store_new
set_option linter.unusedVariables false
set_option linter.unusedSimpArgs false

theorem grown_rowB {w : World} {b n : Nat} {f : Nat → Int} {t : TypeId} (k : Blk w b n f t) (cs : Array Value) : w.grownBy (w.setRow b cs) (some b) := by
  refine ⟨rfl, rfl, rfl, ?_, fun j hj hne => ?_⟩
  · simp [World.setRow]
  · exact setRow_other w b j cs (fun e => hne (by rw [e]))
theorem own_of_blk1 {w : World} {b m : Nat} {f : Nat → Int} {t : TypeId} (base : Nat) (h : Blk w b m f t) (hb : base ≤ b) (hm : 0 < m) : w.ownsRow base t m (.slice (some ⟨b, 0, none⟩) 1 1) 1 (mk m f).toList :=
  ⟨by rw [mk_len]; omega, .inr ⟨b, 1, mk m f, rfl, hb, h, Nat.le_refl _, by decide, by rw [mk_size]; omega, by rw [List.take_of_length_le (by rw [mk_len]; omega)]⟩⟩
theorem OwnsL.one {t : TypeId} {m b : Nat} (w : World) (f : Nat → Int) (hb : b ≤ w.heap.size) (hm : 0 < m) : OwnsL t m (w.alloc (.cells (mk m f) t)) b (.slice (some ⟨w.heap.size, 0, none⟩) 1 1) [cl m f] := by
  unfold OwnsL
  rw [List.flatten_singleton, mk_cl]
  exact own_of_blk1 b (Blk.new w m f t) hb hm
theorem LinesT.rowOther {w : World} {top n : Nat} {f : Nat → Int} {d : Nat} {v : Nat → Value} (h : LinesT w top f d n v) (c : Nat) (cs : Array Value) (hc : top ≤ c) : LinesT (w.setRow c cs) top f d n v := fun i hi => by
  obtain ⟨g, k, h1, h2, h3⟩ := h i hi; exact ⟨g, k, h1, h2, h3.rowOther c cs (by omega)⟩
theorem OwnsL.rowOther {t u : TypeId} {m b c n : Nat} {f : Nat → Int} {w : World} {v : Value} {L : List (List Int)} (h : OwnsL t m w b v L) (k : Blk w c n f u) (cs : Array Value) (hne : v.ownBlock ≠ some c) : OwnsL t m (w.setRow c cs) b v L :=
  World.ownsRow.kept h (grown_rowB k cs) (Or.inr hne)
theorem gV_put {B X row : Nat → Int} {i : Nat} (h : ∀ j, j < 16 → j / 4 ≠ i → B j = X j) : cl 16 (patch B (i * 4) 4 row) = cl 16 (putV i X row) := cl_inj.2 fun j hj => by
  unfold patch putV
  by_cases q : i * 4 ≤ j ∧ j < i * 4 + 4
  · rw [if_pos q, if_pos (by omega), show j - i * 4 = j % 4 by omega]
  · rw [if_neg q, if_neg (by omega)]; exact h j hj (by omega)

set_option maxHeartbeats 4000000 in
set_option maxRecDepth 20000 in
theorem boardsOf_any (f : Nat → Int) (d : Nat) (v : Nat → Value) (w : World) (hl : LinesT w w.heap.size f d 4 v) :
    Calls Tryz.prog 30 #[.agg (vk 4 v)] w fun e w' => ∃ g cap, e = .returned (.slice (some ⟨g, 0, none⟩) (spV f d 4).length cap) ∧
      OwnsL 27 16 w' w.heap.size (.slice (some ⟨g, 0, none⟩) (spV f d 4).length cap) (spV f d 4) ∧ Below w.heap.size w w' := by
  obtain ⟨i0, hi, hz0, hz1, hz2⟩ := info_parts infoB
  have z16 := zero16
  have z4 := zero4
  have K0 := (Oth.new w (vk 4 v) 65).alloc (.cells (mk 16 fun _ => 0) 27)
  have HB := Lib.hid (((Below.refl w.heap.size w).alloc (Nat.le_refl _) (.cells (vk 4 v) 65)).alloc (by simp) (.cells (mk 16 fun _ => 0) 27))
  have HL := Lib.hid ((hl.alloc (.cells (vk 4 v) 65)).alloc (.cells (mk 16 fun _ => 0) 27))
  have HO : Hid (OwnsL 27 16 ((w.alloc (.cells (vk 4 v) 65)).alloc (.cells (mk 16 fun _ => 0) 27)) (w.heap.size + 1) (.slice (some ⟨w.heap.size + 1, 0, none⟩) 1 1) (spV f d 0)) := by
    have := OwnsL.one (t := 27) (m := 16) (b := w.heap.size + 1) (w.alloc (.cells (vk 4 v) 65)) (fun _ => 0) (by simp) (by omega)
    simp only [World.size_alloc] at this
    exact this
  have HSL := Lib.hid (fun i => spV_len f d i)
  have HCB := Lib.hid (fun i (hi : i ≤ 4) => cntP_bd f d hi)
  clear hl
  go_enter Tryz.func30, Tryz.ntmps30
  go_wp2_with (first | ((with_reducible show wpList _ _ _ (Oper.mk _ (Op.buildSlice _ 1 _) _ _ _ _ :: _) _ _); refine wpl_buildB _ rfl rfl (f := fun _ => 0) rfl ?_) | ((with_reducible show wpList _ _ _ (Oper.mk _ (Op.load 65 _) _ _ _ _ :: _) _ _); refine wpl_load_vk rfl _ _ rfl rfl K0 Tryz.underlying65 rfl sizeLL ?_))
  clear K0
  generalize (w.alloc (.cells (vk 4 v) 65)).alloc (.cells (mk 16 fun _ => 0) 27) = w1 at *
  go_loopg [3, 14] 4 (fun gk s3 s14 wr => ∃ (i : Nat) (u : Value), i + gk = 4 ∧ s14 = .int .i64 i ∧ u = s3 ∧ (∃ gg cap, u = .slice (some ⟨gg, 0, none⟩) (spV f d i).length cap) ∧ Hid (OwnsL 27 16 wr (w.heap.size + 1) u (spV f d i)) ∧ Hid (LinesT wr w.heap.size f d 4 v) ∧ w.heap.size < wr.heap.size ∧ Hid (Below w.heap.size w wr))
  case atStart => exact ⟨0, _, by omega, rfl, rfl, ⟨_, _, rfl⟩, HO, HL, by have : w.heap.size + 1 < w1.heap.size := (HO.out.lt _ rfl).2; omega, HB⟩
  case round =>
    clear HO HL HB
    obtain ⟨i, u, hig, rfl, rfl, ⟨gs, cs, hu⟩, HO, HL, hlt, HB⟩ := hrel
    subst hu
    cases gk with
    | zero =>
      have hi4 : ¬ ((i : Int) < 4) := by omega
      obtain rfl : i = 4 := by omega
      go_wp2_with fail
      go_ret
      exact ⟨gs, cs, rfl, HO.out.wide (by omega), HB.out⟩
    | succ q1 =>
      have hi4 : (i : Int) < 4 := by omega
      have hi0 : (0 : Int) ≤ (i : Int) := by omega
      have hi9 : i < 4 := by omega
      obtain ⟨gl, cl0, hv, hgl, hcx⟩ := HL.out i hi9
      have iL := fun W => idxLists v i hi9 W
      rw [hv] at iL
      have hsz := HB.out.size
      have hgs : gs < wr.heap.size := (HO.out.lt gs rfl).2
      obtain ⟨_, _, e1, _, hcs⟩ := KRow.of_list (spV_all f d i) HO.out
      cases e1
      have H6 : Hid (OwnsL 27 16 (wr.alloc (.cells #[] 27)) wr.heap.size (.slice (some ⟨wr.heap.size, 0, none⟩) 0 0) []) := OwnsL.made wr (Nat.le_refl _)
      have CS := hcs.alloc (.cells #[] 27)
      have HL : Hid (LinesT (wr.alloc (.cells #[] 27)) w.heap.size f d 4 v) := HL.out.alloc _
      have HB : Hid (Below w.heap.size w (wr.alloc (.cells #[] 27))) := HB.out.alloc HB.out.size _
      have HNX : Hid ((spV f d i).length ≤ 50625) := by show _ ≤ _; rw [HSL.out i]; exact HCB.out i (by omega)
      have HGA : Hid (gP (gV i) (spV f d i) (lnR f d i) (spV f d i).length = spV f d (i + 1)) := gP_all _ _ _
      have HXA : Hid (∀ n, n < (spV f d i).length → ∃ x, (spV f d i)[n]? = some x ∧ ∀ c, c < 16 → flatF (spV f d i) (n * 16 + c) = fn x c) := fun n hn => ⟨_, List.getElem?_eq_getElem hn, fun c hc => flatF_at (spV_all f d i) (List.getElem?_eq_getElem hn) hc⟩
      have HRA : Hid (∀ k, k < (lnR f d i).length → ∃ r, (lnR f d i)[k]? = some r ∧ ∀ c, c < 4 → flatF (lnR f d i) (k * 4 + c) = fn r c) := fun k hk => ⟨_, List.getElem?_eq_getElem hk, fun c hc => flatF_at (lnR_all f d i) (List.getElem?_eq_getElem hk) hc⟩
      have hn15 := lnR_15 f d i
      have hs1 : w.heap.size < wr.heap.size := hlt
      have HZ : Hid (∀ n, (gP (gV i) (spV f d i) (lnR f d i) n).length ≤ n * (lnR f d i).length) := gP_len _ _ _
      have HVI := Lib.hid hv
      clear hv hcs hcx HO
      go_wp2_with fail
      clear iL
      generalize hB6 : wr.heap.size = b6 at *
      have HHS : Hid (b6 < (wr.alloc (.cells #[] 27)).heap.size) := by show _ < _; simp [hB6]
      generalize wr.alloc (.cells #[] 27) = w2 at *
      clear hB6
      generalize hX : spV f d i = X at *
      generalize hNX : X.length = nX at *
      generalize hHS : flatF X = hS at *
      generalize hR : lnR f d i = R at *
      have HNR := Lib.hid (congrArg List.length hR)
      clear hX hHS
      go_loopg [6, 21] nX (fun gn s6 s21 wx => ∃ (n : Nat) (u : Value), n + gn = nX ∧ s21 = .int .i64 n ∧ u = s6 ∧ (∃ gg cap, u = .slice (some ⟨gg, 0, none⟩) (gP (gV i) X R n).length cap) ∧ Hid (OwnsL 27 16 wx b6 u (gP (gV i) X R n)) ∧ CAt wx gs (nX * 16) hS ∧ Hid (LinesT wx w.heap.size f d 4 v) ∧ b6 < wx.heap.size ∧ Hid (Below w.heap.size w wx))
      case atStart => exact ⟨0, _, by omega, rfl, rfl, ⟨_, _, rfl⟩, H6, CS, HL, HHS.out, HB⟩
      case round =>
        clear H6 CS HL HB
        obtain ⟨n, u, hng, rfl, rfl, ⟨gg, cap, hu⟩, HO, CS, HL, hb6, HB⟩ := hrel
        subst hu
        cases gk with
        | zero =>
          have hn : ¬ ((n : Int) < (nX : Int)) := by omega
          obtain rfl : n = nX := by omega
          have HG2 := HGA.out
          go_wp2_with fail
          go_roundg q1
          case rel => exact ⟨i + 1, _, by omega, by go_num, rfl, ⟨gg, cap, by rw [← HGA.out]⟩, by rw [← HGA.out]; exact HO.out.wide (by omega), HL, by omega, HB⟩
          case measure => omega
        | succ q2 =>
          have hn : (n : Int) < (nX : Int) := by omega
          have hn0 : (0 : Int) ≤ (n : Int) := by omega
          obtain ⟨x, hx, hxc⟩ := HXA.out n (by omega)
          have HGQ := Lib.hid (gQ_all (g := gV i) (R := R) hx)
          have HXC := Lib.hid hxc
          have hgp : (gP (gV i) X R n).length ≤ 759375 := by
            have h1 := HZ.out n
            have h2 : n * R.length ≤ 50625 * 15 := Nat.mul_le_mul (by have := HNX.out; omega) hn15
            omega
          have hgg : gg < wr.heap.size := (HO.out.lt gg rfl).2
          have hsz2 := HB.out.size
          have K8 := Blk.new wr 16 (fun c => hS (n * 16 + c)) 27
          have HO : Hid (OwnsL 27 16 (wr.alloc (.cells (mk 16 fun c => hS (n * 16 + c)) 27)) b6 (.slice (some ⟨gg, 0, none⟩) (gP (gV i) X R n).length cap) (gP (gV i) X R n)) := HO.out.alloc _
          have CS2 := CS.alloc (.cells (mk 16 fun c => hS (n * 16 + c)) 27)
          have HL : Hid (LinesT (wr.alloc (.cells (mk 16 fun c => hS (n * 16 + c)) 27)) w.heap.size f d 4 v) := HL.out.alloc _
          have HB : Hid (Below w.heap.size w (wr.alloc (.cells (mk 16 fun c => hS (n * 16 + c)) 27))) := HB.out.alloc HB.out.size _
          go_wp2_with ((with_reducible show wpList _ _ _ (Oper.mk _ (Op.load 27 _) _ _ _ _ :: _) _ _); refine loadAB (CS) (by omega) rfl rfl rfl ?_)
          clear CS
          have hb68 : b6 < wr.heap.size := hb6
          generalize hW3 : wr.alloc (.cells (mk 16 fun c => hS (n * 16 + c)) 27) = w3 at *
          generalize wr.heap.size = b8 at *
          clear hW3
          generalize hA : gP (gV i) X R n = A at *
          have HQ0 : Hid (gQ (gV i) A x R 0 = A) := gQ_zero _ _ _ _
          clear hA
          have HQL : Hid (∀ k, k ≤ R.length → (gQ (gV i) A x R k).length ≤ A.length + 15) := fun k hk => by have := gQ_len (gV i) A x R k; omega
          go_loopg [6, 27] R.length (fun gj s6 s27 wy => ∃ (k : Nat) (u : Value) (B : Nat → Int), k + gj = R.length ∧ s27 = .int .i64 k ∧ u = s6 ∧ (∃ gg cap, u = .slice (some ⟨gg, 0, none⟩) (gQ (gV i) A x R k).length cap ∧ gg ≠ b8) ∧ Hid (OwnsL 27 16 wy b6 u (gQ (gV i) A x R k)) ∧ Blk wy b8 16 B 27 ∧ Hid (∀ j, j < 16 → j / 4 ≠ i → B j = fn x j) ∧ CAt wy gs (nX * 16) hS ∧ Hid (LinesT wy w.heap.size f d 4 v) ∧ Hid (Below w.heap.size w wy))
          case atStart => exact ⟨0, _, _, by omega, rfl, rfl, ⟨gg, cap, by rw [HQ0.out], by omega⟩, by rw [HQ0.out]; exact HO, K8, fun j hj _ => HXC.out j hj, CS2, HL, HB⟩
          case round =>
            clear HO K8 CS2 HL HB hgg
            obtain ⟨k, u, B, hkg, rfl, rfl, ⟨gg, cap, hu, hne⟩, HO, K8, HBX, CS, HL, HB⟩ := hrel
            subst hu
            cases gk with
            | zero =>
              have hk : ¬ ((k : Int) < (R.length : Int)) := by omega
              obtain rfl : k = R.length := by omega
              have h8 := K8.lt
              have hnx := HNX.out
              go_wp2_with fail
              go_roundg q2
              case rel => exact ⟨n + 1, _, by omega, by go_num, rfl, ⟨gg, cap, by rw [← HGQ.out]⟩, by rw [← HGQ.out]; exact HO, CS, HL, by omega, HB⟩
              case measure => omega
            | succ q3 =>
              have hk : (k : Int) < (R.length : Int) := by omega
              have hk0 : (0 : Int) ≤ (k : Int) := by omega
              obtain ⟨r, hr, hrc⟩ := HRA.out k (by omega)
              have HGS := Lib.hid (gQ_step (g := gV i) (A := A) (x := x) hr)
              have HPV : Hid (∀ row : Nat → Int, (∀ c, c < 4 → row c = fn r c) → cl 16 (patch B (i * 4) 4 row) = gV i x r) := fun row hrow => by
                rw [gV_put (X := fn x) HBX.out]
                exact cl_inj.2 fun j hj => by
                  unfold putV
                  by_cases q : j / 4 = i
                  · rw [if_pos q, if_pos q]; exact hrow _ (by omega)
                  · rw [if_neg q, if_neg q]
              have HPB : Hid (∀ row : Nat → Int, ∀ j, j < 16 → j / 4 ≠ i → patch B (i * 4) 4 row j = fn x j) := fun row j hj hne => by
                unfold patch; rw [if_neg (by omega)]; exact HBX.out j hj hne
              obtain ⟨gl2, cl2, hv2, hgl2, hcx2⟩ := HL.out i hi9
              rw [hR] at hv2 hcx2
              rw [HVI.out] at hv2
              cases hv2
              have hszw := HB.out.size
              have h8 := K8.lt
              have HPVr := Lib.hid (HPV.out (fun c => flatF R (k * 4 + c)) hrc)
              have HPBr := Lib.hid (HPB.out (fun c => flatF R (k * 4 + c)))
              have hql := HQL.out k (by omega)
              clear HPV HPB hrc
              generalize hRW : (fun c => flatF R (k * 4 + c)) = row at *
              have hla : ∀ {ops : Array Oper} {rest : List Oper} {o : Oper} {a : Act} {W : World} {Q : Exit → Act → World → Prop} {x : Operand}, CAt W gl (R.length * 4) (flatF R) → o.guard = none → o.op = .load 24 x → a.eval x = .pointer (some ⟨gl, k * 4, none⟩) →
                  wpList Tryz.prog ops Q rest (a.put o.dst (.agg (mk 4 row))) W → wpList Tryz.prog ops Q (o :: rest) a W := fun hg hgd ho hx hh => loadAR hg (by omega) hgd ho hx (by rw [hRW]; exact hh)
              have K10 := Blk.new wr 4 row 24
              have K8a := K8.alloc (.cells (mk 4 row) 24)
              have HOa : Hid (OwnsL 27 16 (wr.alloc (.cells (mk 4 row) 24)) b6 (.slice (some ⟨gg, 0, none⟩) (gQ (gV i) A x R k).length cap) (gQ (gV i) A x R k)) := HO.out.alloc _
              have CSa := CS.alloc (.cells (mk 4 row) 24)
              have HLa : Hid (LinesT (wr.alloc (.cells (mk 4 row) 24)) w.heap.size f d 4 v) := HL.out.alloc _
              have HBa : Hid (Below w.heap.size w (wr.alloc (.cells (mk 4 row) 24))) := HB.out.alloc HB.out.size _
              have hgg := (HO.out.lt gg rfl).2
              have hgsl := CS.1
              have HX8 : Hid (b8 < (wr.alloc (.cells (mk 4 row) 24)).heap.size) := K8a.lt
              clear HO CS HL HB
              have K8b := K8a.row 16 (patch B (i * 4) 4 row)
              have HOb : Hid (OwnsL 27 16 ((wr.alloc (.cells (mk 4 row) 24)).setRow b8 (mk 16 (patch B (i * 4) 4 row))) b6 (.slice (some ⟨gg, 0, none⟩) (gQ (gV i) A x R k).length cap) (gQ (gV i) A x R k)) := HOa.out.rowOther K8a _ (by simp only [Value.ownBlock]; intro e; cases e; exact hne rfl)
              have CSb := CSa.rowOther b8 (mk 16 (patch B (i * 4) 4 row)) (by omega)
              have HLb : Hid (LinesT ((wr.alloc (.cells (mk 4 row) 24)).setRow b8 (mk 16 (patch B (i * 4) 4 row))) w.heap.size f d 4 v) := HLa.out.rowOther b8 _ (by omega)
              have HBb : Hid (Below w.heap.size w ((wr.alloc (.cells (mk 4 row) 24)).setRow b8 (mk 16 (patch B (i * 4) 4 row)))) := below_setRow HBa.out (by omega) _
              have K8c := K8b.alloc (.cells (mk 16 (patch B (i * 4) 4 row)) 27)
              have CSc := CSb.alloc (.cells (mk 16 (patch B (i * 4) 4 row)) 27)
              have HOc : Hid (OwnsL 27 16 (((wr.alloc (.cells (mk 4 row) 24)).setRow b8 (mk 16 (patch B (i * 4) 4 row))).alloc (.cells (mk 16 (patch B (i * 4) 4 row)) 27)) b6 (.slice (some ⟨gg, 0, none⟩) (gQ (gV i) A x R k).length cap) (gQ (gV i) A x R k)) := HOb.out.alloc _
              have HLc : Hid (LinesT (((wr.alloc (.cells (mk 4 row) 24)).setRow b8 (mk 16 (patch B (i * 4) 4 row))).alloc (.cells (mk 16 (patch B (i * 4) 4 row)) 27)) w.heap.size f d 4 v) := HLb.out.alloc _
              have HBc : Hid (Below w.heap.size w (((wr.alloc (.cells (mk 4 row) 24)).setRow b8 (mk 16 (patch B (i * 4) 4 row))).alloc (.cells (mk 16 (patch B (i * 4) 4 row)) 27))) := HBb.out.alloc HBb.out.size _
              have hb6c : b6 ≤ (((wr.alloc (.cells (mk 4 row) 24)).setRow b8 (mk 16 (patch B (i * 4) 4 row))).alloc (.cells (mk 16 (patch B (i * 4) 4 row)) 27)).heap.size := by simp [World.setRow]; omega
              go_wp2_with (first | ((with_reducible show wpList _ _ _ (Oper.mk _ (Op.load 24 _) _ _ _ _ :: _) _ _); refine hla hcx2 rfl rfl rfl ?_) | ((with_reducible show wpList _ _ _ (Oper.mk _ (Op.load 24 _) _ _ _ _ :: _) _ _); refine loadR (K10) rfl rfl rfl ?_) | ((with_reducible show wpList _ _ _ (Oper.mk _ (Op.store 24 _ _) _ _ _ _ :: _) _ _); refine storePR (K8a) (by omega) rfl rfl rfl rfl ?_) | ((with_reducible show wpList _ _ _ (Oper.mk _ (Op.load 27 _) _ _ _ _ :: _) _ _); refine loadB (K8b) rfl rfl rfl ?_) | ((with_reducible show wpList _ _ _ (Oper.mk _ (Op.buildSlice _ 1 _) _ _ _ _ :: _) _ _); refine wpl_buildB _ rfl rfl (f := patch B (i * 4) 4 row) rfl ?_) | (at_builtin; refine wpl_app (v := .slice (some ⟨gg, 0, none⟩) (gQ (gV i) A x R k).length cap) rfl _ _ 30 rfl b6 27 i0 _ 16 128 Tryz.underlying30 hi hz0 hz1 hz2 rfl (by decide) rfl HOc.out ((wr.alloc (.cells (mk 4 row) 24)).setRow b8 (mk 16 (patch B (i * 4) 4 row))).heap.size 0 1 1 (patch B (i * 4) 4 row) 16 rfl (Blk.new _ _ _ _).at (by omega) (by unfold maxLen; omega) (by omega) hb6c ?_))
              intro v' w8 RR hbl hgr hloc
              obtain ⟨g', cap', hv'⟩ := ownsRow_succ RR
              have HVv : Hid (v' = .slice (some ⟨g', 0, none⟩) (gQ (gV i) A x R (k + 1)).length cap') := by show _ = _; rw [HGS.out, List.length_append]; exact hv'
              have HNE : Hid (g' ≠ b8) := by
                rcases hloc with q | q
                · rw [hv'] at q; simp [Value.ownBlock] at q; show _ ≠ _; rw [q]; exact hne
                · rw [hv'] at q; simp [Value.ownBlock, World.setRow] at q; show _ ≠ _; omega
              have HR : Hid (OwnsL 27 16 w8 b6 v' (gQ (gV i) A x R (k + 1))) := by
                rw [snoc_walk (m := 16) _ (patch B (i * 4) 4 row), HPVr.out] at RR
                show OwnsL _ _ _ _ _ _
                rw [HGS.out]
                unfold OwnsL
                rw [List.length_append]
                exact RR
              have K8 := K8c.grown hgr (by simp only [Value.ownBlock]; intro e; cases e; exact hne rfl)
              have CS := CSc.low hbl (by omega)
              have HL : Hid (LinesT w8 w.heap.size f d 4 v) := fun i hi => by
                obtain ⟨g, c, q1, q2, q3⟩ := HLc.out i hi
                exact ⟨g, c, q1, q2, q3.low hbl (by omega)⟩
              have HB : Hid (Below w.heap.size w w8) := HBc.out.trans (hbl.mono (by omega))
              clear hbl hgr RR hv' hloc HOa HOb HOc CSa CSb CSc HLa HLb HLc HBa HBb HBc K8a K8b K8c
              go_wp2_with fail
              go_roundg q3
              case rel => exact ⟨k + 1, _, _, by omega, by go_num, rfl, ⟨g', cap', HVv.out, HNE.out⟩, HR, K8, HPBr.out, CS, HL, HB⟩
              case measure => omega
end Go.Proofs.YtmcmpedmgibmkabGreat
