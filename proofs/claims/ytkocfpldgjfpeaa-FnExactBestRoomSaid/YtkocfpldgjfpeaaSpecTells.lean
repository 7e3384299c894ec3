/-
  The contracts of the reference's chances of chapter 9, and of its mean of the room.
-/
import Derived.Test.YtkocfpldgjfpeaaSpecFrac
import Derived.Test.YtkocfpldgjfpeaaTripKit
import Derived.Test.YtkocfpldgjfpeaaPlaceKit
namespace Go.Proofs.Ytkocfpldgjfpeaa
open Go.RowKit Plain
attribute [local go_sem] store_new
set_option linter.unusedVariables false
set_option linter.unusedSimpArgs false
theorem bd_mem {w : World} {b g n c : Nat} {F : Nat → Nat → Int} (h : OwnsL 29 16 w b (.slice (some ⟨g, 0, none⟩) n c) (bdL F n)) : CAt w g (n * 16) (flatF (bdL F n)) := by
  have h1 : OwnsL 29 16 w b (.slice (some ⟨g, 0, none⟩) (bdL F n).length c) (bdL F n) := by rw [bdL_len]; exact h
  obtain ⟨_, _, e, _, hc⟩ := KRow.of_list (bdL_all F n) h1
  cases e
  rw [bdL_len] at hc
  exact hc
theorem int_mem {w : World} {b g n c : Nat} {U : Nat → Nat} (h : w.ownsRow b 3 1 (.slice (some ⟨g, 0, none⟩) n c) n ((List.range n).map fun i => Value.int .i64 (U i : Int))) : CAt w g n (fun i => (U i : Int)) := by
  have e : (List.range n).map (fun i => Value.int .i64 (U i : Int)) = (mk n fun i => (U i : Int)).toList := by simp [mk]
  rw [e] at h
  obtain ⟨_, _, e1, _, hl, hc⟩ := IRow.of_own h
  cases e1
  exact ⟨hl, hc⟩
theorem fill_int9_at (u : Int) (z : Value) : Instr.fill (fun i => some (i * 1, 1)) #[z] [(0, .int .i64 u)] = some (mk 1 fun _ => u) := by kernel_rfl
theorem fill_int9 (u : Int) (cs : Array Value) (hc : cs.size = 1) : Instr.fill (fun i => some (i * 1, 1)) cs [(0, .int .i64 u)] = some (mk 1 fun _ => u) := by
  obtain ⟨l⟩ := cs
  have hl : l.length = 1 := by simpa using hc
  match l, hl with
  | [a], _ => exact fill_int9_at u a
theorem wp_buildI {w : World} {o : Oper} {a : Act} {K : Act → World → Prop} {Q : Exit → Act → World → Prop} (x : Operand) (ho : o.op = .buildSlice 47 1 #[(0, x)]) {u : Int} (hx : a.eval x = .int .i64 u)
    (h : K (a.put o.dst (.slice (some ⟨w.heap.size, 0, none⟩) 1 1)) (w.alloc (.cells (mk 1 fun _ => u) 3))) : o.wp Try.prog a w K Q := by
  obtain ⟨i0, hi, hz0, hz1, hz2⟩ := info_parts infoInt
  refine Go.wp_buildSlice 47 3 1 #[(0, x)] ho (mk 1 fun _ => u) i0 _ Try.underlying47 hi hz0 (by rw [hz1]; decide) (by rw [hz1]; decide) ?_ h
  rw [hz1]
  have e : (Array.map (fun (p : Nat × Operand) => (p.1, a.eval p.2)) #[(0, x)]).toList = [(0, .int .i64 u)] := by simp [hx]
  show Instr.fill _ _ (Array.map (fun (p : Nat × Operand) => (p.1, a.eval p.2)) #[(0, x)]).toList = _
  rw [e]
  exact fill_int9 u _ (by simp)
theorem wp_app9 {P : Program} {w : World} {o : Oper} {a : Act} {K : Act → World → Prop} {Q : Exit → Act → World → Prop} (s x : Operand) (t : TypeId)
    (ho : o.op = .call { callee := .builtin .append, args := #[s, x], argTypes := #[t, t] })
    (base : Nat) (e : TypeId) (i : TypeInfo) (z : Value) (size bytes : Nat) (ht : P.underlying t = some (.slice e)) (hi : P.info? e = some i) (hz : i.zero = some z)
    (hsize : i.size = size) (hby : i.bytes = bytes) (hzs : z.cells.size = size) (hsz : 0 < size)
    {v : Value} {n : Nat} {xs : List Value} (hs : a.eval s = v) (hown : w.ownsRow base e size v n xs)
    (b off m c : Nat) (f : Nat → Int) (N : Nat) (hx : a.eval x = .slice (some ⟨b, off, none⟩) m c) (hc : CAt w b N f) (hm : off + m * size ≤ N)
    (h63 : n + m ≤ maxLen) (hbytes : (n + m) * bytes ≤ 140737488355328) (hbase : base ≤ w.heap.size)
    (h : ∀ v' w', w'.ownsRow base e size v' (n + m) (xs ++ (mk (m * size) fun j => f (off + j)).toList) → Below base w w' → w.grownBy w' v.ownBlock → (v'.ownBlock = v.ownBlock ∨ v'.ownBlock = some w.heap.size) → K (a.put o.dst v') w') : o.wp P a w K Q := by
  obtain ⟨v', w', hr, h2, h3, h4, h5⟩ := run_append_own_at (P := P) w base t o.type e i z size bytes ht hi hz hsize hby hzs hsz v n xs hown ⟨b, off, none⟩ m c (mk (m * size) fun j => f (off + j)).toList (by rw [mk_len]) (fun j u hj => by
      have := hc.range off (m * size) hm j u hj
      unfold Addr.add
      by_cases h0 : j = 0
      · subst h0; simpa using this
      · simpa [h0] using this) (fun u hu => by
      obtain ⟨i, _, rfl⟩ := mk_mem (by simpa using hu); rfl) h63 hbytes hbase
  unfold Oper.wp execOp
  simp only [ho, resolve, invoke, builtin, Sem.run_bind, Sem.run_pure, Result.andThen_ok, List.map_toArray, List.map_cons, List.map_nil, hs, hx, hr]
  exact h v' w' h2 ((Below.refl base w).grown h3 hbase fun k hk => (hown.lt k hk).1) h3 h5
theorem range_snoc (U : Nat → Nat) (k : Nat) : (List.range (k + 1)).map (fun i => Value.int .i64 (U i : Int)) = (List.range k).map (fun i => Value.int .i64 (U i : Int)) ++ (mk (1 * 1) fun j => ((U k : Nat) : Int)).toList := by
  rw [List.range_succ, List.map_append]; rfl
/-- What the steps of a move tell, and the mean of whole numbers over them. -/
theorem step_mem {f : Nat → Int} {d k : Nat} (hd : d < 4) (hm : isMv f d = true) (hk : k < (stepL f d).length) :
    doB f (fun j => flatF (stepL f d) (k * 4 + j)) = plB (slideB f d) (psF (slideB f d) k) ∧ flatF (stepL f d) (k * 4 + 3) = ((1 + k % 2 : Nat) : Int) := by
  obtain ⟨l, hl, h1, h2, _⟩ := step_pl hd hm hk
  have ha := step_all f d hd
  refine ⟨?_, ?_⟩
  · rw [← h1]; exact (do_congr fun i hi => flatF_at ha hl hi).1
  · rw [flatF_at ha hl (by omega), h2]
theorem mean_of {f : Nat → Int} {d M : Nat} {u : (Nat → Int) → Nat} (hV : Vd f) (hd : d < 4) (hm : isMv f d = true) (hM : 0 < M) (hM2 : M ≤ 1000000) (hu : ∀ g, u g ≤ M) :
    rd (suN (fun k => wtI (flatF (stepL f d) (k * 4 + 3)) * u (plB (slideB f d) (psF (slideB f d) k))) (stepL f d).length) (suN (fun k => wtI (flatF (stepL f d) (k * 4 + 3))) (stepL f d).length) = mnF (numT u) (slideB f d) := by
  have hn := mv_len hm
  have hE := mv_room hV hm
  rw [← mean_num (T := numT u) (u := fun k => u (plB (slideB f d) (psF (slideB f d) k))) (den_num hM hM2 hu) hE hn (fun k _ => rfl)]
  congr 1
  · refine suN_congr _ fun k hk => ?_
    rw [(step_mem hd hm hk).2, wt_ps]
  · refine suN_congr _ fun k hk => ?_
    rw [(step_mem hd hm hk).2, wt_ps]
set_option maxHeartbeats 1000000 in
theorem l9Scores_any (h : Nat → Int) (w : World) (hV : Vd h) : Calls Try.prog 73 #[.agg (mk 16 h)] w fun e w' => e = .returned (.bool (scoB h)) ∧ Below w.heap.size w w' := by
  have z16 := zero16
  have K1 := Blk.new w 16 h 29
  have HB := Lib.hid ((Below.refl w.heap.size w).alloc (Nat.le_refl _) (.cells (mk 16 h) 29))
  have HV := Lib.hid hV
  clear hV
  go_enter Try.func73, Try.ntmps73
  go_wp2_with fail
  go_loopg [3] 4 (fun g s3 wr => ∃ (k : Nat), k + g = 4 ∧ s3 = .int .i64 k ∧ Hid (∀ j, j < k → ¬ 0 < slideS h j 4) ∧ Blk wr w.heap.size 16 h 29 ∧ Hid (Below w.heap.size w wr))
  case atStart => exact ⟨0, by omega, rfl, fun j hj => by omega, K1, HB⟩
  case round =>
    obtain ⟨k, hkg, rfl, HN, K1, HB⟩ := hrel
    cases gk with
    | zero =>
      have hk : ¬ ((k : Int) < 4) := by omega
      obtain rfl : k = 4 := by omega
      clear hkg
      have HE : Hid (scoB h = false) := sco_none (HN.out 0 (by omega)) (HN.out 1 (by omega))
      go_wp2_with fail
      go_ret
      exact ⟨by rw [HE.out]; rfl, HB.out⟩
    | succ g =>
      have hk8 : (k : Int) < 4 := by omega
      have hk4 : (k : Int) ≤ 3 := by omega
      have hk0 : (0 : Int) ≤ (k : Int) := by omega
      go_wp2_with ((with_reducible show wpList _ _ _ (Oper.mk _ (Op.load 29 _) _ _ _ _ :: _) _ _); refine loadB (K1) rfl rfl rfl ?_)
      refine (l2Slide_nat h k _ HV.out hk0 hk4).mono ?_
      rintro e w2 ⟨rfl, hb⟩
      have K1 := (K1.below hb K1.lt).alloc (.cells (mk 16 (slideB h k)) 29)
      have HB : Hid (Below w.heap.size w w2) := HB.out.trans (hb.mono HB.out.size)
      have HB : Hid (Below w.heap.size w (w2.alloc (.cells (mk 16 (slideB h k)) 29))) := HB.out.alloc HB.out.size _
      clear hb
      by_cases hs : slideS h k 4 > 0
      · have HE : Hid (scoB h = true) := sco_any HV.out (d := k) (by omega) hs
        generalize slideS h k 4 = sc at *
        go_wp2_with fail
        go_ret
        exact ⟨by rw [HE.out]; rfl, HB.out⟩
      · have HN2 : Hid (∀ j, j < k + 1 → ¬ 0 < slideS h j 4) := fun j hj => by
          by_cases q : j = k
          · subst q; omega
          · have := HN.out j (by omega); omega
        generalize slideS h k 4 = sc at hs ⊢
        go_wp2_with fail
        go_roundg g
        case rel => exact ⟨k + 1, by omega, by go_num, HN2, K1, HB⟩
        case measure => omega
set_option maxHeartbeats 4000000 in
set_option maxRecDepth 20000 in
theorem l9MeanRoom_any (f : Nat → Int) (m : Nat) (w : World) (hV : Vd f) (hm4 : m < 4) (hm : isMv f m = true) :
    Calls Try.prog 48 #[.agg (mk 16 f), .int .i64 (m : Int)] w fun e w' => e = .returned (.agg (mk 2 (fcF (mnF (numT (uRoom)) (slideB f m))))) ∧ Below w.heap.size w w' := by
  have z2 := zero2
  have z3 := zero3
  have z16 := zero16
  have K1 := Blk.new w 16 (f) 29
  have KR := Blk.new (w.alloc (.cells (mk 16 (f)) 29)) 2 (fun _ => 0) 26
  have K1 := K1.alloc (.cells (mk 2 (fun _ => 0)) 26)
  have HB := Lib.hid (((Below.refl w.heap.size w).alloc (by simp) (.cells (mk 16 (f)) 29)).alloc (by simp) (.cells (mk 2 (fun _ => 0)) 26))
  simp only [World.size_alloc] at K1 KR HB
  obtain ⟨i0, hi, hz0, hz1, hz2⟩ := info_parts infoInt
  have hn := mv_len hm
  have hE := mv_room hV hm
  have hE2 := empN_le (slideB f m) 16
  have hn2 : (stepL f m).length ≤ 32 := by omega
  have hn0 : 0 < (stepL f m).length := by omega
  have HST := Lib.hid (fun w => l5Steps_any f m w hV hm4)
  have HMN : Hid (rd (suN (fun k => wtI (flatF (stepL f m) (k * 4 + 3)) * (uRoom) (plB (slideB f m) (psF (slideB f m) k))) (stepL f m).length) (suN (fun k => wtI (flatF (stepL f m) (k * 4 + 3))) (stepL f m).length) = mnF (numT ((uRoom))) (slideB f m)) := mean_of (u := (uRoom)) (M := 1000) hV hm4 hm (by decide) (by decide) (fun g => uRoom_le g)
  have HSM := Lib.hid (fun k (hk : k < (stepL f m).length) => (step_mem (k := k) hm4 hm hk).1)
  have HPV := Lib.hid (fun k (hk : k < (stepL f m).length) => plB_vd (slideB_vd hV m) (ps_ok (S := slideB f m) (k := k) (by omega)))
  have HSA := Lib.hid (step_all f m hm4)
  obtain ⟨F, hF⟩ : ∃ F : Nat → Nat → Int, F = fun k => plB (slideB f m) (psF (slideB f m) k) := ⟨_, rfl⟩
  have HF : Hid (∀ k, k < (stepL f m).length → doB f (fun j => flatF (stepL f m) (k * 4 + j)) = F k) := by intro k hk; rw [hF]; exact HSM.out k hk
  have HVF : Hid (∀ k, k < (stepL f m).length → Vd (F k)) := by intro k hk; rw [hF]; exact HPV.out k hk
  obtain ⟨U, hU⟩ : ∃ U : Nat → Nat, U = fun k => (uRoom) (F k) := ⟨_, rfl⟩
  have HUk : Hid (∀ k, U k = (uRoom) (F k)) := fun k => by rw [hU]
  have HUle : Hid (∀ k, U k ≤ 1000) := fun k => by rw [hU]; exact (fun g => uRoom_le g) _
  have HR : Hid (rd (suN (fun k => wtI (flatF (stepL f m) (k * 4 + 3)) * U k) (stepL f m).length) (suN (fun k => wtI (flatF (stepL f m) (k * 4 + 3))) (stepL f m).length) = mnF (numT ((uRoom))) (slideB f m)) := by
    show _ = _; rw [hU, hF]; exact HMN.out
  have HV := Lib.hid hV
  have m0 : (0 : Int) ≤ (m : Int) := by omega
  have m3 : (m : Int) ≤ 3 := by omega
  clear hF hU HMN HSM HPV hV hm hn hE hE2
  go_enter Try.func48, Try.ntmps48
  go_wp2_with ((with_reducible show wpList _ _ _ (Oper.mk _ (Op.load 29 _) _ _ _ _ :: _) _ _); refine loadB (K1) rfl rfl rfl ?_)
  refine (HST.out _).mono ?_
  rintro e w2 ⟨gs, cs, rfl, hs, hb⟩
  have CS : CAt w2 gs ((stepL f m).length * 4) (flatF (stepL f m)) := by
    obtain ⟨_, _, e1, _, hc⟩ := KRow.of_list HSA.out hs
    cases e1
    exact hc
  clear hs HST HSA
  generalize hN : (stepL f m).length = n at *
  generalize hH : flatF (stepL f m) = h at *
  have hgs := CS.1
  have K1 := (K1.below hb K1.lt).alloc (.cells #[] 3)
  have KR := (KR.below hb KR.lt).alloc (.cells #[] 3)
  have HB : Hid (Below w.heap.size w w2) := HB.out.trans (hb.mono HB.out.size)
  have CS := CS.alloc (.cells #[] 3)
  have hq := HB.out.size
  have HO : Hid (World.ownsRow (w2.alloc (.cells #[] 3)) w.heap.size 3 1 (.slice (some ⟨w2.heap.size, 0, none⟩) 0 0) 0 ((List.range 0).map fun i => Value.int .i64 (U i : Int))) := World.ownsRow_made (base := w.heap.size) (e := 3) (size := 1) w2 #[] 0 hq (by decide) rfl
  have HB : Hid (Below w.heap.size w (w2.alloc (.cells #[] 3))) := HB.out.alloc HB.out.size _
  clear hb
  go_wp2_with ((with_reducible show wpList _ _ _ (Oper.mk _ (Op.load 29 _) _ _ _ _ :: _) _ _); refine loadB (K1) rfl rfl rfl ?_)
  refine (l9Boards_any f gs cs n h F _ HV.out CS hn2 HF.out).mono ?_
  rintro e w3 ⟨gb, cb, rfl, hbo, hb⟩
  have hgb : w2.heap.size + 1 ≤ gb := by have := (hbo.lt gb rfl).1; simpa using this
  have CB := bd_mem hbo
  have K1 := K1.below hb K1.lt
  have KR := KR.below hb KR.lt
  have CS := CS.below hb
  have HO : Hid (World.ownsRow w3 w.heap.size 3 1 (.slice (some ⟨w2.heap.size, 0, none⟩) 0 0) 0 ((List.range 0).map fun i => Value.int .i64 (U i : Int))) := owns_below HO.out hb
  have HB : Hid (Below w.heap.size w w3) := HB.out.trans (hb.mono HB.out.size)
  have HNB : Hid ((Value.slice (some ⟨w2.heap.size, 0, none⟩) 0 0).ownBlock ≠ some gb) := by intro e; simp only [Value.ownBlock, Option.some.injEq] at e; omega
  have HNS : Hid ((Value.slice (some ⟨w2.heap.size, 0, none⟩) 0 0).ownBlock ≠ some gs) := by intro e; simp only [Value.ownBlock, Option.some.injEq] at e; omega
  clear hb hbo hgb hgs hq
  have HAT : Hid (∀ k, k < n → mk 16 (fun j => flatF (bdL F n) (k * 16 + j)) = mk 16 (F k)) := fun k hk => by
    rw [flatF_mk (bdL_all F n) (bdL_at F hk)]
    exact mk_congr fun i hi => fn_cl _ i hi
  generalize flatF (bdL F n) = hb at *
  go_wp2_with fail
  go_loopg [6, 8] n (fun gk sN sI wr => ∃ (k : Nat) (v : Value), k + gk = n ∧ sI = .int .i64 k ∧ v = sN ∧ (∃ gg cap, v = .slice (some ⟨gg, 0, none⟩) k cap) ∧ Hid (World.ownsRow wr w.heap.size 3 1 v k ((List.range k).map fun i => Value.int .i64 (U i : Int))) ∧ Hid (v.ownBlock ≠ some gb) ∧ Hid (v.ownBlock ≠ some gs) ∧ CAt wr gb (n * 16) hb ∧ CAt wr gs (n * 4) h ∧ Blk wr w.heap.size 16 (f) 29 ∧ Blk wr (w.heap.size + 1) 2 (fun _ => 0) 26 ∧ Hid (Below w.heap.size w wr))
  case atStart => exact ⟨0, _, by omega, rfl, rfl, ⟨_, _, rfl⟩, HO, HNB, HNS, CB, CS, K1, KR, HB⟩
  case round =>
    obtain ⟨k, v, hkg, rfl, rfl, ⟨gg, cap, hv⟩, HO, HNB, HNS, CB, CS, K1, KR, HB⟩ := hrel
    subst hv
    cases gk with
    | zero =>
      have hk : ¬ ((k : Int) < (n : Int)) := by omega
      obtain rfl : k = n := by omega
      clear hkg
      have CN := int_mem HO.out
      go_wp2_with fail
      refine (l9Mean_any gs gg _ _ _ h U _ CS CN hn0 hn2 (fun k _ => Nat.le_trans (HUle.out k) (by decide))).mono ?_
      rintro e w4 ⟨rfl, hb⟩
      have KR := KR.below hb KR.lt
      have HB : Hid (Below w.heap.size w w4) := HB.out.trans (hb.mono HB.out.size)
      clear hb
      go_wp2_with ((with_reducible show wpList _ _ _ (Oper.mk _ (Op.store 26 _ _) _ _ _ _ :: _) _ _); refine storeC (KR) rfl rfl rfl rfl ?_)
      try simp only [Exit.inBlock, Exit.then]
      exact retcC (KR.row 2 _) rfl rfl rfl ⟨by rw [HR.out] <;> rfl, below_setRow HB.out (by omega) _⟩
    | succ gk2 =>
      have hk8 : (k : Int) < (n : Int) := by omega
      have hk9 : k < n := by omega
      have hk0 : (0 : Int) ≤ (k : Int) := by omega
      have HAK : Hid (mk 16 (fun j => hb (k * 16 + j)) = mk 16 (F k)) := HAT.out k hk9
      have HVK : Hid (Vd (F k)) := HVF.out k hk9
      have HU : Hid (U k = (uRoom) (F k)) := HUk.out k
      have hUle := HUle.out k
      have HM := Lib.hid (fun w => show Calls Try.prog 85 #[.agg (mk 16 fun j => hb (k * 16 + j))] w _ by rw [HAK.out]; exact l9Room_any (F k) w HVK.out (by have := pairs_bd (F k); omega))
      have HUI : Hid (pairsR (F k) + (empN (F k) 16 : Int) = ((U k : Nat) : Int)) := by show _ = _; rw [HU.out]; exact (uRoom_int (F k)).symm
      go_wp2_with ((with_reducible show wpList _ _ _ (Oper.mk _ (Op.load 29 _) _ _ _ _ :: _) _ _); refine loadAB (CB) (by omega) rfl rfl rfl ?_)
      refine (HM.out _).mono ?_
      rw [HUI.out]
      rintro e w4 ⟨rfl, hb⟩
      have K1 := (K1.below hb K1.lt)
      have KR := (KR.below hb KR.lt)
      have CB := (CB.below hb)
      have CS := (CS.below hb)
      have HO : Hid (World.ownsRow w4 w.heap.size 3 1 (.slice (some ⟨gg, 0, none⟩) k cap) k ((List.range k).map fun i => Value.int .i64 (U i : Int))) := owns_below HO.out hb
      have HB : Hid (Below w.heap.size w w4) := HB.out.trans (hb.mono HB.out.size)
      clear hb
      go_wp2_with (first | ((with_reducible show wpList _ _ _ (Oper.mk _ (Op.buildSlice _ 1 _) _ _ _ _ :: _) _ _); refine wpList_plain rfl fun _ hK9 => wp_buildI _ rfl rfl (hK9 _ _ ?_)) | (at_builtin; refine wpl_app (v := .slice (some ⟨gg, 0, none⟩) k cap) rfl _ _ 47 rfl w.heap.size 3 i0 _ 1 8 Try.underlying47 hi hz0 hz1 hz2 rfl (by decide) rfl (World.ownsRow.alloc HO.out _) w4.heap.size 0 1 1 (fun _ => ((U k : Nat) : Int)) 1 rfl (Blk.new _ _ _ _).at (by omega) (by unfold maxLen; omega) (by omega) (by have := HB.out.size; simp; omega) ?_))
      intro v' w7 R hbl hgr hloc
      obtain ⟨g', cap', hv'⟩ := ownsRow_succ R
      have HVv : Hid (∃ gg cap, v' = .slice (some ⟨gg, 0, none⟩) (k + 1) cap) := ⟨g', cap', hv'⟩
      have HO7 : Hid (World.ownsRow w7 w.heap.size 3 1 v' (k + 1) ((List.range (k + 1)).map fun i => Value.int .i64 (U i : Int))) := by
        show World.ownsRow _ _ _ _ _ _ _
        rw [range_snoc]
        exact R
      have hneB : (Value.slice (some ⟨gg, 0, none⟩) k cap).ownBlock ≠ some gb := HNB.out
      have hneS : (Value.slice (some ⟨gg, 0, none⟩) k cap).ownBlock ≠ some gs := HNS.out
      have hgbx : gb < w4.heap.size := CB.1
      have hgsx : gs < w4.heap.size := CS.1
      have HNB2 : Hid (v'.ownBlock ≠ some gb) := by
        intro e
        rcases hloc with r | r
        · rw [r] at e; exact hneB e
        · rw [r] at e; simp at e; omega
      have HNS2 : Hid (v'.ownBlock ≠ some gs) := by
        intro e
        rcases hloc with r | r
        · rw [r] at e; exact hneS e
        · rw [r] at e; simp at e; omega
      have HB7 : Hid (Below w.heap.size w w7) := (HB.out.alloc HB.out.size _).trans hbl
      have CB := (CB.alloc (.cells (mk 1 fun _ => ((U k : Nat) : Int)) 3)).grown hgr (fun e => hneB e.symm)
      have CS := (CS.alloc (.cells (mk 1 fun _ => ((U k : Nat) : Int)) 3)).grown hgr (fun e => hneS e.symm)
      have K1 := (K1.alloc (.cells (mk 1 fun _ => ((U k : Nat) : Int)) 3)).grown hgr (fun e => own_not_blk (World.ownsRow.alloc HO.out (.cells (mk 1 fun _ => ((U k : Nat) : Int)) 3)) (K1.alloc _) (by decide) e.symm)
      have KR := (KR.alloc (.cells (mk 1 fun _ => ((U k : Nat) : Int)) 3)).grown hgr (fun e => own_not_blk (World.ownsRow.alloc HO.out (.cells (mk 1 fun _ => ((U k : Nat) : Int)) 3)) (KR.alloc _) (by decide) e.symm)
      clear hbl hgr R hv' HO hloc HB hneB hneS HNB HNS
      go_wp2_with fail
      go_roundg gk2
      case rel => exact ⟨k + 1, _, by omega, by go_num, rfl, HVv.out, HO7, HNB2, HNS2, CB, CS, K1, KR, HB7⟩
      case measure => omega
set_option maxHeartbeats 4000000 in
set_option maxRecDepth 20000 in
theorem scOver_any (f : Nat → Int) (m : Nat) (w : World) (hV : Vd f) (hm4 : m < 4) (hm : isMv f m = true) :
    Calls Try.prog 17 #[.agg (mk 16 f), .int .i64 (m : Int)] w fun e w' => e = .returned (.tuple #[.agg (mk 2 (fcF (mnF (numT (uOver)) (slideB f m)))), .bool true]) ∧ Below w.heap.size w w' := by
  have z2 := zero2
  have z3 := zero3
  have z16 := zero16
  have K1 := Blk.new w 16 (f) 29
  have KR := Blk.new (w.alloc (.cells (mk 16 (f)) 29)) 2 (fun _ => 0) 26
  have K1 := K1.alloc (.cells (mk 2 (fun _ => 0)) 26)
  have HB := Lib.hid (((Below.refl w.heap.size w).alloc (by simp) (.cells (mk 16 (f)) 29)).alloc (by simp) (.cells (mk 2 (fun _ => 0)) 26))
  simp only [World.size_alloc] at K1 KR HB
  have HMO : Hid (decide (MvOk f (m : Int)) = true) := decide_eq_true ⟨⟨hV, by omega⟩, hm⟩
  obtain ⟨i0, hi, hz0, hz1, hz2⟩ := info_parts infoInt
  have hn := mv_len hm
  have hE := mv_room hV hm
  have hE2 := empN_le (slideB f m) 16
  have hn2 : (stepL f m).length ≤ 32 := by omega
  have hn0 : 0 < (stepL f m).length := by omega
  have HST := Lib.hid (fun w => l5Steps_any f m w hV hm4)
  have HMN : Hid (rd (suN (fun k => wtI (flatF (stepL f m) (k * 4 + 3)) * (uOver) (plB (slideB f m) (psF (slideB f m) k))) (stepL f m).length) (suN (fun k => wtI (flatF (stepL f m) (k * 4 + 3))) (stepL f m).length) = mnF (numT ((uOver))) (slideB f m)) := mean_of (u := (uOver)) (M := 1000) hV hm4 hm (by decide) (by decide) (fun g => Nat.le_trans (oneN_le _) (by decide))
  have HSM := Lib.hid (fun k (hk : k < (stepL f m).length) => (step_mem (k := k) hm4 hm hk).1)
  have HPV := Lib.hid (fun k (hk : k < (stepL f m).length) => plB_vd (slideB_vd hV m) (ps_ok (S := slideB f m) (k := k) (by omega)))
  have HSA := Lib.hid (step_all f m hm4)
  obtain ⟨F, hF⟩ : ∃ F : Nat → Nat → Int, F = fun k => plB (slideB f m) (psF (slideB f m) k) := ⟨_, rfl⟩
  have HF : Hid (∀ k, k < (stepL f m).length → doB f (fun j => flatF (stepL f m) (k * 4 + j)) = F k) := by intro k hk; rw [hF]; exact HSM.out k hk
  have HVF : Hid (∀ k, k < (stepL f m).length → Vd (F k)) := by intro k hk; rw [hF]; exact HPV.out k hk
  obtain ⟨U, hU⟩ : ∃ U : Nat → Nat, U = fun k => (uOver) (F k) := ⟨_, rfl⟩
  have HUk : Hid (∀ k, U k = (uOver) (F k)) := fun k => by rw [hU]
  have HUle : Hid (∀ k, U k ≤ 1000) := fun k => by rw [hU]; exact (fun g => Nat.le_trans (oneN_le _) (by decide)) _
  have HR : Hid (rd (suN (fun k => wtI (flatF (stepL f m) (k * 4 + 3)) * U k) (stepL f m).length) (suN (fun k => wtI (flatF (stepL f m) (k * 4 + 3))) (stepL f m).length) = mnF (numT ((uOver))) (slideB f m)) := by
    show _ = _; rw [hU, hF]; exact HMN.out
  have HV := Lib.hid hV
  have m0 : (0 : Int) ≤ (m : Int) := by omega
  have m3 : (m : Int) ≤ 3 := by omega
  clear hF hU HMN HSM HPV hV hm hn hE hE2
  go_enter Try.func17, Try.ntmps17
  go_wp2_with ((with_reducible show wpList _ _ _ (Oper.mk _ (Op.load 29 _) _ _ _ _ :: _) _ _); refine loadB (K1) rfl rfl rfl ?_)
  refine (l9Move_any f (m : Int) _).mono ?_
  rw [HMO.out]
  rintro e w1 ⟨rfl, hb⟩
  have K1 := (K1.below hb K1.lt)
  have KR := (KR.below hb KR.lt)
  have HB : Hid (Below w.heap.size w w1) := HB.out.trans (hb.mono HB.out.size)
  clear hb
  go_wp2_with ((with_reducible show wpList _ _ _ (Oper.mk _ (Op.load 29 _) _ _ _ _ :: _) _ _); refine loadB (K1) rfl rfl rfl ?_)
  refine (HST.out _).mono ?_
  rintro e w2 ⟨gs, cs, rfl, hs, hb⟩
  have CS : CAt w2 gs ((stepL f m).length * 4) (flatF (stepL f m)) := by
    obtain ⟨_, _, e1, _, hc⟩ := KRow.of_list HSA.out hs
    cases e1
    exact hc
  clear hs HST HSA
  generalize hN : (stepL f m).length = n at *
  generalize hH : flatF (stepL f m) = h at *
  have hgs := CS.1
  have K1 := (K1.below hb K1.lt).alloc (.cells #[] 3)
  have KR := (KR.below hb KR.lt).alloc (.cells #[] 3)
  have HB : Hid (Below w.heap.size w w2) := HB.out.trans (hb.mono HB.out.size)
  have CS := CS.alloc (.cells #[] 3)
  have hq := HB.out.size
  have HO : Hid (World.ownsRow (w2.alloc (.cells #[] 3)) w.heap.size 3 1 (.slice (some ⟨w2.heap.size, 0, none⟩) 0 0) 0 ((List.range 0).map fun i => Value.int .i64 (U i : Int))) := World.ownsRow_made (base := w.heap.size) (e := 3) (size := 1) w2 #[] 0 hq (by decide) rfl
  have HB : Hid (Below w.heap.size w (w2.alloc (.cells #[] 3))) := HB.out.alloc HB.out.size _
  clear hb
  go_wp2_with ((with_reducible show wpList _ _ _ (Oper.mk _ (Op.load 29 _) _ _ _ _ :: _) _ _); refine loadB (K1) rfl rfl rfl ?_)
  refine (l9Boards_any f gs cs n h F _ HV.out CS hn2 HF.out).mono ?_
  rintro e w3 ⟨gb, cb, rfl, hbo, hb⟩
  have hgb : w2.heap.size + 1 ≤ gb := by have := (hbo.lt gb rfl).1; simpa using this
  have CB := bd_mem hbo
  have K1 := K1.below hb K1.lt
  have KR := KR.below hb KR.lt
  have CS := CS.below hb
  have HO : Hid (World.ownsRow w3 w.heap.size 3 1 (.slice (some ⟨w2.heap.size, 0, none⟩) 0 0) 0 ((List.range 0).map fun i => Value.int .i64 (U i : Int))) := owns_below HO.out hb
  have HB : Hid (Below w.heap.size w w3) := HB.out.trans (hb.mono HB.out.size)
  have HNB : Hid ((Value.slice (some ⟨w2.heap.size, 0, none⟩) 0 0).ownBlock ≠ some gb) := by intro e; simp only [Value.ownBlock, Option.some.injEq] at e; omega
  have HNS : Hid ((Value.slice (some ⟨w2.heap.size, 0, none⟩) 0 0).ownBlock ≠ some gs) := by intro e; simp only [Value.ownBlock, Option.some.injEq] at e; omega
  clear hb hbo hgb hgs hq
  have HAT : Hid (∀ k, k < n → mk 16 (fun j => flatF (bdL F n) (k * 16 + j)) = mk 16 (F k)) := fun k hk => by
    rw [flatF_mk (bdL_all F n) (bdL_at F hk)]
    exact mk_congr fun i hi => fn_cl _ i hi
  generalize flatF (bdL F n) = hb at *
  go_wp2_with fail
  go_loopg [7, 9] n (fun gk sN sI wr => ∃ (k : Nat) (v : Value), k + gk = n ∧ sI = .int .i64 k ∧ v = sN ∧ (∃ gg cap, v = .slice (some ⟨gg, 0, none⟩) k cap) ∧ Hid (World.ownsRow wr w.heap.size 3 1 v k ((List.range k).map fun i => Value.int .i64 (U i : Int))) ∧ Hid (v.ownBlock ≠ some gb) ∧ Hid (v.ownBlock ≠ some gs) ∧ CAt wr gb (n * 16) hb ∧ CAt wr gs (n * 4) h ∧ Blk wr w.heap.size 16 (f) 29 ∧ Blk wr (w.heap.size + 1) 2 (fun _ => 0) 26 ∧ Hid (Below w.heap.size w wr))
  case atStart => exact ⟨0, _, by omega, rfl, rfl, ⟨_, _, rfl⟩, HO, HNB, HNS, CB, CS, K1, KR, HB⟩
  case round =>
    obtain ⟨k, v, hkg, rfl, rfl, ⟨gg, cap, hv⟩, HO, HNB, HNS, CB, CS, K1, KR, HB⟩ := hrel
    subst hv
    cases gk with
    | zero =>
      have hk : ¬ ((k : Int) < (n : Int)) := by omega
      obtain rfl : k = n := by omega
      clear hkg
      have CN := int_mem HO.out
      go_wp2_with fail
      refine (l9Mean_any gs gg _ _ _ h U _ CS CN hn0 hn2 (fun k _ => Nat.le_trans (HUle.out k) (by decide))).mono ?_
      rintro e w4 ⟨rfl, hb⟩
      have KR := KR.below hb KR.lt
      have HB : Hid (Below w.heap.size w w4) := HB.out.trans (hb.mono HB.out.size)
      clear hb
      go_wp2_with ((with_reducible show wpList _ _ _ (Oper.mk _ (Op.store 26 _ _) _ _ _ _ :: _) _ _); refine storeC (KR) rfl rfl rfl rfl ?_)
      try simp only [Exit.inBlock, Exit.then]
      exact retctC (KR.row 2 _) rfl rfl rfl ⟨by rw [HR.out] <;> rfl, below_setRow HB.out (by omega) _⟩
    | succ gk2 =>
      have hk8 : (k : Int) < (n : Int) := by omega
      have hk9 : k < n := by omega
      have hk0 : (0 : Int) ≤ (k : Int) := by omega
      have HAK : Hid (mk 16 (fun j => hb (k * 16 + j)) = mk 16 (F k)) := HAT.out k hk9
      have HVK : Hid (Vd (F k)) := HVF.out k hk9
      have HU : Hid (U k = (uOver) (F k)) := HUk.out k
      have hUle := HUle.out k
      have HM := Lib.hid (fun w => show Calls Try.prog 46 #[.agg (mk 16 fun j => hb (k * 16 + j))] w _ by rw [HAK.out]; exact l2Moves_any (F k) w HVK.out)
      have hO : (((movL (F k) 4).length : Int) == 0) = noMvB (F k) := by
        unfold noMvB
        rw [Bool.eq_iff_iff, beq_iff_eq, decide_eq_true_eq]; omega
      have HUI : Hid (((if noMvB (F k) = true then 1 else 0 : Nat) : Int) = ((U k : Nat) : Int)) := by show _ = _; rw [HU.out]; rfl
      generalize noMvB (F k) = O at *
      generalize (movL (F k) 4).length = L at *
      go_wp2_with ((with_reducible show wpList _ _ _ (Oper.mk _ (Op.load 29 _) _ _ _ _ :: _) _ _); refine loadAB (CB) (by omega) rfl rfl rfl ?_)
      refine (HM.out _).mono ?_
      rintro e w4 ⟨gm, cm, rfl, _, hb⟩
      have K1 := (K1.below hb K1.lt)
      have KR := (KR.below hb KR.lt)
      have CB := (CB.below hb)
      have CS := (CS.below hb)
      have HO : Hid (World.ownsRow w4 w.heap.size 3 1 (.slice (some ⟨gg, 0, none⟩) k cap) k ((List.range k).map fun i => Value.int .i64 (U i : Int))) := owns_below HO.out hb
      have HB : Hid (Below w.heap.size w w4) := HB.out.trans (hb.mono HB.out.size)
      clear hb
      go_wp2_with fail
      refine (l9One_any O _).mono ?_
      rw [HUI.out]
      rintro e w5 ⟨rfl, rfl⟩
      go_wp2_with (first | ((with_reducible show wpList _ _ _ (Oper.mk _ (Op.buildSlice _ 1 _) _ _ _ _ :: _) _ _); refine wpList_plain rfl fun _ hK9 => wp_buildI _ rfl rfl (hK9 _ _ ?_)) | (at_builtin; refine wpl_app (v := .slice (some ⟨gg, 0, none⟩) k cap) rfl _ _ 47 rfl w.heap.size 3 i0 _ 1 8 Try.underlying47 hi hz0 hz1 hz2 rfl (by decide) rfl (World.ownsRow.alloc HO.out _) w4.heap.size 0 1 1 (fun _ => ((U k : Nat) : Int)) 1 rfl (Blk.new _ _ _ _).at (by omega) (by unfold maxLen; omega) (by omega) (by have := HB.out.size; simp; omega) ?_))
      intro v' w7 R hbl hgr hloc
      obtain ⟨g', cap', hv'⟩ := ownsRow_succ R
      have HVv : Hid (∃ gg cap, v' = .slice (some ⟨gg, 0, none⟩) (k + 1) cap) := ⟨g', cap', hv'⟩
      have HO7 : Hid (World.ownsRow w7 w.heap.size 3 1 v' (k + 1) ((List.range (k + 1)).map fun i => Value.int .i64 (U i : Int))) := by
        show World.ownsRow _ _ _ _ _ _ _
        rw [range_snoc]
        exact R
      have hneB : (Value.slice (some ⟨gg, 0, none⟩) k cap).ownBlock ≠ some gb := HNB.out
      have hneS : (Value.slice (some ⟨gg, 0, none⟩) k cap).ownBlock ≠ some gs := HNS.out
      have hgbx : gb < w4.heap.size := CB.1
      have hgsx : gs < w4.heap.size := CS.1
      have HNB2 : Hid (v'.ownBlock ≠ some gb) := by
        intro e
        rcases hloc with r | r
        · rw [r] at e; exact hneB e
        · rw [r] at e; simp at e; omega
      have HNS2 : Hid (v'.ownBlock ≠ some gs) := by
        intro e
        rcases hloc with r | r
        · rw [r] at e; exact hneS e
        · rw [r] at e; simp at e; omega
      have HB7 : Hid (Below w.heap.size w w7) := (HB.out.alloc HB.out.size _).trans hbl
      have CB := (CB.alloc (.cells (mk 1 fun _ => ((U k : Nat) : Int)) 3)).grown hgr (fun e => hneB e.symm)
      have CS := (CS.alloc (.cells (mk 1 fun _ => ((U k : Nat) : Int)) 3)).grown hgr (fun e => hneS e.symm)
      have K1 := (K1.alloc (.cells (mk 1 fun _ => ((U k : Nat) : Int)) 3)).grown hgr (fun e => own_not_blk (World.ownsRow.alloc HO.out (.cells (mk 1 fun _ => ((U k : Nat) : Int)) 3)) (K1.alloc _) (by decide) e.symm)
      have KR := (KR.alloc (.cells (mk 1 fun _ => ((U k : Nat) : Int)) 3)).grown hgr (fun e => own_not_blk (World.ownsRow.alloc HO.out (.cells (mk 1 fun _ => ((U k : Nat) : Int)) 3)) (KR.alloc _) (by decide) e.symm)
      clear hbl hgr R hv' HO hloc HB hneB hneS HNB HNS
      go_wp2_with fail
      go_roundg gk2
      case rel => exact ⟨k + 1, _, by omega, by go_num, rfl, HVv.out, HO7, HNB2, HNS2, CB, CS, K1, KR, HB7⟩
      case measure => omega
set_option maxHeartbeats 4000000 in
set_option maxRecDepth 20000 in
theorem scMerge_any (f : Nat → Int) (m : Nat) (w : World) (hV : Vd f) (hm4 : m < 4) (hm : isMv f m = true) :
    Calls Try.prog 34 #[.agg (mk 16 f), .int .i64 (m : Int)] w fun e w' => e = .returned (.tuple #[.agg (mk 2 (fcF (mnF (numT (uMerge)) (slideB f m)))), .bool true]) ∧ Below w.heap.size w w' := by
  have z2 := zero2
  have z3 := zero3
  have z16 := zero16
  have K1 := Blk.new w 16 (f) 29
  have KR := Blk.new (w.alloc (.cells (mk 16 (f)) 29)) 2 (fun _ => 0) 26
  have K1 := K1.alloc (.cells (mk 2 (fun _ => 0)) 26)
  have HB := Lib.hid (((Below.refl w.heap.size w).alloc (by simp) (.cells (mk 16 (f)) 29)).alloc (by simp) (.cells (mk 2 (fun _ => 0)) 26))
  simp only [World.size_alloc] at K1 KR HB
  have HMO : Hid (decide (MvOk f (m : Int)) = true) := decide_eq_true ⟨⟨hV, by omega⟩, hm⟩
  obtain ⟨i0, hi, hz0, hz1, hz2⟩ := info_parts infoInt
  have hn := mv_len hm
  have hE := mv_room hV hm
  have hE2 := empN_le (slideB f m) 16
  have hn2 : (stepL f m).length ≤ 32 := by omega
  have hn0 : 0 < (stepL f m).length := by omega
  have HST := Lib.hid (fun w => l5Steps_any f m w hV hm4)
  have HMN : Hid (rd (suN (fun k => wtI (flatF (stepL f m) (k * 4 + 3)) * (uMerge) (plB (slideB f m) (psF (slideB f m) k))) (stepL f m).length) (suN (fun k => wtI (flatF (stepL f m) (k * 4 + 3))) (stepL f m).length) = mnF (numT ((uMerge))) (slideB f m)) := mean_of (u := (uMerge)) (M := 1000) hV hm4 hm (by decide) (by decide) (fun g => Nat.le_trans (oneN_le _) (by decide))
  have HSM := Lib.hid (fun k (hk : k < (stepL f m).length) => (step_mem (k := k) hm4 hm hk).1)
  have HPV := Lib.hid (fun k (hk : k < (stepL f m).length) => plB_vd (slideB_vd hV m) (ps_ok (S := slideB f m) (k := k) (by omega)))
  have HSA := Lib.hid (step_all f m hm4)
  obtain ⟨F, hF⟩ : ∃ F : Nat → Nat → Int, F = fun k => plB (slideB f m) (psF (slideB f m) k) := ⟨_, rfl⟩
  have HF : Hid (∀ k, k < (stepL f m).length → doB f (fun j => flatF (stepL f m) (k * 4 + j)) = F k) := by intro k hk; rw [hF]; exact HSM.out k hk
  have HVF : Hid (∀ k, k < (stepL f m).length → Vd (F k)) := by intro k hk; rw [hF]; exact HPV.out k hk
  obtain ⟨U, hU⟩ : ∃ U : Nat → Nat, U = fun k => (uMerge) (F k) := ⟨_, rfl⟩
  have HUk : Hid (∀ k, U k = (uMerge) (F k)) := fun k => by rw [hU]
  have HUle : Hid (∀ k, U k ≤ 1000) := fun k => by rw [hU]; exact (fun g => Nat.le_trans (oneN_le _) (by decide)) _
  have HR : Hid (rd (suN (fun k => wtI (flatF (stepL f m) (k * 4 + 3)) * U k) (stepL f m).length) (suN (fun k => wtI (flatF (stepL f m) (k * 4 + 3))) (stepL f m).length) = mnF (numT ((uMerge))) (slideB f m)) := by
    show _ = _; rw [hU, hF]; exact HMN.out
  have HV := Lib.hid hV
  have m0 : (0 : Int) ≤ (m : Int) := by omega
  have m3 : (m : Int) ≤ 3 := by omega
  clear hF hU HMN HSM HPV hV hm hn hE hE2
  go_enter Try.func34, Try.ntmps34
  go_wp2_with ((with_reducible show wpList _ _ _ (Oper.mk _ (Op.load 29 _) _ _ _ _ :: _) _ _); refine loadB (K1) rfl rfl rfl ?_)
  refine (l9Move_any f (m : Int) _).mono ?_
  rw [HMO.out]
  rintro e w1 ⟨rfl, hb⟩
  have K1 := (K1.below hb K1.lt)
  have KR := (KR.below hb KR.lt)
  have HB : Hid (Below w.heap.size w w1) := HB.out.trans (hb.mono HB.out.size)
  clear hb
  go_wp2_with ((with_reducible show wpList _ _ _ (Oper.mk _ (Op.load 29 _) _ _ _ _ :: _) _ _); refine loadB (K1) rfl rfl rfl ?_)
  refine (HST.out _).mono ?_
  rintro e w2 ⟨gs, cs, rfl, hs, hb⟩
  have CS : CAt w2 gs ((stepL f m).length * 4) (flatF (stepL f m)) := by
    obtain ⟨_, _, e1, _, hc⟩ := KRow.of_list HSA.out hs
    cases e1
    exact hc
  clear hs HST HSA
  generalize hN : (stepL f m).length = n at *
  generalize hH : flatF (stepL f m) = h at *
  have hgs := CS.1
  have K1 := (K1.below hb K1.lt).alloc (.cells #[] 3)
  have KR := (KR.below hb KR.lt).alloc (.cells #[] 3)
  have HB : Hid (Below w.heap.size w w2) := HB.out.trans (hb.mono HB.out.size)
  have CS := CS.alloc (.cells #[] 3)
  have hq := HB.out.size
  have HO : Hid (World.ownsRow (w2.alloc (.cells #[] 3)) w.heap.size 3 1 (.slice (some ⟨w2.heap.size, 0, none⟩) 0 0) 0 ((List.range 0).map fun i => Value.int .i64 (U i : Int))) := World.ownsRow_made (base := w.heap.size) (e := 3) (size := 1) w2 #[] 0 hq (by decide) rfl
  have HB : Hid (Below w.heap.size w (w2.alloc (.cells #[] 3))) := HB.out.alloc HB.out.size _
  clear hb
  go_wp2_with ((with_reducible show wpList _ _ _ (Oper.mk _ (Op.load 29 _) _ _ _ _ :: _) _ _); refine loadB (K1) rfl rfl rfl ?_)
  refine (l9Boards_any f gs cs n h F _ HV.out CS hn2 HF.out).mono ?_
  rintro e w3 ⟨gb, cb, rfl, hbo, hb⟩
  have hgb : w2.heap.size + 1 ≤ gb := by have := (hbo.lt gb rfl).1; simpa using this
  have CB := bd_mem hbo
  have K1 := K1.below hb K1.lt
  have KR := KR.below hb KR.lt
  have CS := CS.below hb
  have HO : Hid (World.ownsRow w3 w.heap.size 3 1 (.slice (some ⟨w2.heap.size, 0, none⟩) 0 0) 0 ((List.range 0).map fun i => Value.int .i64 (U i : Int))) := owns_below HO.out hb
  have HB : Hid (Below w.heap.size w w3) := HB.out.trans (hb.mono HB.out.size)
  have HNB : Hid ((Value.slice (some ⟨w2.heap.size, 0, none⟩) 0 0).ownBlock ≠ some gb) := by intro e; simp only [Value.ownBlock, Option.some.injEq] at e; omega
  have HNS : Hid ((Value.slice (some ⟨w2.heap.size, 0, none⟩) 0 0).ownBlock ≠ some gs) := by intro e; simp only [Value.ownBlock, Option.some.injEq] at e; omega
  clear hb hbo hgb hgs hq
  have HAT : Hid (∀ k, k < n → mk 16 (fun j => flatF (bdL F n) (k * 16 + j)) = mk 16 (F k)) := fun k hk => by
    rw [flatF_mk (bdL_all F n) (bdL_at F hk)]
    exact mk_congr fun i hi => fn_cl _ i hi
  generalize flatF (bdL F n) = hb at *
  go_wp2_with fail
  go_loopg [7, 9] n (fun gk sN sI wr => ∃ (k : Nat) (v : Value), k + gk = n ∧ sI = .int .i64 k ∧ v = sN ∧ (∃ gg cap, v = .slice (some ⟨gg, 0, none⟩) k cap) ∧ Hid (World.ownsRow wr w.heap.size 3 1 v k ((List.range k).map fun i => Value.int .i64 (U i : Int))) ∧ Hid (v.ownBlock ≠ some gb) ∧ Hid (v.ownBlock ≠ some gs) ∧ CAt wr gb (n * 16) hb ∧ CAt wr gs (n * 4) h ∧ Blk wr w.heap.size 16 (f) 29 ∧ Blk wr (w.heap.size + 1) 2 (fun _ => 0) 26 ∧ Hid (Below w.heap.size w wr))
  case atStart => exact ⟨0, _, by omega, rfl, rfl, ⟨_, _, rfl⟩, HO, HNB, HNS, CB, CS, K1, KR, HB⟩
  case round =>
    obtain ⟨k, v, hkg, rfl, rfl, ⟨gg, cap, hv⟩, HO, HNB, HNS, CB, CS, K1, KR, HB⟩ := hrel
    subst hv
    cases gk with
    | zero =>
      have hk : ¬ ((k : Int) < (n : Int)) := by omega
      obtain rfl : k = n := by omega
      clear hkg
      have CN := int_mem HO.out
      go_wp2_with fail
      refine (l9Mean_any gs gg _ _ _ h U _ CS CN hn0 hn2 (fun k _ => Nat.le_trans (HUle.out k) (by decide))).mono ?_
      rintro e w4 ⟨rfl, hb⟩
      have KR := KR.below hb KR.lt
      have HB : Hid (Below w.heap.size w w4) := HB.out.trans (hb.mono HB.out.size)
      clear hb
      go_wp2_with ((with_reducible show wpList _ _ _ (Oper.mk _ (Op.store 26 _ _) _ _ _ _ :: _) _ _); refine storeC (KR) rfl rfl rfl rfl ?_)
      try simp only [Exit.inBlock, Exit.then]
      exact retctC (KR.row 2 _) rfl rfl rfl ⟨by rw [HR.out] <;> rfl, below_setRow HB.out (by omega) _⟩
    | succ gk2 =>
      have hk8 : (k : Int) < (n : Int) := by omega
      have hk9 : k < n := by omega
      have hk0 : (0 : Int) ≤ (k : Int) := by omega
      have HAK : Hid (mk 16 (fun j => hb (k * 16 + j)) = mk 16 (F k)) := HAT.out k hk9
      have HVK : Hid (Vd (F k)) := HVF.out k hk9
      have HU : Hid (U k = (uMerge) (F k)) := HUk.out k
      have hUle := HUle.out k
      have HM := Lib.hid (fun w => show Calls Try.prog 73 #[.agg (mk 16 fun j => hb (k * 16 + j))] w _ by rw [HAK.out]; exact l9Scores_any (F k) w HVK.out)
      have HUI : Hid (((if scoB (F k) = true then 1 else 0 : Nat) : Int) = ((U k : Nat) : Int)) := by show _ = _; rw [HU.out]; rfl
      generalize scoB (F k) = O at *
      go_wp2_with ((with_reducible show wpList _ _ _ (Oper.mk _ (Op.load 29 _) _ _ _ _ :: _) _ _); refine loadAB (CB) (by omega) rfl rfl rfl ?_)
      refine (HM.out _).mono ?_
      rintro e w4 ⟨rfl, hb⟩
      have K1 := (K1.below hb K1.lt)
      have KR := (KR.below hb KR.lt)
      have CB := (CB.below hb)
      have CS := (CS.below hb)
      have HO : Hid (World.ownsRow w4 w.heap.size 3 1 (.slice (some ⟨gg, 0, none⟩) k cap) k ((List.range k).map fun i => Value.int .i64 (U i : Int))) := owns_below HO.out hb
      have HB : Hid (Below w.heap.size w w4) := HB.out.trans (hb.mono HB.out.size)
      clear hb
      go_wp2_with fail
      refine (l9One_any O _).mono ?_
      rw [HUI.out]
      rintro e w5 ⟨rfl, rfl⟩
      go_wp2_with (first | ((with_reducible show wpList _ _ _ (Oper.mk _ (Op.buildSlice _ 1 _) _ _ _ _ :: _) _ _); refine wpList_plain rfl fun _ hK9 => wp_buildI _ rfl rfl (hK9 _ _ ?_)) | (at_builtin; refine wpl_app (v := .slice (some ⟨gg, 0, none⟩) k cap) rfl _ _ 47 rfl w.heap.size 3 i0 _ 1 8 Try.underlying47 hi hz0 hz1 hz2 rfl (by decide) rfl (World.ownsRow.alloc HO.out _) w4.heap.size 0 1 1 (fun _ => ((U k : Nat) : Int)) 1 rfl (Blk.new _ _ _ _).at (by omega) (by unfold maxLen; omega) (by omega) (by have := HB.out.size; simp; omega) ?_))
      intro v' w7 R hbl hgr hloc
      obtain ⟨g', cap', hv'⟩ := ownsRow_succ R
      have HVv : Hid (∃ gg cap, v' = .slice (some ⟨gg, 0, none⟩) (k + 1) cap) := ⟨g', cap', hv'⟩
      have HO7 : Hid (World.ownsRow w7 w.heap.size 3 1 v' (k + 1) ((List.range (k + 1)).map fun i => Value.int .i64 (U i : Int))) := by
        show World.ownsRow _ _ _ _ _ _ _
        rw [range_snoc]
        exact R
      have hneB : (Value.slice (some ⟨gg, 0, none⟩) k cap).ownBlock ≠ some gb := HNB.out
      have hneS : (Value.slice (some ⟨gg, 0, none⟩) k cap).ownBlock ≠ some gs := HNS.out
      have hgbx : gb < w4.heap.size := CB.1
      have hgsx : gs < w4.heap.size := CS.1
      have HNB2 : Hid (v'.ownBlock ≠ some gb) := by
        intro e
        rcases hloc with r | r
        · rw [r] at e; exact hneB e
        · rw [r] at e; simp at e; omega
      have HNS2 : Hid (v'.ownBlock ≠ some gs) := by
        intro e
        rcases hloc with r | r
        · rw [r] at e; exact hneS e
        · rw [r] at e; simp at e; omega
      have HB7 : Hid (Below w.heap.size w w7) := (HB.out.alloc HB.out.size _).trans hbl
      have CB := (CB.alloc (.cells (mk 1 fun _ => ((U k : Nat) : Int)) 3)).grown hgr (fun e => hneB e.symm)
      have CS := (CS.alloc (.cells (mk 1 fun _ => ((U k : Nat) : Int)) 3)).grown hgr (fun e => hneS e.symm)
      have K1 := (K1.alloc (.cells (mk 1 fun _ => ((U k : Nat) : Int)) 3)).grown hgr (fun e => own_not_blk (World.ownsRow.alloc HO.out (.cells (mk 1 fun _ => ((U k : Nat) : Int)) 3)) (K1.alloc _) (by decide) e.symm)
      have KR := (KR.alloc (.cells (mk 1 fun _ => ((U k : Nat) : Int)) 3)).grown hgr (fun e => own_not_blk (World.ownsRow.alloc HO.out (.cells (mk 1 fun _ => ((U k : Nat) : Int)) 3)) (KR.alloc _) (by decide) e.symm)
      clear hbl hgr R hv' HO hloc HB hneB hneS HNB HNS
      go_wp2_with fail
      go_roundg gk2
      case rel => exact ⟨k + 1, _, by omega, by go_num, rfl, HVv.out, HO7, HNB2, HNS2, CB, CS, K1, KR, HB7⟩
      case measure => omega
theorem execAB9 {o : Oper} {ev : Operand → Value} {w : World} {b n off : Nat} {f : Nat → Int} {x : Operand} (hg : CAt w b n f) (hm : off + 16 ≤ n) (ho : o.op = .load 29 x) (hx : ev x = .pointer (some ⟨b, off, none⟩)) :
    (execOp ev o).run Try.prog w = .ok (.value (.agg (mk 16 (fun i => f (off + i))))) w := exec_load_at _ x ho hx hg hm Try.underlying29 rfl sizeB
set_option maxHeartbeats 4000000 in
set_option maxRecDepth 20000 in
theorem scNext_any (f : Nat → Int) (m : Nat) (g : Nat → Int) (w : World) (hV : Vd f) (hm4 : m < 4) (hm : isMv f m = true) (hG : Vd g) :
    Calls Try.prog 13 #[.agg (mk 16 f), .int .i64 (m : Int), .agg (mk 16 g)] w fun e w' => e = .returned (.tuple #[.agg (mk 2 (fcF (mnF (numT (uNext g)) (slideB f m)))), .bool true]) ∧ Below w.heap.size w w' := by
  have z2 := zero2
  have z3 := zero3
  have z16 := zero16
  have K1 := Blk.new w 16 (f) 29
  have K5 := Blk.new (w.alloc (.cells (mk 16 (f)) 29)) 16 (g) 29
  have K1 := K1.alloc (.cells (mk 16 (g)) 29)
  have KR := Blk.new ((w.alloc (.cells (mk 16 (f)) 29)).alloc (.cells (mk 16 (g)) 29)) 2 (fun _ => 0) 26
  have K1 := K1.alloc (.cells (mk 2 (fun _ => 0)) 26)
  have K5 := K5.alloc (.cells (mk 2 (fun _ => 0)) 26)
  have HB := Lib.hid ((((Below.refl w.heap.size w).alloc (by simp) (.cells (mk 16 (f)) 29)).alloc (by simp) (.cells (mk 16 (g)) 29)).alloc (by simp; omega) (.cells (mk 2 (fun _ => 0)) 26))
  simp only [World.size_alloc] at K1 K5 KR HB
  have HMO : Hid (decide (MvOk f (m : Int)) = true) := decide_eq_true ⟨⟨hV, by omega⟩, hm⟩
  have HVG := Lib.hid hG
  clear hG
  obtain ⟨i0, hi, hz0, hz1, hz2⟩ := info_parts infoInt
  have hn := mv_len hm
  have hE := mv_room hV hm
  have hE2 := empN_le (slideB f m) 16
  have hn2 : (stepL f m).length ≤ 32 := by omega
  have hn0 : 0 < (stepL f m).length := by omega
  have HST := Lib.hid (fun w => l5Steps_any f m w hV hm4)
  have HMN : Hid (rd (suN (fun k => wtI (flatF (stepL f m) (k * 4 + 3)) * (uNext g) (plB (slideB f m) (psF (slideB f m) k))) (stepL f m).length) (suN (fun k => wtI (flatF (stepL f m) (k * 4 + 3))) (stepL f m).length) = mnF (numT ((uNext g))) (slideB f m)) := mean_of (u := (uNext g)) (M := 1000) hV hm4 hm (by decide) (by decide) (fun g => Nat.le_trans (oneN_le _) (by decide))
  have HSM := Lib.hid (fun k (hk : k < (stepL f m).length) => (step_mem (k := k) hm4 hm hk).1)
  have HPV := Lib.hid (fun k (hk : k < (stepL f m).length) => plB_vd (slideB_vd hV m) (ps_ok (S := slideB f m) (k := k) (by omega)))
  have HSA := Lib.hid (step_all f m hm4)
  obtain ⟨F, hF⟩ : ∃ F : Nat → Nat → Int, F = fun k => plB (slideB f m) (psF (slideB f m) k) := ⟨_, rfl⟩
  have HF : Hid (∀ k, k < (stepL f m).length → doB f (fun j => flatF (stepL f m) (k * 4 + j)) = F k) := by intro k hk; rw [hF]; exact HSM.out k hk
  have HVF : Hid (∀ k, k < (stepL f m).length → Vd (F k)) := by intro k hk; rw [hF]; exact HPV.out k hk
  obtain ⟨U, hU⟩ : ∃ U : Nat → Nat, U = fun k => (uNext g) (F k) := ⟨_, rfl⟩
  have HUk : Hid (∀ k, U k = (uNext g) (F k)) := fun k => by rw [hU]
  have HUle : Hid (∀ k, U k ≤ 1000) := fun k => by rw [hU]; exact (fun g => Nat.le_trans (oneN_le _) (by decide)) _
  have HR : Hid (rd (suN (fun k => wtI (flatF (stepL f m) (k * 4 + 3)) * U k) (stepL f m).length) (suN (fun k => wtI (flatF (stepL f m) (k * 4 + 3))) (stepL f m).length) = mnF (numT ((uNext g))) (slideB f m)) := by
    show _ = _; rw [hU, hF]; exact HMN.out
  have HV := Lib.hid hV
  have m0 : (0 : Int) ≤ (m : Int) := by omega
  have m3 : (m : Int) ≤ 3 := by omega
  clear hF hU HMN HSM HPV hV hm hn hE hE2
  go_enter Try.func13, Try.ntmps13
  go_wp2_with ((with_reducible show wpList _ _ _ (Oper.mk _ (Op.load 29 _) _ _ _ _ :: _) _ _); refine loadB (K1) rfl rfl rfl ?_)
  refine (l9Move_any f (m : Int) _).mono ?_
  rw [HMO.out]
  rintro e w1 ⟨rfl, hb⟩
  have K1 := (K1.below hb K1.lt)
  have K5 := (K5.below hb K5.lt)
  have KR := (KR.below hb KR.lt)
  have HB : Hid (Below w.heap.size w w1) := HB.out.trans (hb.mono HB.out.size)
  clear hb
  go_wp2_with (first | ((with_reducible show wpList _ _ _ (Oper.mk _ (Op.load 29 _) _ _ _ (some _) :: _) _ _); refine loadgB (K5) rfl rfl rfl ?_) | ((with_reducible show wpList _ _ _ (Oper.mk _ (Op.load 26 _) _ _ _ (some _) :: _) _ _); refine loadgC (K5) rfl rfl rfl ?_))
  refine (l2Board_yes _ _ HVG.out).mono ?_
  rintro e w1b ⟨rfl, hb⟩
  have K1 := (K1.below hb K1.lt)
  have K5 := (K5.below hb K5.lt)
  have KR := (KR.below hb KR.lt)
  have HB : Hid (Below w.heap.size w w1b) := HB.out.trans (hb.mono HB.out.size)
  clear hb
  go_wp2_with ((with_reducible show wpList _ _ _ (Oper.mk _ (Op.load 29 _) _ _ _ _ :: _) _ _); refine loadB (K1) rfl rfl rfl ?_)
  refine (HST.out _).mono ?_
  rintro e w2 ⟨gs, cs, rfl, hs, hb⟩
  have CS : CAt w2 gs ((stepL f m).length * 4) (flatF (stepL f m)) := by
    obtain ⟨_, _, e1, _, hc⟩ := KRow.of_list HSA.out hs
    cases e1
    exact hc
  clear hs HST HSA
  generalize hN : (stepL f m).length = n at *
  generalize hH : flatF (stepL f m) = h at *
  have hgs := CS.1
  have K1 := (K1.below hb K1.lt).alloc (.cells #[] 3)
  have K5 := (K5.below hb K5.lt).alloc (.cells #[] 3)
  have KR := (KR.below hb KR.lt).alloc (.cells #[] 3)
  have HB : Hid (Below w.heap.size w w2) := HB.out.trans (hb.mono HB.out.size)
  have CS := CS.alloc (.cells #[] 3)
  have hq := HB.out.size
  have HO : Hid (World.ownsRow (w2.alloc (.cells #[] 3)) w.heap.size 3 1 (.slice (some ⟨w2.heap.size, 0, none⟩) 0 0) 0 ((List.range 0).map fun i => Value.int .i64 (U i : Int))) := World.ownsRow_made (base := w.heap.size) (e := 3) (size := 1) w2 #[] 0 hq (by decide) rfl
  have HB : Hid (Below w.heap.size w (w2.alloc (.cells #[] 3))) := HB.out.alloc HB.out.size _
  clear hb
  go_wp2_with ((with_reducible show wpList _ _ _ (Oper.mk _ (Op.load 29 _) _ _ _ _ :: _) _ _); refine loadB (K1) rfl rfl rfl ?_)
  refine (l9Boards_any f gs cs n h F _ HV.out CS hn2 HF.out).mono ?_
  rintro e w3 ⟨gb, cb, rfl, hbo, hb⟩
  have hgb : w2.heap.size + 1 ≤ gb := by have := (hbo.lt gb rfl).1; simpa using this
  have CB := bd_mem hbo
  have K1 := K1.below hb K1.lt
  have K5 := K5.below hb K5.lt
  have KR := KR.below hb KR.lt
  have CS := CS.below hb
  have HO : Hid (World.ownsRow w3 w.heap.size 3 1 (.slice (some ⟨w2.heap.size, 0, none⟩) 0 0) 0 ((List.range 0).map fun i => Value.int .i64 (U i : Int))) := owns_below HO.out hb
  have HB : Hid (Below w.heap.size w w3) := HB.out.trans (hb.mono HB.out.size)
  have HNB : Hid ((Value.slice (some ⟨w2.heap.size, 0, none⟩) 0 0).ownBlock ≠ some gb) := by intro e; simp only [Value.ownBlock, Option.some.injEq] at e; omega
  have HNS : Hid ((Value.slice (some ⟨w2.heap.size, 0, none⟩) 0 0).ownBlock ≠ some gs) := by intro e; simp only [Value.ownBlock, Option.some.injEq] at e; omega
  clear hb hbo hgb hgs hq
  have HAT : Hid (∀ k, k < n → mk 16 (fun j => flatF (bdL F n) (k * 16 + j)) = mk 16 (F k)) := fun k hk => by
    rw [flatF_mk (bdL_all F n) (bdL_at F hk)]
    exact mk_congr fun i hi => fn_cl _ i hi
  generalize flatF (bdL F n) = hb at *
  go_wp2_with fail
  go_loopg [9, 11] n (fun gk sN sI wr => ∃ (k : Nat) (v : Value), k + gk = n ∧ sI = .int .i64 k ∧ v = sN ∧ (∃ gg cap, v = .slice (some ⟨gg, 0, none⟩) k cap) ∧ Hid (World.ownsRow wr w.heap.size 3 1 v k ((List.range k).map fun i => Value.int .i64 (U i : Int))) ∧ Hid (v.ownBlock ≠ some gb) ∧ Hid (v.ownBlock ≠ some gs) ∧ CAt wr gb (n * 16) hb ∧ CAt wr gs (n * 4) h ∧ Blk wr w.heap.size 16 (f) 29 ∧ Blk wr (w.heap.size + 1) 16 (g) 29 ∧ Blk wr (w.heap.size + 1 + 1) 2 (fun _ => 0) 26 ∧ Hid (Below w.heap.size w wr))
  case atStart => exact ⟨0, _, by omega, rfl, rfl, ⟨_, _, rfl⟩, HO, HNB, HNS, CB, CS, K1, K5, KR, HB⟩
  case round =>
    obtain ⟨k, v, hkg, rfl, rfl, ⟨gg, cap, hv⟩, HO, HNB, HNS, CB, CS, K1, K5, KR, HB⟩ := hrel
    subst hv
    cases gk with
    | zero =>
      have hk : ¬ ((k : Int) < (n : Int)) := by omega
      obtain rfl : k = n := by omega
      clear hkg
      have CN := int_mem HO.out
      go_wp2_with fail
      refine (l9Mean_any gs gg _ _ _ h U _ CS CN hn0 hn2 (fun k _ => Nat.le_trans (HUle.out k) (by decide))).mono ?_
      rintro e w4 ⟨rfl, hb⟩
      have KR := KR.below hb KR.lt
      have HB : Hid (Below w.heap.size w w4) := HB.out.trans (hb.mono HB.out.size)
      clear hb
      go_wp2_with ((with_reducible show wpList _ _ _ (Oper.mk _ (Op.store 26 _ _) _ _ _ _ :: _) _ _); refine storeC (KR) rfl rfl rfl rfl ?_)
      try simp only [Exit.inBlock, Exit.then]
      exact retctC (KR.row 2 _) rfl rfl rfl ⟨by rw [HR.out] <;> rfl, below_setRow HB.out (by omega) _⟩
    | succ gk2 =>
      have hk8 : (k : Int) < (n : Int) := by omega
      have hk9 : k < n := by omega
      have hk0 : (0 : Int) ≤ (k : Int) := by omega
      have HAK : Hid (mk 16 (fun j => hb (k * 16 + j)) = mk 16 (F k)) := HAT.out k hk9
      have HVK : Hid (Vd (F k)) := HVF.out k hk9
      have HU : Hid (U k = (uNext g) (F k)) := HUk.out k
      have hUle := HUle.out k
      have iE : ∀ (w : World), (Op.equalIn 10000 29 (.agg (mk 16 (F k))) (.agg (mk 16 g))).run Try.prog w = .ok (sameB (F k) g) w := fun w => by rw [eqB 9996]
      have HUI : Hid (((if sameB (F k) g = true then 1 else 0 : Nat) : Int) = ((U k : Nat) : Int)) := by show _ = _; rw [HU.out]; rfl
      go_wp2_with fail
      refine wp_region_held_drew (S := fun W => CAt W gb (n * 16) hb ∧ Blk W (w.heap.size + 1) 16 g 29) (by kernel_rfl) (⟨CB.drew, K5.drew⟩) (fun hHeld => ?_)
      have K1 := K1.drew
      have K5 := K5.drew
      have KR := KR.drew
      have CB : CAt wr.drew gb (n * 16) hb := CB.drew
      have CS : CAt wr.drew gs (n * 4) h := CS.drew
      have HO : Hid (World.ownsRow wr.drew w.heap.size 3 1 (.slice (some ⟨gg, 0, none⟩) k cap) k ((List.range k).map fun i => Value.int .i64 (U i : Int))) := HO.out
      have HB : Hid (Below w.heap.size w wr.drew) := HB.out.drew
      clear hHeld
      generalize wr.drew = x0 at *
      have hHeld : CAt x0 gb (n * 16) hb ∧ Blk x0 (w.heap.size + 1) 16 g 29 := ⟨CB, K5⟩
      refine wpAnyH_take (i := 0) (oi := { dst := some 35, op := _, type := _, pos := _, after := _, guard := _ }) (v := .slice (some ⟨gg, 0, none⟩) k cap) rfl (by kernel_rfl) (by kernel_rfl) (by kernel_rfl) (fun _ _ _ h => h) (Or.inl ⟨by rfl, by intro w hSw; clear hSw; go_simp; (try with_reducible rfl)⟩) (by assumption) ?_
      try simp only [Act.put, List.setIfInBounds_toArray, List.set_cons_zero, List.set_cons_succ]
      refine wpAnyH_take (i := 1) (oi := { dst := some 36, op := _, type := _, pos := _, after := _, guard := _ }) (v := .slice (some ⟨gb, 0, none⟩) n cb) rfl (by kernel_rfl) (by kernel_rfl) (by kernel_rfl) (fun _ _ _ h => h) (Or.inl ⟨by rfl, by intro w hSw; clear hSw; go_simp; (try with_reducible rfl)⟩) (by assumption) ?_
      try simp only [Act.put, List.setIfInBounds_toArray, List.set_cons_zero, List.set_cons_succ]
      refine wpAnyH_take (i := 2) (oi := { dst := some 37, op := _, type := _, pos := _, after := _, guard := _ }) (v := .int .i64 (k : Int)) rfl (by kernel_rfl) (by kernel_rfl) (by kernel_rfl) (fun _ _ _ h => h) (Or.inl ⟨by rfl, by intro w hSw; clear hSw; go_simp; (try with_reducible rfl)⟩) (by assumption) ?_
      try simp only [Act.put, List.setIfInBounds_toArray, List.set_cons_zero, List.set_cons_succ]
      refine wpAnyH_take (i := 3) (oi := { dst := some 38, op := _, type := _, pos := _, after := _, guard := _ }) (v := .pointer (some ⟨gb, k * 16, none⟩)) rfl (by kernel_rfl) (by kernel_rfl) (by kernel_rfl) (fun _ _ _ h => h) (Or.inl ⟨by rfl, by intro w hSw; clear hSw; go_simp; (try with_reducible rfl)⟩) (by assumption) ?_
      try simp only [Act.put, List.setIfInBounds_toArray, List.set_cons_zero, List.set_cons_succ]
      refine wpAnyH_take (i := 4) (oi := { dst := some 39, op := _, type := _, pos := _, after := _, guard := _ }) (v := .agg (mk 16 (F k))) rfl (by kernel_rfl) (by kernel_rfl) (by kernel_rfl) (fun _ _ _ h => h) (Or.inl ⟨by rfl, by intro W p; rw [← HAK.out]; exact execAB9 p.1 (by omega) rfl rfl⟩) (by assumption) ?_
      try simp only [Act.put, List.setIfInBounds_toArray, List.set_cons_zero, List.set_cons_succ]
      refine wpAnyH_take (i := 5) (oi := { dst := some 40, op := _, type := _, pos := _, after := _, guard := _ }) (v := .agg (mk 16 g)) rfl (by kernel_rfl) (by kernel_rfl) (by kernel_rfl) (fun _ _ _ h => h) (Or.inl ⟨by rfl, fun _ p => execB p.2 rfl rfl⟩) (by assumption) ?_
      try simp only [Act.put, List.setIfInBounds_toArray, List.set_cons_zero, List.set_cons_succ]
      refine wpAnyH_take (i := 6) (oi := { dst := some 41, op := _, type := _, pos := _, after := _, guard := _ }) (v := .bool (sameB (F k) g)) rfl (by kernel_rfl) (by kernel_rfl) (by kernel_rfl) (fun _ _ _ h => h) (Or.inl ⟨by rfl, by intro w hSw; clear hSw; go_simp; (try with_reducible rfl)⟩) (by assumption) ?_
      try simp only [Act.put, List.setIfInBounds_toArray, List.set_cons_zero, List.set_cons_succ]
      refine wpAnyH_ready (rs := [7]) (by kernel_rfl) (by simp) ?_
      refine AllReadyH.cons rfl (fun K hK => ?_) AllReadyH.nil
      go_simp
      refine (l9One_any (sameB (F k) g) _).mono ?_
      rw [HUI.out]
      rintro e x0 ⟨rfl, rfl⟩
      clear hHeld
      go_wp2_with fail
      refine hK.out _ _ (⟨CB, K5⟩) (fun hHeld => ?_)
      clear hK K
      try simp only [Act.put, List.setIfInBounds_toArray, List.set_cons_zero, List.set_cons_succ]
      refine wpAnyH_ready (rs := [8]) (by kernel_rfl) (by simp) ?_
      refine AllReadyH.cons rfl (fun K hK => ?_) AllReadyH.nil
      rw [if_pos (by rfl)]
      refine wp_buildI _ rfl (u := ((U k : Nat) : Int)) rfl ?_
      refine hK.out _ _ (⟨CB.alloc _, K5.alloc _⟩) (fun hHeld => ?_)
      clear hK K hHeld
      try simp only [Act.put, List.setIfInBounds_toArray, List.set_cons_zero, List.set_cons_succ]
      refine wpAnyH_ready (rs := [9]) (by kernel_rfl) (by simp) ?_
      refine AllReadyH.cons rfl (fun K hK => ?_) AllReadyH.nil
      rw [if_pos (by rfl)]
      refine wp_app9 (v := .slice (some ⟨gg, 0, none⟩) k cap) _ _ 47 rfl w.heap.size 3 i0 _ 1 8 Try.underlying47 hi hz0 hz1 hz2 rfl (by decide) rfl (World.ownsRow.alloc HO.out _) x0.heap.size 0 1 1 (fun _ => ((U k : Nat) : Int)) 1 rfl (Blk.new _ _ _ _).at (by omega) (by unfold maxLen; omega) (by omega) (by have := HB.out.size; simp; omega) ?_
      intro v' w7 R hbl hgr hloc
      obtain ⟨g', cap', hv'⟩ := ownsRow_succ R
      have HVv : Hid (∃ gg cap, v' = .slice (some ⟨gg, 0, none⟩) (k + 1) cap) := ⟨g', cap', hv'⟩
      have HO7 : Hid (World.ownsRow w7 w.heap.size 3 1 v' (k + 1) ((List.range (k + 1)).map fun i => Value.int .i64 (U i : Int))) := by
        show World.ownsRow _ _ _ _ _ _ _
        rw [range_snoc]
        exact R
      have hneB : (Value.slice (some ⟨gg, 0, none⟩) k cap).ownBlock ≠ some gb := HNB.out
      have hneS : (Value.slice (some ⟨gg, 0, none⟩) k cap).ownBlock ≠ some gs := HNS.out
      have hgbx : gb < x0.heap.size := CB.1
      have hgsx : gs < x0.heap.size := CS.1
      have HNB2 : Hid (v'.ownBlock ≠ some gb) := by
        intro e
        rcases hloc with r | r
        · rw [r] at e; exact hneB e
        · rw [r] at e; simp at e; omega
      have HNS2 : Hid (v'.ownBlock ≠ some gs) := by
        intro e
        rcases hloc with r | r
        · rw [r] at e; exact hneS e
        · rw [r] at e; simp at e; omega
      have HB7 : Hid (Below w.heap.size w w7) := (HB.out.alloc HB.out.size _).trans hbl
      have CB := (CB.alloc (.cells (mk 1 fun _ => ((U k : Nat) : Int)) 3)).grown hgr (fun e => hneB e.symm)
      have CS := (CS.alloc (.cells (mk 1 fun _ => ((U k : Nat) : Int)) 3)).grown hgr (fun e => hneS e.symm)
      have K1 := (K1.alloc (.cells (mk 1 fun _ => ((U k : Nat) : Int)) 3)).grown hgr (fun e => own_not_blk (World.ownsRow.alloc HO.out (.cells (mk 1 fun _ => ((U k : Nat) : Int)) 3)) (K1.alloc _) (by decide) e.symm)
      have K5 := (K5.alloc (.cells (mk 1 fun _ => ((U k : Nat) : Int)) 3)).grown hgr (fun e => own_not_blk (World.ownsRow.alloc HO.out (.cells (mk 1 fun _ => ((U k : Nat) : Int)) 3)) (K5.alloc _) (by decide) e.symm)
      have KR := (KR.alloc (.cells (mk 1 fun _ => ((U k : Nat) : Int)) 3)).grown hgr (fun e => own_not_blk (World.ownsRow.alloc HO.out (.cells (mk 1 fun _ => ((U k : Nat) : Int)) 3)) (KR.alloc _) (by decide) e.symm)
      clear hbl hgr R hv' HO hloc HB hneB hneS HNB HNS
      refine hK.out _ _ (⟨CB, K5⟩) (fun hHeld => ?_)
      clear hK K
      try simp only [Act.put, List.setIfInBounds_toArray, List.set_cons_zero, List.set_cons_succ]
      refine wpAnyH_take (i := 10) (oi := { dst := some 9, op := _, type := _, pos := _, after := _, guard := _ }) (v := v') rfl (by kernel_rfl) (by kernel_rfl) (by kernel_rfl) (fun _ _ _ h => h) (Or.inl ⟨by rfl, by intro w hSw; clear hSw; go_simp; (try with_reducible rfl)⟩) (by assumption) ?_
      try simp only [Act.put, List.setIfInBounds_toArray, List.set_cons_zero, List.set_cons_succ]
      refine wpAnyH_done (by kernel_rfl) ?_ _
      clear hHeld
      go_wp2_with fail
      go_roundg gk2
      case rel => exact ⟨k + 1, _, by omega, by go_num, rfl, HVv.out, HO7, HNB2, HNS2, CB, CS, K1, K5, KR, HB7⟩
      case measure => omega
set_option maxHeartbeats 4000000 in
set_option maxRecDepth 20000 in
theorem scTile_any (f : Nat → Int) (m : Nat) (c : Nat → Int) (t : Int) (w : World) (hV : Vd f) (hm4 : m < 4) (hm : isMv f m = true) (hC : CellIn c) (t0 : 0 ≤ t) (t1 : t ≤ 17) :
    Calls Try.prog 31 #[.agg (mk 16 f), .int .i64 (m : Int), .agg (mk 2 c), .int .i64 t] w fun e w' => e = .returned (.tuple #[.agg (mk 2 (fcF (mnF (numT (uTile c t)) (slideB f m)))), .bool true]) ∧ Below w.heap.size w w' := by
  have z2 := zero2
  have z3 := zero3
  have z16 := zero16
  have K1 := Blk.new w 16 (f) 29
  have K5 := Blk.new (w.alloc (.cells (mk 16 (f)) 29)) 2 (c) 26
  have K1 := K1.alloc (.cells (mk 2 (c)) 26)
  have KR := Blk.new ((w.alloc (.cells (mk 16 (f)) 29)).alloc (.cells (mk 2 (c)) 26)) 2 (fun _ => 0) 26
  have K1 := K1.alloc (.cells (mk 2 (fun _ => 0)) 26)
  have K5 := K5.alloc (.cells (mk 2 (fun _ => 0)) 26)
  have HB := Lib.hid ((((Below.refl w.heap.size w).alloc (by simp) (.cells (mk 16 (f)) 29)).alloc (by simp) (.cells (mk 2 (c)) 26)).alloc (by simp; omega) (.cells (mk 2 (fun _ => 0)) 26))
  simp only [World.size_alloc] at K1 K5 KR HB
  have HMO : Hid (decide (MvOk f (m : Int)) = true) := decide_eq_true ⟨⟨hV, by omega⟩, hm⟩
  have HCI := Lib.hid hC
  obtain ⟨⟨c00, c01⟩, c10, c11⟩ := hC
  obtain ⟨r, hr⟩ := Int.eq_ofNat_of_zero_le c00
  obtain ⟨q, hq⟩ := Int.eq_ofNat_of_zero_le c10
  have hr4 : r < 4 := by omega
  have hq4 : q < 4 := by omega
  clear c00 c01 c10 c11
  obtain ⟨i0, hi, hz0, hz1, hz2⟩ := info_parts infoInt
  have hn := mv_len hm
  have hE := mv_room hV hm
  have hE2 := empN_le (slideB f m) 16
  have hn2 : (stepL f m).length ≤ 32 := by omega
  have hn0 : 0 < (stepL f m).length := by omega
  have HST := Lib.hid (fun w => l5Steps_any f m w hV hm4)
  have HMN : Hid (rd (suN (fun k => wtI (flatF (stepL f m) (k * 4 + 3)) * (uTile c t) (plB (slideB f m) (psF (slideB f m) k))) (stepL f m).length) (suN (fun k => wtI (flatF (stepL f m) (k * 4 + 3))) (stepL f m).length) = mnF (numT ((uTile c t))) (slideB f m)) := mean_of (u := (uTile c t)) (M := 1000) hV hm4 hm (by decide) (by decide) (fun g => Nat.le_trans (oneN_le _) (by decide))
  have HSM := Lib.hid (fun k (hk : k < (stepL f m).length) => (step_mem (k := k) hm4 hm hk).1)
  have HPV := Lib.hid (fun k (hk : k < (stepL f m).length) => plB_vd (slideB_vd hV m) (ps_ok (S := slideB f m) (k := k) (by omega)))
  have HSA := Lib.hid (step_all f m hm4)
  obtain ⟨F, hF⟩ : ∃ F : Nat → Nat → Int, F = fun k => plB (slideB f m) (psF (slideB f m) k) := ⟨_, rfl⟩
  have HF : Hid (∀ k, k < (stepL f m).length → doB f (fun j => flatF (stepL f m) (k * 4 + j)) = F k) := by intro k hk; rw [hF]; exact HSM.out k hk
  have HVF : Hid (∀ k, k < (stepL f m).length → Vd (F k)) := by intro k hk; rw [hF]; exact HPV.out k hk
  obtain ⟨U, hU⟩ : ∃ U : Nat → Nat, U = fun k => (uTile c t) (F k) := ⟨_, rfl⟩
  have HUk : Hid (∀ k, U k = (uTile c t) (F k)) := fun k => by rw [hU]
  have HUle : Hid (∀ k, U k ≤ 1000) := fun k => by rw [hU]; exact (fun g => Nat.le_trans (oneN_le _) (by decide)) _
  have HR : Hid (rd (suN (fun k => wtI (flatF (stepL f m) (k * 4 + 3)) * U k) (stepL f m).length) (suN (fun k => wtI (flatF (stepL f m) (k * 4 + 3))) (stepL f m).length) = mnF (numT ((uTile c t))) (slideB f m)) := by
    show _ = _; rw [hU, hF]; exact HMN.out
  have HV := Lib.hid hV
  have m0 : (0 : Int) ≤ (m : Int) := by omega
  have m3 : (m : Int) ≤ 3 := by omega
  clear hF hU HMN HSM HPV hV hm hn hE hE2
  go_enter Try.func31, Try.ntmps31
  go_wp2_with ((with_reducible show wpList _ _ _ (Oper.mk _ (Op.load 29 _) _ _ _ _ :: _) _ _); refine loadB (K1) rfl rfl rfl ?_)
  refine (l9Move_any f (m : Int) _).mono ?_
  rw [HMO.out]
  rintro e w1 ⟨rfl, hb⟩
  have K1 := (K1.below hb K1.lt)
  have K5 := (K5.below hb K5.lt)
  have KR := (KR.below hb KR.lt)
  have HB : Hid (Below w.heap.size w w1) := HB.out.trans (hb.mono HB.out.size)
  clear hb
  go_wp2_with (first | ((with_reducible show wpList _ _ _ (Oper.mk _ (Op.load 29 _) _ _ _ (some _) :: _) _ _); refine loadgB (K5) rfl rfl rfl ?_) | ((with_reducible show wpList _ _ _ (Oper.mk _ (Op.load 26 _) _ _ _ (some _) :: _) _ _); refine loadgC (K5) rfl rfl rfl ?_))
  refine (l2Cell_yes _ _ HCI.out).mono ?_
  rintro e w1b ⟨rfl, hb⟩
  have K1 := (K1.below hb K1.lt)
  have K5 := (K5.below hb K5.lt)
  have KR := (KR.below hb KR.lt)
  have HB : Hid (Below w.heap.size w w1b) := HB.out.trans (hb.mono HB.out.size)
  clear hb
  go_wp2_with fail
  refine (l1In_yes _ _ _ _ t0 t1).mono ?_
  rintro e w1c ⟨rfl, rfl⟩
  go_wp2_with ((with_reducible show wpList _ _ _ (Oper.mk _ (Op.load 29 _) _ _ _ _ :: _) _ _); refine loadB (K1) rfl rfl rfl ?_)
  refine (HST.out _).mono ?_
  rintro e w2 ⟨gs, cs, rfl, hs, hb⟩
  have CS : CAt w2 gs ((stepL f m).length * 4) (flatF (stepL f m)) := by
    obtain ⟨_, _, e1, _, hc⟩ := KRow.of_list HSA.out hs
    cases e1
    exact hc
  clear hs HST HSA
  generalize hN : (stepL f m).length = n at *
  generalize hH : flatF (stepL f m) = h at *
  have hgs := CS.1
  have K1 := (K1.below hb K1.lt).alloc (.cells #[] 3)
  have K5 := (K5.below hb K5.lt).alloc (.cells #[] 3)
  have KR := (KR.below hb KR.lt).alloc (.cells #[] 3)
  have HB : Hid (Below w.heap.size w w2) := HB.out.trans (hb.mono HB.out.size)
  have CS := CS.alloc (.cells #[] 3)
  have hq := HB.out.size
  have HO : Hid (World.ownsRow (w2.alloc (.cells #[] 3)) w.heap.size 3 1 (.slice (some ⟨w2.heap.size, 0, none⟩) 0 0) 0 ((List.range 0).map fun i => Value.int .i64 (U i : Int))) := World.ownsRow_made (base := w.heap.size) (e := 3) (size := 1) w2 #[] 0 hq (by decide) rfl
  have HB : Hid (Below w.heap.size w (w2.alloc (.cells #[] 3))) := HB.out.alloc HB.out.size _
  clear hb
  go_wp2_with ((with_reducible show wpList _ _ _ (Oper.mk _ (Op.load 29 _) _ _ _ _ :: _) _ _); refine loadB (K1) rfl rfl rfl ?_)
  refine (l9Boards_any f gs cs n h F _ HV.out CS hn2 HF.out).mono ?_
  rintro e w3 ⟨gb, cb, rfl, hbo, hb⟩
  have hgb : w2.heap.size + 1 ≤ gb := by have := (hbo.lt gb rfl).1; simpa using this
  have CB := bd_mem hbo
  have K1 := K1.below hb K1.lt
  have K5 := K5.below hb K5.lt
  have KR := KR.below hb KR.lt
  have CS := CS.below hb
  have HO : Hid (World.ownsRow w3 w.heap.size 3 1 (.slice (some ⟨w2.heap.size, 0, none⟩) 0 0) 0 ((List.range 0).map fun i => Value.int .i64 (U i : Int))) := owns_below HO.out hb
  have HB : Hid (Below w.heap.size w w3) := HB.out.trans (hb.mono HB.out.size)
  have HNB : Hid ((Value.slice (some ⟨w2.heap.size, 0, none⟩) 0 0).ownBlock ≠ some gb) := by intro e; simp only [Value.ownBlock, Option.some.injEq] at e; omega
  have HNS : Hid ((Value.slice (some ⟨w2.heap.size, 0, none⟩) 0 0).ownBlock ≠ some gs) := by intro e; simp only [Value.ownBlock, Option.some.injEq] at e; omega
  clear hb hbo hgb hgs hq
  have HAT : Hid (∀ k, k < n → mk 16 (fun j => flatF (bdL F n) (k * 16 + j)) = mk 16 (F k)) := fun k hk => by
    rw [flatF_mk (bdL_all F n) (bdL_at F hk)]
    exact mk_congr fun i hi => fn_cl _ i hi
  generalize flatF (bdL F n) = hb at *
  go_wp2_with fail
  go_loopg [11, 13] n (fun gk sN sI wr => ∃ (k : Nat) (v : Value), k + gk = n ∧ sI = .int .i64 k ∧ v = sN ∧ (∃ gg cap, v = .slice (some ⟨gg, 0, none⟩) k cap) ∧ Hid (World.ownsRow wr w.heap.size 3 1 v k ((List.range k).map fun i => Value.int .i64 (U i : Int))) ∧ Hid (v.ownBlock ≠ some gb) ∧ Hid (v.ownBlock ≠ some gs) ∧ CAt wr gb (n * 16) hb ∧ CAt wr gs (n * 4) h ∧ Blk wr w.heap.size 16 (f) 29 ∧ Blk wr (w.heap.size + 1) 2 (c) 26 ∧ Blk wr (w.heap.size + 1 + 1) 2 (fun _ => 0) 26 ∧ Hid (Below w.heap.size w wr))
  case atStart => exact ⟨0, _, by omega, rfl, rfl, ⟨_, _, rfl⟩, HO, HNB, HNS, CB, CS, K1, K5, KR, HB⟩
  case round =>
    obtain ⟨k, v, hkg, rfl, rfl, ⟨gg, cap, hv⟩, HO, HNB, HNS, CB, CS, K1, K5, KR, HB⟩ := hrel
    subst hv
    cases gk with
    | zero =>
      have hk : ¬ ((k : Int) < (n : Int)) := by omega
      obtain rfl : k = n := by omega
      clear hkg
      have CN := int_mem HO.out
      go_wp2_with fail
      refine (l9Mean_any gs gg _ _ _ h U _ CS CN hn0 hn2 (fun k _ => Nat.le_trans (HUle.out k) (by decide))).mono ?_
      rintro e w4 ⟨rfl, hb⟩
      have KR := KR.below hb KR.lt
      have HB : Hid (Below w.heap.size w w4) := HB.out.trans (hb.mono HB.out.size)
      clear hb
      go_wp2_with ((with_reducible show wpList _ _ _ (Oper.mk _ (Op.store 26 _ _) _ _ _ _ :: _) _ _); refine storeC (KR) rfl rfl rfl rfl ?_)
      try simp only [Exit.inBlock, Exit.then]
      exact retctC (KR.row 2 _) rfl rfl rfl ⟨by rw [HR.out] <;> rfl, below_setRow HB.out (by omega) _⟩
    | succ gk2 =>
      have hk8 : (k : Int) < (n : Int) := by omega
      have hk9 : k < n := by omega
      have hk0 : (0 : Int) ≤ (k : Int) := by omega
      have HAK : Hid (mk 16 (fun j => hb (k * 16 + j)) = mk 16 (F k)) := HAT.out k hk9
      have HVK : Hid (Vd (F k)) := HVF.out k hk9
      have HU : Hid (U k = (uTile c t) (F k)) := HUk.out k
      have hUle := HUle.out k
      have HM := Lib.hid (fun w => l2At_any (F k) c r q w hr hq hr4 hq4)
      have HEQ : Hid ((F k (r * 4 + q) == t) = decide (F k (placeAt c) = t)) := by
        show _ = _
        rw [show placeAt c = r * 4 + q by unfold placeAt; omega, Bool.eq_iff_iff]; simp
      have HUI : Hid (((if decide (F k (placeAt c) = t) = true then 1 else 0 : Nat) : Int) = ((U k : Nat) : Int)) := by show _ = _; rw [HU.out]; rfl
      go_wp2_with fail
      refine wp_region_held_drew (S := fun W => CAt W gb (n * 16) hb ∧ Blk W (w.heap.size + 1) 2 c 26) (by kernel_rfl) (⟨CB.drew, K5.drew⟩) (fun hHeld => ?_)
      have K1 := K1.drew
      have K5 := K5.drew
      have KR := KR.drew
      have CB : CAt wr.drew gb (n * 16) hb := CB.drew
      have CS : CAt wr.drew gs (n * 4) h := CS.drew
      have HO : Hid (World.ownsRow wr.drew w.heap.size 3 1 (.slice (some ⟨gg, 0, none⟩) k cap) k ((List.range k).map fun i => Value.int .i64 (U i : Int))) := HO.out
      have HB : Hid (Below w.heap.size w wr.drew) := HB.out.drew
      clear hHeld
      generalize wr.drew = x0 at *
      have hHeld : CAt x0 gb (n * 16) hb ∧ Blk x0 (w.heap.size + 1) 2 c 26 := ⟨CB, K5⟩
      refine wpAnyH_take (i := 0) (oi := { dst := some 42, op := _, type := _, pos := _, after := _, guard := _ }) (v := .slice (some ⟨gg, 0, none⟩) k cap) rfl (by kernel_rfl) (by kernel_rfl) (by kernel_rfl) (fun _ _ _ h => h) (Or.inl ⟨by rfl, by intro w hSw; clear hSw; go_simp; (try with_reducible rfl)⟩) (by assumption) ?_
      try simp only [Act.put, List.setIfInBounds_toArray, List.set_cons_zero, List.set_cons_succ]
      refine wpAnyH_take (i := 1) (oi := { dst := some 43, op := _, type := _, pos := _, after := _, guard := _ }) (v := .slice (some ⟨gb, 0, none⟩) n cb) rfl (by kernel_rfl) (by kernel_rfl) (by kernel_rfl) (fun _ _ _ h => h) (Or.inl ⟨by rfl, by intro w hSw; clear hSw; go_simp; (try with_reducible rfl)⟩) (by assumption) ?_
      try simp only [Act.put, List.setIfInBounds_toArray, List.set_cons_zero, List.set_cons_succ]
      refine wpAnyH_take (i := 2) (oi := { dst := some 44, op := _, type := _, pos := _, after := _, guard := _ }) (v := .int .i64 (k : Int)) rfl (by kernel_rfl) (by kernel_rfl) (by kernel_rfl) (fun _ _ _ h => h) (Or.inl ⟨by rfl, by intro w hSw; clear hSw; go_simp; (try with_reducible rfl)⟩) (by assumption) ?_
      try simp only [Act.put, List.setIfInBounds_toArray, List.set_cons_zero, List.set_cons_succ]
      refine wpAnyH_take (i := 3) (oi := { dst := some 45, op := _, type := _, pos := _, after := _, guard := _ }) (v := .pointer (some ⟨gb, k * 16, none⟩)) rfl (by kernel_rfl) (by kernel_rfl) (by kernel_rfl) (fun _ _ _ h => h) (Or.inl ⟨by rfl, by intro w hSw; clear hSw; go_simp; (try with_reducible rfl)⟩) (by assumption) ?_
      try simp only [Act.put, List.setIfInBounds_toArray, List.set_cons_zero, List.set_cons_succ]
      refine wpAnyH_take (i := 4) (oi := { dst := some 46, op := _, type := _, pos := _, after := _, guard := _ }) (v := .agg (mk 16 (F k))) rfl (by kernel_rfl) (by kernel_rfl) (by kernel_rfl) (fun _ _ _ h => h) (Or.inl ⟨by rfl, by intro W p; rw [← HAK.out]; exact execAB9 p.1 (by omega) rfl rfl⟩) (by assumption) ?_
      try simp only [Act.put, List.setIfInBounds_toArray, List.set_cons_zero, List.set_cons_succ]
      refine wpAnyH_take (i := 5) (oi := { dst := some 47, op := _, type := _, pos := _, after := _, guard := _ }) (v := .agg (mk 2 c)) rfl (by kernel_rfl) (by kernel_rfl) (by kernel_rfl) (fun _ _ _ h => h) (Or.inl ⟨by rfl, fun _ p => exec_load_blk _ _ rfl rfl p.2 Try.underlying26 rfl sizeC⟩) (by assumption) ?_
      try simp only [Act.put, List.setIfInBounds_toArray, List.set_cons_zero, List.set_cons_succ]
      refine wpAnyH_take (i := 7) (oi := { dst := some 49, op := _, type := _, pos := _, after := _, guard := _ }) (v := .int .i64 t) rfl (by kernel_rfl) (by kernel_rfl) (by kernel_rfl) (fun _ _ _ h => h) (Or.inl ⟨by rfl, by intro w hSw; clear hSw; go_simp; (try with_reducible rfl)⟩) (by assumption) ?_
      try simp only [Act.put, List.setIfInBounds_toArray, List.set_cons_zero, List.set_cons_succ]
      refine wpAnyH_ready (rs := [6]) (by kernel_rfl) (by simp) ?_
      refine AllReadyH.cons rfl (fun K hK => ?_) AllReadyH.nil
      go_simp
      refine (HM.out _).mono ?_
      rintro e x1 ⟨rfl, hb⟩
      have K1 := (K1.below hb K1.lt)
      have K5 := (K5.below hb K5.lt)
      have KR := (KR.below hb KR.lt)
      have CB := (CB.below hb)
      have CS := (CS.below hb)
      have HO : Hid (World.ownsRow x1 w.heap.size 3 1 (.slice (some ⟨gg, 0, none⟩) k cap) k ((List.range k).map fun i => Value.int .i64 (U i : Int))) := owns_below HO.out hb
      have HB : Hid (Below w.heap.size w x1) := HB.out.trans (hb.mono HB.out.size)
      clear hb hHeld
      go_wp2_with fail
      refine hK.out _ _ (⟨CB, K5⟩) (fun hHeld => ?_)
      clear hK K
      try simp only [Act.put, List.setIfInBounds_toArray, List.set_cons_zero, List.set_cons_succ]
      refine wpAnyH_take (i := 8) (oi := { dst := some 50, op := _, type := _, pos := _, after := _, guard := _ }) (v := .bool (F k (r * 4 + q) == t)) rfl (by kernel_rfl) (by kernel_rfl) (by kernel_rfl) (fun _ _ _ h => h) (Or.inl ⟨by rfl, by intro w hSw; clear hSw; go_simp; (try with_reducible rfl)⟩) (by assumption) ?_
      try simp only [Act.put, List.setIfInBounds_toArray, List.set_cons_zero, List.set_cons_succ]
      refine wpAnyH_ready (rs := [9]) (by kernel_rfl) (by simp) ?_
      refine AllReadyH.cons rfl (fun K hK => ?_) AllReadyH.nil
      go_simp
      rw [HEQ.out]
      refine (l9One_any (decide (F k (placeAt c) = t)) _).mono ?_
      rw [HUI.out]
      rintro e x1 ⟨rfl, rfl⟩
      clear hHeld
      go_wp2_with fail
      refine hK.out _ _ (⟨CB, K5⟩) (fun hHeld => ?_)
      clear hK K
      try simp only [Act.put, List.setIfInBounds_toArray, List.set_cons_zero, List.set_cons_succ]
      refine wpAnyH_ready (rs := [10]) (by kernel_rfl) (by simp) ?_
      refine AllReadyH.cons rfl (fun K hK => ?_) AllReadyH.nil
      rw [if_pos (by rfl)]
      refine wp_buildI _ rfl (u := ((U k : Nat) : Int)) rfl ?_
      refine hK.out _ _ (⟨CB.alloc _, K5.alloc _⟩) (fun hHeld => ?_)
      clear hK K hHeld
      try simp only [Act.put, List.setIfInBounds_toArray, List.set_cons_zero, List.set_cons_succ]
      refine wpAnyH_ready (rs := [11]) (by kernel_rfl) (by simp) ?_
      refine AllReadyH.cons rfl (fun K hK => ?_) AllReadyH.nil
      rw [if_pos (by rfl)]
      refine wp_app9 (v := .slice (some ⟨gg, 0, none⟩) k cap) _ _ 47 rfl w.heap.size 3 i0 _ 1 8 Try.underlying47 hi hz0 hz1 hz2 rfl (by decide) rfl (World.ownsRow.alloc HO.out _) x1.heap.size 0 1 1 (fun _ => ((U k : Nat) : Int)) 1 rfl (Blk.new _ _ _ _).at (by omega) (by unfold maxLen; omega) (by omega) (by have := HB.out.size; simp; omega) ?_
      intro v' w7 R hbl hgr hloc
      obtain ⟨g', cap', hv'⟩ := ownsRow_succ R
      have HVv : Hid (∃ gg cap, v' = .slice (some ⟨gg, 0, none⟩) (k + 1) cap) := ⟨g', cap', hv'⟩
      have HO7 : Hid (World.ownsRow w7 w.heap.size 3 1 v' (k + 1) ((List.range (k + 1)).map fun i => Value.int .i64 (U i : Int))) := by
        show World.ownsRow _ _ _ _ _ _ _
        rw [range_snoc]
        exact R
      have hneB : (Value.slice (some ⟨gg, 0, none⟩) k cap).ownBlock ≠ some gb := HNB.out
      have hneS : (Value.slice (some ⟨gg, 0, none⟩) k cap).ownBlock ≠ some gs := HNS.out
      have hgbx : gb < x1.heap.size := CB.1
      have hgsx : gs < x1.heap.size := CS.1
      have HNB2 : Hid (v'.ownBlock ≠ some gb) := by
        intro e
        rcases hloc with r | r
        · rw [r] at e; exact hneB e
        · rw [r] at e; simp at e; omega
      have HNS2 : Hid (v'.ownBlock ≠ some gs) := by
        intro e
        rcases hloc with r | r
        · rw [r] at e; exact hneS e
        · rw [r] at e; simp at e; omega
      have HB7 : Hid (Below w.heap.size w w7) := (HB.out.alloc HB.out.size _).trans hbl
      have CB := (CB.alloc (.cells (mk 1 fun _ => ((U k : Nat) : Int)) 3)).grown hgr (fun e => hneB e.symm)
      have CS := (CS.alloc (.cells (mk 1 fun _ => ((U k : Nat) : Int)) 3)).grown hgr (fun e => hneS e.symm)
      have K1 := (K1.alloc (.cells (mk 1 fun _ => ((U k : Nat) : Int)) 3)).grown hgr (fun e => own_not_blk (World.ownsRow.alloc HO.out (.cells (mk 1 fun _ => ((U k : Nat) : Int)) 3)) (K1.alloc _) (by decide) e.symm)
      have K5 := (K5.alloc (.cells (mk 1 fun _ => ((U k : Nat) : Int)) 3)).grown hgr (fun e => own_not_blk (World.ownsRow.alloc HO.out (.cells (mk 1 fun _ => ((U k : Nat) : Int)) 3)) (K5.alloc _) (by decide) e.symm)
      have KR := (KR.alloc (.cells (mk 1 fun _ => ((U k : Nat) : Int)) 3)).grown hgr (fun e => own_not_blk (World.ownsRow.alloc HO.out (.cells (mk 1 fun _ => ((U k : Nat) : Int)) 3)) (KR.alloc _) (by decide) e.symm)
      clear hbl hgr R hv' HO hloc HB hneB hneS HNB HNS
      refine hK.out _ _ (⟨CB, K5⟩) (fun hHeld => ?_)
      clear hK K
      try simp only [Act.put, List.setIfInBounds_toArray, List.set_cons_zero, List.set_cons_succ]
      refine wpAnyH_take (i := 12) (oi := { dst := some 11, op := _, type := _, pos := _, after := _, guard := _ }) (v := v') rfl (by kernel_rfl) (by kernel_rfl) (by kernel_rfl) (fun _ _ _ h => h) (Or.inl ⟨by rfl, by intro w hSw; clear hSw; go_simp; (try with_reducible rfl)⟩) (by assumption) ?_
      try simp only [Act.put, List.setIfInBounds_toArray, List.set_cons_zero, List.set_cons_succ]
      refine wpAnyH_done (by kernel_rfl) ?_ _
      clear hHeld
      go_wp2_with fail
      go_roundg gk2
      case rel => exact ⟨k + 1, _, by omega, by go_num, rfl, HVv.out, HO7, HNB2, HNS2, CB, CS, K1, K5, KR, HB7⟩
      case measure => omega
end Go.Proofs.Ytkocfpldgjfpeaa
