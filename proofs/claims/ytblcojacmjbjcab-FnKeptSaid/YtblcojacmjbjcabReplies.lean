/-
  The contracts of the program's replies and of the function value that it hands back: all placements on a valid board, in order, and the boards with them.
-/
import Derived.Test.YtblcojacmjbjcabFenceKit
namespace Go.Proofs.Ytblcojacmjbjcab
open Go.RowKit Go.Shelf Plain
attribute [local go_sem] store_new Oper.semAt_some
set_option linter.unusedVariables false
set_option linter.unusedSimpArgs false

/-- What a placement and the board with it are handed on as. -/
def encR (f : Nat → Int) (x : Pl f) : Array Value := #[.agg (mk 3 (plF x.1)), .agg (mk 16 (plB f x.1))]
theorem replies_in (f : Nat → Int) (w : World) :
    Calls Try.prog 282 #[.agg (mk 16 f)] w fun e w' => e = .returned (.func (.func 297) #[] #[.pointer (some ⟨w.heap.size, 0, none⟩)]) ∧ w' = w.alloc (.cells (mk 16 f) 47) := by
  go_enter Try.func282, Try.ntmps282
  go_wp2
  go_ret
  exact ⟨rfl, rfl⟩
/-- The placements at a cell with a lesser tile than t. -/
def tlP (j t : Nat) : List (Nat × Nat) := if t = 1 then [] else if t = 2 then [(j, 1)] else [(j, 1), (j, 2)]
theorem tlP_step (j t : Nat) (h1 : 1 ≤ t) (h2 : t ≤ 2) : tlP j (t + 1) = tlP j t ++ [(j, t)] := by
  rcases (by omega : t = 1 ∨ t = 2) with rfl | rfl <;> rfl
theorem tlP_len (j t : Nat) (h1 : 1 ≤ t) (h2 : t ≤ 2) : (tlP j t).length < 2 := by
  rcases (by omega : t = 1 ∨ t = 2) with rfl | rfl <;> simp [tlP]
theorem pl_args (f : Nat → Int) (j t : Nat) : (#[.agg (mk 3 (tri ((j / 4 : Nat) : Int) ((j % 4 : Nat) : Int) (t : Int))), .agg (mk 16 (upd f (j / 4 * 4 + j % 4) (t : Int)))] : Array Value) = #[.agg (mk 3 (plF (j, t))), .agg (mk 16 (plB f (j, t)))] := by
  unfold plB
  rw [show j / 4 * 4 + j % 4 = j by omega]
  rfl
theorem pre_pl {f : Nat → Int} {pre : List (Pl f)} {i : Nat} (h : pre.map (·.1) = plN f i) (hi : i ≤ empN f 16) : pre.length = i * 2 := by
  have := plN_len f hi
  rw [← h, List.length_map] at this; exact this

theorem plN_pre (f : Nat → Int) (i : Nat) : ∃ M, plA f = plN f i ++ M := by
  refine ⟨((emI f 16).drop i).flatMap fun j => [(j, 1), (j, 2)], ?_⟩
  unfold plA plN
  rw [← List.flatMap_append, List.take_append_drop]
theorem tlP_pre (j t : Nat) (h1 : 1 ≤ t) (h2 : t ≤ 2) : ∃ M, [(j, 1), (j, 2)] = tlP j (t + 1) ++ M := by
  rcases (by omega : t = 1 ∨ t = 2) with rfl | rfl
  · exact ⟨[(j, 2)], rfl⟩
  · exact ⟨[], rfl⟩
theorem pl_pre {f : Nat → Int} {i j t : Nat} (h : (emI f 16)[i]? = some j) (t1 : 1 ≤ t) (t2 : t ≤ 2) {pre : List (Pl f)} (hp : pre.map (·.1) = plN f i ++ tlP j t) {x : Pl f} (hx : x.1 = (j, t)) : ∃ M, plA f = (pre ++ [x]).map (·.1) ++ M := by
  obtain ⟨M, hM⟩ := plN_pre f (i + 1)
  obtain ⟨M2, hM2⟩ := tlP_pre j t t1 t2
  refine ⟨M2 ++ M, ?_⟩
  rw [hM, plN_step h, hM2, List.map_append, hp, tlP_step j t t1 t2]
  simp [hx]
set_option maxRecDepth 100000 in
set_option maxHeartbeats 2000000 in
theorem replies1_in (n l B : Nat) (f : Nat → Int) (hn : 1 ≤ n) (hV : Vd f) (J Jx : List (Pl f) → World → Prop)
    (hA : ∀ pre X Y, J pre X → X.grownBy Y none → J pre Y)
    (hY : ∀ pre x W, J pre W → pre.length < empN f 16 * 2 → YieldAt Fence.wide (n - 1) Try.prog l (encR f x) W fun e W' =>
      (e = .returned (.bool true) ∧ J (pre ++ [x]) W' ∧ Keeps2 B W W') ∨ (e = .returned (.bool false) ∧ Jx (pre ++ [x]) W'))
    (W : World) (h1 : Blk W B 16 f 47) (h0 : J [] W) :
    CallsIn Fence.wide n Try.prog 297 #[.func (.yield l) #[] #[], .pointer (some ⟨B, 0, none⟩)] W fun e W' => (∃ v, e = .returned v) ∧
      ((∃ ys : List (Pl f), ys.map (·.1) = plA f ∧ J ys W') ∨ (∃ pre, (∃ M, plA f = pre.map (·.1) ++ M) ∧ Jx pre W')) := by
  have z16 := zero16
  have z2 := zero2
  obtain ⟨y1, y2⟩ := cell_yes hV
  have HAT := Lib.hid (emI_at f 16)
  have HPA := Lib.hid (plN_all f)
  have HST := Lib.hid (fun i j => plN_step (f := f) (i := i) (j := j))
  have HPX := Lib.hid (fun i j t (h : (emI f 16)[i]? = some j) (t1 : 1 ≤ t) (t2 : t ≤ 2) (pre : List (Pl f)) (hp : pre.map (·.1) = plN f i ++ tlP j t) (x : Pl f) (hx : x.1 = (j, t)) => pl_pre h t1 t2 hp hx)
  have HLN := Lib.hid (fun (pre : List (Pl f)) i => pre_pl (f := f) (pre := pre) (i := i))
  have hle := empN_le f 16
  have hEC := implCells_any f W
  rw [y1, y2] at hEC
  have HEC := Lib.hid hEC
  have HCA := Lib.hid (fun (w : World) (base g cap n : Nat) (h : OwnsCells w base (.slice (some ⟨g, 0, none⟩) n cap) n (empL f 16)) (hn : n = empN f 16) => empties_at h hn)
  have HJ0 := Lib.hid h0
  clear y1 y2 hEC h0
  generalize hnE : empN f 16 = nE at *
  refine callsIn_of_wp Try.func297 rfl trivial ?_ rfl
  simp only [Try.ntmps297, List.size_toArray, List.length_cons, List.length_nil, Nat.reduceAdd, Nat.reduceSub, Array.replicate_succ, Array.replicate_zero, List.push_toArray, List.append_toArray, List.nil_append, List.cons_append]
  gi_wp2_with (first | ((with_reducible show wpListIn _ _ _ _ _ (Oper.mk _ (Op.load 47 _) _ _ _ _ :: _) _ _); refine loadIn (h1) rfl rfl rfl Try.underlying47 rfl sizeB ?_) | (refine ⟨trivial, ?_⟩; gi_at_call 192; refine (callsIn_wide.2 HEC.out).mono ?_; rintro e w1 ⟨ge, ce, rfl, ho, hb⟩; have K1 := h1.below hb h1.lt; have HO := Lib.hid ho; have HJ : Hid (J [] w1) := hA _ _ _ HJ0.out (below_grown hb); clear hb ho))
  clear HEC HJ0 h1
  gi_loopw [16] (fun s16 wr => ∃ (i : Nat) (pre : List (Pl f)), i ≤ nE ∧ s16 = .int .i64 i ∧ pre.map (·.1) = plN f i ∧ Hid (J pre wr) ∧ Blk wr B 16 f 47 ∧ Hid (OwnsCells wr W.heap.size (.slice (some ⟨ge, 0, none⟩) nE ce) nE (empL f 16)))
    (fun s _ => nE - (intOf s).toNat)
  case atStart => exact ⟨0, [], Nat.zero_le _, rfl, by rw [plN_zero]; rfl, HJ, K1, HO⟩
  case round =>
    clear HJ K1 HO
    obtain ⟨i, pre, hi, rfl, hp, HJ, K1, HO⟩ := hrel
    have HP := Lib.hid hp
    clear hp
    by_cases hlt : i < nE
    · have hl : (i : Int) < (nE : Int) := by omega
      have hi0 : (0 : Int) ≤ (i : Int) := by omega
      obtain ⟨j, j1, j2, j3, j4, j5⟩ := HAT.out i hlt
      have HJ1 := Lib.hid j1
      have HJ3 := Lib.hid j3
      have CE : CAt wr ge (nE * 2) (empF f) := HCA.out _ _ _ _ _ HO.out rfl
      have HE0 : Hid (empF f (i * 2) = ((j / 4 : Nat) : Int)) := j4
      have HE1 : Hid (empF f (i * 2 + 1) = ((j % 4 : Nat) : Int)) := j5
      clear j1 j3 j4 j5
      obtain ⟨r, hr⟩ : ∃ r, r = j / 4 := ⟨_, rfl⟩
      obtain ⟨c, hc⟩ : ∃ c, c = j % 4 := ⟨_, rfl⟩
      have HRC : Hid (r = j / 4 ∧ c = j % 4) := ⟨hr, hc⟩
      have hr4 : r < 4 := by omega
      have hc4 : c < 4 := by omega
      rw [← hr] at HE0
      rw [← hc] at HE1
      clear hr hc
      gi_wp2_with ((with_reducible show wpListIn _ _ _ _ _ (Oper.mk _ (Op.load 42 _) _ _ _ _ :: _) _ _); refine loadAtIn (CE) (by omega) rfl rfl rfl Try.underlying42 rfl sizeC ?_)
      have CP := Blk.new wr 2 (fun q => empF f (i * 2 + q)) 42
      have K1 := K1.alloc (.cells (mk 2 fun q => empF f (i * 2 + q)) 42)
      have HO : Hid (OwnsCells (wr.alloc (.cells (mk 2 fun q => empF f (i * 2 + q)) 42)) W.heap.size (.slice (some ⟨ge, 0, none⟩) nE ce) nE (empL f 16)) := World.ownsRow.alloc HO.out _
      have HJ : Hid (J pre (wr.alloc (.cells (mk 2 fun q => empF f (i * 2 + q)) 42))) := hA _ _ _ HJ.out (World.grownBy_alloc _ _ none)
      clear CE
      generalize wr.alloc (.cells (mk 2 fun q => empF f (i * 2 + q)) 42) = w2 at *
      generalize wr.heap.size = bC at *
      gi_loopw [7] (fun s7 wx => ∃ (t : Nat) (pre2 : List (Pl f)), 1 ≤ t ∧ t ≤ 3 ∧ s7 = .int .i64 t ∧ Hid (pre2.map (·.1) = plN f i ++ tlP j t) ∧ Hid (J pre2 wx) ∧ Blk wx B 16 f 47 ∧ Hid (OwnsCells wx W.heap.size (.slice (some ⟨ge, 0, none⟩) nE ce) nE (empL f 16)) ∧ Blk wx bC 2 (fun q => empF f (i * 2 + q)) 42)
        (fun s _ => 3 - (intOf s).toNat)
      case atStart => exact ⟨1, pre, by omega, by omega, rfl, by show _ = _; rw [HP.out]; simp [tlP], HJ, K1, HO, CP⟩
      case round =>
        clear HJ K1 HO CP
        obtain ⟨t, pre2, t1, t3, rfl, HP2, HJ, K1, HO, CP⟩ := hrel
        by_cases ht : t ≤ 2
        · have ht2 : (t : Int) ≤ 2 := by omega
          have HX : Hid (PlOk f (j, t)) := ⟨j2, HJ3.out, t1, ht⟩
          have KB := Blk.new wr 16 f 47
          have K1b := K1.alloc (.cells (mk 16 f) 47)
          have CPb := CP.alloc (.cells (mk 16 f) 47)
          have HOb : Hid (OwnsCells (wr.alloc (.cells (mk 16 f) 47)) W.heap.size (.slice (some ⟨ge, 0, none⟩) nE ce) nE (empL f 16)) := World.ownsRow.alloc HO.out _
          have HG : Hid (wr.grownBy (wr.alloc (.cells (mk 16 f) 47)) none) := World.grownBy_alloc _ _ none
          gi_wp2_with ((with_reducible show wpListIn _ _ _ _ _ (Oper.mk _ (Op.load 47 _) _ _ _ _ :: _) _ _); refine loadIn (K1) rfl rfl rfl Try.underlying47 rfl sizeB ?_)
          obtain ⟨b8, hb8⟩ : ∃ b8, b8 = wr.heap.size := ⟨_, rfl⟩
          have HB8 : Hid (b8 = wr.heap.size) := hb8
          have hBl := K1.lt
          have hne1 : B ≠ b8 := by omega
          have hne2 : bC ≠ b8 := by have := CP.lt; omega
          rw [← hb8] at KB ⊢
          clear hb8
          obtain ⟨x0, hx0⟩ : ∃ x0, x0 = wr.alloc (.cells (mk 16 f) 47) := ⟨_, rfl⟩
          have HX0 : Hid (x0 = wr.alloc (.cells (mk 16 f) 47)) := hx0
          rw [← hx0] at KB K1b CPb HOb HG ⊢
          clear hx0
          have a0 := CPb.cell (i := 0) (by omega)
          have a1 := CPb.cell (i := 1) (by omega)
          rw [Nat.add_zero, HE0] at a0
          rw [HE1] at a1
          have a2 := KB.cell (i := r * 4 + c) (by omega)
          have f2 := KB.free (r * 4 + c)
          have hr0 : (0 : Int) ≤ (r : Int) := by omega
          have hr5 : (r : Int) < 4 := by omega
          have hc0 : (0 : Int) ≤ (c : Int) := by omega
          have hc5 : (c : Int) < 4 := by omega
          refine wpIn_wide.2 ?_
          go_region
          all_goals
            have KB2 : Blk (x0.drew.setCell ⟨b8, r * 4 + c, none⟩ (.int .i64 t)) b8 16 (upd f (r * 4 + c) t) 47 := KB.drew.set (i := r * 4 + c) (by omega) t
            have K12 : Blk (x0.drew.setCell ⟨b8, r * 4 + c, none⟩ (.int .i64 t)) B 16 f 47 := K1b.drew.setOther ⟨b8, r * 4 + c, none⟩ (.int .i64 t) hne1
            have CP2 : Blk (x0.drew.setCell ⟨b8, r * 4 + c, none⟩ (.int .i64 t)) bC 2 (fun q => empF f (i * 2 + q)) 42 := CPb.drew.setOther ⟨b8, r * 4 + c, none⟩ (.int .i64 t) hne2
            have HG2 : Hid (wr.grownBy (x0.drew.setCell ⟨b8, r * 4 + c, none⟩ (.int .i64 t)) none) := by
              have e1 : x0.drew.heap.size = x0.heap.size := rfl
              refine ⟨HG.out.os, HG.out.tape, HG.out.output, Nat.le_trans HG.out.size ?_, fun k hk _ => ?_⟩
              · exact (KeepsWalks.setCell x0.drew ⟨b8, r * 4 + c, none⟩ (.int .i64 t)).size
              · exact (Below.heap_setCell x0.drew ⟨b8, r * 4 + c, none⟩ (.int .i64 t) k (by have := HB8.out; dsimp only; omega)).trans (HG.out.block k hk (by simp))
            have HO2 : Hid (OwnsCells (x0.drew.setCell ⟨b8, r * 4 + c, none⟩ (.int .i64 t)) W.heap.size (.slice (some ⟨ge, 0, none⟩) nE ce) nE (empL f 16)) := World.ownsRow.kept HO.out HG2.out (by simp [Value.ownBlock])
            have HJ2 : Hid (J pre2 (x0.drew.setCell ⟨b8, r * 4 + c, none⟩ (.int .i64 t))) := hA _ _ _ HJ.out HG2.out
            have hlen : pre2.length < nE * 2 := by
              have h1 := congrArg List.length HP2.out
              have h2 := tlP_len j t t1 ht
              have h3 := HLN.out pre i HP.out hi
              have h4 : (plN f i).length = i * 2 := by rw [← HP.out, List.length_map]; exact h3
              rw [List.length_map, List.length_append, h4] at h1
              omega
            obtain ⟨fn, tmps, assign, body, hy, hR⟩ := hY pre2 ⟨(j, t), HX.out⟩ _ HJ2.out hlen
            unfold encR at hy
            dsimp only at hy
            have hpa := pl_args f j t
            rw [← HRC.out.1, ← HRC.out.2] at hpa
            rw [← hpa] at hy
            have HR := Lib.hid hR
            clear hR hpa a0 a1 a2 f2 KB K1b CPb HOb HG
            try rw [show (x0.setCell ⟨b8, r * 4 + c, none⟩ (.int .i64 t)).drew = x0.drew.setCell ⟨b8, r * 4 + c, none⟩ (.int .i64 t) from rfl]
            generalize x0.drew.setCell ⟨b8, r * 4 + c, none⟩ (.int .i64 t) = x1 at *
            have a0 := CP2.cell (i := 0) (by omega)
            have a1 := CP2.cell (i := 1) (by omega)
            rw [Nat.add_zero, HE0] at a0
            rw [HE1] at a1
            gi_wp2_with (first | ((with_reducible show wpListIn _ _ _ _ _ (Oper.mk _ (Op.load 47 _) _ _ _ _ :: _) _ _); refine loadIn (KB2) rfl rfl rfl Try.underlying47 rfl sizeB ?_) | ((with_reducible show wpListIn _ _ _ _ _ (Oper.mk _ (Op.build 254 _) _ _ _ _ :: _) _ _); refine wpListIn_exec rfl (fun _ h => by cases h) rfl (exec_buildA (a := (r : Int)) (b := (c : Int)) (c := (t : Int)) _ _ _ rfl rfl rfl rfl) ?_))
            refine HR.out.mono ?_
            rintro e W3 (⟨rfl, hJ3, hk3⟩ | ⟨rfl, hJx3⟩)
            · have HJ3 := Lib.hid hJ3
              have K3 := hk3.blk K12
              have CP3 := hk3.pair CP2
              have HO3 := Lib.hid (hk3.cells HO2.out)
              clear hJ3 hk3 hy HR a0 a1
              gi_wp2
              go_roundw
              case rel => exact ⟨t + 1, pre2 ++ [⟨(j, t), HX.out⟩], by omega, by omega, by go_num, by show _ = _; rw [List.map_append, HP2.out, tlP_step j t t1 ht, List.append_assoc]; rfl, HJ3, K3, HO3, CP3⟩
              case measure => simp [intOf]; omega
            · have HJX := Lib.hid hJx3
              clear hJx3
              gi_wp2
              refine bodyPost_ret (results_none rfl _ _ _) rfl ?_
              exact ⟨⟨_, rfl⟩, .inr ⟨_, HPX.out i j t HJ1.out t1 ht pre2 HP2.out _ rfl, HJX.out⟩⟩
        · obtain rfl : t = 3 := by omega
          gi_wp2
          go_roundw
          case rel => exact ⟨i + 1, pre2, by omega, by go_num, HP2.out.trans (HST.out _ _ HJ1.out).symm, HJ, K1, HO⟩
          case measure => simp [intOf]; omega
    · obtain rfl : i = nE := by omega
      gi_wp2
      go_end0
      exact ⟨⟨_, rfl⟩, .inl ⟨pre, HP.out.trans HPA.out, HJ.out⟩⟩
theorem replies_stops (n B : Nat) (f : Nat → Int) (hn : 1 ≤ n) (hV : Vd f) (w : World) (hB : B < w.heap.size) (h : Blk w B 16 f 47) :
    SeqStopsK Fence.wide n Try.prog 297 #[.pointer (some ⟨B, 0, none⟩)] (encR f) (Keeps2 B) (fun ys => ys.map (·.1) = plA f) (fun pre => ∃ M, plA f = pre.map (·.1) ++ M) (empN f 16 * 2) w := fun l J Jx W hW hA _ hY h0 =>
  replies1_in n l B f hn hV J Jx (fun pre X Y hj hg => hA pre X Y none hj hg (fun r e => by cases e)) hY W (h.below hW hB) h0
theorem replies_enters : ∀ args w, (callFunc 297 args).run Try.prog w = .ok (.enter 297 args) w := enters_of Try.func297 (by kernel_rfl) rfl
end Go.Proofs.Ytblcojacmjbjcab
