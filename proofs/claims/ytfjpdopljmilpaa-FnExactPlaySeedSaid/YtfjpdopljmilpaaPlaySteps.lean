/-
  The contracts of PlaySteps in the reference and in the program, for every board and every list of at most 1048576 steps.
-/
import Derived.Test.YtfjpdopljmilpaaPlayPlain
import Derived.Test.YtfjpdopljmilpaaSpecDo
import Derived.Test.YtfjpdopljmilpaaImplDo
import Derived.Test.YtfjpdopljmilpaaSpecSteps
namespace Go.Proofs.Ytfjpdopljmilpaa
open Go.RowKit Plain
attribute [local go_sem] store_new
set_option linter.unusedVariables false
set_option linter.unusedSimpArgs false

theorem retctttB {fn : Func} {R : Ending → World → Prop} {a : Act} {w : World} {p q r s : Tmp} {t : TypeId} {b : Nat} {f : Nat → Int}
    (hg : Blk w b 16 f t) (h : fn.results = #[.cell p 26, .tmp q, .tmp r, .tmp s]) (hp : a.tmps.getD p undef = .pointer (some ⟨b, 0, none⟩)) (hdf : a.defers = [])
    (hR : R (.returned (.tuple #[.agg (mk 16 f), a.tmps.getD q undef, a.tmps.getD r undef, a.tmps.getD s undef])) w) : bodyPost Try.prog fn R .ret a w := by
  have hp' : a.tmps[p]?.getD undef = .pointer (some ⟨b, 0, none⟩) := by simpa using hp
  exact bodyPost_ret (v := .tuple #[.agg (mk 16 f), a.tmps.getD q undef, a.tmps.getD r undef, a.tmps.getD s undef]) (by simp [results, h, hp', asAddr, run_load_blk hg Try.underlying26 rfl sizeB]) hdf hR
set_option maxHeartbeats 4000000 in
set_option maxRecDepth 20000 in
theorem specPl_any (f : Nat → Int) (v : Value) (n : Nat) (h : Nat → Int) (w : World) (hv : KRow 4 w v n h) (hn : n ≤ 1048576) :
    Calls Try.prog 50 #[.agg (mk 16 f), v] w fun e w' => e = .returned (.tuple #[.agg (mk 16 (pyRB f h n)), .int .i64 (pyRS f h n), .int .i64 (pyRN f h n), .bool (vdO f)]) ∧ Below w.heap.size w w' := by
  have K1 := (Blk.new w 16 f 26).alloc (.cells (mk 16 fun _ => 0) 26)
  have K3 := Blk.new (w.alloc (.cells (mk 16 f) 26)) 16 (fun _ => 0) 26
  have HB := Lib.hid (((Below.refl w.heap.size w).alloc (Nat.le_refl _) (.cells (mk 16 f) 26)).alloc (by simp) (.cells (mk 16 fun _ => 0) 26))
  simp only [World.size_alloc] at K3
  have z16 := zero16
  have z4 := zero4
  obtain ⟨g, cap, rfl, hle, hc⟩ := hv
  have HC := Lib.hid hc
  clear hc
  by_cases hV : Vd f
  · rw [vdO_yes hV]
    have HV0 := Lib.hid (fun k => pyB_vd hV h k)
    have HBD := Lib.hid (fun k => pyS_bd hV h k)
    have HPY := Lib.hid (py_yes (f := f) (h := h) (n := n) hV)
    have HV := Lib.hid hV
    clear hV
    go_enter Try.func50, Try.ntmps50
    go_wp2_with ((with_reducible show wpList _ _ _ (Oper.mk _ (Op.load 26 _) _ _ _ _ :: _) _ _); refine loadB (K1) rfl rfl rfl ?_)
    refine (l2Board_yes _ _ HV.out).mono ?_
    rintro e w1 ⟨rfl, hb⟩
    have K1 := K1.below hb K1.lt
    have K3 := K3.below hb K3.lt
    have HB : Hid (Below w.heap.size w w1) := HB.out.trans (hb.mono HB.out.size)
    clear hb
    go_wp2_with fail
    go_loopg [8, 9] n (fun gk ss si wr => ∃ k : Nat, k + gk = n ∧ si = .int .i64 k ∧ ss = .int .i64 (pyS f h k) ∧ Hid (pyN f h k = k) ∧ Blk wr w.heap.size 16 (pyB f h k) 26 ∧ Blk wr (w.heap.size + 1) 16 (fun _ => 0) 26 ∧ Hid (Below w.heap.size w wr))
    case atStart => exact ⟨0, by omega, rfl, rfl, rfl, K1, K3, HB⟩
    case round =>
      obtain ⟨k, hkg, rfl, rfl, HN, K1, K3, HB⟩ := hrel
      cases gk with
      | zero =>
        have hk : ¬ ((k : Int) < (n : Int)) := by omega
        obtain rfl : k = n := by omega
        clear hkg
        go_wp2_with (first | ((with_reducible show wpList _ _ _ (Oper.mk _ (Op.load 26 _) _ _ _ _ :: _) _ _); refine loadB (K1) rfl rfl rfl ?_) | ((with_reducible show wpList _ _ _ (Oper.mk _ (Op.store 26 _ _) _ _ _ _ :: _) _ _); refine storeB (K3) rfl rfl rfl rfl ?_))
        try simp only [Exit.inBlock, Exit.then]
        refine retctttB (K3.row 16 _) rfl rfl rfl ⟨?_, below_setRow HB.out (by omega) _⟩
        rw [HPY.out.1, HPY.out.2.1, HPY.out.2.2, HN.out]; rfl
      | succ gk2 =>
        have hk8 : (k : Int) < (n : Int) := by omega
        have hk9 : k < n := by omega
        have hk0 : (0 : Int) ≤ (k : Int) := by omega
        have CM : CAt wr g (n * 4) h := CAt.low HC.out HB.out HC.out.1
        have HV := Lib.hid (HV0.out k)
        have hbd := HBD.out k
        generalize hF : pyB f h k = F at *
        generalize hM : pyS f h k = M at *
        have HF : Hid (pyB f h k = F) := hF
        have HM : Hid (pyS f h k = M) := hM
        clear hF hM
        obtain ⟨hbd0, hbd1⟩ := hbd
        have hbd2 : M ≤ 4398046511104 := by omega
        clear hbd1
        go_wp2_with fail
        refine wp_region_held_drew (S := fun W => Blk W w.heap.size 16 F 26 ∧ CAt W g (n * 4) h) (by kernel_rfl) (⟨K1.drew, CM.drew⟩) (fun hHeld => ?_)
        have K1 : Blk wr.drew w.heap.size 16 F 26 := K1.drew
        have CM : CAt wr.drew g (n * 4) h := CM.drew
        have BX : Hid (Below wr.heap.size wr wr.drew) := (Below.refl _ wr).drew
        generalize wr.drew = x0 at *
        refine wpAnyH_take (i := 0) (oi := { dst := some 24, op := _, type := _, pos := _, after := _, guard := _ }) (v := .agg (mk 16 F)) rfl (by kernel_rfl) (by kernel_rfl) (by kernel_rfl) (fun _ _ _ h => h) (Or.inl ⟨by rfl, fun _ q => execB q.1 rfl rfl⟩) (by assumption) ?_
        try simp only [Act.put, List.setIfInBounds_toArray, List.set_cons_zero, List.set_cons_succ]
        refine wpAnyH_take (i := 1) (oi := { dst := some 25, op := _, type := _, pos := _, after := _, guard := _ }) (v := .slice (some ⟨g, 0, none⟩) n cap) rfl (by kernel_rfl) (by kernel_rfl) (by kernel_rfl) (fun _ _ _ h => h) (Or.inl ⟨by rfl, by intro w hSw; clear hSw; go_simp; (try with_reducible rfl)⟩) (by assumption) ?_
        try simp only [Act.put, List.setIfInBounds_toArray, List.set_cons_zero, List.set_cons_succ]
        refine wpAnyH_take (i := 2) (oi := { dst := some 26, op := _, type := _, pos := _, after := _, guard := _ }) (v := .int .i64 (k : Int)) rfl (by kernel_rfl) (by kernel_rfl) (by kernel_rfl) (fun _ _ _ h => h) (Or.inl ⟨by rfl, by intro w hSw; clear hSw; go_simp; (try with_reducible rfl)⟩) (by assumption) ?_
        try simp only [Act.put, List.setIfInBounds_toArray, List.set_cons_zero, List.set_cons_succ]
        refine wpAnyH_take (i := 3) (oi := { dst := some 27, op := _, type := _, pos := _, after := _, guard := _ }) (v := .pointer (some ⟨g, k * 4, none⟩)) rfl (by kernel_rfl) (by kernel_rfl) (by kernel_rfl) (fun _ _ _ h => h) (Or.inl ⟨by rfl, by intro w hSw; clear hSw; go_simp; (try with_reducible rfl)⟩) (by assumption) ?_
        try simp only [Act.put, List.setIfInBounds_toArray, List.set_cons_zero, List.set_cons_succ]
        refine wpAnyH_take (i := 4) (oi := { dst := some 28, op := _, type := _, pos := _, after := _, guard := _ }) (v := .agg (mk 4 fun j => h (k * 4 + j))) rfl (by kernel_rfl) (by kernel_rfl) (by kernel_rfl) (fun _ _ _ h => h) (Or.inl ⟨by rfl, fun _ q => execAT q.2 (by omega) rfl rfl⟩) (by assumption) ?_
        try simp only [Act.put, List.setIfInBounds_toArray, List.set_cons_zero, List.set_cons_succ]
        refine wpAnyH_ready (rs := [5, 10]) (by kernel_rfl) (by simp) ?_
        refine AllReadyH.cons rfl (fun K hK => ?_) ?_
        · go_simp
          refine (l5Do_any F (fun j => h (k * 4 + j)) _ HV.out).mono ?_
          rintro e x1 ⟨rfl, hb⟩
          have CM := CM.below hb
          have K1 := K1.below hb K1.lt
          have BX : Hid (Below wr.heap.size wr x1) := BX.out.trans (hb.mono BX.out.size)
          clear hb hHeld
          go_wp2_with fail
          refine hK.out _ _ ⟨K1, CM⟩ (fun hHeld => ?_)
          clear hK K
          try simp only [Act.put, List.setIfInBounds_toArray, List.set_cons_zero, List.set_cons_succ]
          refine wpAnyH_take (i := 6) (oi := { dst := some 23, op := _, type := _, pos := _, after := _, guard := _ }) (v := .tuple #[.agg (mk 16 (doB F fun j => h (k * 4 + j))), .int .i64 (doS F fun j => h (k * 4 + j)), .bool (doO F fun j => h (k * 4 + j))]) rfl (by kernel_rfl) (by kernel_rfl) (by kernel_rfl) (fun _ _ _ h => h) (Or.inl ⟨by rfl, by intro w hSw; clear hSw; go_simp; (try with_reducible rfl)⟩) (by assumption) ?_
          try simp only [Act.put, List.setIfInBounds_toArray, List.set_cons_zero, List.set_cons_succ]
          refine wpAnyH_take (i := 7) (oi := { dst := some 30, op := _, type := _, pos := _, after := _, guard := _ }) (v := .agg (mk 16 (doB F fun j => h (k * 4 + j)))) rfl (by kernel_rfl) (by kernel_rfl) (by kernel_rfl) (fun _ _ _ h => h) (Or.inl ⟨by rfl, by intro w hSw; clear hSw; go_simp; (try with_reducible rfl)⟩) (by assumption) ?_
          try simp only [Act.put, List.setIfInBounds_toArray, List.set_cons_zero, List.set_cons_succ]
          refine wpAnyH_take (i := 8) (oi := { dst := some 31, op := _, type := _, pos := _, after := _, guard := _ }) (v := .int .i64 (doS F fun j => h (k * 4 + j))) rfl (by kernel_rfl) (by kernel_rfl) (by kernel_rfl) (fun _ _ _ h => h) (Or.inl ⟨by rfl, by intro w hSw; clear hSw; go_simp; (try with_reducible rfl)⟩) (by assumption) ?_
          try simp only [Act.put, List.setIfInBounds_toArray, List.set_cons_zero, List.set_cons_succ]
          refine wpAnyH_take (i := 9) (oi := { dst := some 32, op := _, type := _, pos := _, after := _, guard := _ }) (v := .bool (doO F fun j => h (k * 4 + j))) rfl (by kernel_rfl) (by kernel_rfl) (by kernel_rfl) (fun _ _ _ h => h) (Or.inl ⟨by rfl, by intro w hSw; clear hSw; go_simp; (try with_reducible rfl)⟩) (by assumption) ?_
          try simp only [Act.put, List.setIfInBounds_toArray, List.set_cons_zero, List.set_cons_succ]
          refine wpAnyH_ready (rs := [10]) (by kernel_rfl) (by simp) ?_
          refine AllReadyH.cons rfl (fun K hK => ?_) AllReadyH.nil
          rw [if_pos (by rfl)]
          refine wp_allocX rfl ?_
          have K8 := Blk.new x1 16 (fun _ => 0) 26
          have HB8 : Hid (wr.heap.size ≤ x1.heap.size) := BX.out.size
          have HB9 : Hid (w.heap.size < x1.heap.size ∧ g < x1.heap.size) := ⟨K1.lt, CM.1⟩
          have K1 := K1.alloc (.cells (mk 16 fun _ => 0) 26)
          have CM := CM.alloc (.cells (mk 16 fun _ => 0) 26)
          have BX : Hid (Below wr.heap.size wr (x1.alloc (.cells (mk 16 fun _ => 0) 26))) := BX.out.alloc BX.out.size _
          clear hHeld
          generalize x1.alloc (.cells (mk 16 fun _ => 0) 26) = x2 at *
          generalize x1.heap.size = b8 at *
          refine hK.out _ _ ⟨K1, CM⟩ (fun hHeld => ?_)
          clear hK K
          try simp only [Act.put, List.setIfInBounds_toArray, List.set_cons_zero, List.set_cons_succ]
          refine wpAnyH_ready (rs := [11]) (by kernel_rfl) (by simp) ?_
          refine AllReadyH.cons rfl (fun K hK => ?_) AllReadyH.nil
          have st1 := run_store_blk (P := Try.prog) (g := doB F fun j => h (k * 4 + j)) K8
          have ms1 : (mk 16 (doB F fun j => h (k * 4 + j))).size = 16 := mk_size 16 _
          go_simp
          clear st1 ms1
          have hgr : x2.grownBy (x2.setRow b8 (mk 16 (doB F fun j => h (k * 4 + j)))) (some b8) := grown_row K8 _
          have K1 := K1.rowOther b8 (mk 16 (doB F fun j => h (k * 4 + j))) (by have := HB9.out.1; omega)
          have CM := CM.grown hgr (fun e => by cases e; exact absurd HB9.out.2 (Nat.lt_irrefl _))
          have BX : Hid (Below wr.heap.size wr (x2.setRow b8 (mk 16 (doB F fun j => h (k * 4 + j))))) := below_setRow BX.out HB8.out _
          have K8 := K8.row 16 (doB F fun j => h (k * 4 + j))
          clear hgr hHeld
          generalize x2.setRow b8 (mk 16 (doB F fun j => h (k * 4 + j))) = x3 at *
          refine hK.out _ _ ⟨K1, CM⟩ (fun hHeld => ?_)
          clear hK K
          try simp only [Act.put, List.setIfInBounds_toArray, List.set_cons_zero, List.set_cons_succ]
          refine wpAnyH_take (i := 12) (oi := { dst := some 11, op := _, type := _, pos := _, after := _, guard := _ }) (v := .int .i64 (doS F fun j => h (k * 4 + j))) rfl (by kernel_rfl) (by kernel_rfl) (by kernel_rfl) (fun _ _ _ h => h) (Or.inl ⟨by rfl, by intro w hSw; clear hSw; go_simp; (try with_reducible rfl)⟩) (by assumption) ?_
          try simp only [Act.put, List.setIfInBounds_toArray, List.set_cons_zero, List.set_cons_succ]
          refine wpAnyH_take (i := 13) (oi := { dst := some 12, op := _, type := _, pos := _, after := _, guard := _ }) (v := .bool (doO F fun j => h (k * 4 + j))) rfl (by kernel_rfl) (by kernel_rfl) (by kernel_rfl) (fun _ _ _ h => h) (Or.inl ⟨by rfl, by intro w hSw; clear hSw; go_simp; (try with_reducible rfl)⟩) (by assumption) ?_
          try simp only [Act.put, List.setIfInBounds_toArray, List.set_cons_zero, List.set_cons_succ]
          refine wpAnyH_done (by kernel_rfl) ?_ _
          clear hHeld
          have HB : Hid (Below w.heap.size w x3) := HB.out.trans (BX.out.mono HB.out.size)
          have K3 := K3.below BX.out K3.lt
          have hne : w.heap.size + 1 ≠ w.heap.size := by omega
          clear BX HB8 HB9
          cases hO : doO F fun j => h (k * 4 + j) with
          | true =>
            have HN : Hid (pyN f h (k + 1) = k + 1) := pyN_yes HN.out (by rw [HF.out]; exact hO)
            have HMB : Hid (doB F (fun j => h (k * 4 + j)) = pyB f h (k + 1)) := by show _ = _; rw [← HF.out]; rfl
            have HMS : Hid (M + doS F (fun j => h (k * 4 + j)) = pyS f h (k + 1)) := by show _ = _; rw [← HF.out, ← HM.out]; rfl
            obtain ⟨hsc0, hsc1⟩ := doS_bd HV.out (fun j => h (k * 4 + j))
            generalize doS F (fun j => h (k * 4 + j)) = C at *
            clear hO
            go_wp2_with (first | ((with_reducible show wpList _ _ _ (Oper.mk _ (Op.load 26 _) _ _ _ _ :: _) _ _); refine loadB (K8) rfl rfl rfl ?_) | ((with_reducible show wpList _ _ _ (Oper.mk _ (Op.store 26 _ _) _ _ _ _ :: _) _ _); refine storeB (K1) rfl rfl rfl rfl ?_))
            go_roundg gk2
            case rel => exact ⟨k + 1, by omega, by go_num, by rw [← HMS.out], HN, by rw [← HMB.out]; exact K1.row 16 _, K3.rowOther _ _ hne, below_setRow HB.out (Nat.le_refl _) _⟩
            case measure => omega
          | false =>
            have HE : Hid (pyN f h n = k) := pyN_no HN.out (by rw [HF.out]; exact hO) n (by omega)
            have HY := Lib.hid (HPY.out)
            clear hO
            go_wp2_with (first | ((with_reducible show wpList _ _ _ (Oper.mk _ (Op.load 26 _) _ _ _ _ :: _) _ _); refine loadB (K1) rfl rfl rfl ?_) | ((with_reducible show wpList _ _ _ (Oper.mk _ (Op.store 26 _ _) _ _ _ _ :: _) _ _); refine storeB (K3) rfl rfl rfl rfl ?_))
            try simp only [Exit.inBlock, Exit.then]
            refine retctttB (K3.row 16 _) rfl rfl rfl ⟨?_, below_setRow HB.out (by omega) _⟩
            rw [HY.out.1, HY.out.2.1, HY.out.2.2, HE.out, HF.out, HM.out]; rfl
        refine AllReadyH.cons rfl (fun K hK => ?_) AllReadyH.nil
        rw [if_pos (by rfl)]
        refine wp_allocX rfl ?_
        have K8 := Blk.new x0 16 (fun _ => 0) 26
        have HB8 : Hid (wr.heap.size ≤ x0.heap.size) := BX.out.size
        have HB9 : Hid (w.heap.size < x0.heap.size ∧ g < x0.heap.size) := ⟨K1.lt, CM.1⟩
        have K1 := K1.alloc (.cells (mk 16 fun _ => 0) 26)
        have CM := CM.alloc (.cells (mk 16 fun _ => 0) 26)
        have BX : Hid (Below wr.heap.size wr (x0.alloc (.cells (mk 16 fun _ => 0) 26))) := BX.out.alloc BX.out.size _
        clear hHeld
        generalize x0.alloc (.cells (mk 16 fun _ => 0) 26) = x1 at *
        generalize x0.heap.size = b8 at *
        refine hK.out _ _ ⟨K1, CM⟩ (fun hHeld => ?_)
        clear hK K
        try simp only [Act.put, List.setIfInBounds_toArray, List.set_cons_zero, List.set_cons_succ]
        refine wpAnyH_ready (rs := [5]) (by kernel_rfl) (by simp) ?_
        refine AllReadyH.cons rfl (fun K hK => ?_) AllReadyH.nil
        go_simp
        refine (l5Do_any F (fun j => h (k * 4 + j)) _ HV.out).mono ?_
        rintro e x2 ⟨rfl, hb⟩
        have CM := CM.below hb
        have K1 := K1.below hb K1.lt
        have BX : Hid (Below wr.heap.size wr x2) := BX.out.trans (hb.mono BX.out.size)
        have K8 := K8.below hb K8.lt
        clear hb hHeld
        go_wp2_with fail
        refine hK.out _ _ ⟨K1, CM⟩ (fun hHeld => ?_)
        clear hK K
        try simp only [Act.put, List.setIfInBounds_toArray, List.set_cons_zero, List.set_cons_succ]
        refine wpAnyH_take (i := 6) (oi := { dst := some 23, op := _, type := _, pos := _, after := _, guard := _ }) (v := .tuple #[.agg (mk 16 (doB F fun j => h (k * 4 + j))), .int .i64 (doS F fun j => h (k * 4 + j)), .bool (doO F fun j => h (k * 4 + j))]) rfl (by kernel_rfl) (by kernel_rfl) (by kernel_rfl) (fun _ _ _ h => h) (Or.inl ⟨by rfl, by intro w hSw; clear hSw; go_simp; (try with_reducible rfl)⟩) (by assumption) ?_
        try simp only [Act.put, List.setIfInBounds_toArray, List.set_cons_zero, List.set_cons_succ]
        refine wpAnyH_take (i := 7) (oi := { dst := some 30, op := _, type := _, pos := _, after := _, guard := _ }) (v := .agg (mk 16 (doB F fun j => h (k * 4 + j)))) rfl (by kernel_rfl) (by kernel_rfl) (by kernel_rfl) (fun _ _ _ h => h) (Or.inl ⟨by rfl, by intro w hSw; clear hSw; go_simp; (try with_reducible rfl)⟩) (by assumption) ?_
        try simp only [Act.put, List.setIfInBounds_toArray, List.set_cons_zero, List.set_cons_succ]
        refine wpAnyH_take (i := 8) (oi := { dst := some 31, op := _, type := _, pos := _, after := _, guard := _ }) (v := .int .i64 (doS F fun j => h (k * 4 + j))) rfl (by kernel_rfl) (by kernel_rfl) (by kernel_rfl) (fun _ _ _ h => h) (Or.inl ⟨by rfl, by intro w hSw; clear hSw; go_simp; (try with_reducible rfl)⟩) (by assumption) ?_
        try simp only [Act.put, List.setIfInBounds_toArray, List.set_cons_zero, List.set_cons_succ]
        refine wpAnyH_take (i := 9) (oi := { dst := some 32, op := _, type := _, pos := _, after := _, guard := _ }) (v := .bool (doO F fun j => h (k * 4 + j))) rfl (by kernel_rfl) (by kernel_rfl) (by kernel_rfl) (fun _ _ _ h => h) (Or.inl ⟨by rfl, by intro w hSw; clear hSw; go_simp; (try with_reducible rfl)⟩) (by assumption) ?_
        try simp only [Act.put, List.setIfInBounds_toArray, List.set_cons_zero, List.set_cons_succ]
        refine wpAnyH_ready (rs := [11]) (by kernel_rfl) (by simp) ?_
        refine AllReadyH.cons rfl (fun K hK => ?_) AllReadyH.nil
        have st1 := run_store_blk (P := Try.prog) (g := doB F fun j => h (k * 4 + j)) K8
        have ms1 : (mk 16 (doB F fun j => h (k * 4 + j))).size = 16 := mk_size 16 _
        go_simp
        clear st1 ms1
        have hgr : x2.grownBy (x2.setRow b8 (mk 16 (doB F fun j => h (k * 4 + j)))) (some b8) := grown_row K8 _
        have K1 := K1.rowOther b8 (mk 16 (doB F fun j => h (k * 4 + j))) (by have := HB9.out.1; omega)
        have CM := CM.grown hgr (fun e => by cases e; exact absurd HB9.out.2 (Nat.lt_irrefl _))
        have BX : Hid (Below wr.heap.size wr (x2.setRow b8 (mk 16 (doB F fun j => h (k * 4 + j))))) := below_setRow BX.out HB8.out _
        have K8 := K8.row 16 (doB F fun j => h (k * 4 + j))
        clear hgr hHeld
        generalize x2.setRow b8 (mk 16 (doB F fun j => h (k * 4 + j))) = x3 at *
        refine hK.out _ _ ⟨K1, CM⟩ (fun hHeld => ?_)
        clear hK K
        try simp only [Act.put, List.setIfInBounds_toArray, List.set_cons_zero, List.set_cons_succ]
        refine wpAnyH_take (i := 12) (oi := { dst := some 11, op := _, type := _, pos := _, after := _, guard := _ }) (v := .int .i64 (doS F fun j => h (k * 4 + j))) rfl (by kernel_rfl) (by kernel_rfl) (by kernel_rfl) (fun _ _ _ h => h) (Or.inl ⟨by rfl, by intro w hSw; clear hSw; go_simp; (try with_reducible rfl)⟩) (by assumption) ?_
        try simp only [Act.put, List.setIfInBounds_toArray, List.set_cons_zero, List.set_cons_succ]
        refine wpAnyH_take (i := 13) (oi := { dst := some 12, op := _, type := _, pos := _, after := _, guard := _ }) (v := .bool (doO F fun j => h (k * 4 + j))) rfl (by kernel_rfl) (by kernel_rfl) (by kernel_rfl) (fun _ _ _ h => h) (Or.inl ⟨by rfl, by intro w hSw; clear hSw; go_simp; (try with_reducible rfl)⟩) (by assumption) ?_
        try simp only [Act.put, List.setIfInBounds_toArray, List.set_cons_zero, List.set_cons_succ]
        refine wpAnyH_done (by kernel_rfl) ?_ _
        clear hHeld
        have HB : Hid (Below w.heap.size w x3) := HB.out.trans (BX.out.mono HB.out.size)
        have K3 := K3.below BX.out K3.lt
        have hne : w.heap.size + 1 ≠ w.heap.size := by omega
        clear BX HB8 HB9
        cases hO : doO F fun j => h (k * 4 + j) with
        | true =>
          have HN : Hid (pyN f h (k + 1) = k + 1) := pyN_yes HN.out (by rw [HF.out]; exact hO)
          have HMB : Hid (doB F (fun j => h (k * 4 + j)) = pyB f h (k + 1)) := by show _ = _; rw [← HF.out]; rfl
          have HMS : Hid (M + doS F (fun j => h (k * 4 + j)) = pyS f h (k + 1)) := by show _ = _; rw [← HF.out, ← HM.out]; rfl
          obtain ⟨hsc0, hsc1⟩ := doS_bd HV.out (fun j => h (k * 4 + j))
          generalize doS F (fun j => h (k * 4 + j)) = C at *
          clear hO
          go_wp2_with (first | ((with_reducible show wpList _ _ _ (Oper.mk _ (Op.load 26 _) _ _ _ _ :: _) _ _); refine loadB (K8) rfl rfl rfl ?_) | ((with_reducible show wpList _ _ _ (Oper.mk _ (Op.store 26 _ _) _ _ _ _ :: _) _ _); refine storeB (K1) rfl rfl rfl rfl ?_))
          go_roundg gk2
          case rel => exact ⟨k + 1, by omega, by go_num, by rw [← HMS.out], HN, by rw [← HMB.out]; exact K1.row 16 _, K3.rowOther _ _ hne, below_setRow HB.out (Nat.le_refl _) _⟩
          case measure => omega
        | false =>
          have HE : Hid (pyN f h n = k) := pyN_no HN.out (by rw [HF.out]; exact hO) n (by omega)
          have HY := Lib.hid (HPY.out)
          clear hO
          go_wp2_with (first | ((with_reducible show wpList _ _ _ (Oper.mk _ (Op.load 26 _) _ _ _ _ :: _) _ _); refine loadB (K1) rfl rfl rfl ?_) | ((with_reducible show wpList _ _ _ (Oper.mk _ (Op.store 26 _ _) _ _ _ _ :: _) _ _); refine storeB (K3) rfl rfl rfl rfl ?_))
          try simp only [Exit.inBlock, Exit.then]
          refine retctttB (K3.row 16 _) rfl rfl rfl ⟨?_, below_setRow HB.out (by omega) _⟩
          rw [HY.out.1, HY.out.2.1, HY.out.2.2, HE.out, HF.out, HM.out]; rfl
  · obtain ⟨y1, y2, y3⟩ := py_no (f := f) (h := h) (n := n) hV
    rw [y1, y2, y3, vdO_no hV]
    clear y1 y2 y3
    have HV := Lib.hid hV
    clear hV
    go_enter Try.func50, Try.ntmps50
    go_wp2_with ((with_reducible show wpList _ _ _ (Oper.mk _ (Op.load 26 _) _ _ _ _ :: _) _ _); refine loadB (K1) rfl rfl rfl ?_)
    refine (l2Board_no _ _ HV.out).mono ?_
    rintro e w1 ⟨rfl, hb⟩
    have K3 := K3.below hb K3.lt
    have HB : Hid (Below w.heap.size w w1) := HB.out.trans (hb.mono HB.out.size)
    clear hb K1
    go_wp2_with ((with_reducible show wpList _ _ _ (Oper.mk _ (Op.store 26 _ _) _ _ _ _ :: _) _ _); refine storeB (K3) rfl rfl rfl rfl ?_)
    try simp only [Exit.inBlock, Exit.then]
    exact retctttB (K3.row 16 _) rfl rfl rfl ⟨rfl, below_setRow HB.out (by omega) _⟩
set_option maxHeartbeats 4000000 in
set_option maxRecDepth 20000 in
theorem implPl_any (f : Nat → Int) (v : Value) (n : Nat) (h : Nat → Int) (w : World) (hv : KRow 4 w v n h) (hn : n ≤ 1048576) :
    Calls Try.prog 49 #[.agg (mk 16 f), v] w fun e w' => e = .returned (.tuple #[.agg (mk 16 (pyRB f h n)), .int .i64 (pyRS f h n), .int .i64 (pyRN f h n), .bool (vdO f)]) ∧ Below w.heap.size w w' := by
  have K1 := (Blk.new w 16 f 26).alloc (.cells (mk 16 fun _ => 0) 26)
  have K3 := Blk.new (w.alloc (.cells (mk 16 f) 26)) 16 (fun _ => 0) 26
  have HB := Lib.hid (((Below.refl w.heap.size w).alloc (Nat.le_refl _) (.cells (mk 16 f) 26)).alloc (by simp) (.cells (mk 16 fun _ => 0) 26))
  simp only [World.size_alloc] at K3
  have z16 := zero16
  have z4 := zero4
  obtain ⟨g, cap, rfl, hle, hc⟩ := hv
  have HC := Lib.hid hc
  clear hc
  by_cases hV : Vd f
  · rw [vdO_yes hV]
    have HV0 := Lib.hid (fun k => pyB_vd hV h k)
    have HBD := Lib.hid (fun k => pyS_bd hV h k)
    have HPY := Lib.hid (py_yes (f := f) (h := h) (n := n) hV)
    have HV := Lib.hid hV
    clear hV
    go_enter Try.func49, Try.ntmps49
    go_wp2_with ((with_reducible show wpList _ _ _ (Oper.mk _ (Op.load 26 _) _ _ _ _ :: _) _ _); refine loadB (K1) rfl rfl rfl ?_)
    refine (implBoard_yes _ _ HV.out).mono ?_
    rintro e w1 ⟨rfl, hb⟩
    have K1 := K1.below hb K1.lt
    have K3 := K3.below hb K3.lt
    have HB : Hid (Below w.heap.size w w1) := HB.out.trans (hb.mono HB.out.size)
    clear hb
    go_wp2_with fail
    go_loopg [8, 20] n (fun gk ss si wr => ∃ k : Nat, k + gk = n ∧ si = .int .i64 k ∧ ss = .int .i64 (pyS f h k) ∧ Hid (pyN f h k = k) ∧ Blk wr w.heap.size 16 (pyB f h k) 26 ∧ Blk wr (w.heap.size + 1) 16 (fun _ => 0) 26 ∧ Hid (Below w.heap.size w wr))
    case atStart => exact ⟨0, by omega, rfl, rfl, rfl, K1, K3, HB⟩
    case round =>
      obtain ⟨k, hkg, rfl, rfl, HN, K1, K3, HB⟩ := hrel
      cases gk with
      | zero =>
        have hk : ¬ ((k : Int) < (n : Int)) := by omega
        obtain rfl : k = n := by omega
        clear hkg
        go_wp2_with (first | ((with_reducible show wpList _ _ _ (Oper.mk _ (Op.load 26 _) _ _ _ _ :: _) _ _); refine loadB (K1) rfl rfl rfl ?_) | ((with_reducible show wpList _ _ _ (Oper.mk _ (Op.store 26 _ _) _ _ _ _ :: _) _ _); refine storeB (K3) rfl rfl rfl rfl ?_))
        try simp only [Exit.inBlock, Exit.then]
        refine retctttB (K3.row 16 _) rfl rfl rfl ⟨?_, below_setRow HB.out (by omega) _⟩
        rw [HPY.out.1, HPY.out.2.1, HPY.out.2.2, HN.out]; rfl
      | succ gk2 =>
        have hk8 : (k : Int) < (n : Int) := by omega
        have hk9 : k < n := by omega
        have hk0 : (0 : Int) ≤ (k : Int) := by omega
        have CM : CAt wr g (n * 4) h := CAt.low HC.out HB.out HC.out.1
        have HV := Lib.hid (HV0.out k)
        have hbd := HBD.out k
        generalize hF : pyB f h k = F at *
        generalize hM : pyS f h k = M at *
        have HF : Hid (pyB f h k = F) := hF
        have HM : Hid (pyS f h k = M) := hM
        clear hF hM
        obtain ⟨hbd0, hbd1⟩ := hbd
        have hbd2 : M ≤ 4398046511104 := by omega
        clear hbd1
        have K1a := K1.alloc (.cells (mk 4 (stAt h k)) 52)
        have K10 := Blk.new wr 4 (stAt h k) 52
        have HDO := Lib.hid (implDo_any F (stAt h k))
        rw [(doR_yes HV.out).1, (doR_yes HV.out).2.1, (doR_yes HV.out).2.2] at HDO
        go_wp2_with (first | ((with_reducible show wpList _ _ _ (Oper.mk _ (Op.load 52 _) _ _ _ _ :: _) _ _); refine loadAT (CM) (by omega) rfl rfl rfl ?_) | ((with_reducible show wpList _ _ _ (Oper.mk _ (Op.load 26 _) _ _ _ _ :: _) _ _); refine loadB (K1a) rfl rfl rfl ?_) | ((with_reducible show wpList _ _ _ (Oper.mk _ (Op.load 52 _) _ _ _ _ :: _) _ _); refine loadT (K10) rfl rfl rfl ?_))
        refine (HDO.out _).mono ?_
        clear HDO
        rintro e w3 ⟨rfl, hb⟩
        have K1 := (K1a.below hb K1a.lt).alloc (.cells (mk 16 (doB F (stAt h k))) 26)
        have K3 := ((K3.alloc (.cells (mk 4 (stAt h k)) 52)).below hb (K3.alloc _).lt).alloc (.cells (mk 16 (doB F (stAt h k))) 26)
        have K8 := Blk.new w3 16 (doB F (stAt h k)) 26
        have HB := HB.out.alloc HB.out.size (.cells (mk 4 (stAt h k)) 52)
        have HB := HB.trans (hb.mono HB.size)
        have HB : Hid (Below w.heap.size w (w3.alloc (.cells (mk 16 (doB F (stAt h k))) 26))) := HB.alloc HB.size _
        have hne : w.heap.size + 1 ≠ w.heap.size := by omega
        clear hb K1a K10 CM
        cases hO : doO F (stAt h k) with
        | true =>
          have HN : Hid (pyN f h (k + 1) = k + 1) := pyN_yes HN.out (by rw [HF.out]; exact hO)
          have HMB : Hid (doB F (stAt h k) = pyB f h (k + 1)) := by show _ = _; rw [← HF.out]; rfl
          have HMS : Hid (M + doS F (stAt h k) = pyS f h (k + 1)) := by show _ = _; rw [← HF.out, ← HM.out]; rfl
          obtain ⟨hsc0, hsc1⟩ := doS_bd HV.out (stAt h k)
          generalize doS F (stAt h k) = C at *
          clear hO
          go_wp2_with (first | ((with_reducible show wpList _ _ _ (Oper.mk _ (Op.load 26 _) _ _ _ _ :: _) _ _); refine loadB (K8) rfl rfl rfl ?_) | ((with_reducible show wpList _ _ _ (Oper.mk _ (Op.store 26 _ _) _ _ _ _ :: _) _ _); refine storeB (K1) rfl rfl rfl rfl ?_))
          go_roundg gk2
          case rel => exact ⟨k + 1, by omega, by go_num, by rw [← HMS.out], HN, by rw [← HMB.out]; exact K1.row 16 _, K3.rowOther _ _ hne, below_setRow HB.out (Nat.le_refl _) _⟩
          case measure => omega
        | false =>
          have HE : Hid (pyN f h n = k) := pyN_no HN.out (by rw [HF.out]; exact hO) n (by omega)
          clear hO
          go_wp2_with (first | ((with_reducible show wpList _ _ _ (Oper.mk _ (Op.load 26 _) _ _ _ _ :: _) _ _); refine loadB (K1) rfl rfl rfl ?_) | ((with_reducible show wpList _ _ _ (Oper.mk _ (Op.store 26 _ _) _ _ _ _ :: _) _ _); refine storeB (K3) rfl rfl rfl rfl ?_))
          try simp only [Exit.inBlock, Exit.then]
          refine retctttB (K3.row 16 _) rfl rfl rfl ⟨?_, below_setRow HB.out (by omega) _⟩
          rw [HPY.out.1, HPY.out.2.1, HPY.out.2.2, HE.out, HF.out, HM.out]; rfl
  · obtain ⟨y1, y2, y3⟩ := py_no (f := f) (h := h) (n := n) hV
    rw [y1, y2, y3, vdO_no hV]
    clear y1 y2 y3
    have HV := Lib.hid hV
    clear hV
    go_enter Try.func49, Try.ntmps49
    go_wp2_with ((with_reducible show wpList _ _ _ (Oper.mk _ (Op.load 26 _) _ _ _ _ :: _) _ _); refine loadB (K1) rfl rfl rfl ?_)
    refine (implBoard_no _ _ HV.out).mono ?_
    rintro e w1 ⟨rfl, hb⟩
    have K3 := K3.below hb K3.lt
    have HB : Hid (Below w.heap.size w w1) := HB.out.trans (hb.mono HB.out.size)
    clear hb K1
    go_wp2_with ((with_reducible show wpList _ _ _ (Oper.mk _ (Op.store 26 _ _) _ _ _ _ :: _) _ _); refine storeB (K3) rfl rfl rfl rfl ?_)
    try simp only [Exit.inBlock, Exit.then]
    exact retctttB (K3.row 16 _) rfl rfl rfl ⟨rfl, below_setRow HB.out (by omega) _⟩
end Go.Proofs.Ytfjpdopljmilpaa
