/-
  The contracts of PlaySteps in the reference and in the program, for every board and every list of at most 1048576 steps.
-/
import Derived.Test.YtekdodlkimgbhaaPlayPlain
import Derived.Test.YtekdodlkimgbhaaSpecDo
import Derived.Test.YtekdodlkimgbhaaImplDo
import Derived.Test.YtekdodlkimgbhaaSpecSteps
namespace Go.Proofs.Ytekdodlkimgbhaa
open Go.RowKit Plain
attribute [local go_sem] store_new
set_option linter.unusedVariables false
set_option linter.unusedSimpArgs false

theorem retctttB {fn : Func} {R : Ending → World → Prop} {a : Act} {w : World} {p q r s : Tmp} {t : TypeId} {b : Nat} {f : Nat → Int}
    (hg : Blk w b 16 f t) (h : fn.results = #[.cell p 31, .tmp q, .tmp r, .tmp s]) (hp : a.tmps.getD p undef = .pointer (some ⟨b, 0, none⟩)) (hdf : a.defers = [])
    (hR : R (.returned (.tuple #[.agg (mk 16 f), a.tmps.getD q undef, a.tmps.getD r undef, a.tmps.getD s undef])) w) : bodyPost Try.prog fn R .ret a w := by
  have hp' : a.tmps[p]?.getD undef = .pointer (some ⟨b, 0, none⟩) := by simpa using hp
  exact bodyPost_ret (v := .tuple #[.agg (mk 16 f), a.tmps.getD q undef, a.tmps.getD r undef, a.tmps.getD s undef]) (by simp [results, h, hp', asAddr, run_load_blk hg Try.underlying31 rfl sizeB]) hdf hR
set_option maxHeartbeats 4000000 in
set_option maxRecDepth 20000 in
theorem implPl_any (f : Nat → Int) (v : Value) (n : Nat) (h : Nat → Int) (w : World) (hv : KRow 4 w v n h) (hn : n ≤ 1048576) :
    Calls Try.prog 50 #[.agg (mk 16 f), v] w fun e w' => e = .returned (.tuple #[.agg (mk 16 (pyRB f h n)), .int .i64 (pyRS f h n), .int .i64 (pyRN f h n), .bool (vdO f)]) ∧ Below w.heap.size w w' := by
  have K1 := (Blk.new w 16 f 31).alloc (.cells (mk 16 fun _ => 0) 31)
  have K3 := Blk.new (w.alloc (.cells (mk 16 f) 31)) 16 (fun _ => 0) 31
  have HB := Lib.hid (((Below.refl w.heap.size w).alloc (Nat.le_refl _) (.cells (mk 16 f) 31)).alloc (by simp) (.cells (mk 16 fun _ => 0) 31))
  simp only [World.size_alloc] at K3
  have z16 := zero16
  have z4 := zero4
  obtain ⟨g, cap, rfl, hle, hc⟩ := hv
  have HC := Lib.hid hc
  clear hc
  by_cases hV : Vd f
  · rw [vdO_yes hV]
    have HV0 := Lib.hid (fun k => pyB_vd hV h k)
    have HBD := Lib.hid (fun k => pyS_bd hV h k)
    have HPY := Lib.hid (py_yes (f := f) (h := h) (n := n) hV)
    have HV := Lib.hid hV
    clear hV
    go_enter Try.func50, Try.ntmps50
    go_wp2_with ((with_reducible show wpList _ _ _ (Oper.mk _ (Op.load 31 _) _ _ _ _ :: _) _ _); refine loadB (K1) rfl rfl rfl ?_)
    refine (implBoard_yes _ _ HV.out).mono ?_
    rintro e w1 ⟨rfl, hb⟩
    have K1 := K1.below hb K1.lt
    have K3 := K3.below hb K3.lt
    have HB : Hid (Below w.heap.size w w1) := HB.out.trans (hb.mono HB.out.size)
    clear hb
    go_wp2_with fail
    go_loopg [8, 20] n (fun gk ss si wr => ∃ k : Nat, k + gk = n ∧ si = .int .i64 k ∧ ss = .int .i64 (pyS f h k) ∧ Hid (pyN f h k = k) ∧ Blk wr w.heap.size 16 (pyB f h k) 31 ∧ Blk wr (w.heap.size + 1) 16 (fun _ => 0) 31 ∧ Hid (Below w.heap.size w wr))
    case atStart => exact ⟨0, by omega, rfl, rfl, rfl, K1, K3, HB⟩
    case round =>
      obtain ⟨k, hkg, rfl, rfl, HN, K1, K3, HB⟩ := hrel
      cases gk with
      | zero =>
        have hk : ¬ ((k : Int) < (n : Int)) := by omega
        obtain rfl : k = n := by omega
        clear hkg
        go_wp2_with (first | ((with_reducible show wpList _ _ _ (Oper.mk _ (Op.load 31 _) _ _ _ _ :: _) _ _); refine loadB (K1) rfl rfl rfl ?_) | ((with_reducible show wpList _ _ _ (Oper.mk _ (Op.store 31 _ _) _ _ _ _ :: _) _ _); refine storeB (K3) rfl rfl rfl rfl ?_))
        try simp only [Exit.inBlock, Exit.then]
        refine retctttB (K3.row 16 _) rfl rfl rfl ⟨?_, below_setRow HB.out (by omega) _⟩
        rw [HPY.out.1, HPY.out.2.1, HPY.out.2.2, HN.out]; rfl
      | succ gk2 =>
        have hk8 : (k : Int) < (n : Int) := by omega
        have hk9 : k < n := by omega
        have hk0 : (0 : Int) ≤ (k : Int) := by omega
        have CM : CAt wr g (n * 4) h := CAt.low HC.out HB.out HC.out.1
        have HV := Lib.hid (HV0.out k)
        have hbd := HBD.out k
        generalize hF : pyB f h k = F at *
        generalize hM : pyS f h k = M at *
        have HF : Hid (pyB f h k = F) := hF
        have HM : Hid (pyS f h k = M) := hM
        clear hF hM
        obtain ⟨hbd0, hbd1⟩ := hbd
        have hbd2 : M ≤ 4398046511104 := by omega
        clear hbd1
        have K1a := K1.alloc (.cells (mk 4 (stAt h k)) 49)
        have K10 := Blk.new wr 4 (stAt h k) 49
        have HDO := Lib.hid (implDo_any F (stAt h k))
        rw [(doR_yes HV.out).1, (doR_yes HV.out).2.1, (doR_yes HV.out).2.2] at HDO
        go_wp2_with (first | ((with_reducible show wpList _ _ _ (Oper.mk _ (Op.load 49 _) _ _ _ _ :: _) _ _); refine loadAT (CM) (by omega) rfl rfl rfl ?_) | ((with_reducible show wpList _ _ _ (Oper.mk _ (Op.load 31 _) _ _ _ _ :: _) _ _); refine loadB (K1a) rfl rfl rfl ?_) | ((with_reducible show wpList _ _ _ (Oper.mk _ (Op.load 49 _) _ _ _ _ :: _) _ _); refine loadT (K10) rfl rfl rfl ?_))
        refine (HDO.out _).mono ?_
        clear HDO
        rintro e w3 ⟨rfl, hb⟩
        have K1 := (K1a.below hb K1a.lt).alloc (.cells (mk 16 (doB F (stAt h k))) 31)
        have K3 := ((K3.alloc (.cells (mk 4 (stAt h k)) 49)).below hb (K3.alloc _).lt).alloc (.cells (mk 16 (doB F (stAt h k))) 31)
        have K8 := Blk.new w3 16 (doB F (stAt h k)) 31
        have HB := HB.out.alloc HB.out.size (.cells (mk 4 (stAt h k)) 49)
        have HB := HB.trans (hb.mono HB.size)
        have HB : Hid (Below w.heap.size w (w3.alloc (.cells (mk 16 (doB F (stAt h k))) 31))) := HB.alloc HB.size _
        have hne : w.heap.size + 1 ≠ w.heap.size := by omega
        clear hb K1a K10 CM
        cases hO : doO F (stAt h k) with
        | true =>
          have HN : Hid (pyN f h (k + 1) = k + 1) := pyN_yes HN.out (by rw [HF.out]; exact hO)
          have HMB : Hid (doB F (stAt h k) = pyB f h (k + 1)) := by show _ = _; rw [← HF.out]; rfl
          have HMS : Hid (M + doS F (stAt h k) = pyS f h (k + 1)) := by show _ = _; rw [← HF.out, ← HM.out]; rfl
          obtain ⟨hsc0, hsc1⟩ := doS_bd HV.out (stAt h k)
          generalize doS F (stAt h k) = C at *
          clear hO
          go_wp2_with (first | ((with_reducible show wpList _ _ _ (Oper.mk _ (Op.load 31 _) _ _ _ _ :: _) _ _); refine loadB (K8) rfl rfl rfl ?_) | ((with_reducible show wpList _ _ _ (Oper.mk _ (Op.store 31 _ _) _ _ _ _ :: _) _ _); refine storeB (K1) rfl rfl rfl rfl ?_))
          go_roundg gk2
          case rel => exact ⟨k + 1, by omega, by go_num, by rw [← HMS.out], HN, by rw [← HMB.out]; exact K1.row 16 _, K3.rowOther _ _ hne, below_setRow HB.out (Nat.le_refl _) _⟩
          case measure => omega
        | false =>
          have HE : Hid (pyN f h n = k) := pyN_no HN.out (by rw [HF.out]; exact hO) n (by omega)
          clear hO
          go_wp2_with (first | ((with_reducible show wpList _ _ _ (Oper.mk _ (Op.load 31 _) _ _ _ _ :: _) _ _); refine loadB (K1) rfl rfl rfl ?_) | ((with_reducible show wpList _ _ _ (Oper.mk _ (Op.store 31 _ _) _ _ _ _ :: _) _ _); refine storeB (K3) rfl rfl rfl rfl ?_))
          try simp only [Exit.inBlock, Exit.then]
          refine retctttB (K3.row 16 _) rfl rfl rfl ⟨?_, below_setRow HB.out (by omega) _⟩
          rw [HPY.out.1, HPY.out.2.1, HPY.out.2.2, HE.out, HF.out, HM.out]; rfl
  · obtain ⟨y1, y2, y3⟩ := py_no (f := f) (h := h) (n := n) hV
    rw [y1, y2, y3, vdO_no hV]
    clear y1 y2 y3
    have HV := Lib.hid hV
    clear hV
    go_enter Try.func50, Try.ntmps50
    go_wp2_with ((with_reducible show wpList _ _ _ (Oper.mk _ (Op.load 31 _) _ _ _ _ :: _) _ _); refine loadB (K1) rfl rfl rfl ?_)
    refine (implBoard_no _ _ HV.out).mono ?_
    rintro e w1 ⟨rfl, hb⟩
    have K3 := K3.below hb K3.lt
    have HB : Hid (Below w.heap.size w w1) := HB.out.trans (hb.mono HB.out.size)
    clear hb K1
    go_wp2_with ((with_reducible show wpList _ _ _ (Oper.mk _ (Op.store 31 _ _) _ _ _ _ :: _) _ _); refine storeB (K3) rfl rfl rfl rfl ?_)
    try simp only [Exit.inBlock, Exit.then]
    exact retctttB (K3.row 16 _) rfl rfl rfl ⟨rfl, below_setRow HB.out (by omega) _⟩
end Go.Proofs.Ytekdodlkimgbhaa
