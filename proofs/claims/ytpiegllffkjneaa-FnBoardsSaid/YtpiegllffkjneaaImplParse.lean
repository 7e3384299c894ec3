/-
  The contract of ParseBoard in the program, for every text.
-/
import Derived.Test.YtpiegllffkjneaaParse
namespace Go.Proofs.Ytpiegllffkjneaa
open Go.RowKit Plain
attribute [local go_sem] store_new
set_option linter.unusedSimpArgs false
theorem num_step (s : ByteArray) {r c : Nat} (hc : c < 4) (j : Nat) : upd (upto (numF s) (r * 4 + c)) (r * 4 + c) (numN (byt s (r * 5 + c))) j = upto (numF s) (r * 4 + (c + 1)) j := by
  have : numN (byt s (r * 5 + c)) = numF s (r * 4 + c) := by
    unfold numF plT
    rw [show (r * 4 + c) / 4 * 5 + (r * 4 + c) % 4 = r * 5 + c by omega]
  rw [this]
  exact upto_step _ _ j
theorem toList_same (a : ByteArray) : (a.toList == a.toList) = true := by simp
set_option maxHeartbeats 4000000 in
set_option maxRecDepth 20000 in
theorem implParse_any (s : ByteArray) (w : World) :
    Calls Try.prog 55 #[.string s] w fun e w' => e = .returned (.tuple #[.agg (mk 16 (parR s)), .bool (parO s)]) ∧ Below w.heap.size w w' := by
  have z16 := zero16
  have sr := World.setRow_alloc_new
  have K2 := Blk.new w 16 (fun _ => 0) 27
  have HB := Lib.hid ((Below.refl w.heap.size w).alloc (Nat.le_refl _) (.cells (mk 16 fun _ => 0) 27))
  by_cases hz : s.size = 19
  · have hz2 : ((s.size : Int) == 19) = true := by simp [hz]
    have HZ := Lib.hid hz
    have K4 := Blk.new (w.alloc (.cells (mk 16 fun _ => 0) 27)) 16 (fun _ => 0) 27
    have K2 := K2.alloc (.cells (mk 16 fun _ => 0) 27)
    have HB := Lib.hid (HB.out.alloc (by simp) (.cells (mk 16 fun _ => 0) 27))
    simp only [World.size_alloc] at K4
    go_enter Try.func55, Try.ntmps55
    go_wp2_with fail
    generalize (w.alloc (.cells (mk 16 fun _ => 0) 27)).alloc (.cells (mk 16 fun _ => 0) 27) = w1 at *
    clear sr
    go_loopg [14] 4 (fun g s14 wr => ∃ r : Nat, r + g = 4 ∧ s14 = .int .i64 r ∧ Blk wr w.heap.size 16 (fun _ => 0) 27 ∧ Blk wr (w.heap.size + 1) 16 (upto (numF s) (r * 4)) 27 ∧ Hid (Below w.heap.size w wr))
    case atStart => exact ⟨0, by omega, rfl, K2, K4.congr fun j _ => (upto_zero _ j).symm, HB⟩
    case round =>
      obtain ⟨r, hrg, rfl, k2, k4, hb⟩ := hrel
      clear K2 K4 HB
      cases gk with
      | zero =>
        have hr : ¬ ((r : Int) < 4) := by omega
        obtain rfl : r = 4 := by omega
        clear hrg hr
        have k4 := k4.congr (g := numF s) fun j hj => upto_all (show j < 4 * 4 from hj)
        go_wp2_with ((with_reducible show wpList _ _ _ (Oper.mk _ (Op.load 27 _) _ _ _ _ :: _) _ _); refine loadB (k4) rfl rfl rfl ?_)
        refine (implText_any (numF s) _).mono ?_
        rintro e w2 ⟨rfl, hb2⟩
        have k2 := k2.below hb2 k2.lt
        have k4 := k4.below hb2 k4.lt
        have hb : Hid (Below w.heap.size w w2) := hb.out.trans (hb2.mono hb.out.size)
        clear hb2
        by_cases hV : Vd (numF s)
        · by_cases ht : tbs (textL (numF s)) = s
          · have hp : ParOk s := num_ok.2 ⟨HZ.out, hV, ht⟩
            obtain ⟨y1, y2⟩ := par_yes hp
            have Y1 := Lib.hid y1
            have Y2 := Lib.hid y2
            have HN := Lib.hid (num_par hp)
            rw [textR_yes hV, vdO_yes hV, ht]
            clear y1 y2 hp hV ht
            have tl := toList_same s
            go_wp2_with (first | ((with_reducible show wpList _ _ _ (Oper.mk _ (Op.load 27 _) _ _ _ _ :: _) _ _); refine loadB (k4) rfl rfl rfl ?_) | ((with_reducible show wpList _ _ _ (Oper.mk _ (Op.store 27 _ _) _ _ _ _ :: _) _ _); refine storeB (k2) rfl rfl rfl rfl ?_))
            try simp only [Exit.inBlock, Exit.then]
            refine retctB (k2.row 16 _) rfl rfl rfl ⟨?_, below_setRow hb.out (by omega) _⟩
            rw [Y1.out, Y2.out, mk_congr HN.out]
            rfl
          · obtain ⟨y1, y2⟩ := par_no (s := s) (fun h => ht (num_ok.1 h).2.2)
            have Y1 := Lib.hid y1
            have Y2 := Lib.hid y2
            rw [textR_yes hV, vdO_yes hV]
            have tl := toList_ne ht
            generalize tbs (textL (numF s)) = T at *
            clear y1 y2 hV ht
            go_wp2_with ((with_reducible show wpList _ _ _ (Oper.mk _ (Op.store 27 _ _) _ _ _ _ :: _) _ _); refine storeB (k2) rfl rfl rfl rfl ?_)
            try simp only [Exit.inBlock, Exit.then]
            exact retctB (k2.row 16 _) rfl rfl rfl ⟨by rw [Y1.out, Y2.out]; rfl, below_setRow hb.out (by omega) _⟩
        · obtain ⟨y1, y2⟩ := par_no (s := s) (fun h => hV (num_ok.1 h).2.1)
          have Y1 := Lib.hid y1
          have Y2 := Lib.hid y2
          rw [textR_no hV, vdO_no hV]
          clear y1 y2 hV
          go_wp2_with ((with_reducible show wpList _ _ _ (Oper.mk _ (Op.store 27 _ _) _ _ _ _ :: _) _ _); refine storeB (k2) rfl rfl rfl rfl ?_)
          try simp only [Exit.inBlock, Exit.then]
          exact retctB (k2.row 16 _) rfl rfl rfl ⟨by rw [Y1.out, Y2.out]; rfl, below_setRow hb.out (by omega) _⟩
      | succ g =>
        have hr4 : (r : Int) < 4 := by omega
        have hr5 : r < 4 := by omega
        have hr0 : (0 : Int) ≤ (r : Int) := by omega
        go_wp2_with fail
        go_loopg [17] 4 (fun h s17 wx => ∃ c : Nat, c + h = 4 ∧ s17 = .int .i64 c ∧ Blk wx w.heap.size 16 (fun _ => 0) 27 ∧ Blk wx (w.heap.size + 1) 16 (upto (numF s) (r * 4 + c)) 27 ∧ Hid (Below w.heap.size w wx))
        case atStart => exact ⟨0, by omega, rfl, k2, k4, hb⟩
        case round =>
          obtain ⟨c, hch, rfl, k2, k4, hb⟩ := hrel
          cases gk with
          | zero =>
            have hc : ¬ ((c : Int) < 4) := by omega
            obtain rfl : c = 4 := by omega
            clear hch
            go_wp2_with fail
            go_roundg g
            case rel => exact ⟨r + 1, by omega, by go_num, k2, (by rw [Nat.add_mul, Nat.one_mul]; exact k4), hb⟩
            case measure => omega
          | succ h =>
          have hc : (c : Int) < 4 := by omega
          have hc5 : c < 4 := by omega
          have hc0 : (0 : Int) ≤ (c : Int) := by omega
          have iB := run_byt s (r * 5 + c) (by have := HZ.out; omega)
          have HST := Lib.hid (num_step s (r := r) hc5)
          generalize byt s (r * 5 + c) = x at *
          obtain ⟨a, ha⟩ : ∃ a, a = r * 5 := ⟨_, rfl⟩
          obtain ⟨k, hk⟩ : ∃ k, k = r * 5 + c := ⟨_, rfl⟩
          have e5 : IntKind.i64.wrap ((r : Int) * 5) = (a : Int) := by rw [IntWalk.i64_in _ (by omega)]; omega
          have e6 : IntKind.i64.wrap ((a : Int) + (c : Int)) = (k : Int) := by rw [IntWalk.i64_in _ (by omega)]; omega
          rw [← hk] at iB
          clear hk ha
          have c4 := k4.drew.cell (i := r * 4 + c) (by omega)
          have f4 := k4.drew.free (r * 4 + c)
          have S0 : w.heap.size + 1 < wr.drew.heap.size ∧ Below w.heap.size w wr.drew := ⟨k4.drew.lt, hb.out.drew⟩
          go_wp2_with fail
          refine wp_region_held_drew (S := fun w' => w.heap.size + 1 < w'.heap.size ∧ Below w.heap.size w w') (by kernel_rfl) S0 (fun hHeld => ?_)
          clear S0
          refine wpAnyH_take (i := 0) (oi := { dst := some 20, op := _, type := _, pos := _, after := _, guard := _ }) (v := ?v0) rfl (by kernel_rfl) (by kernel_rfl) (by kernel_rfl) (fun _ _ _ h => h) (Or.inl ⟨by rfl, ?hy0⟩) (by assumption) ?rest0
          case hy0 => (intro w hSw; (try dsimp only at hSw); go_simp; (try with_reducible rfl))
          try simp only [Act.put, List.setIfInBounds_toArray, List.set_cons_zero, List.set_cons_succ]
          refine wpAnyH_take (i := 1) (oi := { dst := some 21, op := _, type := _, pos := _, after := _, guard := _ }) (v := ?v1) rfl (by kernel_rfl) (by kernel_rfl) (by kernel_rfl) (fun _ _ _ h => h) (Or.inl ⟨by rfl, ?hy1⟩) (by assumption) ?rest1
          case hy1 => (intro w hSw; (try dsimp only at hSw); go_simp; (try with_reducible rfl))
          try simp only [Act.put, List.setIfInBounds_toArray, List.set_cons_zero, List.set_cons_succ]
          refine wpAnyH_take (i := 2) (oi := { dst := some 22, op := _, type := _, pos := _, after := _, guard := _ }) (v := ?v2) rfl (by kernel_rfl) (by kernel_rfl) (by kernel_rfl) (fun _ _ _ h => h) (Or.inl ⟨by rfl, ?hy2⟩) (by assumption) ?rest2
          case hy2 => (intro w hSw; (try dsimp only at hSw); go_simp; (try with_reducible rfl))
          try simp only [Act.put, List.setIfInBounds_toArray, List.set_cons_zero, List.set_cons_succ]
          refine wpAnyH_take (i := 3) (oi := { dst := some 23, op := _, type := _, pos := _, after := _, guard := _ }) (v := ?v3) rfl (by kernel_rfl) (by kernel_rfl) (by kernel_rfl) (fun _ _ _ h => h) (Or.inl ⟨by rfl, ?hy3⟩) (by assumption) ?rest3
          case hy3 => (intro w hSw; (try dsimp only at hSw); go_simp; (try with_reducible rfl))
          try simp only [Act.put, List.setIfInBounds_toArray, List.set_cons_zero, List.set_cons_succ]
          refine wpAnyH_take (i := 4) (oi := { dst := some 24, op := _, type := _, pos := _, after := _, guard := _ }) (v := ?v4) rfl (by kernel_rfl) (by kernel_rfl) (by kernel_rfl) (fun _ _ _ h => h) (Or.inl ⟨by rfl, ?hy4⟩) (by assumption) ?rest4
          case hy4 => (intro w hSw; (try dsimp only at hSw); go_simp; (try with_reducible rfl))
          try simp only [Act.put, List.setIfInBounds_toArray, List.set_cons_zero, List.set_cons_succ]
          refine wpAnyH_take (i := 5) (oi := { dst := some 25, op := _, type := _, pos := _, after := _, guard := _ }) (v := ?v5) rfl (by kernel_rfl) (by kernel_rfl) (by kernel_rfl) (fun _ _ _ h => h) (Or.inl ⟨by rfl, ?hy5⟩) (by assumption) ?rest5
          case hy5 => (intro w hSw; (try dsimp only at hSw); go_simp; (try with_reducible rfl))
          try simp only [Act.put, List.setIfInBounds_toArray, List.set_cons_zero, List.set_cons_succ]
          refine wpAnyH_take (i := 6) (oi := { dst := some 26, op := _, type := _, pos := _, after := _, guard := _ }) (v := ?v6) rfl (by kernel_rfl) (by kernel_rfl) (by kernel_rfl) (fun _ _ _ h => h) (Or.inl ⟨by rfl, ?hy6⟩) (by assumption) ?rest6
          case hy6 => (intro w hSw; (try dsimp only at hSw); go_simp; (try with_reducible rfl))
          try simp only [Act.put, List.setIfInBounds_toArray, List.set_cons_zero, List.set_cons_succ]
          refine wpAnyH_take (i := 7) (oi := { dst := some 27, op := _, type := _, pos := _, after := _, guard := _ }) (v := ?v7) rfl (by kernel_rfl) (by kernel_rfl) (by kernel_rfl) (fun _ _ _ h => h) (Or.inl ⟨by rfl, ?hy7⟩) (by assumption) ?rest7
          case hy7 => (intro w hSw; (try dsimp only at hSw); go_simp; (try with_reducible rfl))
          try simp only [Act.put, List.setIfInBounds_toArray, List.set_cons_zero, List.set_cons_succ]
          refine wpAnyH_take (i := 9) (oi := { dst := some 29, op := _, type := _, pos := _, after := _, guard := _ }) (v := ?v9) rfl (by kernel_rfl) (by kernel_rfl) (by kernel_rfl) (fun _ _ _ h => h) (Or.inl ⟨by rfl, ?hy9⟩) (by assumption) ?rest9
          case hy9 => (intro w hSw; (try dsimp only at hSw); go_simp; (try with_reducible rfl))
          try simp only [Act.put, List.setIfInBounds_toArray, List.set_cons_zero, List.set_cons_succ]
          refine wpAnyH_take (i := 10) (oi := { dst := some 30, op := _, type := _, pos := _, after := _, guard := _ }) (v := ?v10) rfl (by kernel_rfl) (by kernel_rfl) (by kernel_rfl) (fun _ _ _ h => h) (Or.inl ⟨by rfl, ?hy10⟩) (by assumption) ?rest10
          case hy10 => (intro w hSw; (try dsimp only at hSw); go_simp; (try with_reducible rfl))
          try simp only [Act.put, List.setIfInBounds_toArray, List.set_cons_zero, List.set_cons_succ]
          refine wpAnyH_ready (rs := [8]) (by kernel_rfl) (by simp) ?_
          refine AllReadyH.cons rfl (fun K hK => ?_) AllReadyH.nil
          go_simp
          refine (numberOf_any _ _).mono ?_
          rintro e w8 ⟨rfl, rfl⟩
          go_wp2_with fail
          refine hK.out _ _ hHeld (fun hHeld => ?_)
          clear hK K
          try simp only [Act.put, List.setIfInBounds_toArray, List.set_cons_zero, List.set_cons_succ]
          refine wpAnyH_take (i := 11) (oi := { dst := some 31, op := _, type := _, pos := _, after := _, guard := _ }) (v := ?v11) rfl (by kernel_rfl) (by kernel_rfl) (by kernel_rfl) (fun _ _ _ h => h) (Or.inl ⟨by rfl, ?hy11⟩) (by assumption) ?rest11
          case hy11 => (intro w hSw; (try dsimp only at hSw); go_simp; (try with_reducible rfl))
          try simp only [Act.put, List.setIfInBounds_toArray, List.set_cons_zero, List.set_cons_succ]
          refine wpAnyH_ready (rs := [12]) (by kernel_rfl) (by simp) ?_
          refine AllReadyH.cons rfl (fun K hK => ?_) AllReadyH.nil
          go_simp
          refine hK.out _ _ ⟨by simpa using hHeld.1, hHeld.2.setCell (by dsimp only; omega) _⟩ (fun hHeld => ?_)
          clear hK K
          refine wpAnyH_done (by kernel_rfl) ?_ _
          clear c4 f4 iB e5 e6
          go_wp2_with fail
          go_roundg h
          case rel => exact ⟨c + 1, by omega, by go_num, k2.drew.setOther _ _ (by dsimp only; omega), (k4.drew.set (i := r * 4 + c) (by omega) _).congr fun j _ => HST.out j, hHeld.2⟩
          case measure => omega
  · have hz2 : ((s.size : Int) != 19) = true := by simp; omega
    obtain ⟨y1, y2⟩ := par_no (s := s) (fun h => hz h.1)
    rw [y1, y2]
    clear y1 y2 hz sr
    go_enter Try.func55, Try.ntmps55
    go_wp2_with ((with_reducible show wpList _ _ _ (Oper.mk _ (Op.store 27 _ _) _ _ _ _ :: _) _ _); refine storeB (K2) rfl rfl rfl rfl ?_)
    try simp only [Exit.inBlock, Exit.then]
    exact retctB (K2.row 16 _) rfl rfl rfl ⟨rfl, below_setRow HB.out (Nat.le_refl _) _⟩
end Go.Proofs.Ytpiegllffkjneaa
