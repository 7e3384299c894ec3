/-
  The contract of the reference's CountImages, for every number.
-/
import Derived.Test.YtpiegllffkjneaaCountIm
namespace Go.Proofs.Ytpiegllffkjneaa
open Go.RowKit Plain
attribute [local go_sem] store_new
set_option linter.unusedVariables false
set_option linter.unusedSimpArgs false

theorem digs_lit (k : Nat) {B : Nat} (hb : 1 ≤ B) (hb2 : B ≤ 7) (hk : k < B ^ 4) :
    (#[.int .i64 ((k / (B * B * B) : Nat) : Int), .int .i64 ((k / (B * B) % B : Nat) : Int), .int .i64 ((k / B % B : Nat) : Int), .int .i64 ((k % B : Nat) : Int)] : Array Value) = mk 4 (dig k B 0) := by
  have h : (#[.int .i64 ((k / (B * B * B) : Nat) : Int), .int .i64 ((k / (B * B) % B : Nat) : Int), .int .i64 ((k / B % B : Nat) : Int), .int .i64 ((k % B : Nat) : Int)] : Array Value) = mk 4 (qd ((k / (B * B * B) : Nat) : Int) ((k / (B * B) % B : Nat) : Int) ((k / B % B : Nat) : Int) ((k % B : Nat) : Int)) := rfl
  rw [h]
  refine mk_congr fun i hi => ?_
  rw [dig_at]
  rcases (by omega : B = 1 ∨ B = 2 ∨ B = 3 ∨ B = 4 ∨ B = 5 ∨ B = 6 ∨ B = 7) with rfl | rfl | rfl | rfl | rfl | rfl | rfl <;> simp only [Nat.reducePow] at hk <;>
    rcases (by omega : i = 0 ∨ i = 1 ∨ i = 2 ∨ i = 3) with rfl | rfl | rfl | rfl <;> simp only [qd, Nat.reduceMul, Nat.reducePow, Nat.reduceSub] <;> simp <;> omega

set_option maxHeartbeats 4000000 in
set_option maxRecDepth 20000 in
theorem specCountIm_any (n : Int) (w : World) :
    Calls Try.prog 75 #[.int .i64 n] w fun e w' => e = .returned (.tuple #[.int .i64 (ciR n), .bool (ciO n)]) ∧ Below w.heap.size w w' := by
  by_cases hC : CiOk n
  · obtain ⟨y1, y2⟩ := ci_yes hC
    rw [y1, y2]
    obtain ⟨h0, h1⟩ := hC
    obtain ⟨m, rfl⟩ := Int.eq_ofNat_of_zero_le h0
    rw [Int.toNat_natCast]
    have hm : m ≤ 6 := by omega
    clear y1 y2
    generalize hB : m + 1 = B at *
    have hb1 : 1 ≤ B := by omega
    have hb7 : B ≤ 7 := by omega
    obtain ⟨p4, p2, p3⟩ := pow_le hb7
    have e1 : (m : Int) + 1 = (B : Int) := by omega
    have e1w : IntKind.i64.wrap ((m : Int) + 1) = (B : Int) := by rw [e1]; exact IntWalk.i64_in _ (by omega)
    have e2 : IntKind.i64.wrap ((B : Int) * (B : Int)) = ((B * B : Nat) : Int) := by rw [← Int.natCast_mul]; exact IntWalk.i64_in _ (by omega)
    have e3 : IntKind.i64.wrap (((B * B : Nat) : Int) * (B : Int)) = ((B * B * B : Nat) : Int) := by rw [← Int.natCast_mul]; exact IntWalk.i64_in _ (by omega)
    have e4 : IntKind.i64.wrap (((B * B * B : Nat) : Int) * (B : Int)) = ((B ^ 4 : Nat) : Int) := by rw [← Int.natCast_mul, pow_four]; exact IntWalk.i64_in _ (by omega)
    have hB3 : 1 ≤ B * B * B := Nat.mul_pos (Nat.mul_pos hb1 hb1) hb1
    have hB2 : 1 ≤ B * B := Nat.mul_pos hb1 hb1
    have HQ : Hid (∀ k, k < B ^ 4 → (#[.int .i64 ((k / (B * B * B) : Nat) : Int), .int .i64 ((k / (B * B) % B : Nat) : Int), .int .i64 ((k / B % B : Nat) : Int), .int .i64 ((k % B : Nat) : Int)] : Array Value) = mk 4 (dig k B 0)) := fun k hk => digs_lit k hb1 hb7 hk
    clear hB
    generalize hNN : B ^ 4 = NN at *
    have HNN := Lib.hid hNN
    clear hNN
    generalize B * B * B = B3 at *
    generalize B * B = B2 at *
    have HB := Lib.hid (Below.refl w.heap.size w)
    go_enter Try.func75, Try.ntmps75
    go_wp2_with fail
    refine (l1In_yes _ 0 6 _ h0 h1).mono ?_
    rintro e w' ⟨rfl, rfl⟩
    go_wp2_with fail
    clear e1 e1w
    go_loopg [4, 6] NN (fun gk s4 s6 wr => ∃ k : Nat, k + gk = NN ∧ s6 = .int .i64 k ∧ s4 = .int .i64 (cntS B k : Nat) ∧ Hid (Below w.heap.size w wr))
    case atStart => exact ⟨0, by omega, rfl, rfl, HB⟩
    case round =>
      clear HB
      obtain ⟨k, hkg, rfl, rfl, HB⟩ := hrel
      cases gk with
      | zero =>
        have hk : ¬ ((k : Int) < (NN : Int)) := by omega
        obtain rfl : k = NN := by omega
        go_wp2_with fail
        go_ret2
        exact ⟨rfl, HB.out⟩
      | succ gk2 =>
        have hk4 : (k : Int) < (NN : Int) := by omega
        have hk9 : k < NN := by omega
        have HVR := Lib.hid (dig_vd k hb1 (by omega))
        have hcl := cntS_le B k
        have dl := HQ.out k hk9
        have q3 : ((k : Int).tdiv (B3 : Int)) = ((k / B3 : Nat) : Int) := tdiv_nat k B3
        have q2 : ((k : Int).tdiv (B2 : Int)) = ((k / B2 : Nat) : Int) := tdiv_nat k B2
        have q1 : ((k : Int).tdiv (B : Int)) = ((k / B : Nat) : Int) := tdiv_nat k B
        have r2 : (((k / B2 : Nat) : Int).tmod (B : Int)) = ((k / B2 % B : Nat) : Int) := tmod_nat _ B
        have r1 : (((k / B : Nat) : Int).tmod (B : Int)) = ((k / B % B : Nat) : Int) := tmod_nat _ B
        have r0 : ((k : Int).tmod (B : Int)) = ((k % B : Nat) : Int) := tmod_nat _ B
        have v3 : (k : Int) / (B3 : Int) = ((k / B3 : Nat) : Int) := by simp
        have v2 : (k : Int) / (B2 : Int) = ((k / B2 : Nat) : Int) := by simp
        have v1 : (k : Int) / (B : Int) = ((k / B : Nat) : Int) := by simp
        have u2 : ((k / B2 : Nat) : Int) % (B : Int) = ((k / B2 % B : Nat) : Int) := by simp
        have u1 : ((k / B : Nat) : Int) % (B : Int) = ((k / B % B : Nat) : Int) := by simp
        have u0 : (k : Int) % (B : Int) = ((k % B : Nat) : Int) := by simp
        have l3 := Nat.div_le_self k B3
        have l2 := Nat.div_le_self k B2
        have l1 := Nat.div_le_self k B
        have m2 := Nat.mod_le (k / B2) B
        have m1 := Nat.mod_le (k / B) B
        have m0 := Nat.mod_le k B
        have n3 : ((B3 : Int) == 0) = false := by simp; omega
        have n2 : ((B2 : Int) == 0) = false := by simp; omega
        have n1 : ((B : Int) == 0) = false := by simp; omega
        generalize k / B2 % B = D2 at *
        generalize k / B % B = D1 at *
        generalize k % B = D0 at *
        generalize k / B3 = Q3 at *
        generalize k / B2 = Q2 at *
        generalize k / B = Q1 at *
        have x3 : IntKind.i64.wrap ((k : Int).tdiv (B3 : Int)) = (Q3 : Int) := by rw [q3]; exact IntWalk.i64_in _ (by omega)
        have x2 : IntKind.i64.wrap ((k : Int).tdiv (B2 : Int)) = (Q2 : Int) := by rw [q2]; exact IntWalk.i64_in _ (by omega)
        have x1 : IntKind.i64.wrap ((k : Int).tdiv (B : Int)) = (Q1 : Int) := by rw [q1]; exact IntWalk.i64_in _ (by omega)
        have y2 : IntKind.i64.wrap ((Q2 : Int).tmod (B : Int)) = (D2 : Int) := by rw [r2]; exact IntWalk.i64_in _ (by omega)
        have y1 : IntKind.i64.wrap ((Q1 : Int).tmod (B : Int)) = (D1 : Int) := by rw [r1]; exact IntWalk.i64_in _ (by omega)
        have y0 : IntKind.i64.wrap ((k : Int).tmod (B : Int)) = (D0 : Int) := by rw [r0]; exact IntWalk.i64_in _ (by omega)
        have t3 : ¬ B3 = 0 := by omega
        have t2 : ¬ B2 = 0 := by omega
        have t1 : ¬ B = 0 := by omega
        have g3 : IntKind.i64.wrap (Q3 : Int) = (Q3 : Int) := IntWalk.i64_in _ (by omega)
        have g2 : IntKind.i64.wrap (Q2 : Int) = (Q2 : Int) := IntWalk.i64_in _ (by omega)
        have g1 : IntKind.i64.wrap (Q1 : Int) = (Q1 : Int) := IntWalk.i64_in _ (by omega)
        have b3 : (Q3 : Int) ≤ 2401 := by omega
        have b2 : (Q2 : Int) ≤ 2401 := by omega
        have b1 : (Q1 : Int) ≤ 2401 := by omega
        have f2 : (D2 : Int) ≤ 2401 := by omega
        have f1 : (D1 : Int) ≤ 2401 := by omega
        have f0 : (D0 : Int) ≤ 2401 := by omega
        have o3 : (B3 : Int) ≠ 0 := by omega
        have o2 : (B2 : Int) ≠ 0 := by omega
        have o1 : (B : Int) ≠ 0 := by omega
        have sn : (storeCells ⟨wr.heap.size, 0, none⟩ (mk 4 (dig k B 0)).toList).run Try.prog (wr.alloc (.cells #[.int .i64 0, .int .i64 0, .int .i64 0, .int .i64 0] 24)).drew = .ok () (wr.drew.alloc (.cells (mk 4 (dig k B 0)) 24)) := store_new wr.drew _ 4 (fun _ => 0) _ _ rfl
        go_wp2_with fail
        go_region_held3 (fun w' => Below w.heap.size w w') (first | exact HB.out.drew | exact (HB.out.alloc HB.out.size _).drew | exact HB.out.alloc HB.out.size _ | exact HB.out.drew.alloc HB.out.size _ | assumption) (fail)
        clear sn dl v3 v2 v1 u2 u1 u0 n3 n2 n1 x3 x2 x1 y2 y1 y0 o3 o2 o1 b3 b2 b1 f2 f1 f0 t3 t2 t1 g3 g2 g1 l3 l2 l1 m2 m1 m0
        have K7 := (Blk.new wr 4 (dig k B 0) 24).drew
        have HB : Hid (Below w.heap.size w (wr.alloc (.cells (mk 4 (dig k B 0)) 24)).drew) := (HB.out.alloc HB.out.size _).drew
        generalize (wr.alloc (.cells (mk 4 (dig k B 0)) 24)).drew = w5 at *
        have HYT : Hid (FlP (dig k B 0) ∧ 0 < (befS (dig k B 0) 16).length → cntS B (k + 1) = cntS B k + 1) := fun q => by rw [cntS, if_pos q]
        have HYF : Hid (¬ (FlP (dig k B 0) ∧ 0 < (befS (dig k B 0) 16).length) → cntS B (k + 1) = cntS B k) := fun q => by rw [cntS, if_neg q]
        by_cases hF : FlP (dig k B 0)
        · have HF := Lib.hid hF
          clear hF
          go_wp2_with (first | ((with_reducible show wpList _ _ _ (Oper.mk _ (Op.load 24 _) _ _ _ _ :: _) _ _); refine loadR (K7) rfl rfl rfl ?_))
          refine (l4Flush_any (dig k B 0) _ HVR.out).mono ?_
          rw [decide_eq_true HF.out]
          rintro e w6 ⟨rfl, hb⟩
          have K7 := K7.below hb K7.lt
          have HB : Hid (Below w.heap.size w w6) := HB.out.trans (hb.mono HB.out.size)
          clear hb
          go_wp2_with (first | ((with_reducible show wpList _ _ _ (Oper.mk _ (Op.load 24 _) _ _ _ _ :: _) _ _); refine loadR (K7) rfl rfl rfl ?_) | ((with_reducible show wpList _ _ _ (Oper.mk _ (Op.load 24 _) _ _ _ (some _) :: _) _ _); refine loadgR (K7) rfl rfl rfl ?_))
          refine (l4Before_any (dig k B 0) _ HVR.out).mono ?_
          rintro e w7 ⟨gb, cb, rfl, ho, hb⟩
          have HB : Hid (Below w.heap.size w w7) := HB.out.trans (hb.mono HB.out.size)
          clear hb ho K7
          by_cases hL : 0 < (befS (dig k B 0) 16).length
          · have Y := Lib.hid (HYT.out ⟨HF.out, hL⟩)
            clear HYT HYF
            generalize (befS (dig k B 0) 16).length = L at *
            go_wp2_with fail
            go_roundg gk2
            case rel => exact ⟨k + 1, by omega, by go_num, by rw [Y.out]; go_num, HB⟩
            case measure => omega
          · have Y := Lib.hid (HYF.out fun q => hL q.2)
            clear HYT HYF
            generalize (befS (dig k B 0) 16).length = L at *
            go_wp2_with fail
            go_roundg gk2
            case rel => exact ⟨k + 1, by omega, by go_num, by rw [Y.out], HB⟩
            case measure => omega
        · have HF := Lib.hid hF
          clear hF
          go_wp2_with (first | ((with_reducible show wpList _ _ _ (Oper.mk _ (Op.load 24 _) _ _ _ _ :: _) _ _); refine loadR (K7) rfl rfl rfl ?_))
          refine (l4Flush_any (dig k B 0) _ HVR.out).mono ?_
          rw [decide_eq_false HF.out]
          rintro e w6 ⟨rfl, hb⟩
          have HB : Hid (Below w.heap.size w w6) := HB.out.trans (hb.mono HB.out.size)
          have Y := Lib.hid (HYF.out fun q => HF.out q.1)
          clear hb K7 HYT HYF
          go_wp2_with fail
          go_roundg gk2
          case rel => exact ⟨k + 1, by omega, by go_num, by rw [Y.out], HB⟩
          case measure => omega
  · obtain ⟨y1, y2⟩ := ci_no hC
    rw [y1, y2]
    have HN := Lib.hid (show n < 0 ∨ 6 < n by unfold CiOk at hC; omega)
    clear y1 y2 hC
    go_enter Try.func75, Try.ntmps75
    go_wp2_with fail
    refine (l1In_no _ 0 6 _ HN.out).mono ?_
    rintro e w' ⟨rfl, rfl⟩
    go_wp2_with fail
    go_ret2
    exact ⟨rfl, Below.refl _ _⟩
end Go.Proofs.Ytpiegllffkjneaa
