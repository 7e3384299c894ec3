/-
  The contracts of the program's sureScore, bestSure and worstReply, and of SureScore, BestSure and WorstReply, for every board and number.
-/
import Derived.Test.YtlboglcpbbnbcaaLeastR
import Derived.Test.YtlboglcpbbnbcaaImplWorst
import Derived.Test.YtlboglcpbbnbcaaImplSlideBoard
import Derived.Test.YtlboglcpbbnbcaaOver
namespace Go.Proofs.Ytlboglcpbbnbcaa
open Go.RowKit Plain
attribute [local go_sem] store_new
set_option linter.unusedVariables false
set_option linter.unusedSimpArgs false
theorem loadSB {ops : Array Oper} {rest : List Oper} {o : Oper} {a : Act} {w : World} {Q : Exit → Act → World → Prop} {x : Operand} {b d : Nat} {f : Nat → Int} {t : TypeId}
    (hg : Blk w b 18 (slideV f d) t) (hgd : o.guard = none) (ho : o.op = .load 29 x) (hx : a.eval x = .pointer (some ⟨b, 0, none⟩))
    (h : wpList Try.prog ops Q rest (a.put o.dst (.agg (mk 16 (slideB f d)))) w) : wpList Try.prog ops Q (o :: rest) a w := by
  refine loadPB hg (by decide) hgd ho hx ?_
  have e : mk 16 (fun i => slideV f d (0 + i)) = mk 16 (slideB f d) := mk_congr fun i hi => by rw [Nat.zero_add]; unfold slideV; rw [if_pos hi]
  rw [e]
  exact h
/-- The sure score in n moves is what sureScore returns. -/
def SCn (n : Nat) : Prop := ∀ (f : Nat → Int) (w : World), Vd f → Calls Try.prog 71 #[.agg (mk 16 f), .int .i64 (n : Int)] w fun e w' => e = .returned (.int .i64 (suF n f)) ∧ Below w.heap.size w w'
def WRn (n : Nat) : Prop := ∀ (f : Nat → Int) (w : World), Vd f → Calls Try.prog 75 #[.agg (mk 16 f), .int .i64 (n : Int)] w fun e w' => e = .returned (.tuple #[.agg (mk 3 (plF (wrF n f).p)), .int .i64 (wrF n f).v]) ∧ Below w.heap.size w w'
theorem sure_enters : ∀ args w, (callFunc 92 args).run Try.prog w = .ok (.enter 92 args) w := enters_of Try.func92 (by kernel_rfl) rfl
theorem reply1_any {n : Nat} (f : Nat → Int) (b : Nat) (w : World) (hb : Boxed w b 3 (.int .i64 (n : Int))) (hS : SCn n) (hV : Vd f) :
    Calls Try.prog 92 #[.agg (mk 16 f), .pointer (some ⟨b, 0, none⟩)] w fun e w' => e = .returned (.int .i64 (suF n f)) ∧ Below w.heap.size w w' := by
  have K1 := Blk.new w 16 f 29
  have hc := (hb.alloc (.cells (mk 16 f) 29)).cell
  have HB := Lib.hid ((Below.refl w.heap.size w).alloc (Nat.le_refl _) (.cells (mk 16 f) 29))
  have HS := Lib.hid (fun W => hS f W hV)
  clear hS hV hb
  generalize suF n f = v at *
  go_enter Try.func92, Try.ntmps92
  go_wp2_with ((with_reducible show wpList _ _ _ (Oper.mk _ (Op.load 29 _) _ _ _ _ :: _) _ _); refine loadB (K1) rfl rfl rfl ?_)
  refine (HS.out _).mono ?_
  rintro e w1 ⟨rfl, hb⟩
  have HB : Hid (Below w.heap.size w w1) := HB.out.trans (hb.mono HB.out.size)
  clear hb
  go_wp2_with fail
  go_ret
  exact ⟨rfl, HB.out⟩
set_option maxHeartbeats 1000000 in
theorem wr_of_sc {n : Nat} (hS : SCn n) : WRn n := by
  intro f w hV
  have z3 := zero3
  have K1 := ((Blk.new w 16 f 29).alloc (.cells #[.int .i64 (n : Int)] 3)).alloc (.cells (mk 3 fun _ => 0) 34)
  have KN := (Boxed.new (w.alloc (.cells (mk 16 f) 29)) 3 (.int .i64 (n : Int))).alloc (.cells (mk 3 fun _ => 0) 34)
  have K4 := Blk.new ((w.alloc (.cells (mk 16 f) 29)).alloc (.cells #[.int .i64 (n : Int)] 3)) 3 (fun _ => 0) 34
  have HB := Lib.hid ((((Below.refl w.heap.size w).alloc (Nat.le_refl _) (.cells (mk 16 f) 29)).alloc (by simp) (.cells #[.int .i64 (n : Int)] 3)).alloc (by simp; omega) (.cells (mk 3 fun _ => 0) 34))
  simp only [World.size_alloc] at KN K4
  have HL := Lib.hid (fun (W : World) (hn : Boxed W (w.heap.size + 1) 3 (.int .i64 (n : Int))) => leastReply_any f (fun p => suF n (plB f p)) 92 #[.pointer (some ⟨w.heap.size + 1, 0, none⟩)] W hV sure_enters
    (fun p W' hp hb => reply1_any (plB f p) (w.heap.size + 1) W' (box_low hn hb) hS (pl_vd hV hp)))
  have HW : Hid (lsF (fun p => suF n (plB f p)) (plA f) = wrF n f) := rfl
  rw [HW.out] at HL
  clear hV hS HW
  generalize wrF n f = S at *
  go_enter Try.func75, Try.ntmps75
  go_wp2_with ((with_reducible show wpList _ _ _ (Oper.mk _ (Op.load 29 _) _ _ _ _ :: _) _ _); refine loadB (K1) rfl rfl rfl ?_)
  refine (HL.out _ KN).mono ?_
  rintro e w1 ⟨rfl, hb⟩
  have K4 := K4.below hb K4.lt
  have HB : Hid (Below w.heap.size w w1) := HB.out.trans (hb.mono HB.out.size)
  clear hb K1 KN HL
  have K6 := Blk.new w1 3 (plF S.p) 34
  have K4 := K4.alloc (.cells (mk 3 (plF S.p)) 34)
  have HB : Hid (Below w.heap.size w (w1.alloc (.cells (mk 3 (plF S.p)) 34))) := HB.out.alloc HB.out.size _
  go_wp2_with (first | ((with_reducible show wpList _ _ _ (Oper.mk _ (Op.load 34 _) _ _ _ _ :: _) _ _); refine loadA (K6) rfl rfl rfl ?_) | ((with_reducible show wpList _ _ _ (Oper.mk _ (Op.store 34 _ _) _ _ _ _ :: _) _ _); refine storeA (K4) rfl rfl rfl rfl ?_))
  try simp only [Exit.inBlock, Exit.then]
  exact retctA (K4.row 3 _) rfl rfl rfl ⟨rfl, below_setRow HB.out (by omega) _⟩
theorem bb_still {n : Nat} {f : Nat → Int} {k : Nat} (h : isMv f k = false) : bbF n f (k + 1) = bbF n f k := bs_still h
theorem bb_yes {n : Nat} {f : Nat → Int} {k : Nat} (h : isMv f k = true) (h2 : (bbF n f k).ok = false ∨ scF n f k > (bbF n f k).v) : bbF n f (k + 1) = ⟨k, scF n f k, true⟩ := bs_yes h h2
theorem bb_no {n : Nat} {f : Nat → Int} {k : Nat} (h : isMv f k = true) (h2 : ¬ ((bbF n f k).ok = false ∨ scF n f k > (bbF n f k).v)) : bbF n f (k + 1) = bbF n f k := bs_no h h2
set_option maxHeartbeats 2000000 in
set_option maxRecDepth 20000 in
theorem best_of_wr {n : Nat} (hW : WRn n) (hn : n ≤ 1) (N : Int) (hN : N - 1 = (n : Int)) (f : Nat → Int) (w : World) (hV : Vd f) :
    Calls Try.prog 73 #[.agg (mk 16 f), .int .i64 N] w fun e w' => e = .returned (.tuple #[.int .i64 ((bbF n f 4).d : Int), .int .i64 (bbF n f 4).v, .bool (bbF n f 4).ok]) ∧ Below w.heap.size w w' := by
  have z3 := zero3
  have z16 := zero16
  have z18 := zero18
  have K1 := Blk.new w 16 f 29
  have HB := Lib.hid ((Below.refl w.heap.size w).alloc (Nat.le_refl _) (.cells (mk 16 f) 29))
  have HV := Lib.hid hV
  have HW := Lib.hid (fun d W => hW (slideB f d) W (slideB_vd hV d))
  rw [← hN] at HW
  have HSB := Lib.hid (fun d => slideS_bd hV d 4 (Nat.le_refl _))
  have HWB := Lib.hid (fun d => wr_bd n (slideB_vd hV d))
  have hNb : 1 ≤ N ∧ N ≤ 2 := by omega
  have hNb1 := hNb.1
  have hNb2 := hNb.2
  clear hW hV hN hNb
  have iE : ∀ (f g : Nat → Int) (w : World), (Op.equalIn 10000 29 (.agg (mk 16 f)) (.agg (mk 16 g))).run Try.prog w = .ok (sameB f g) w := eqB 9996
  go_enter Try.func73, Try.ntmps73
  go_wp2_with fail
  go_loopg [7, 8, 9, 15] 4 (fun gk s7 s8 s9 s15 wr => ∃ (k : Nat) (S : Bst), k + gk = 4 ∧ s15 = .int .i64 k ∧ Hid (S = bbF n f k) ∧ s7 = .int .i64 (S.d : Int) ∧ s8 = .int .i64 S.v ∧ s9 = .bool S.ok ∧ Blk wr w.heap.size 16 f 29 ∧ Hid (Below w.heap.size w wr))
  case atStart => exact ⟨0, bs0, by omega, rfl, rfl, rfl, rfl, rfl, K1, HB⟩
  case round =>
    obtain ⟨k, S, hkg, rfl, HS, rfl, rfl, rfl, K1, HB⟩ := hrel
    cases gk with
    | zero =>
      have hk : ¬ ((k : Int) < 4) := by omega
      obtain rfl : k = 4 := by omega
      clear hkg hk
      go_wp2_with fail
      go_ret3
      exact ⟨by rw [← HS.out]; rfl, HB.out⟩
    | succ gk2 =>
      have hk8 : (k : Int) < 4 := by omega
      have hk0 : (0 : Int) ≤ (k : Int) := by omega
      have hk3 : (k : Int) ≤ 3 := by omega
      go_wp2_with ((with_reducible show wpList _ _ _ (Oper.mk _ (Op.load 29 _) _ _ _ _ :: _) _ _); refine loadB (K1) rfl rfl rfl ?_)
      refine (slideTo_nat f k _ HV.out hk0 hk3).mono ?_
      rintro e w3 ⟨rfl, hb⟩
      have K1 := (K1.below hb K1.lt).alloc (.cells (mk 18 (slideV f k)) 109)
      have K11 := Blk.new w3 18 (slideV f k) 109
      have HB3 : Hid (Below w.heap.size w w3) := HB.out.trans (hb.mono HB.out.size)
      have HB : Hid (Below w.heap.size w (w3.alloc (.cells (mk 18 (slideV f k)) 109))) := HB3.out.alloc HB3.out.size _
      clear hb HB3
      by_cases hm : isMv f k = true
      · have hq : sameB (slideB f k) f = false := by simpa [isMv] using hm
        have HM := Lib.hid hm
        clear hm
        go_wp2_with (first | ((with_reducible show wpList _ _ _ (Oper.mk _ (Op.load 29 _) _ _ _ _ :: _) _ _); refine loadSB K11 rfl rfl rfl ?_) | ((with_reducible show wpList _ _ _ (Oper.mk _ (Op.load 29 _) _ _ _ _ :: _) _ _); refine loadB (K1) rfl rfl rfl ?_))
        generalize w3.alloc (.cells (mk 18 (slideV f k)) 109) = w4 at *
        generalize w3.heap.size = q at *
        refine (HW.out k _).mono ?_
        rintro e w5 ⟨rfl, hb⟩
        have K1 := K1.below hb K1.lt
        have K11 := K11.below hb K11.lt
        have HB : Hid (Below w.heap.size w w5) := HB.out.trans (hb.mono HB.out.size)
        clear hb
        have K1 := K1.alloc (.cells (mk 3 (plF (wrF n (slideB f k)).p)) 34)
        have K11 := K11.alloc (.cells (mk 3 (plF (wrF n (slideB f k)).p)) 34)
        have HB : Hid (Below w.heap.size w (w5.alloc (.cells (mk 3 (plF (wrF n (slideB f k)).p)) 34))) := HB.out.alloc HB.out.size _
        have c16 : (w5.alloc (.cells (mk 3 (plF (wrF n (slideB f k)).p)) 34)).cell? ⟨q, 16, none⟩ = some (.int .i64 (slideS f k 4)) := K11.cell (i := 16) (by omega)
        have HSC : Hid (scF n f k = slideS f k 4 + (wrF n (slideB f k)).v) := rfl
        obtain ⟨b1, b2⟩ := HSB.out k
        obtain ⟨b3, b4⟩ := HWB.out k
        have b5 : (wrF n (slideB f k)).v ≤ 4194304 := by
          have : (n : Int) ≤ 1 := by omega
          omega
        clear b4 K11
        have hK3 : (k : Int) + 1 ≤ 4 := by omega
        generalize plF (wrF n (slideB f k)).p = pp at *
        generalize (wrF n (slideB f k)).v = B at *
        generalize slideS f k 4 = A at *
        by_cases ho : S.ok = false
        · have Y : Hid (bbF n f (k + 1) = ⟨k, A + B, true⟩) := by show _ = _; rw [← HSC.out]; exact bb_yes HM.out (by rw [← HS.out]; exact .inl ho)
          go_wp2_with fail
          go_roundg gk2
          case rel => exact ⟨k + 1, ⟨k, A + B, true⟩, by omega, by go_num, Y.out.symm, rfl, rfl, rfl, K1, HB⟩
          case measure => omega
        · have ho : S.ok = true := by simpa using ho
          by_cases hgt : A + B > S.v
          · have Y : Hid (bbF n f (k + 1) = ⟨k, A + B, true⟩) := by show _ = _; rw [← HSC.out]; exact bb_yes HM.out (by rw [← HS.out, HSC.out]; exact .inr hgt)
            generalize S.v = sv at *
            go_wp2_with fail
            go_roundg gk2
            case rel => exact ⟨k + 1, ⟨k, A + B, true⟩, by omega, by go_num, Y.out.symm, rfl, rfl, rfl, K1, HB⟩
            case measure => omega
          · have Y : Hid (bbF n f (k + 1) = S) := by show _ = _; rw [HS.out]; exact bb_no HM.out (by rw [← HS.out, HSC.out]; exact fun q => q.elim (fun q => by rw [ho] at q; cases q) hgt)
            have HO := Lib.hid ho
            generalize hsv : S.v = sv at *
            have HSV := Lib.hid hsv
            clear hsv
            go_wp2_with fail
            go_roundg gk2
            case rel => exact ⟨k + 1, S, by omega, by go_num, Y.out.symm, rfl, by rw [HSV.out], by rw [HO.out], K1, HB⟩
            case measure => omega
      · have hm : isMv f k = false := by simpa using hm
        have hq : sameB (slideB f k) f = true := by simpa [isMv] using hm
        have Y : Hid (bbF n f (k + 1) = S) := by show _ = _; rw [HS.out]; exact bb_still hm
        clear hm
        go_wp2_with (first | ((with_reducible show wpList _ _ _ (Oper.mk _ (Op.load 29 _) _ _ _ _ :: _) _ _); refine loadSB K11 rfl rfl rfl ?_) | ((with_reducible show wpList _ _ _ (Oper.mk _ (Op.load 29 _) _ _ _ _ :: _) _ _); refine loadB (K1) rfl rfl rfl ?_))
        go_roundg gk2
        case rel => exact ⟨k + 1, S, by omega, by go_num, Y.out.symm, rfl, rfl, rfl, K1, HB⟩
        case measure => omega
theorem sc_zero : SCn 0 := by
  intro f w hV
  have K1 := Blk.new w 16 f 29
  have HB := Lib.hid ((Below.refl w.heap.size w).alloc (Nat.le_refl _) (.cells (mk 16 f) 29))
  rw [su_zero]
  show Calls _ _ #[_, .int .i64 0] _ _
  go_enter Try.func71, Try.ntmps71
  go_wp2_with fail
  go_ret
  exact ⟨rfl, HB.out⟩
theorem sc_succ {n : Nat} (hS : SCn n) (hn : n ≤ 1) : SCn (n + 1) := by
  intro f w hV
  have K1 := Blk.new w 16 f 29
  have HB := Lib.hid ((Below.refl w.heap.size w).alloc (Nat.le_refl _) (.cells (mk 16 f) 29))
  have HW := Lib.hid (fun W => best_of_wr (wr_of_sc hS) hn ((n + 1 : Nat) : Int) (by omega) f W hV)
  rw [su_succ]
  have hne : (((n + 1 : Nat) : Int) == 0) = false := by rw [beq_eq_false_iff_ne]; omega
  clear hS hV
  generalize ((n + 1 : Nat) : Int) = N at *
  generalize bbF n f 4 = S at *
  go_enter Try.func71, Try.ntmps71
  go_wp2_with ((with_reducible show wpList _ _ _ (Oper.mk _ (Op.load 29 _) _ _ _ _ :: _) _ _); refine loadB (K1) rfl rfl rfl ?_)
  refine (HW.out _).mono ?_
  rintro e w1 ⟨rfl, hb⟩
  have HB : Hid (Below w.heap.size w w1) := HB.out.trans (hb.mono HB.out.size)
  clear hb
  go_wp2_with fail
  go_ret
  exact ⟨rfl, HB.out⟩
theorem sc_all : ∀ n, n ≤ 2 → SCn n
  | 0, _ => sc_zero
  | n + 1, h => sc_succ (sc_all n (by omega)) (by omega)
theorem wr_all (n : Nat) (h : n ≤ 2) : WRn n := wr_of_sc (sc_all n h)
end Go.Proofs.Ytlboglcpbbnbcaa
