/-
  The contracts of ParseBoard, in the reference and in the program, for every text.
-/
import Derived.Test.YtpiegllffkjneaaPlainA
import Derived.Test.YtpiegllffkjneaaTextB
import Derived.Test.YtpiegllffkjneaaBaseA
namespace Go.Proofs.Ytpiegllffkjneaa
open Go.RowKit Plain
attribute [local go_sem] store_new
set_option linter.unusedSimpArgs false

theorem run_byt (s : ByteArray) (i : Nat) (hi : i < s.size) (w : World) : (Instr.index 9 (.string s) (.int .i64 (i : Int))).run Try.prog w = .ok (.int .u8 ((byt s i).toNat : Int)) w := by
  have hp : (0 : Int) ≤ (i : Int) ∧ (i : Int) < (s.size : Int) := by omega
  rw [run_index_string (P := Try.prog) w 9 s .i64 (i : Int) Try.underlying9, dif_pos hp]
  have : (s[(i : Int).toNat]'(by omega)) = byt s i := byt_get s hi
  rw [this]
theorem run_sign (t : Nat) (ht : t < 18) (w : World) : (Instr.index 9 (.string ⟨#[46, 97, 98, 99, 100, 101, 102, 103, 104, 105, 106, 107, 108, 109, 110, 111, 112, 113]⟩) (.int .i64 (t : Int))).run Try.prog w = .ok (.int .u8 (sg t)) w := by
  rw [run_byt ⟨#[46, 97, 98, 99, 100, 101, 102, 103, 104, 105, 106, 107, 108, 109, 110, 111, 112, 113]⟩ t (show t < 18 from ht) w]
  have : ((byt ⟨#[46, 97, 98, 99, 100, 101, 102, 103, 104, 105, 106, 107, 108, 109, 110, 111, 112, 113]⟩ t).toNat : Int) = sg t := by
    rcases (by omega : t = 0 ∨ t = 1 ∨ t = 2 ∨ t = 3 ∨ t = 4 ∨ t = 5 ∨ t = 6 ∨ t = 7 ∨ t = 8 ∨ t = 9 ∨ t = 10 ∨ t = 11 ∨ t = 12 ∨ t = 13 ∨ t = 14 ∨ t = 15 ∨ t = 16 ∨ t = 17) with rfl | rfl | rfl | rfl | rfl | rfl | rfl | rfl | rfl | rfl | rfl | rfl | rfl | rfl | rfl | rfl | rfl | rfl <;> decide
  rw [this]
theorem l2Sign_any (b : UInt8) (w : World) :
    Calls Try.prog 163 #[.int .u8 (b.toNat : Int)] w fun e w' => e = .returned (.int .i64 (sgn b)) ∧ w = w' := by
  have HA := Lib.hid (fun t ht h => sgn_at (b := b) (t := t) ht h)
  have HN := Lib.hid (sgn_none (b := b))
  go_enter Try.func163, Try.ntmps163
  go_wp2_with fail
  go_loopg [3] 18 (fun g s3 wr => ∃ t : Nat, t + g = 18 ∧ s3 = .int .i64 t ∧ (∀ j, j < t → sg j ≠ (b.toNat : Int)) ∧ w = wr)
  case atStart => exact ⟨0, by omega, rfl, fun j hj => by omega, rfl⟩
  case round =>
    obtain ⟨t, htg, rfl, hn, rfl⟩ := hrel
    have HB := Lib.hid hn
    clear hn
    cases gk with
    | zero =>
      have ht : ¬ ((t : Int) ≤ 17) := by omega
      obtain rfl : t = 18 := by omega
      clear htg ht
      go_wp2_with fail
      go_ret
      exact ⟨by rw [HN.out HB.out]; rfl, rfl⟩
    | succ g =>
      have ht : (t : Int) ≤ 17 := by omega
      have ht18 : t < 18 := by omega
      have iS := run_sign t ht18
      by_cases hq : sg t = (b.toNat : Int)
      · have HQ := Lib.hid hq
        have q1 : (sg t == (b.toNat : Int)) = true := by simpa using hq
        clear hq
        go_wp2_with fail
        go_ret
        exact ⟨by rw [HA.out t ht18 HQ.out]; rfl, rfl⟩
      · have HQ := Lib.hid hq
        have q1 : (sg t == (b.toNat : Int)) = false := by simpa using hq
        clear hq
        go_wp2_with fail
        go_roundg g
        case rel => exact ⟨t + 1, by omega, by go_num, fun j hj => by
          by_cases e : j = t
          · subst e; exact HQ.out
          · exact HB.out j (by omega), rfl⟩
        case measure => omega
theorem numberOf_any (b : UInt8) (w : World) :
    Calls Try.prog 129 #[.int .u8 (b.toNat : Int)] w fun e w' => e = .returned (.int .i64 (numN b)) ∧ w = w' := by
  have hb := byte_lt b
  by_cases h : (b.toNat : Int) = 46
  · have hn : numN b = 0 := by unfold numN; rw [if_pos (by omega)]
    have q1 : ((b.toNat : Int) == 46) = true := by simpa using h
    rw [hn]
    clear hn h
    generalize (b.toNat : Int) = x at *
    go_enter Try.func129, Try.ntmps129
    go_wp2_with fail
    go_ret
    exact ⟨rfl, rfl⟩
  · have hn : numN b = (b.toNat : Int) - 97 + 1 := by unfold numN; rw [if_neg (by omega)]
    have q1 : ((b.toNat : Int) == 46) = false := by simpa using h
    rw [hn]
    have h0 : (0 : Int) ≤ (b.toNat : Int) := by omega
    clear hn h
    generalize (b.toNat : Int) = x at *
    go_enter Try.func129, Try.ntmps129
    go_wp2_with fail
    go_ret
    exact ⟨rfl, rfl⟩
set_option maxHeartbeats 4000000 in
set_option maxRecDepth 20000 in
theorem l2Parse_any (s : ByteArray) (w : World) :
    Calls Try.prog 130 #[.string s] w fun e w' => e = .returned (.tuple #[.agg (mk 16 (parR s)), .bool (parO s)]) ∧ Below w.heap.size w w' := by
  have z16 := zero16
  have sr := World.setRow_alloc_new
  have K2 := (Blk.new w 16 (fun _ => 0) 27).alloc (.cells (mk 16 fun _ => 0) 27)
  have K4 := Blk.new (w.alloc (.cells (mk 16 fun _ => 0) 27)) 16 (fun _ => 0) 27
  have HB := Lib.hid (((Below.refl w.heap.size w).alloc (Nat.le_refl _) (.cells (mk 16 fun _ => 0) 27)).alloc (by simp) (.cells (mk 16 fun _ => 0) 27))
  simp only [World.size_alloc] at K4
  by_cases hz : s.size = 19
  · have hz2 : ((s.size : Int) == 19) = true := by simp [hz]
    have HZ := Lib.hid hz
    go_enter Try.func130, Try.ntmps130
    go_wp2_with fail
    generalize (w.alloc (.cells (mk 16 fun _ => 0) 27)).alloc (.cells (mk 16 fun _ => 0) 27) = w1 at *
    clear sr
    go_loopg [5] 19 (fun g s5 wr => ∃ i : Nat, i + g = 19 ∧ s5 = .int .i64 i ∧ (∀ j, j < i → okB s j) ∧ Blk wr w.heap.size 16 (fun _ => 0) 27 ∧ Blk wr (w.heap.size + 1) 16 (parU s i) 27 ∧ Hid (Below w.heap.size w wr))
    case atStart => exact ⟨0, by omega, rfl, fun j hj => by omega, K2, K4.congr fun j _ => (parU_zero s j).symm, HB⟩
    case round =>
      obtain ⟨i, hig, rfl, he, k2, k4, hb⟩ := hrel
      have HE := Lib.hid he
      clear he K2 K4 HB
      cases gk with
      | zero =>
        have hi : ¬ ((i : Int) < 19) := by omega
        obtain rfl : i = 19 := by omega
        obtain ⟨y1, y2⟩ := par_yes (s := s) ⟨hz, HE.out⟩
        have Y1 := Lib.hid y1
        have Y2 := Lib.hid y2
        clear hig hi y1 y2
        go_wp2_with (first | ((with_reducible show wpList _ _ _ (Oper.mk _ (Op.load 27 _) _ _ _ _ :: _) _ _); refine loadB (k4) rfl rfl rfl ?_) | ((with_reducible show wpList _ _ _ (Oper.mk _ (Op.store 27 _ _) _ _ _ _ :: _) _ _); refine storeB (k2) rfl rfl rfl rfl ?_))
        try simp only [Exit.inBlock, Exit.then]
        refine retctB (k2.row 16 _) rfl rfl rfl ⟨?_, below_setRow hb.out (by omega) _⟩
        rw [Y1.out, Y2.out, mk_congr (parU_all s)]
        rfl
      | succ g =>
        have hi19 : i < 19 := by omega
        have hil : (i : Int) < 19 := by omega
        have hi0 : (0 : Int) ≤ (i : Int) := by omega
        obtain ⟨q, m, hqm, hm5⟩ : ∃ q m, i = q * 5 + m ∧ m < 5 := ⟨i / 5, i % 5, by omega, by omega⟩
        have hq0 : (0 : Int) ≤ (q : Int) := by omega
        have hq4 : (q : Int) < 4 := by omega
        have hqn : q < 4 := by omega
        subst hqm
        by_cases hm0 : m = 0
        · skip
          subst hm0
          have em : (((q * 5 + 0 : Nat) : Int)).tmod 5 = 0 := by rw [Int.tmod_eq_emod_of_nonneg (by omega)]; omega
          have eq5 : (((q * 5 + 0 : Nat) : Int)).tdiv 5 = (q : Int) := by rw [Int.tdiv_eq_ediv_of_nonneg (by omega)]; omega
          have ew : IntKind.i64.wrap (q : Int) = (q : Int) := IntWalk.i64_in _ (by omega)
          have HOK : Hid (okB s (q * 5 + 0) ↔ 0 ≤ sgn (byt s (q * 5 + 0))) := by
            show _ ↔ _
            unfold okB; rw [if_neg (by omega)]
          have HST : Hid (∀ j, upd (parU s (q * 5 + 0)) (q * 4 + 0) (sgn (byt s (q * 5 + 0))) j = parU s (q * 5 + 0 + 1) j) := parU_step s (by omega)
          have hsb := sgn_bd (byt s (q * 5 + 0))
          have iB := run_byt s (q * 5 + 0) (by omega)
          generalize hi : q * 5 + 0 = i at *
          generalize hx : byt s i = x at *
          have c4 := k4.cell (i := q * 4) (by omega)
          have f4 := k4.free (q * 4)
          go_wp2_with fail
          refine (l2Sign_any x _).mono ?_
          rintro e w' ⟨rfl, rfl⟩
          by_cases hs : 0 ≤ sgn x
          · have d0 : ¬ (sgn x < 0) := by omega
            have HS := Lib.hid hs
            have HI := Lib.hid hi
            clear hs hi
            go_wp2_with fail
            go_roundg g
            case rel => exact ⟨i + 1, by omega, by go_num, fun j hj => by
              by_cases e : j = i
              · subst e; exact HOK.out.2 HS.out
              · exact HE.out j (by omega), k2.setOther _ _ (by dsimp only; omega), (k4.set (i := q * 4) (by omega) _).congr fun j _ => HST.out j, hb.out.setCell (by dsimp only; omega) _⟩
            case measure => omega
          · have d0 : sgn x < 0 := by omega
            obtain ⟨y1, y2⟩ := par_no (s := s) (fun h => hs (HOK.out.1 (h.2 i hi19)))
            have Y1 := Lib.hid y1
            have Y2 := Lib.hid y2
            clear y1 y2 hs hi
            go_wp2_with ((with_reducible show wpList _ _ _ (Oper.mk _ (Op.store 27 _ _) _ _ _ _ :: _) _ _); refine storeB (k2) rfl rfl rfl rfl ?_)
            try simp only [Exit.inBlock, Exit.then]
            exact retctB (k2.row 16 _) rfl rfl rfl ⟨by rw [Y1.out, Y2.out]; rfl, below_setRow hb.out (by omega) _⟩
        by_cases hm1 : m = 1
        · skip
          subst hm1
          have em : (((q * 5 + 1 : Nat) : Int)).tmod 5 = 1 := by rw [Int.tmod_eq_emod_of_nonneg (by omega)]; omega
          have eq5 : (((q * 5 + 1 : Nat) : Int)).tdiv 5 = (q : Int) := by rw [Int.tdiv_eq_ediv_of_nonneg (by omega)]; omega
          have ew : IntKind.i64.wrap (q : Int) = (q : Int) := IntWalk.i64_in _ (by omega)
          have HOK : Hid (okB s (q * 5 + 1) ↔ 0 ≤ sgn (byt s (q * 5 + 1))) := by
            show _ ↔ _
            unfold okB; rw [if_neg (by omega)]
          have HST : Hid (∀ j, upd (parU s (q * 5 + 1)) (q * 4 + 1) (sgn (byt s (q * 5 + 1))) j = parU s (q * 5 + 1 + 1) j) := parU_step s (by omega)
          have hsb := sgn_bd (byt s (q * 5 + 1))
          have iB := run_byt s (q * 5 + 1) (by omega)
          generalize hi : q * 5 + 1 = i at *
          generalize hx : byt s i = x at *
          have c4 := k4.cell (i := q * 4 + 1) (by omega)
          have f4 := k4.free (q * 4 + 1)
          go_wp2_with fail
          refine (l2Sign_any x _).mono ?_
          rintro e w' ⟨rfl, rfl⟩
          by_cases hs : 0 ≤ sgn x
          · have d0 : ¬ (sgn x < 0) := by omega
            have HS := Lib.hid hs
            have HI := Lib.hid hi
            clear hs hi
            go_wp2_with fail
            go_roundg g
            case rel => exact ⟨i + 1, by omega, by go_num, fun j hj => by
              by_cases e : j = i
              · subst e; exact HOK.out.2 HS.out
              · exact HE.out j (by omega), k2.setOther _ _ (by dsimp only; omega), (k4.set (i := q * 4 + 1) (by omega) _).congr fun j _ => HST.out j, hb.out.setCell (by dsimp only; omega) _⟩
            case measure => omega
          · have d0 : sgn x < 0 := by omega
            obtain ⟨y1, y2⟩ := par_no (s := s) (fun h => hs (HOK.out.1 (h.2 i hi19)))
            have Y1 := Lib.hid y1
            have Y2 := Lib.hid y2
            clear y1 y2 hs hi
            go_wp2_with ((with_reducible show wpList _ _ _ (Oper.mk _ (Op.store 27 _ _) _ _ _ _ :: _) _ _); refine storeB (k2) rfl rfl rfl rfl ?_)
            try simp only [Exit.inBlock, Exit.then]
            exact retctB (k2.row 16 _) rfl rfl rfl ⟨by rw [Y1.out, Y2.out]; rfl, below_setRow hb.out (by omega) _⟩
        by_cases hm2 : m = 2
        · skip
          subst hm2
          have em : (((q * 5 + 2 : Nat) : Int)).tmod 5 = 2 := by rw [Int.tmod_eq_emod_of_nonneg (by omega)]; omega
          have eq5 : (((q * 5 + 2 : Nat) : Int)).tdiv 5 = (q : Int) := by rw [Int.tdiv_eq_ediv_of_nonneg (by omega)]; omega
          have ew : IntKind.i64.wrap (q : Int) = (q : Int) := IntWalk.i64_in _ (by omega)
          have HOK : Hid (okB s (q * 5 + 2) ↔ 0 ≤ sgn (byt s (q * 5 + 2))) := by
            show _ ↔ _
            unfold okB; rw [if_neg (by omega)]
          have HST : Hid (∀ j, upd (parU s (q * 5 + 2)) (q * 4 + 2) (sgn (byt s (q * 5 + 2))) j = parU s (q * 5 + 2 + 1) j) := parU_step s (by omega)
          have hsb := sgn_bd (byt s (q * 5 + 2))
          have iB := run_byt s (q * 5 + 2) (by omega)
          generalize hi : q * 5 + 2 = i at *
          generalize hx : byt s i = x at *
          have c4 := k4.cell (i := q * 4 + 2) (by omega)
          have f4 := k4.free (q * 4 + 2)
          go_wp2_with fail
          refine (l2Sign_any x _).mono ?_
          rintro e w' ⟨rfl, rfl⟩
          by_cases hs : 0 ≤ sgn x
          · have d0 : ¬ (sgn x < 0) := by omega
            have HS := Lib.hid hs
            have HI := Lib.hid hi
            clear hs hi
            go_wp2_with fail
            go_roundg g
            case rel => exact ⟨i + 1, by omega, by go_num, fun j hj => by
              by_cases e : j = i
              · subst e; exact HOK.out.2 HS.out
              · exact HE.out j (by omega), k2.setOther _ _ (by dsimp only; omega), (k4.set (i := q * 4 + 2) (by omega) _).congr fun j _ => HST.out j, hb.out.setCell (by dsimp only; omega) _⟩
            case measure => omega
          · have d0 : sgn x < 0 := by omega
            obtain ⟨y1, y2⟩ := par_no (s := s) (fun h => hs (HOK.out.1 (h.2 i hi19)))
            have Y1 := Lib.hid y1
            have Y2 := Lib.hid y2
            clear y1 y2 hs hi
            go_wp2_with ((with_reducible show wpList _ _ _ (Oper.mk _ (Op.store 27 _ _) _ _ _ _ :: _) _ _); refine storeB (k2) rfl rfl rfl rfl ?_)
            try simp only [Exit.inBlock, Exit.then]
            exact retctB (k2.row 16 _) rfl rfl rfl ⟨by rw [Y1.out, Y2.out]; rfl, below_setRow hb.out (by omega) _⟩
        by_cases hm3 : m = 3
        · skip
          subst hm3
          have em : (((q * 5 + 3 : Nat) : Int)).tmod 5 = 3 := by rw [Int.tmod_eq_emod_of_nonneg (by omega)]; omega
          have eq5 : (((q * 5 + 3 : Nat) : Int)).tdiv 5 = (q : Int) := by rw [Int.tdiv_eq_ediv_of_nonneg (by omega)]; omega
          have ew : IntKind.i64.wrap (q : Int) = (q : Int) := IntWalk.i64_in _ (by omega)
          have HOK : Hid (okB s (q * 5 + 3) ↔ 0 ≤ sgn (byt s (q * 5 + 3))) := by
            show _ ↔ _
            unfold okB; rw [if_neg (by omega)]
          have HST : Hid (∀ j, upd (parU s (q * 5 + 3)) (q * 4 + 3) (sgn (byt s (q * 5 + 3))) j = parU s (q * 5 + 3 + 1) j) := parU_step s (by omega)
          have hsb := sgn_bd (byt s (q * 5 + 3))
          have iB := run_byt s (q * 5 + 3) (by omega)
          generalize hi : q * 5 + 3 = i at *
          generalize hx : byt s i = x at *
          have c4 := k4.cell (i := q * 4 + 3) (by omega)
          have f4 := k4.free (q * 4 + 3)
          go_wp2_with fail
          refine (l2Sign_any x _).mono ?_
          rintro e w' ⟨rfl, rfl⟩
          by_cases hs : 0 ≤ sgn x
          · have d0 : ¬ (sgn x < 0) := by omega
            have HS := Lib.hid hs
            have HI := Lib.hid hi
            clear hs hi
            go_wp2_with fail
            go_roundg g
            case rel => exact ⟨i + 1, by omega, by go_num, fun j hj => by
              by_cases e : j = i
              · subst e; exact HOK.out.2 HS.out
              · exact HE.out j (by omega), k2.setOther _ _ (by dsimp only; omega), (k4.set (i := q * 4 + 3) (by omega) _).congr fun j _ => HST.out j, hb.out.setCell (by dsimp only; omega) _⟩
            case measure => omega
          · have d0 : sgn x < 0 := by omega
            obtain ⟨y1, y2⟩ := par_no (s := s) (fun h => hs (HOK.out.1 (h.2 i hi19)))
            have Y1 := Lib.hid y1
            have Y2 := Lib.hid y2
            clear y1 y2 hs hi
            go_wp2_with ((with_reducible show wpList _ _ _ (Oper.mk _ (Op.store 27 _ _) _ _ _ _ :: _) _ _); refine storeB (k2) rfl rfl rfl rfl ?_)
            try simp only [Exit.inBlock, Exit.then]
            exact retctB (k2.row 16 _) rfl rfl rfl ⟨by rw [Y1.out, Y2.out]; rfl, below_setRow hb.out (by omega) _⟩
        obtain rfl : m = 4 := by omega
        have em : (((q * 5 + 4 : Nat) : Int)).tmod 5 = 4 := by rw [Int.tmod_eq_emod_of_nonneg (by omega)]; omega
        have HOK : Hid (okB s (q * 5 + 4) ↔ byt s (q * 5 + 4) = 47) := by
          show _ ↔ _
          unfold okB; rw [if_pos (by omega)]
        have HST : Hid (∀ j, parU s (q * 5 + 4) j = parU s (q * 5 + 4 + 1) j) := parU_skip s
        have iB := run_byt s (q * 5 + 4) (by omega)
        have hby : (byt s (q * 5 + 4) = 47) ↔ ((byt s (q * 5 + 4)).toNat : Int) = 47 := by
          constructor
          · intro h; rw [h]; rfl
          · intro h; apply UInt8.toNat_inj.1; show (byt s (q * 5 + 4)).toNat = 47; omega
        have HY := Lib.hid hby
        clear hby
        generalize hi : q * 5 + 4 = i at *
        generalize hx : byt s i = x at *
        clear hm0 hm1 hm2 hm3 hm5
        go_wp2_with fail
        refine (l2Sign_any x _).mono ?_
        rintro e w' ⟨rfl, rfl⟩
        by_cases hs : (x.toNat : Int) = 47
        · have d0 : ((x.toNat : Int) != 47) = false := by simp [hs]
          have HS := Lib.hid hs
          have HI := Lib.hid hi
          clear hs hi
          go_wp2_with fail
          go_roundg g
          case rel => exact ⟨i + 1, by omega, by go_num, fun j hj => by
            by_cases e : j = i
            · subst e; exact HOK.out.2 (HY.out.2 HS.out)
            · exact HE.out j (by omega), k2, k4.congr fun j _ => HST.out j, hb⟩
          case measure => omega
        · have d0 : ((x.toNat : Int) != 47) = true := by simpa using hs
          obtain ⟨y1, y2⟩ := par_no (s := s) (fun h => hs (HY.out.1 (HOK.out.1 (h.2 i hi19))))
          have Y1 := Lib.hid y1
          have Y2 := Lib.hid y2
          clear y1 y2 hs hi
          go_wp2_with ((with_reducible show wpList _ _ _ (Oper.mk _ (Op.store 27 _ _) _ _ _ _ :: _) _ _); refine storeB (k2) rfl rfl rfl rfl ?_)
          try simp only [Exit.inBlock, Exit.then]
          exact retctB (k2.row 16 _) rfl rfl rfl ⟨by rw [Y1.out, Y2.out]; rfl, below_setRow hb.out (by omega) _⟩
  · have hz2 : ((s.size : Int) != 19) = true := by simp; omega
    obtain ⟨y1, y2⟩ := par_no (s := s) (fun h => hz h.1)
    rw [y1, y2]
    clear y1 y2 hz
    go_enter Try.func130, Try.ntmps130
    go_wp2_with ((with_reducible show wpList _ _ _ (Oper.mk _ (Op.store 27 _ _) _ _ _ _ :: _) _ _); refine storeB (K2) rfl rfl rfl rfl ?_)
    try simp only [Exit.inBlock, Exit.then]
    exact retctB (K2.row 16 _) rfl rfl rfl ⟨rfl, below_setRow HB.out (Nat.le_refl _) _⟩
theorem specParse_any (s : ByteArray) (w : World) :
    Calls Try.prog 56 #[.string s] w fun e w' => e = .returned (.tuple #[.agg (mk 16 (parR s)), .bool (parO s)]) ∧ Below w.heap.size w w' := by
  have z16 := zero16
  have K2 := Blk.new w 16 (fun _ => 0) 27
  have HB := Lib.hid ((Below.refl w.heap.size w).alloc (Nat.le_refl _) (.cells (mk 16 fun _ => 0) 27))
  go_enter Try.func56, Try.ntmps56
  go_wp2_with fail
  refine (l2Parse_any s _).mono ?_
  rintro e w2 ⟨rfl, hb⟩
  have K2 := K2.below hb K2.lt
  have HB : Hid (Below w.heap.size w w2) := HB.out.trans (hb.mono HB.out.size)
  clear hb
  go_wp2_with ((with_reducible show wpList _ _ _ (Oper.mk _ (Op.store 27 _ _) _ _ _ _ :: _) _ _); refine storeB (K2) rfl rfl rfl rfl ?_)
  try simp only [Exit.inBlock, Exit.then]
  exact retctB (K2.row 16 _) rfl rfl rfl ⟨rfl, below_setRow HB.out (Nat.le_refl _) _⟩
end Go.Proofs.Ytpiegllffkjneaa
