/-
  The contracts of RowNumber and RowAt, in the reference and in the program.
-/
import Derived.Test.YtpiegllffkjneaaRowsA
namespace Go.Proofs.Ytpiegllffkjneaa
open Go.RowKit Plain
attribute [local go_sem] store_new

theorem num_step (f : Nat → Int) (k : Nat) : num f (k + 1) = num f k * 18 + f k := rfl
set_option maxHeartbeats 400000 in
theorem specNum_any (f : Nat → Int) (w : World) :
    Calls Try.prog 69 #[.agg (mk 4 f)] w fun e w' => e = .returned (.tuple #[.int .i64 (nuR f), .bool (rwO f)]) ∧ Below w.heap.size w w' := by
  have iR := idxR
  have K1 := Blk.new w 4 f 24
  have HB := Lib.hid ((Below.refl w.heap.size w).alloc (Nat.le_refl _) (.cells (mk 4 f) 24))
  by_cases hV : VdRow f
  · rw [nu_yes hV, rwO_yes hV]
    have HV := Lib.hid hV
    have HO := Lib.hid (rwO_yes hV)
    clear hV
    go_enter Try.func69, Try.ntmps69
    go_wp2_with ((with_reducible show wpList _ _ _ (Oper.mk _ (Op.load 24 _) _ _ _ _ :: _) _ _); refine loadR (K1) rfl rfl rfl ?_)
    refine (l4Row_any _ _).mono ?_
    rw [HO.out]
    rintro e w1 ⟨rfl, hb⟩
    have K1 := K1.below hb K1.lt
    have HB : Hid (Below w.heap.size w w1) := HB.out.trans (hb.mono HB.out.size)
    clear hb
    go_wp2_with ((with_reducible show wpList _ _ _ (Oper.mk _ (Op.load 24 _) _ _ _ _ :: _) _ _); refine loadR (K1) rfl rfl rfl ?_)
    go_loopg [5, 4] 4 (fun g s11 s4 wx => ∃ c : Nat, c + g = 4 ∧ s11 = .int .i64 c ∧ s4 = .int .i64 (num f c) ∧ w1 = wx)
    case atStart => exact ⟨0, by omega, rfl, rfl, rfl⟩
    case round =>
      obtain ⟨c, hch, rfl, rfl, rfl⟩ := hrel
      cases gk with
      | zero =>
        have hc : ¬ ((c : Int) < 4) := by omega
        have HC : Hid (c = 4) := by show c = 4; omega
        clear hch
        go_wp2_with fail
        go_ret2
        exact ⟨by rw [HC.out]; rfl, HB.out⟩
      | succ h =>
        have hc : (c : Int) < 4 := by omega
        have hc4 : c < 4 := by omega
        have k1 := K1.cell (i := c) (by omega)
        have HS := Lib.hid (num_step f c)
        obtain ⟨b0, b1⟩ := num_le HV.out (k := c) (by omega)
        obtain ⟨x0, x1⟩ := HV.out c (by omega)
        generalize num f c = m at *
        generalize f c = x at k1 x0 x1 HS
        go_wp2_with fail
        go_roundg h
        case rel => exact ⟨c + 1, by omega, by go_num, by (rw [HS.out]; try go_num), rfl⟩
        case measure => omega
  · rw [nu_no hV, rwO_no hV]
    have HO := Lib.hid (rwO_no hV)
    clear hV
    go_enter Try.func69, Try.ntmps69
    go_wp2_with ((with_reducible show wpList _ _ _ (Oper.mk _ (Op.load 24 _) _ _ _ _ :: _) _ _); refine loadR (K1) rfl rfl rfl ?_)
    refine (l4Row_any _ _).mono ?_
    rw [HO.out]
    rintro e w1 ⟨rfl, hb⟩
    have K1 := K1.below hb K1.lt
    have HB : Hid (Below w.heap.size w w1) := HB.out.trans (hb.mono HB.out.size)
    clear hb
    go_wp2_with fail
    go_ret2
    exact ⟨rfl, HB.out⟩
set_option maxHeartbeats 400000 in
theorem implNum_any (f : Nat → Int) (w : World) :
    Calls Try.prog 68 #[.agg (mk 4 f)] w fun e w' => e = .returned (.tuple #[.int .i64 (nuR f), .bool (rwO f)]) ∧ Below w.heap.size w w' := by
  have iR := idxR
  have K1 := Blk.new w 4 f 24
  have HB := Lib.hid ((Below.refl w.heap.size w).alloc (Nat.le_refl _) (.cells (mk 4 f) 24))
  by_cases hV : VdRow f
  · rw [nu_yes hV, rwO_yes hV]
    have HV := Lib.hid hV
    have HO := Lib.hid (rwO_yes hV)
    clear hV
    go_enter Try.func68, Try.ntmps68
    go_wp2_with ((with_reducible show wpList _ _ _ (Oper.mk _ (Op.load 24 _) _ _ _ _ :: _) _ _); refine loadR (K1) rfl rfl rfl ?_)
    refine (implIsRow_any _ _).mono ?_
    rw [HO.out]
    rintro e w1 ⟨rfl, hb⟩
    have K1 := K1.below hb K1.lt
    have HB : Hid (Below w.heap.size w w1) := HB.out.trans (hb.mono HB.out.size)
    clear hb
    go_wp2_with ((with_reducible show wpList _ _ _ (Oper.mk _ (Op.load 24 _) _ _ _ _ :: _) _ _); refine loadR (K1) rfl rfl rfl ?_)
    go_loopg [11, 4] 4 (fun g s11 s4 wx => ∃ c : Nat, c + g = 4 ∧ s11 = .int .i64 c ∧ s4 = .int .i64 (num f c) ∧ w1 = wx)
    case atStart => exact ⟨0, by omega, rfl, rfl, rfl⟩
    case round =>
      obtain ⟨c, hch, rfl, rfl, rfl⟩ := hrel
      cases gk with
      | zero =>
        have hc : ¬ ((c : Int) < 4) := by omega
        have HC : Hid (c = 4) := by show c = 4; omega
        clear hch
        go_wp2_with fail
        go_ret2
        exact ⟨by rw [HC.out]; rfl, HB.out⟩
      | succ h =>
        have hc : (c : Int) < 4 := by omega
        have hc4 : c < 4 := by omega
        have k1 := K1.cell (i := c) (by omega)
        have HS := Lib.hid (num_step f c)
        obtain ⟨b0, b1⟩ := num_le HV.out (k := c) (by omega)
        obtain ⟨x0, x1⟩ := HV.out c (by omega)
        generalize num f c = m at *
        skip
        go_wp2_with fail
        go_roundg h
        case rel => exact ⟨c + 1, by omega, by go_num, by (rw [HS.out]; try go_num), rfl⟩
        case measure => omega
  · rw [nu_no hV, rwO_no hV]
    have HO := Lib.hid (rwO_no hV)
    clear hV
    go_enter Try.func68, Try.ntmps68
    go_wp2_with ((with_reducible show wpList _ _ _ (Oper.mk _ (Op.load 24 _) _ _ _ _ :: _) _ _); refine loadR (K1) rfl rfl rfl ?_)
    refine (implIsRow_any _ _).mono ?_
    rw [HO.out]
    rintro e w1 ⟨rfl, hb⟩
    have K1 := K1.below hb K1.lt
    have HB : Hid (Below w.heap.size w w1) := HB.out.trans (hb.mono HB.out.size)
    clear hb
    go_wp2_with fail
    go_ret2
    exact ⟨rfl, HB.out⟩

theorem tdiv_nat (n d : Nat) : ((n : Int).tdiv (d : Int)) = ((n / d : Nat) : Int) := by simp
theorem tmod_nat (n d : Nat) : ((n : Int).tmod (d : Int)) = ((n % d : Nat) : Int) := by
  rw [Int.tmod_eq_emod_of_nonneg (Int.natCast_nonneg n)]; exact (Int.natCast_emod n d).symm
theorem upd_dig (n b j : Nat) (hj : j < 4) (i : Nat) (hi : i < 4) : upd (dig n b (j + 1)) j ((n / b ^ (3 - j) % b : Nat) : Int) i = dig n b j i := dig_step n b hj i hi
set_option maxHeartbeats 400000 in
theorem digitsOf_any (n b : Nat) (w : World) (hn : n ≤ 104976) (hb1 : 1 ≤ b) (hb2 : b ≤ 18) :
    Calls Try.prog 142 #[.int .i64 n, .int .i64 b] w fun e w' => e = .returned (.agg (mk 4 (dig n b 0))) ∧ Below w.heap.size w w' := by
  have z4 := zero4
  have K1 := (Blk.new w 4 (fun _ => 0) 24).alloc (.cells (mk 4 fun _ => 0) 24)
  have K2 := Blk.new (w.alloc (.cells (mk 4 fun _ => 0) 24)) 4 (fun _ => 0) 24
  have HB := Lib.hid (((Below.refl w.heap.size w).alloc (Nat.le_refl _) (.cells (mk 4 fun _ => 0) 24)).alloc (by simp) (.cells (mk 4 fun _ => 0) 24))
  simp only [World.size_alloc] at K2
  go_enter Try.func142, Try.ntmps142
  go_wp2_with fail
  generalize (w.alloc (.cells (mk 4 fun _ => 0) 24)).alloc (.cells (mk 4 fun _ => 0) 24) = w1 at *
  go_loopg [6, 0] 4 (fun g s6 s0 wr => ∃ m : Nat, s6 = .int .i64 ((g : Int) - 1) ∧ s0 = .int .i64 m ∧ m ≤ 104976 ∧ g ≤ 4 ∧ Hid (m = n / b ^ (4 - g)) ∧
    Blk wr w.heap.size 4 (fun _ => 0) 24 ∧ Blk wr (w.heap.size + 1) 4 (dig n b g) 24 ∧ Hid (Below w.heap.size w wr))
  case atStart => exact ⟨n, by simp, rfl, hn, by omega, (by show n = n / b ^ (4 - 4); simp), K1, K2.congr (fun i hi => by unfold dig; rw [if_neg (by omega)]), HB⟩
  case round =>
    obtain ⟨m, rfl, rfl, hm, hg4, HM, k1, k2, hb⟩ := hrel
    cases gk with
    | zero =>
      have hc : ¬ ((0 : Int) ≤ ((0 : Nat) : Int) - 1) := by omega
      have hc2 : decide ((0 : Int) ≤ ((0 : Nat) : Int) - 1) = false := by simp
      go_wp2_with (first | ((with_reducible show wpList _ _ _ (Oper.mk _ (Op.load 24 _) _ _ _ _ :: _) _ _); refine loadR (k2) rfl rfl rfl ?_) | ((with_reducible show wpList _ _ _ (Oper.mk _ (Op.store 24 _ _) _ _ _ _ :: _) _ _); refine storeR (k1) rfl rfl rfl rfl ?_))
      try simp only [Exit.inBlock, Exit.then]
      exact retcR (k1.row 4 _) rfl rfl rfl ⟨rfl, below_setRow hb.out (by omega) _⟩
    | succ g =>
      have e1 : (((g + 1 : Nat) : Int) - 1) = (g : Int) := by omega
      rw [e1]
      have hg0 : (0 : Int) ≤ (g : Int) := by omega
      have hgl : (g : Int) < 4 := by omega
      have hb0 : ((b : Int) == 0) = false := by simp; omega
      have hbn : (b : Int) ≠ 0 := by omega
      have c2 := k2.cell (i := g) (by omega)
      have f2 := k2.free g
      have HD : Hid (m / b = n / b ^ (4 - g)) := by
        show _ = _
        rw [HM.out, Nat.div_div_eq_div_mul, ← Nat.pow_succ, show (4 - (g + 1)).succ = 4 - g by omega]
      have HX : Hid (m % b = n / b ^ (3 - g) % b) := by
        show _ = _
        rw [HM.out, show 4 - (g + 1) = 3 - g by omega]
      have hle : m / b ≤ 104976 := Nat.le_trans (Nat.div_le_self _ _) hm
      have hmod : m % b < 18 := Nat.lt_of_lt_of_le (Nat.mod_lt _ (by omega)) hb2
      have q1 := tdiv_nat m b
      have q2 := tmod_nat m b
      generalize m / b = Q at *
      generalize m % b = D at *
      have w1' : IntKind.i64.wrap ((m : Int).tdiv (b : Int)) = (Q : Int) := by rw [q1]; exact IntWalk.i64_in _ (by omega)
      have w2' : IntKind.i64.wrap ((m : Int).tmod (b : Int)) = (D : Int) := by rw [q2]; exact IntWalk.i64_in _ (by omega)
      go_wp2_with fail
      go_roundg g
      case rel => exact ⟨Q, by go_num, by go_num, by omega, by omega, HD, k1.setOther _ _ (by dsimp only; omega), by
        have := k2.set (i := g) (by omega) (D : Int)
        have e : Hid (D = n / b ^ (3 - g) % b) := HX
        rw [e.out] at this ⊢
        exact this.congr (upd_dig n b g (by omega)), hb.out.setCell (by dsimp only; omega) _⟩
      case measure => omega
theorem at_digits (n : Nat) (hn : n ≤ 104975) : mk 4 (qd ((n : Int) / 5832) ((n : Int) / 324 % 18) ((n : Int) / 18 % 18) ((n : Int) % 18)) = mk 4 (dig n 18 0) := by
  refine mk_congr fun i hi => ?_
  rcases (by omega : i = 0 ∨ i = 1 ∨ i = 2 ∨ i = 3) with rfl | rfl | rfl | rfl
  · show (n : Int) / 5832 = ((n / 18 ^ 3 % 18 : Nat) : Int)
    omega
  · show (n : Int) / 324 % 18 = ((n / 18 ^ 2 % 18 : Nat) : Int)
    omega
  · show (n : Int) / 18 % 18 = ((n / 18 ^ 1 % 18 : Nat) : Int)
    omega
  · show (n : Int) % 18 = ((n / 18 ^ 0 % 18 : Nat) : Int)
    omega
theorem l4At_any (n : Nat) (w : World) (hn : n ≤ 104975) :
    Calls Try.prog 143 #[.int .i64 n] w fun e w' => e = .returned (.agg (mk 4 (dig n 18 0))) ∧ Below w.heap.size w w' := by
  have K1 := Blk.new w 4 (fun _ => 0) 24
  have HB := Lib.hid ((Below.refl w.heap.size w).alloc (Nat.le_refl _) (.cells (mk 4 fun _ => 0) 24))
  have HD := Lib.hid (at_digits n hn)
  go_enter Try.func143, Try.ntmps143
  go_wp2_with ((with_reducible show wpList _ _ _ (Oper.mk _ (Op.store 24 _ _) _ _ _ _ :: _) _ _); refine storeR (g := qd _ _ _ _) K1 rfl rfl rfl rfl ?_)
  try simp only [Exit.inBlock, Exit.then]
  rw [← HD.out]
  exact retcR (K1.row 4 _) rfl rfl rfl ⟨rfl, below_setRow HB.out (by omega) _⟩
set_option maxHeartbeats 400000 in
theorem specAt_any (n : Int) (w : World) :
    Calls Try.prog 72 #[.int .i64 n] w fun e w' => e = .returned (.tuple #[.agg (mk 4 (atR n)), .bool (atO n)]) ∧ Below w.heap.size w w' := by
  have K1 := Blk.new w 4 (fun _ => 0) 24
  have HB := Lib.hid ((Below.refl w.heap.size w).alloc (Nat.le_refl _) (.cells (mk 4 fun _ => 0) 24))
  have z4 := zero4
  by_cases hA : AtOk n
  · obtain ⟨y1, y2⟩ := at_yes hA
    rw [y1, y2]
    obtain ⟨h0, h1⟩ := hA
    obtain ⟨m, rfl⟩ := Int.eq_ofNat_of_zero_le h0
    have hm : m ≤ 104975 := by omega
    rw [Int.toNat_natCast]
    clear y1 y2
    go_enter Try.func72, Try.ntmps72
    go_wp2_with fail
    refine (l1In_yes _ 0 104975 _ h0 h1).mono ?_
    rintro e w' ⟨rfl, rfl⟩
    go_wp2_with fail
    refine (l4At_any m _ hm).mono ?_
    rintro e w2 ⟨rfl, hb⟩
    have K1 := K1.below hb K1.lt
    have HB : Hid (Below w.heap.size w w2) := HB.out.trans (hb.mono HB.out.size)
    clear hb
    go_wp2_with ((with_reducible show wpList _ _ _ (Oper.mk _ (Op.store 24 _ _) _ _ _ _ :: _) _ _); refine storeR (K1) rfl rfl rfl rfl ?_)
    try simp only [Exit.inBlock, Exit.then]
    exact retctR (K1.row 4 _) rfl rfl rfl ⟨rfl, below_setRow HB.out (by omega) _⟩
  · obtain ⟨y1, y2⟩ := at_no hA
    rw [y1, y2]
    have HN := Lib.hid (show n < 0 ∨ 104975 < n by unfold AtOk at hA; omega)
    clear y1 y2 hA
    go_enter Try.func72, Try.ntmps72
    go_wp2_with fail
    refine (l1In_no _ 0 104975 _ HN.out).mono ?_
    rintro e w' ⟨rfl, rfl⟩
    go_wp2_with ((with_reducible show wpList _ _ _ (Oper.mk _ (Op.store 24 _ _) _ _ _ _ :: _) _ _); refine storeR (K1) rfl rfl rfl rfl ?_)
    try simp only [Exit.inBlock, Exit.then]
    exact retctR (K1.row 4 _) rfl rfl rfl ⟨rfl, below_setRow HB.out (by omega) _⟩
set_option maxHeartbeats 400000 in
theorem implAt_any (n : Int) (w : World) :
    Calls Try.prog 71 #[.int .i64 n] w fun e w' => e = .returned (.tuple #[.agg (mk 4 (atR n)), .bool (atO n)]) ∧ Below w.heap.size w w' := by
  have K1 := Blk.new w 4 (fun _ => 0) 24
  have HB := Lib.hid ((Below.refl w.heap.size w).alloc (Nat.le_refl _) (.cells (mk 4 fun _ => 0) 24))
  have z4 := zero4
  by_cases hA : AtOk n
  · obtain ⟨y1, y2⟩ := at_yes hA
    rw [y1, y2]
    obtain ⟨h0, h1⟩ := hA
    obtain ⟨m, rfl⟩ := Int.eq_ofNat_of_zero_le h0
    have hm : m ≤ 104976 := by omega
    rw [Int.toNat_natCast]
    have d0 : decide ((m : Int) < 0) = false := by simp
    have d1 : decide ((104976 : Int) ≤ (m : Int)) = false := by simp; omega
    clear y1 y2
    go_enter Try.func71, Try.ntmps71
    go_wp2_with fail
    refine (digitsOf_any m 18 _ hm (by omega) (by omega)).mono ?_
    rintro e w2 ⟨rfl, hb⟩
    have K1 := K1.below hb K1.lt
    have HB : Hid (Below w.heap.size w w2) := HB.out.trans (hb.mono HB.out.size)
    clear hb
    go_wp2_with ((with_reducible show wpList _ _ _ (Oper.mk _ (Op.store 24 _ _) _ _ _ _ :: _) _ _); refine storeR (K1) rfl rfl rfl rfl ?_)
    try simp only [Exit.inBlock, Exit.then]
    exact retctR (K1.row 4 _) rfl rfl rfl ⟨rfl, below_setRow HB.out (by omega) _⟩
  · obtain ⟨y1, y2⟩ := at_no hA
    rw [y1, y2]
    by_cases hn : n < 0
    · have d0 : decide (n < 0) = true := by simpa using hn
      clear y1 y2 hA hn
      go_enter Try.func71, Try.ntmps71
      go_wp2_with ((with_reducible show wpList _ _ _ (Oper.mk _ (Op.store 24 _ _) _ _ _ _ :: _) _ _); refine storeR (K1) rfl rfl rfl rfl ?_)
      try simp only [Exit.inBlock, Exit.then]
      exact retctR (K1.row 4 _) rfl rfl rfl ⟨rfl, below_setRow HB.out (by omega) _⟩
    · have d0 : decide (n < 0) = false := by simp; omega
      have d1 : decide (104976 ≤ n) = true := by unfold AtOk at hA; simp; omega
      clear y1 y2 hA hn
      go_enter Try.func71, Try.ntmps71
      go_wp2_with ((with_reducible show wpList _ _ _ (Oper.mk _ (Op.store 24 _ _) _ _ _ _ :: _) _ _); refine storeR (K1) rfl rfl rfl rfl ?_)
      try simp only [Exit.inBlock, Exit.then]
      exact retctR (K1.row 4 _) rfl rfl rfl ⟨rfl, below_setRow HB.out (by omega) _⟩
end Go.Proofs.Ytpiegllffkjneaa
