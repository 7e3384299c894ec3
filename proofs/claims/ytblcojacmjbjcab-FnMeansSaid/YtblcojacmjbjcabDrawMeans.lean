/-
  What FnMeans draws: moved9, DrawChanceOver, DrawMeanRoom, DrawMeanSum, DrawMeanScore.
-/
import Derived.Test.YtblcojacmjbjcabDrawKept
namespace Go.Proofs.Ytblcojacmjbjcab
open Go.RowKit Plain
attribute [local go_sem] store_new
set_option linter.unusedSimpArgs false
set_option linter.unusedVariables false
theorem cat_turned9 {w w' : World} {B g n : Nat} {h : Nat → Int} (c : CAt w g n h) (ht : Turned B w w') (hne : g ≠ B) : CAt w' g n h :=
  ⟨Nat.lt_of_lt_of_le c.1 ht.size, fun j hj => ht.cell (c.2 j hj) hne⟩
theorem mov_mem9 {w : World} {b g c : Nat} {L : List Int} (h : OwnsInts w b (.slice (some ⟨g, 0, none⟩) L.length c) L) : CAt w g L.length (fun i => L.getD i 0) := by
  unfold OwnsInts at h
  rw [ints_mk] at h
  obtain ⟨_, _, e1, _, hl, hh⟩ := IRow.of_own h
  cases e1
  exact ⟨hl, hh⟩
set_option maxHeartbeats 8000000 in
set_option maxRecDepth 20000 in
theorem moved9_any (w : World) (B m : Nat) (hc : Cur w B m) (hm : m ≤ 999970000) :
    Calls Try.prog 177 #[.pointer (some ⟨B, 0, none⟩)] w fun e w' => ∃ (f : Nat → Int) (d : Int), e = .returned (.tuple #[.agg (mk 16 f), .int .i64 d]) ∧ Cur w' B (m + 340) ∧ Turned B w w' := by
  have z16 := zero16
  have D0 := Lib.hid ((Dr.start hc).alloc (.cells (mk 16 fun _ => 0) 47))
  have K2 := Blk.new w 16 (fun _ => 0) 47
  have hB := hc.lt
  clear hc
  go_enter Try.func177, Try.ntmps177
  go_wp2_with fail
  refine (tight5_any _ B m D0.out.1 (by omega)).mono ?_
  rintro e w1 ⟨F, rfl, hc1, ht1⟩
  have K2 := K2.turned ht1 (by omega)
  have h3 : w.heap.size < w1.heap.size := K2.lt
  have hs : TS w B (m + 300) w1.heap.size F (w1.alloc (.cells (mk 16 F) 47)) := ⟨(D0.out.call hc1 ht1).alloc _, K2.alloc _, Blk.new _ _ _ _, h3⟩
  clear hc1 ht1 D0 K2 h3
  have HS := Lib.hid hs
  clear hs
  go_wp2_with fail
  generalize w1.alloc (.cells (mk 16 F) 47) = w2 at *
  generalize w1.heap.size = b3 at *
  refine (side_any _ B (m + 300) HS.out.1.1 (by omega)).mono ?_
  rintro e w3 ⟨d, rfl, hc2, ht2⟩
  have hs := HS.out.call hc2 ht2
  clear HS hc2 ht2
  have K3 := hs.2.2.1
  have HS := Lib.hid hs
  clear hs
  go_wp2_with ((with_reducible show wpList _ _ _ (Oper.mk _ (Op.load 47 _) _ _ _ _ :: _) _ _); refine loadB (K3) rfl rfl rfl ?_)
  have hs := HS.out
  clear HS K3
  by_cases hV : Vd F
  · refine (l2Board_yes _ _ hV).mono ?_
    rintro e w4 ⟨rfl, hb⟩
    have HV := Lib.hid hV
    have HS := Lib.hid (hs.below hb)
    clear hb hs hV
    go_wp2_with fail
    have hs := HS.out
    clear HS
    refine (one_any _ B _ 8 hs.1.1 (by omega) (by omega) (by omega)).mono ?_
    rintro e w5 ⟨c, rfl, hc2, ht2⟩
    have hs := hs.call hc2 ht2
    clear hc2 ht2
    cases c with
    | true =>
      obtain ⟨h1, h2, h3, h4⟩ := hs
      have HD := Lib.hid h1
      clear h1
      go_wp2_with (first | ((with_reducible show wpList _ _ _ (Oper.mk _ (Op.load 47 _) _ _ _ _ :: _) _ _); refine loadB (h3) rfl rfl rfl ?_) | ((with_reducible show wpList _ _ _ (Oper.mk _ (Op.store 47 _ _) _ _ _ _ :: _) _ _); refine storeB (h2) rfl rfl rfl rfl ?_))
      try simp only [Exit.inBlock, Exit.then]
      exact retctB (h2.row 16 _) rfl rfl rfl ⟨_, _, rfl, (HD.out.row (Nat.le_refl _) _).1.more (by omega), (HD.out.row (Nat.le_refl _) _).2.1⟩
    | false =>
      have K3 := hs.2.2.1
      have HS := Lib.hid hs
      clear hs
      go_wp2_with ((with_reducible show wpList _ _ _ (Oper.mk _ (Op.load 47 _) _ _ _ _ :: _) _ _); refine loadB (K3) rfl rfl rfl ?_)
      clear K3
      refine (l2Moves_any _ _ HV.out).mono ?_
      rintro _ w6 ⟨g, cap, rfl, ho, hb⟩
      have hgl : w5.heap.size ≤ g := (ho.lt g rfl).1
      have hBl := HS.out.1.1.lt
      have CE := mov_mem9 ho
      have hs := HS.out.below hb
      have hn4 := movL_le F 4
      clear ho hb HS HV
      generalize (movL F 4).length = n at *
      generalize (fun i => (movL F 4).getD i 0) = H at *
      by_cases hn : (n : Int) > 0
      · have HS := Lib.hid hs
        have HE := Lib.hid CE
        clear hs CE
        go_wp2_with fail
        refine (pick_any _ B _ (n : Int) HS.out.1.1 (by omega) (by omega) (by omega)).mono ?_
        rintro e w9 ⟨k, hk, rfl, hc2, ht2⟩
        have hs := HS.out.call hc2 ht2
        have hkn : k < n := by omega
        have hk0 : (0 : Int) ≤ (k : Int) := by omega
        have c0 := (cat_turned9 HE.out ht2 (by omega)).2 k hkn
        clear HS HE hc2 ht2
        obtain ⟨h1, h2, h3, h4⟩ := hs
        have HD := Lib.hid h1
        clear h1
        go_wp2_with (first | ((with_reducible show wpList _ _ _ (Oper.mk _ (Op.load 47 _) _ _ _ _ :: _) _ _); refine loadB (h3) rfl rfl rfl ?_) | ((with_reducible show wpList _ _ _ (Oper.mk _ (Op.store 47 _ _) _ _ _ _ :: _) _ _); refine storeB (h2) rfl rfl rfl rfl ?_))
        try simp only [Exit.inBlock, Exit.then]
        exact retctB (h2.row 16 _) rfl rfl rfl ⟨_, _, rfl, (HD.out.row (Nat.le_refl _) _).1.more (by omega), (HD.out.row (Nat.le_refl _) _).2.1⟩
      · clear CE
        obtain ⟨h1, h2, h3, h4⟩ := hs
        have HD := Lib.hid h1
        clear h1
        go_wp2_with (first | ((with_reducible show wpList _ _ _ (Oper.mk _ (Op.load 47 _) _ _ _ _ :: _) _ _); refine loadB (h3) rfl rfl rfl ?_) | ((with_reducible show wpList _ _ _ (Oper.mk _ (Op.store 47 _ _) _ _ _ _ :: _) _ _); refine storeB (h2) rfl rfl rfl rfl ?_))
        try simp only [Exit.inBlock, Exit.then]
        exact retctB (h2.row 16 _) rfl rfl rfl ⟨_, _, rfl, (HD.out.row (Nat.le_refl _) _).1.more (by omega), (HD.out.row (Nat.le_refl _) _).2.1⟩
  · refine (l2Board_no _ _ hV).mono ?_
    rintro e w4 ⟨rfl, hb⟩
    have hs := hs.below hb
    clear hb hV
    obtain ⟨h1, h2, h3, h4⟩ := hs
    have HD := Lib.hid h1
    clear h1
    go_wp2_with (first | ((with_reducible show wpList _ _ _ (Oper.mk _ (Op.load 47 _) _ _ _ _ :: _) _ _); refine loadB (h3) rfl rfl rfl ?_) | ((with_reducible show wpList _ _ _ (Oper.mk _ (Op.store 47 _ _) _ _ _ _ :: _) _ _); refine storeB (h2) rfl rfl rfl rfl ?_))
    try simp only [Exit.inBlock, Exit.then]
    exact retctB (h2.row 16 _) rfl rfl rfl ⟨_, _, rfl, (HD.out.row (Nat.le_refl _) _).1.more (by omega), (HD.out.row (Nat.le_refl _) _).2.1⟩
set_option maxHeartbeats 1000000 in
theorem drawCOver_any (a : Option Addr) (len cap : Nat) (w : World) (hl : len ≤ 65536) (hr : CodeRow w a len w.heap.size) :
    Calls Try.prog 70 #[.slice a len cap] w fun e w' => ∃ (f : Nat → Int) (n : Int), e = .returned (.tuple #[.agg (mk 16 f), .int .i64 n]) ∧ Below w.heap.size w w' := by
  have z16 := zero16
  have K2 := (Blk.new w 16 (fun _ => 0) 47).alloc (.cells #[.slice a len cap, .int .i64 0, .int .u64 0] 114)
  have hr1 := hr.later ((Below.refl _ w).alloc (Nat.le_refl _) (.cells (mk 16 fun _ => 0) 47))
  have HC := Lib.hid (Cur.new (w.alloc (.cells (mk 16 fun _ => 0) 47)) a len cap hl hr1)
  have hs : (w.alloc (.cells (mk 16 fun _ => 0) 47)).heap.size = w.heap.size + 1 := by simp
  rw [hs] at HC
  clear hr hr1
  have HT := Lib.hid (Turned.refl (w.heap.size + 1) ((w.alloc (.cells (mk 16 fun _ => 0) 47)).alloc (.cells #[.slice a len cap, .int .i64 0, .int .u64 0] 114)))
  go_enter Try.func70, Try.ntmps70
  go_wp2_with fail
  refine (moved9_any _ (w.heap.size + 1) 0 HC.out (by omega)).mono ?_
  rintro e w2 ⟨f, d, rfl, hc2, ht2⟩
  have K2 := K2.turned ht2 (by omega)
  have HT := Lib.hid (HT.out.trans ht2)
  clear hc2 ht2 HC
  go_wp2_with ((with_reducible show wpList _ _ _ (Oper.mk _ (Op.store 47 _ _) _ _ _ _ :: _) _ _); refine storeB (K2) rfl rfl rfl rfl ?_)
  try simp only [Exit.inBlock, Exit.then]
  exact retctB (K2.row 16 _) rfl rfl rfl ⟨f, d, rfl, below_setRow (below_two rfl HT.out) (Nat.le_refl _) _⟩
set_option maxHeartbeats 400000 in
theorem drawMRoom_any (a : Option Addr) (len cap : Nat) (w : World) (hl : len ≤ 65536) (hr : CodeRow w a len w.heap.size) :
    Calls Try.prog 79 #[.slice a len cap] w fun e w' => ∃ (f : Nat → Int) (n : Int), e = .returned (.tuple #[.agg (mk 16 f), .int .i64 n]) ∧ Below w.heap.size w w' := by
  have z16 := zero16
  have K2 := Blk.new w 16 (fun _ => 0) 47
  have HB := Lib.hid ((Below.refl w.heap.size w).alloc (Nat.le_refl _) (.cells (mk 16 fun _ => 0) 47))
  have HR := Lib.hid (hr.later ((Below.refl _ w).alloc (Nat.le_refl _) (.cells (mk 16 fun _ => 0) 47)))
  clear hr
  go_enter Try.func79, Try.ntmps79
  go_wp2_with fail
  refine (drawCOver_any a len cap _ hl HR.out).mono ?_
  rintro e w2 ⟨f, k, rfl, hb⟩
  have K2 := K2.below hb (by simp)
  have HB : Hid (Below w.heap.size w w2) := HB.out.trans (hb.mono HB.out.size)
  clear hb
  go_wp2_with ((with_reducible show wpList _ _ _ (Oper.mk _ (Op.store 47 _ _) _ _ _ _ :: _) _ _); refine storeB (K2) rfl rfl rfl rfl ?_)
  try simp only [Exit.inBlock, Exit.then]
  exact retctB (K2.row 16 _) rfl rfl rfl ⟨f, k, rfl, below_setRow HB.out (Nat.le_refl _) _⟩
set_option maxHeartbeats 2000000 in
theorem drawMSum_any (a : Option Addr) (len cap : Nat) (w : World) (hl : len ≤ 65536) (hr : CodeRow w a len w.heap.size) :
    Calls Try.prog 84 #[.slice a len cap] w fun e w' => ∃ (f : Nat → Int) (n : Int), e = .returned (.tuple #[.agg (mk 16 f), .int .i64 n]) ∧ Below w.heap.size w w' := by
  have z16 := zero16
  have K2 := (Blk.new w 16 (fun _ => 0) 47).alloc (.cells #[.slice a len cap, .int .i64 0, .int .u64 0] 114)
  have hr1 := hr.later ((Below.refl _ w).alloc (Nat.le_refl _) (.cells (mk 16 fun _ => 0) 47))
  have HC := Lib.hid (Cur.new (w.alloc (.cells (mk 16 fun _ => 0) 47)) a len cap hl hr1)
  have hs : (w.alloc (.cells (mk 16 fun _ => 0) 47)).heap.size = w.heap.size + 1 := by simp
  rw [hs] at HC
  clear hr hr1
  have HT := Lib.hid (Turned.refl (w.heap.size + 1) ((w.alloc (.cells (mk 16 fun _ => 0) 47)).alloc (.cells #[.slice a len cap, .int .i64 0, .int .u64 0] 114)))
  go_enter Try.func84, Try.ntmps84
  go_wp2_with fail
  refine (board_any _ (w.heap.size + 1) 0 HC.out (by omega)).mono ?_
  rintro e w2 ⟨f, rfl, hc2, ht2⟩
  have hlt2 := hc2.lt
  have K2 := K2.turned ht2 (by omega)
  have HT := Lib.hid (HT.out.trans ht2)
  have HC := Lib.hid hc2
  clear hc2 ht2
  go_wp2_with fail
  generalize hA : w2.alloc _ = w3
  have K2 : Blk w3 w.heap.size 16 (fun _ => 0) 47 := by rw [← hA]; exact K2.alloc _
  have HC : Hid (Cur w3 (w.heap.size + 1) (0 + 200)) := by rw [← hA]; exact HC.out.alloc _
  have HT : Hid (Turned (w.heap.size + 1) ((w.alloc (.cells (mk 16 fun _ => 0) 47)).alloc (.cells #[.slice a len cap, .int .i64 0, .int .u64 0] 114)) w3) := by rw [← hA]; exact HT.out.alloc _
  have hcell : ∀ j, j < 7 → ∃ v, w3.cell? ⟨w2.heap.size, j, none⟩ = some v ∧ ∃ t, v = .int .i64 t ∧ True := by
    intro j hj
    rw [← hA]
    refine alloc_all w2 _ _ (fun v => ∃ t, v = .int .i64 t ∧ True) ?_ j hj
    intro v hv
    simp at hv
    rcases hv with rfl | rfl | rfl | rfl | rfl | rfl | rfl <;> exact ⟨_, rfl, trivial⟩
  have HP := Lib.hid hcell
  clear hA hcell
  have HL2 := Lib.hid hlt2
  clear hlt2
  generalize w2.heap.size = b2 at *
  refine (pick_any _ (w.heap.size + 1) _ 24 HC.out (by omega) (by omega) (by omega)).mono ?_
  rintro e w4 ⟨k, hk, rfl, hc2, ht2⟩
  have K2 := K2.turned ht2 (by omega)
  have HC := Lib.hid hc2
  have HT := Lib.hid (HT.out.trans ht2)
  have HP : Hid (∀ j, j < 7 → ∃ v, w4.cell? ⟨b2, j, none⟩ = some v ∧ ∃ t, v = .int .i64 t ∧ True) := fun j hj => by
    obtain ⟨v, h1, h2⟩ := HP.out j hj
    exact ⟨v, ht2.cell h1 (by have := HL2.out; dsimp only; omega), h2⟩
  clear hc2 ht2
  have hq : (k : Int).tdiv 11 = (k : Int) / 11 := Int.tdiv_eq_ediv_of_nonneg (by omega)
  obtain ⟨q, hqq, hq3⟩ : ∃ q : Nat, (k : Int) / 11 = (q : Int) ∧ (q = 0 ∨ q = 1 ∨ q = 2) := ⟨k / 11, by omega, by omega⟩
  rw [hqq] at hq
  clear hqq hk
  rcases hq3 with rfl | rfl | rfl
  · go_wp2_with fail
    refine (among_any _ (w.heap.size + 1) _ b2 5 7 (fun _ => True) HC.out (by omega) (by omega) (by omega) (by have := HL2.out; omega) (fun j hj => HP.out j (by omega))).mono ?_
    rintro e w5 ⟨t, _, rfl, hc2, ht2⟩
    have K2 := K2.turned ht2 (by omega)
    have HT := Lib.hid (HT.out.trans ht2)
    clear hc2 ht2
    go_wp2_with ((with_reducible show wpList _ _ _ (Oper.mk _ (Op.store 47 _ _) _ _ _ _ :: _) _ _); refine storeB (K2) rfl rfl rfl rfl ?_)
    try simp only [Exit.inBlock, Exit.then]
    exact retctB (K2.row 16 _) rfl rfl rfl ⟨f, t, rfl, below_setRow (below_two rfl HT.out) (Nat.le_refl _) _⟩
  · go_wp2_with fail
    refine (among_any _ (w.heap.size + 1) _ b2 6 7 (fun _ => True) HC.out (by omega) (by omega) (by omega) (by have := HL2.out; omega) (fun j hj => HP.out j (by omega))).mono ?_
    rintro e w5 ⟨t, _, rfl, hc2, ht2⟩
    have K2 := K2.turned ht2 (by omega)
    have HT := Lib.hid (HT.out.trans ht2)
    clear hc2 ht2
    go_wp2_with ((with_reducible show wpList _ _ _ (Oper.mk _ (Op.store 47 _ _) _ _ _ _ :: _) _ _); refine storeB (K2) rfl rfl rfl rfl ?_)
    try simp only [Exit.inBlock, Exit.then]
    exact retctB (K2.row 16 _) rfl rfl rfl ⟨f, t, rfl, below_setRow (below_two rfl HT.out) (Nat.le_refl _) _⟩
  · go_wp2_with fail
    refine (among_any _ (w.heap.size + 1) _ b2 7 7 (fun _ => True) HC.out (by omega) (by omega) (by omega) (by have := HL2.out; omega) (fun j hj => HP.out j (by omega))).mono ?_
    rintro e w5 ⟨t, _, rfl, hc2, ht2⟩
    have K2 := K2.turned ht2 (by omega)
    have HT := Lib.hid (HT.out.trans ht2)
    clear hc2 ht2
    go_wp2_with ((with_reducible show wpList _ _ _ (Oper.mk _ (Op.store 47 _ _) _ _ _ _ :: _) _ _); refine storeB (K2) rfl rfl rfl rfl ?_)
    try simp only [Exit.inBlock, Exit.then]
    exact retctB (K2.row 16 _) rfl rfl rfl ⟨f, t, rfl, below_setRow (below_two rfl HT.out) (Nat.le_refl _) _⟩
set_option maxHeartbeats 400000 in
theorem drawMScore_any (a : Option Addr) (len cap : Nat) (w : World) (hl : len ≤ 65536) (hr : CodeRow w a len w.heap.size) :
    Calls Try.prog 87 #[.slice a len cap] w fun e w' => ∃ (f : Nat → Int) (n : Int), e = .returned (.tuple #[.agg (mk 16 f), .int .i64 n]) ∧ Below w.heap.size w w' := by
  have z16 := zero16
  have K2 := Blk.new w 16 (fun _ => 0) 47
  have HB := Lib.hid ((Below.refl w.heap.size w).alloc (Nat.le_refl _) (.cells (mk 16 fun _ => 0) 47))
  have HR := Lib.hid (hr.later ((Below.refl _ w).alloc (Nat.le_refl _) (.cells (mk 16 fun _ => 0) 47)))
  clear hr
  go_enter Try.func87, Try.ntmps87
  go_wp2_with fail
  refine (drawKeep_any a len cap _ hl HR.out).mono ?_
  rintro e w2 ⟨f, k, rfl, hb⟩
  have K2 := K2.below hb (by simp)
  have HB : Hid (Below w.heap.size w w2) := HB.out.trans (hb.mono HB.out.size)
  clear hb
  go_wp2_with ((with_reducible show wpList _ _ _ (Oper.mk _ (Op.store 47 _ _) _ _ _ _ :: _) _ _); refine storeB (K2) rfl rfl rfl rfl ?_)
  try simp only [Exit.inBlock, Exit.then]
  exact retctB (K2.row 16 _) rfl rfl rfl ⟨f, k, rfl, below_setRow HB.out (Nat.le_refl _) _⟩
end Go.Proofs.Ytblcojacmjbjcab
