/-
  The contracts of LineOf, in the reference and in the program, for every board and every two numbers.
-/
import Derived.Test.YtpiegllffkjneaaNumbers
import Derived.Test.YtpiegllffkjneaaSlideTo
import Derived.Test.YtpiegllffkjneaaBaseA
import Derived.Test.YtpiegllffkjneaaPlainA
import Derived.Deep.RegionWith
namespace Go.Proofs.Ytpiegllffkjneaa
open Go.RowKit Plain
attribute [local go_sem] store_new

set_option maxHeartbeats 1000000 in
theorem specLine_no (f : Nat → Int) (d i : Int) (w : World) (hn : ¬ LineOk f d i) :
    Calls Try.prog 48 #[.agg (mk 16 f), .int .i64 d, .int .i64 i] w fun e w' => e = .returned (.tuple #[.agg (mk 4 (lineR f d i)), .bool (lineO f d i)]) ∧ Below w.heap.size w w' := by
  have z16 := zero16
  have z4 := zero4
  have K1 := (Blk.new w 16 f 27).alloc (.cells (mk 4 fun _ => 0) 24)
  have K2 := Blk.new (w.alloc (.cells (mk 16 f) 27)) 4 (fun _ => 0) 24
  have HB := Lib.hid (((Below.refl w.heap.size w).alloc (Nat.le_refl _) (.cells (mk 16 f) 27)).alloc (by simp) (.cells (mk 4 fun _ => 0) 24))
  simp only [World.size_alloc] at K2
  obtain ⟨y1, y2⟩ := line_no hn
  rw [y1, y2]
  clear y1 y2
  by_cases hV : Vd f
  · have HV := Lib.hid hV
    by_cases hd : 0 ≤ d ∧ d ≤ 3
    · have HI := Lib.hid (show i < 0 ∨ 3 < i by
        by_cases h : 0 ≤ i ∧ i ≤ 3
        · exact absurd ⟨hV, hd, h⟩ hn
        · omega)
      obtain ⟨d0, d3⟩ := hd
      clear hn hV
      go_enter Try.func48, Try.ntmps48
      go_wp2_with ((with_reducible show wpList _ _ _ (Oper.mk _ (Op.load 27 _) _ _ _ _ :: _) _ _); refine loadB (K1) rfl rfl rfl ?_)
      refine (l2Board_yes _ _ HV.out).mono ?_
      rintro e w1 ⟨rfl, hb2⟩
      have K1 := K1.below hb2 K1.lt
      have K2 := K2.below hb2 K2.lt
      have HB : Hid (Below w.heap.size w w1) := HB.out.trans (hb2.mono HB.out.size)
      clear hb2
      go_wp2_with fail
      refine (l2Side_yes _ _ d0 d3).mono ?_
      rintro e w' ⟨rfl, rfl⟩
      go_wp2_with fail
      refine (l1In_no _ 0 3 _ HI.out).mono ?_
      rintro e w' ⟨rfl, rfl⟩
      go_wp2_with ((with_reducible show wpList _ _ _ (Oper.mk _ (Op.store 24 _ _) _ _ _ _ :: _) _ _); refine storeR (K2) rfl rfl rfl rfl ?_)
      try simp only [Exit.inBlock, Exit.then]
      exact retctR (K2.row 4 _) rfl rfl rfl ⟨rfl, below_setRow HB.out (by omega) _⟩
    · have HD := Lib.hid (show d < 0 ∨ 3 < d by omega)
      clear hn hV hd
      go_enter Try.func48, Try.ntmps48
      go_wp2_with ((with_reducible show wpList _ _ _ (Oper.mk _ (Op.load 27 _) _ _ _ _ :: _) _ _); refine loadB (K1) rfl rfl rfl ?_)
      refine (l2Board_yes _ _ HV.out).mono ?_
      rintro e w1 ⟨rfl, hb2⟩
      have K1 := K1.below hb2 K1.lt
      have K2 := K2.below hb2 K2.lt
      have HB : Hid (Below w.heap.size w w1) := HB.out.trans (hb2.mono HB.out.size)
      clear hb2
      go_wp2_with fail
      refine (l2Side_no _ _ HD.out).mono ?_
      rintro e w' ⟨rfl, rfl⟩
      go_wp2_with ((with_reducible show wpList _ _ _ (Oper.mk _ (Op.store 24 _ _) _ _ _ _ :: _) _ _); refine storeR (K2) rfl rfl rfl rfl ?_)
      try simp only [Exit.inBlock, Exit.then]
      exact retctR (K2.row 4 _) rfl rfl rfl ⟨rfl, below_setRow HB.out (by omega) _⟩
  · have HV := Lib.hid hV
    clear hn hV
    go_enter Try.func48, Try.ntmps48
    go_wp2_with ((with_reducible show wpList _ _ _ (Oper.mk _ (Op.load 27 _) _ _ _ _ :: _) _ _); refine loadB (K1) rfl rfl rfl ?_)
    refine (l2Board_no _ _ HV.out).mono ?_
    rintro e w1 ⟨rfl, hb2⟩
    have K1 := K1.below hb2 K1.lt
    have K2 := K2.below hb2 K2.lt
    have HB : Hid (Below w.heap.size w w1) := HB.out.trans (hb2.mono HB.out.size)
    clear hb2
    go_wp2_with ((with_reducible show wpList _ _ _ (Oper.mk _ (Op.store 24 _ _) _ _ _ _ :: _) _ _); refine storeR (K2) rfl rfl rfl rfl ?_)
    try simp only [Exit.inBlock, Exit.then]
    exact retctR (K2.row 4 _) rfl rfl rfl ⟨rfl, below_setRow HB.out (by omega) _⟩
set_option maxHeartbeats 1000000 in
theorem implLine_no (f : Nat → Int) (d i : Int) (w : World) (hn : ¬ LineOk f d i) :
    Calls Try.prog 47 #[.agg (mk 16 f), .int .i64 d, .int .i64 i] w fun e w' => e = .returned (.tuple #[.agg (mk 4 (lineR f d i)), .bool (lineO f d i)]) ∧ Below w.heap.size w w' := by
  have z16 := zero16
  have z4 := zero4
  have K1 := (Blk.new w 16 f 27).alloc (.cells (mk 4 fun _ => 0) 24)
  have K2 := Blk.new (w.alloc (.cells (mk 16 f) 27)) 4 (fun _ => 0) 24
  have HB := Lib.hid (((Below.refl w.heap.size w).alloc (Nat.le_refl _) (.cells (mk 16 f) 27)).alloc (by simp) (.cells (mk 4 fun _ => 0) 24))
  simp only [World.size_alloc] at K2
  obtain ⟨y1, y2⟩ := line_no hn
  rw [y1, y2]
  clear y1 y2
  by_cases hV : Vd f
  · have HV := Lib.hid hV
    by_cases hd : 0 ≤ d ∧ d ≤ 3
    · have HI := Lib.hid (show i < 0 ∨ 3 < i by
        by_cases h : 0 ≤ i ∧ i ≤ 3
        · exact absurd ⟨hV, hd, h⟩ hn
        · omega)
      obtain ⟨d0, d3⟩ := hd
      clear hn hV
      go_enter Try.func47, Try.ntmps47
      go_wp2_with ((with_reducible show wpList _ _ _ (Oper.mk _ (Op.load 27 _) _ _ _ _ :: _) _ _); refine loadB (K1) rfl rfl rfl ?_)
      refine (implBoard_yes _ _ HV.out).mono ?_
      rintro e w1 ⟨rfl, hb2⟩
      have K1 := K1.below hb2 K1.lt
      have K2 := K2.below hb2 K2.lt
      have HB : Hid (Below w.heap.size w w1) := HB.out.trans (hb2.mono HB.out.size)
      clear hb2
      go_wp2_with fail
      refine (isDirection_yes _ _ d0 d3).mono ?_
      rintro e w' ⟨rfl, rfl⟩
      go_wp2_with fail
      refine (isLine_no _ _ HI.out).mono ?_
      rintro e w' ⟨rfl, rfl⟩
      go_wp2_with ((with_reducible show wpList _ _ _ (Oper.mk _ (Op.store 24 _ _) _ _ _ _ :: _) _ _); refine storeR (K2) rfl rfl rfl rfl ?_)
      try simp only [Exit.inBlock, Exit.then]
      exact retctR (K2.row 4 _) rfl rfl rfl ⟨rfl, below_setRow HB.out (by omega) _⟩
    · have HD := Lib.hid (show d < 0 ∨ 3 < d by omega)
      clear hn hV hd
      go_enter Try.func47, Try.ntmps47
      go_wp2_with ((with_reducible show wpList _ _ _ (Oper.mk _ (Op.load 27 _) _ _ _ _ :: _) _ _); refine loadB (K1) rfl rfl rfl ?_)
      refine (implBoard_yes _ _ HV.out).mono ?_
      rintro e w1 ⟨rfl, hb2⟩
      have K1 := K1.below hb2 K1.lt
      have K2 := K2.below hb2 K2.lt
      have HB : Hid (Below w.heap.size w w1) := HB.out.trans (hb2.mono HB.out.size)
      clear hb2
      go_wp2_with fail
      refine (isDirection_no _ _ HD.out).mono ?_
      rintro e w' ⟨rfl, rfl⟩
      go_wp2_with ((with_reducible show wpList _ _ _ (Oper.mk _ (Op.store 24 _ _) _ _ _ _ :: _) _ _); refine storeR (K2) rfl rfl rfl rfl ?_)
      try simp only [Exit.inBlock, Exit.then]
      exact retctR (K2.row 4 _) rfl rfl rfl ⟨rfl, below_setRow HB.out (by omega) _⟩
  · have HV := Lib.hid hV
    clear hn hV
    go_enter Try.func47, Try.ntmps47
    go_wp2_with ((with_reducible show wpList _ _ _ (Oper.mk _ (Op.load 27 _) _ _ _ _ :: _) _ _); refine loadB (K1) rfl rfl rfl ?_)
    refine (implBoard_no _ _ HV.out).mono ?_
    rintro e w1 ⟨rfl, hb2⟩
    have K1 := K1.below hb2 K1.lt
    have K2 := K2.below hb2 K2.lt
    have HB : Hid (Below w.heap.size w w1) := HB.out.trans (hb2.mono HB.out.size)
    clear hb2
    go_wp2_with ((with_reducible show wpList _ _ _ (Oper.mk _ (Op.store 24 _ _) _ _ _ _ :: _) _ _); refine storeR (K2) rfl rfl rfl rfl ?_)
    try simp only [Exit.inBlock, Exit.then]
    exact retctR (K2.row 4 _) rfl rfl rfl ⟨rfl, below_setRow HB.out (by omega) _⟩
set_option maxHeartbeats 1000000 in
theorem specLine_0 (f : Nat → Int) (i : Nat) (w : World) (hV : Vd f) (hi : i < 4) :
    Calls Try.prog 48 #[.agg (mk 16 f), .int .i64 0, .int .i64 i] w fun e w' => e = .returned (.tuple #[.agg (mk 4 (lineF f 0 i)), .bool true]) ∧ Below w.heap.size w w' := by
  have z16 := zero16
  have z4 := zero4
  have K1 := (Blk.new w 16 f 27).alloc (.cells (mk 4 fun _ => 0) 24)
  have K2 := Blk.new (w.alloc (.cells (mk 16 f) 27)) 4 (fun _ => 0) 24
  have HB := Lib.hid (((Below.refl w.heap.size w).alloc (Nat.le_refl _) (.cells (mk 16 f) 27)).alloc (by simp) (.cells (mk 4 fun _ => 0) 24))
  simp only [World.size_alloc] at K2
  have HV := Lib.hid hV
  have i0 : (0 : Int) ≤ (i : Int) := by omega
  have i3 : (i : Int) ≤ 3 := by omega
  clear hV
  go_enter Try.func48, Try.ntmps48
  go_wp2_with ((with_reducible show wpList _ _ _ (Oper.mk _ (Op.load 27 _) _ _ _ _ :: _) _ _); refine loadB (K1) rfl rfl rfl ?_)
  refine (l2Board_yes _ _ HV.out).mono ?_
  rintro e w1 ⟨rfl, hb2⟩
  have K1 := K1.below hb2 K1.lt
  have K2 := K2.below hb2 K2.lt
  have HB : Hid (Below w.heap.size w w1) := HB.out.trans (hb2.mono HB.out.size)
  clear hb2
  go_wp2_with fail
  refine (l2Side_yes _ _ (by omega) (by omega)).mono ?_
  rintro e w' ⟨rfl, rfl⟩
  go_wp2_with fail
  refine (l1In_yes _ 0 3 _ i0 i3).mono ?_
  rintro e w' ⟨rfl, rfl⟩
  go_wp2_with ((with_reducible show wpList _ _ _ (Oper.mk _ (Op.load 27 _) _ _ _ _ :: _) _ _); refine loadB (K1) rfl rfl rfl ?_)
  refine (l2Numbers_0 f i _ hi).mono ?_
  rintro e w2 ⟨rfl, hb2⟩
  have K1 := K1.below hb2 K1.lt
  have K2 := K2.below hb2 K2.lt
  have HB : Hid (Below w.heap.size w w2) := HB.out.trans (hb2.mono HB.out.size)
  clear hb2
  go_wp2_with ((with_reducible show wpList _ _ _ (Oper.mk _ (Op.store 24 _ _) _ _ _ _ :: _) _ _); refine storeR (K2) rfl rfl rfl rfl ?_)
  try simp only [Exit.inBlock, Exit.then]
  exact retctR (K2.row 4 _) rfl rfl rfl ⟨rfl, below_setRow HB.out (by omega) _⟩
set_option maxHeartbeats 1000000 in
theorem specLine_1 (f : Nat → Int) (i : Nat) (w : World) (hV : Vd f) (hi : i < 4) :
    Calls Try.prog 48 #[.agg (mk 16 f), .int .i64 1, .int .i64 i] w fun e w' => e = .returned (.tuple #[.agg (mk 4 (lineF f 1 i)), .bool true]) ∧ Below w.heap.size w w' := by
  have z16 := zero16
  have z4 := zero4
  have K1 := (Blk.new w 16 f 27).alloc (.cells (mk 4 fun _ => 0) 24)
  have K2 := Blk.new (w.alloc (.cells (mk 16 f) 27)) 4 (fun _ => 0) 24
  have HB := Lib.hid (((Below.refl w.heap.size w).alloc (Nat.le_refl _) (.cells (mk 16 f) 27)).alloc (by simp) (.cells (mk 4 fun _ => 0) 24))
  simp only [World.size_alloc] at K2
  have HV := Lib.hid hV
  have i0 : (0 : Int) ≤ (i : Int) := by omega
  have i3 : (i : Int) ≤ 3 := by omega
  clear hV
  go_enter Try.func48, Try.ntmps48
  go_wp2_with ((with_reducible show wpList _ _ _ (Oper.mk _ (Op.load 27 _) _ _ _ _ :: _) _ _); refine loadB (K1) rfl rfl rfl ?_)
  refine (l2Board_yes _ _ HV.out).mono ?_
  rintro e w1 ⟨rfl, hb2⟩
  have K1 := K1.below hb2 K1.lt
  have K2 := K2.below hb2 K2.lt
  have HB : Hid (Below w.heap.size w w1) := HB.out.trans (hb2.mono HB.out.size)
  clear hb2
  go_wp2_with fail
  refine (l2Side_yes _ _ (by omega) (by omega)).mono ?_
  rintro e w' ⟨rfl, rfl⟩
  go_wp2_with fail
  refine (l1In_yes _ 0 3 _ i0 i3).mono ?_
  rintro e w' ⟨rfl, rfl⟩
  go_wp2_with ((with_reducible show wpList _ _ _ (Oper.mk _ (Op.load 27 _) _ _ _ _ :: _) _ _); refine loadB (K1) rfl rfl rfl ?_)
  refine (l2Numbers_1 f i _ hi).mono ?_
  rintro e w2 ⟨rfl, hb2⟩
  have K1 := K1.below hb2 K1.lt
  have K2 := K2.below hb2 K2.lt
  have HB : Hid (Below w.heap.size w w2) := HB.out.trans (hb2.mono HB.out.size)
  clear hb2
  go_wp2_with ((with_reducible show wpList _ _ _ (Oper.mk _ (Op.store 24 _ _) _ _ _ _ :: _) _ _); refine storeR (K2) rfl rfl rfl rfl ?_)
  try simp only [Exit.inBlock, Exit.then]
  exact retctR (K2.row 4 _) rfl rfl rfl ⟨rfl, below_setRow HB.out (by omega) _⟩
set_option maxHeartbeats 1000000 in
theorem specLine_2 (f : Nat → Int) (i : Nat) (w : World) (hV : Vd f) (hi : i < 4) :
    Calls Try.prog 48 #[.agg (mk 16 f), .int .i64 2, .int .i64 i] w fun e w' => e = .returned (.tuple #[.agg (mk 4 (lineF f 2 i)), .bool true]) ∧ Below w.heap.size w w' := by
  have z16 := zero16
  have z4 := zero4
  have K1 := (Blk.new w 16 f 27).alloc (.cells (mk 4 fun _ => 0) 24)
  have K2 := Blk.new (w.alloc (.cells (mk 16 f) 27)) 4 (fun _ => 0) 24
  have HB := Lib.hid (((Below.refl w.heap.size w).alloc (Nat.le_refl _) (.cells (mk 16 f) 27)).alloc (by simp) (.cells (mk 4 fun _ => 0) 24))
  simp only [World.size_alloc] at K2
  have HV := Lib.hid hV
  have i0 : (0 : Int) ≤ (i : Int) := by omega
  have i3 : (i : Int) ≤ 3 := by omega
  clear hV
  go_enter Try.func48, Try.ntmps48
  go_wp2_with ((with_reducible show wpList _ _ _ (Oper.mk _ (Op.load 27 _) _ _ _ _ :: _) _ _); refine loadB (K1) rfl rfl rfl ?_)
  refine (l2Board_yes _ _ HV.out).mono ?_
  rintro e w1 ⟨rfl, hb2⟩
  have K1 := K1.below hb2 K1.lt
  have K2 := K2.below hb2 K2.lt
  have HB : Hid (Below w.heap.size w w1) := HB.out.trans (hb2.mono HB.out.size)
  clear hb2
  go_wp2_with fail
  refine (l2Side_yes _ _ (by omega) (by omega)).mono ?_
  rintro e w' ⟨rfl, rfl⟩
  go_wp2_with fail
  refine (l1In_yes _ 0 3 _ i0 i3).mono ?_
  rintro e w' ⟨rfl, rfl⟩
  go_wp2_with ((with_reducible show wpList _ _ _ (Oper.mk _ (Op.load 27 _) _ _ _ _ :: _) _ _); refine loadB (K1) rfl rfl rfl ?_)
  refine (l2Numbers_2 f i _ hi).mono ?_
  rintro e w2 ⟨rfl, hb2⟩
  have K1 := K1.below hb2 K1.lt
  have K2 := K2.below hb2 K2.lt
  have HB : Hid (Below w.heap.size w w2) := HB.out.trans (hb2.mono HB.out.size)
  clear hb2
  go_wp2_with ((with_reducible show wpList _ _ _ (Oper.mk _ (Op.store 24 _ _) _ _ _ _ :: _) _ _); refine storeR (K2) rfl rfl rfl rfl ?_)
  try simp only [Exit.inBlock, Exit.then]
  exact retctR (K2.row 4 _) rfl rfl rfl ⟨rfl, below_setRow HB.out (by omega) _⟩
set_option maxHeartbeats 1000000 in
theorem specLine_3 (f : Nat → Int) (i : Nat) (w : World) (hV : Vd f) (hi : i < 4) :
    Calls Try.prog 48 #[.agg (mk 16 f), .int .i64 3, .int .i64 i] w fun e w' => e = .returned (.tuple #[.agg (mk 4 (lineF f 3 i)), .bool true]) ∧ Below w.heap.size w w' := by
  have z16 := zero16
  have z4 := zero4
  have K1 := (Blk.new w 16 f 27).alloc (.cells (mk 4 fun _ => 0) 24)
  have K2 := Blk.new (w.alloc (.cells (mk 16 f) 27)) 4 (fun _ => 0) 24
  have HB := Lib.hid (((Below.refl w.heap.size w).alloc (Nat.le_refl _) (.cells (mk 16 f) 27)).alloc (by simp) (.cells (mk 4 fun _ => 0) 24))
  simp only [World.size_alloc] at K2
  have HV := Lib.hid hV
  have i0 : (0 : Int) ≤ (i : Int) := by omega
  have i3 : (i : Int) ≤ 3 := by omega
  clear hV
  go_enter Try.func48, Try.ntmps48
  go_wp2_with ((with_reducible show wpList _ _ _ (Oper.mk _ (Op.load 27 _) _ _ _ _ :: _) _ _); refine loadB (K1) rfl rfl rfl ?_)
  refine (l2Board_yes _ _ HV.out).mono ?_
  rintro e w1 ⟨rfl, hb2⟩
  have K1 := K1.below hb2 K1.lt
  have K2 := K2.below hb2 K2.lt
  have HB : Hid (Below w.heap.size w w1) := HB.out.trans (hb2.mono HB.out.size)
  clear hb2
  go_wp2_with fail
  refine (l2Side_yes _ _ (by omega) (by omega)).mono ?_
  rintro e w' ⟨rfl, rfl⟩
  go_wp2_with fail
  refine (l1In_yes _ 0 3 _ i0 i3).mono ?_
  rintro e w' ⟨rfl, rfl⟩
  go_wp2_with ((with_reducible show wpList _ _ _ (Oper.mk _ (Op.load 27 _) _ _ _ _ :: _) _ _); refine loadB (K1) rfl rfl rfl ?_)
  refine (l2Numbers_3 f i _ hi).mono ?_
  rintro e w2 ⟨rfl, hb2⟩
  have K1 := K1.below hb2 K1.lt
  have K2 := K2.below hb2 K2.lt
  have HB : Hid (Below w.heap.size w w2) := HB.out.trans (hb2.mono HB.out.size)
  clear hb2
  go_wp2_with ((with_reducible show wpList _ _ _ (Oper.mk _ (Op.store 24 _ _) _ _ _ _ :: _) _ _); refine storeR (K2) rfl rfl rfl rfl ?_)
  try simp only [Exit.inBlock, Exit.then]
  exact retctR (K2.row 4 _) rfl rfl rfl ⟨rfl, below_setRow HB.out (by omega) _⟩
theorem view_part (f : Nat → Int) (d i : Nat) : mk 4 (fun c => viewF f d (i * 4 + c)) = mk 4 (lineF f d i) := mk_congr fun _ hc => viewF_line f d i hc
theorem fieldB (g : Nat → Int) (w : World) : (Instr.field 27 (.agg (mk 16 g)) 0).run Try.prog w = .ok (.agg (mk 16 g)) w := by
  have hagg : (isAgg 25).run Try.prog w = .ok true w := by
    unfold isAgg
    rw [Sem.run_bind, run_underlying Try.underlying25 w]
    simp
  cases hq : Try.prog.info? 25 with
  | none => have := sizeG; simp [hq] at this
  | some q =>
    have hs : q.size = 16 := by have := sizeG; simpa [hq] using this
    have he : (mk 16 g).extract 0 16 = mk 16 g := by have := mk_extract (n := 16) g 0 16 (by omega); simpa using this
    simp [Instr.field, run_underlying Try.underlying27, part, hagg, sizeOf, typeInfo, hq, hs, asAgg, he]
theorem fieldV0 (w : World) : (Instr.field 127 (.agg #[.func (.func 154) #[] #[], .func (.func 154) #[] #[]]) 0).run Try.prog w = .ok (.func (.func 154) #[] #[]) w := by kernel_rfl
set_option maxHeartbeats 4000000 in
theorem implLine_0 (f : Nat → Int) (i : Nat) (w : World) (hV : Vd f) (hi : i < 4) :
    Calls Try.prog 47 #[.agg (mk 16 f), .int .i64 0, .int .i64 i] w fun e w' => e = .returned (.tuple #[.agg (mk 4 (lineF f 0 i)), .bool true]) ∧ Below w.heap.size w w' := by
  have z16 := zero16
  have z4 := zero4
  have K1 := (Blk.new w 16 f 27).alloc (.cells (mk 4 fun _ => 0) 24)
  have K2 := Blk.new (w.alloc (.cells (mk 16 f) 27)) 4 (fun _ => 0) 24
  have HB := Lib.hid (((Below.refl w.heap.size w).alloc (Nat.le_refl _) (.cells (mk 16 f) 27)).alloc (by simp) (.cells (mk 4 fun _ => 0) 24))
  simp only [World.size_alloc] at K2
  have HV := Lib.hid hV
  have i0 : (0 : Int) ≤ (i : Int) := by omega
  have i3 : (i : Int) ≤ 3 := by omega
  clear hV
  go_enter Try.func47, Try.ntmps47
  go_wp2_with ((with_reducible show wpList _ _ _ (Oper.mk _ (Op.load 27 _) _ _ _ _ :: _) _ _); refine loadB (K1) rfl rfl rfl ?_)
  refine (implBoard_yes _ _ HV.out).mono ?_
  rintro e w1 ⟨rfl, hb2⟩
  have K1 := K1.below hb2 K1.lt
  have K2 := K2.below hb2 K2.lt
  have HB : Hid (Below w.heap.size w w1) := HB.out.trans (hb2.mono HB.out.size)
  clear hb2
  go_wp2_with fail
  refine (isDirection_yes _ _ (by omega) (by omega)).mono ?_
  rintro e w' ⟨rfl, rfl⟩
  go_wp2_with fail
  refine (isLine_yes _ _ i0 i3).mono ?_
  rintro e w' ⟨rfl, rfl⟩
  clear z16 z4
  go_wp2_with fail
  have a0 := fun (W : World) (h : Blk W w.heap.size 16 f 27) => h.cell (i := 0) (by omega)
  have a1 := fun (W : World) (h : Blk W w.heap.size 16 f 27) => h.cell (i := 1) (by omega)
  have a2 := fun (W : World) (h : Blk W w.heap.size 16 f 27) => h.cell (i := 2) (by omega)
  have a3 := fun (W : World) (h : Blk W w.heap.size 16 f 27) => h.cell (i := 3) (by omega)
  have a4 := fun (W : World) (h : Blk W w.heap.size 16 f 27) => h.cell (i := 4) (by omega)
  have a5 := fun (W : World) (h : Blk W w.heap.size 16 f 27) => h.cell (i := 5) (by omega)
  have a6 := fun (W : World) (h : Blk W w.heap.size 16 f 27) => h.cell (i := 6) (by omega)
  have a7 := fun (W : World) (h : Blk W w.heap.size 16 f 27) => h.cell (i := 7) (by omega)
  have a8 := fun (W : World) (h : Blk W w.heap.size 16 f 27) => h.cell (i := 8) (by omega)
  have a9 := fun (W : World) (h : Blk W w.heap.size 16 f 27) => h.cell (i := 9) (by omega)
  have a10 := fun (W : World) (h : Blk W w.heap.size 16 f 27) => h.cell (i := 10) (by omega)
  have a11 := fun (W : World) (h : Blk W w.heap.size 16 f 27) => h.cell (i := 11) (by omega)
  have a12 := fun (W : World) (h : Blk W w.heap.size 16 f 27) => h.cell (i := 12) (by omega)
  have a13 := fun (W : World) (h : Blk W w.heap.size 16 f 27) => h.cell (i := 13) (by omega)
  have a14 := fun (W : World) (h : Blk W w.heap.size 16 f 27) => h.cell (i := 14) (by omega)
  have a15 := fun (W : World) (h : Blk W w.heap.size 16 f 27) => h.cell (i := 15) (by omega)
  have ae : (#[.int .i64 (f 0), .int .i64 (f 1), .int .i64 (f 2), .int .i64 (f 3), .int .i64 (f 4), .int .i64 (f 5), .int .i64 (f 6), .int .i64 (f 7), .int .i64 (f 8), .int .i64 (f 9), .int .i64 (f 10), .int .i64 (f 11), .int .i64 (f 12), .int .i64 (f 13), .int .i64 (f 14), .int .i64 (f 15)] : Array Value) = mk 16 f := rfl
  have iV := idxV0
  have iF := fieldV0
  have iB := fieldB
  have iG : ∀ (g : Nat → Int) (W : World), (Instr.index 25 (.agg (mk 16 g)) (.int .i64 (i : Int))).run Try.prog W = .ok (.agg (mk 4 (fun c => g (i * 4 + c)))) W := fun g W => idxG g i hi W
  have vp := view_part f 0 i
  have ms := mk_size 4 (lineF f 0 i)
  have hst := fun (W : World) (h : Blk W (w.heap.size + 1) 4 (fun _ => 0) 24) => run_store_blk (P := Try.prog) (lineF f 0 i) h
  have K1 := K1.drew
  have K2 := K2.drew
  have HB : Hid (Below w.heap.size w w1.drew) := HB.out.drew
  go_region_with (first | (go_at_call 119; refine (views_any _).mono ?_; rintro e w3 ⟨rfl, hb3⟩; have J1 := K1.below hb3 K1.lt; have J2 := K2.below hb3 K2.lt; have JB : Hid (Below w.heap.size w w3) := HB.out.trans (hb3.mono HB.out.size); clear hb3) | (go_at_call 154; refine (there_0 _ _).mono ?_; rintro e w4 ⟨rfl, hb4⟩; have L2 := J2.below hb4 J2.lt; have LB : Hid (Below w.heap.size w w4) := JB.out.trans (hb4.mono JB.out.size); clear hb4))
  all_goals
    clear a0 a1 a2 a3 a4 a5 a6 a7 a8 a9 a10 a11 a12 a13 a14 a15 ae hst vp
    go_wp2_with fail
    try simp only [Exit.inBlock, Exit.then]
    exact retctR (L2.row 4 _) rfl rfl rfl ⟨rfl, below_setRow LB.out (by omega) _⟩
theorem fieldV1 (w : World) : (Instr.field 127 (.agg #[.func (.func 159) #[] #[], .func (.func 159) #[] #[]]) 0).run Try.prog w = .ok (.func (.func 159) #[] #[]) w := by kernel_rfl
set_option maxHeartbeats 4000000 in
theorem implLine_1 (f : Nat → Int) (i : Nat) (w : World) (hV : Vd f) (hi : i < 4) :
    Calls Try.prog 47 #[.agg (mk 16 f), .int .i64 1, .int .i64 i] w fun e w' => e = .returned (.tuple #[.agg (mk 4 (lineF f 1 i)), .bool true]) ∧ Below w.heap.size w w' := by
  have z16 := zero16
  have z4 := zero4
  have K1 := (Blk.new w 16 f 27).alloc (.cells (mk 4 fun _ => 0) 24)
  have K2 := Blk.new (w.alloc (.cells (mk 16 f) 27)) 4 (fun _ => 0) 24
  have HB := Lib.hid (((Below.refl w.heap.size w).alloc (Nat.le_refl _) (.cells (mk 16 f) 27)).alloc (by simp) (.cells (mk 4 fun _ => 0) 24))
  simp only [World.size_alloc] at K2
  have HV := Lib.hid hV
  have i0 : (0 : Int) ≤ (i : Int) := by omega
  have i3 : (i : Int) ≤ 3 := by omega
  clear hV
  go_enter Try.func47, Try.ntmps47
  go_wp2_with ((with_reducible show wpList _ _ _ (Oper.mk _ (Op.load 27 _) _ _ _ _ :: _) _ _); refine loadB (K1) rfl rfl rfl ?_)
  refine (implBoard_yes _ _ HV.out).mono ?_
  rintro e w1 ⟨rfl, hb2⟩
  have K1 := K1.below hb2 K1.lt
  have K2 := K2.below hb2 K2.lt
  have HB : Hid (Below w.heap.size w w1) := HB.out.trans (hb2.mono HB.out.size)
  clear hb2
  go_wp2_with fail
  refine (isDirection_yes _ _ (by omega) (by omega)).mono ?_
  rintro e w' ⟨rfl, rfl⟩
  go_wp2_with fail
  refine (isLine_yes _ _ i0 i3).mono ?_
  rintro e w' ⟨rfl, rfl⟩
  clear z16 z4
  go_wp2_with fail
  have a0 := fun (W : World) (h : Blk W w.heap.size 16 f 27) => h.cell (i := 0) (by omega)
  have a1 := fun (W : World) (h : Blk W w.heap.size 16 f 27) => h.cell (i := 1) (by omega)
  have a2 := fun (W : World) (h : Blk W w.heap.size 16 f 27) => h.cell (i := 2) (by omega)
  have a3 := fun (W : World) (h : Blk W w.heap.size 16 f 27) => h.cell (i := 3) (by omega)
  have a4 := fun (W : World) (h : Blk W w.heap.size 16 f 27) => h.cell (i := 4) (by omega)
  have a5 := fun (W : World) (h : Blk W w.heap.size 16 f 27) => h.cell (i := 5) (by omega)
  have a6 := fun (W : World) (h : Blk W w.heap.size 16 f 27) => h.cell (i := 6) (by omega)
  have a7 := fun (W : World) (h : Blk W w.heap.size 16 f 27) => h.cell (i := 7) (by omega)
  have a8 := fun (W : World) (h : Blk W w.heap.size 16 f 27) => h.cell (i := 8) (by omega)
  have a9 := fun (W : World) (h : Blk W w.heap.size 16 f 27) => h.cell (i := 9) (by omega)
  have a10 := fun (W : World) (h : Blk W w.heap.size 16 f 27) => h.cell (i := 10) (by omega)
  have a11 := fun (W : World) (h : Blk W w.heap.size 16 f 27) => h.cell (i := 11) (by omega)
  have a12 := fun (W : World) (h : Blk W w.heap.size 16 f 27) => h.cell (i := 12) (by omega)
  have a13 := fun (W : World) (h : Blk W w.heap.size 16 f 27) => h.cell (i := 13) (by omega)
  have a14 := fun (W : World) (h : Blk W w.heap.size 16 f 27) => h.cell (i := 14) (by omega)
  have a15 := fun (W : World) (h : Blk W w.heap.size 16 f 27) => h.cell (i := 15) (by omega)
  have ae : (#[.int .i64 (f 0), .int .i64 (f 1), .int .i64 (f 2), .int .i64 (f 3), .int .i64 (f 4), .int .i64 (f 5), .int .i64 (f 6), .int .i64 (f 7), .int .i64 (f 8), .int .i64 (f 9), .int .i64 (f 10), .int .i64 (f 11), .int .i64 (f 12), .int .i64 (f 13), .int .i64 (f 14), .int .i64 (f 15)] : Array Value) = mk 16 f := rfl
  have iV := idxV1
  have iF := fieldV1
  have iB := fieldB
  have iG : ∀ (g : Nat → Int) (W : World), (Instr.index 25 (.agg (mk 16 g)) (.int .i64 (i : Int))).run Try.prog W = .ok (.agg (mk 4 (fun c => g (i * 4 + c)))) W := fun g W => idxG g i hi W
  have vp := view_part f 1 i
  have ms := mk_size 4 (lineF f 1 i)
  have hst := fun (W : World) (h : Blk W (w.heap.size + 1) 4 (fun _ => 0) 24) => run_store_blk (P := Try.prog) (lineF f 1 i) h
  have K1 := K1.drew
  have K2 := K2.drew
  have HB : Hid (Below w.heap.size w w1.drew) := HB.out.drew
  go_region_with (first | (go_at_call 119; refine (views_any _).mono ?_; rintro e w3 ⟨rfl, hb3⟩; have J1 := K1.below hb3 K1.lt; have J2 := K2.below hb3 K2.lt; have JB : Hid (Below w.heap.size w w3) := HB.out.trans (hb3.mono HB.out.size); clear hb3) | (go_at_call 159; refine (there_1 _ _).mono ?_; rintro e w4 ⟨rfl, hb4⟩; have L2 := J2.below hb4 J2.lt; have LB : Hid (Below w.heap.size w w4) := JB.out.trans (hb4.mono JB.out.size); clear hb4))
  all_goals
    clear a0 a1 a2 a3 a4 a5 a6 a7 a8 a9 a10 a11 a12 a13 a14 a15 ae hst vp
    go_wp2_with fail
    try simp only [Exit.inBlock, Exit.then]
    exact retctR (L2.row 4 _) rfl rfl rfl ⟨rfl, below_setRow LB.out (by omega) _⟩
theorem fieldV2 (w : World) : (Instr.field 127 (.agg #[.func (.func 158) #[] #[], .func (.func 158) #[] #[]]) 0).run Try.prog w = .ok (.func (.func 158) #[] #[]) w := by kernel_rfl
set_option maxHeartbeats 4000000 in
theorem implLine_2 (f : Nat → Int) (i : Nat) (w : World) (hV : Vd f) (hi : i < 4) :
    Calls Try.prog 47 #[.agg (mk 16 f), .int .i64 2, .int .i64 i] w fun e w' => e = .returned (.tuple #[.agg (mk 4 (lineF f 2 i)), .bool true]) ∧ Below w.heap.size w w' := by
  have z16 := zero16
  have z4 := zero4
  have K1 := (Blk.new w 16 f 27).alloc (.cells (mk 4 fun _ => 0) 24)
  have K2 := Blk.new (w.alloc (.cells (mk 16 f) 27)) 4 (fun _ => 0) 24
  have HB := Lib.hid (((Below.refl w.heap.size w).alloc (Nat.le_refl _) (.cells (mk 16 f) 27)).alloc (by simp) (.cells (mk 4 fun _ => 0) 24))
  simp only [World.size_alloc] at K2
  have HV := Lib.hid hV
  have i0 : (0 : Int) ≤ (i : Int) := by omega
  have i3 : (i : Int) ≤ 3 := by omega
  clear hV
  go_enter Try.func47, Try.ntmps47
  go_wp2_with ((with_reducible show wpList _ _ _ (Oper.mk _ (Op.load 27 _) _ _ _ _ :: _) _ _); refine loadB (K1) rfl rfl rfl ?_)
  refine (implBoard_yes _ _ HV.out).mono ?_
  rintro e w1 ⟨rfl, hb2⟩
  have K1 := K1.below hb2 K1.lt
  have K2 := K2.below hb2 K2.lt
  have HB : Hid (Below w.heap.size w w1) := HB.out.trans (hb2.mono HB.out.size)
  clear hb2
  go_wp2_with fail
  refine (isDirection_yes _ _ (by omega) (by omega)).mono ?_
  rintro e w' ⟨rfl, rfl⟩
  go_wp2_with fail
  refine (isLine_yes _ _ i0 i3).mono ?_
  rintro e w' ⟨rfl, rfl⟩
  clear z16 z4
  go_wp2_with fail
  have a0 := fun (W : World) (h : Blk W w.heap.size 16 f 27) => h.cell (i := 0) (by omega)
  have a1 := fun (W : World) (h : Blk W w.heap.size 16 f 27) => h.cell (i := 1) (by omega)
  have a2 := fun (W : World) (h : Blk W w.heap.size 16 f 27) => h.cell (i := 2) (by omega)
  have a3 := fun (W : World) (h : Blk W w.heap.size 16 f 27) => h.cell (i := 3) (by omega)
  have a4 := fun (W : World) (h : Blk W w.heap.size 16 f 27) => h.cell (i := 4) (by omega)
  have a5 := fun (W : World) (h : Blk W w.heap.size 16 f 27) => h.cell (i := 5) (by omega)
  have a6 := fun (W : World) (h : Blk W w.heap.size 16 f 27) => h.cell (i := 6) (by omega)
  have a7 := fun (W : World) (h : Blk W w.heap.size 16 f 27) => h.cell (i := 7) (by omega)
  have a8 := fun (W : World) (h : Blk W w.heap.size 16 f 27) => h.cell (i := 8) (by omega)
  have a9 := fun (W : World) (h : Blk W w.heap.size 16 f 27) => h.cell (i := 9) (by omega)
  have a10 := fun (W : World) (h : Blk W w.heap.size 16 f 27) => h.cell (i := 10) (by omega)
  have a11 := fun (W : World) (h : Blk W w.heap.size 16 f 27) => h.cell (i := 11) (by omega)
  have a12 := fun (W : World) (h : Blk W w.heap.size 16 f 27) => h.cell (i := 12) (by omega)
  have a13 := fun (W : World) (h : Blk W w.heap.size 16 f 27) => h.cell (i := 13) (by omega)
  have a14 := fun (W : World) (h : Blk W w.heap.size 16 f 27) => h.cell (i := 14) (by omega)
  have a15 := fun (W : World) (h : Blk W w.heap.size 16 f 27) => h.cell (i := 15) (by omega)
  have ae : (#[.int .i64 (f 0), .int .i64 (f 1), .int .i64 (f 2), .int .i64 (f 3), .int .i64 (f 4), .int .i64 (f 5), .int .i64 (f 6), .int .i64 (f 7), .int .i64 (f 8), .int .i64 (f 9), .int .i64 (f 10), .int .i64 (f 11), .int .i64 (f 12), .int .i64 (f 13), .int .i64 (f 14), .int .i64 (f 15)] : Array Value) = mk 16 f := rfl
  have iV := idxV2
  have iF := fieldV2
  have iB := fieldB
  have iG : ∀ (g : Nat → Int) (W : World), (Instr.index 25 (.agg (mk 16 g)) (.int .i64 (i : Int))).run Try.prog W = .ok (.agg (mk 4 (fun c => g (i * 4 + c)))) W := fun g W => idxG g i hi W
  have vp := view_part f 2 i
  have ms := mk_size 4 (lineF f 2 i)
  have hst := fun (W : World) (h : Blk W (w.heap.size + 1) 4 (fun _ => 0) 24) => run_store_blk (P := Try.prog) (lineF f 2 i) h
  have K1 := K1.drew
  have K2 := K2.drew
  have HB : Hid (Below w.heap.size w w1.drew) := HB.out.drew
  go_region_with (first | (go_at_call 119; refine (views_any _).mono ?_; rintro e w3 ⟨rfl, hb3⟩; have J1 := K1.below hb3 K1.lt; have J2 := K2.below hb3 K2.lt; have JB : Hid (Below w.heap.size w w3) := HB.out.trans (hb3.mono HB.out.size); clear hb3) | (go_at_call 158; refine (there_2 _ _).mono ?_; rintro e w4 ⟨rfl, hb4⟩; have L2 := J2.below hb4 J2.lt; have LB : Hid (Below w.heap.size w w4) := JB.out.trans (hb4.mono JB.out.size); clear hb4))
  all_goals
    clear a0 a1 a2 a3 a4 a5 a6 a7 a8 a9 a10 a11 a12 a13 a14 a15 ae hst vp
    go_wp2_with fail
    try simp only [Exit.inBlock, Exit.then]
    exact retctR (L2.row 4 _) rfl rfl rfl ⟨rfl, below_setRow LB.out (by omega) _⟩
theorem fieldV3 (w : World) : (Instr.field 127 (.agg #[.func (.func 155) #[] #[], .func (.func 157) #[] #[]]) 0).run Try.prog w = .ok (.func (.func 155) #[] #[]) w := by kernel_rfl
set_option maxHeartbeats 4000000 in
theorem implLine_3 (f : Nat → Int) (i : Nat) (w : World) (hV : Vd f) (hi : i < 4) :
    Calls Try.prog 47 #[.agg (mk 16 f), .int .i64 3, .int .i64 i] w fun e w' => e = .returned (.tuple #[.agg (mk 4 (lineF f 3 i)), .bool true]) ∧ Below w.heap.size w w' := by
  have z16 := zero16
  have z4 := zero4
  have K1 := (Blk.new w 16 f 27).alloc (.cells (mk 4 fun _ => 0) 24)
  have K2 := Blk.new (w.alloc (.cells (mk 16 f) 27)) 4 (fun _ => 0) 24
  have HB := Lib.hid (((Below.refl w.heap.size w).alloc (Nat.le_refl _) (.cells (mk 16 f) 27)).alloc (by simp) (.cells (mk 4 fun _ => 0) 24))
  simp only [World.size_alloc] at K2
  have HV := Lib.hid hV
  have i0 : (0 : Int) ≤ (i : Int) := by omega
  have i3 : (i : Int) ≤ 3 := by omega
  clear hV
  go_enter Try.func47, Try.ntmps47
  go_wp2_with ((with_reducible show wpList _ _ _ (Oper.mk _ (Op.load 27 _) _ _ _ _ :: _) _ _); refine loadB (K1) rfl rfl rfl ?_)
  refine (implBoard_yes _ _ HV.out).mono ?_
  rintro e w1 ⟨rfl, hb2⟩
  have K1 := K1.below hb2 K1.lt
  have K2 := K2.below hb2 K2.lt
  have HB : Hid (Below w.heap.size w w1) := HB.out.trans (hb2.mono HB.out.size)
  clear hb2
  go_wp2_with fail
  refine (isDirection_yes _ _ (by omega) (by omega)).mono ?_
  rintro e w' ⟨rfl, rfl⟩
  go_wp2_with fail
  refine (isLine_yes _ _ i0 i3).mono ?_
  rintro e w' ⟨rfl, rfl⟩
  clear z16 z4
  go_wp2_with fail
  have a0 := fun (W : World) (h : Blk W w.heap.size 16 f 27) => h.cell (i := 0) (by omega)
  have a1 := fun (W : World) (h : Blk W w.heap.size 16 f 27) => h.cell (i := 1) (by omega)
  have a2 := fun (W : World) (h : Blk W w.heap.size 16 f 27) => h.cell (i := 2) (by omega)
  have a3 := fun (W : World) (h : Blk W w.heap.size 16 f 27) => h.cell (i := 3) (by omega)
  have a4 := fun (W : World) (h : Blk W w.heap.size 16 f 27) => h.cell (i := 4) (by omega)
  have a5 := fun (W : World) (h : Blk W w.heap.size 16 f 27) => h.cell (i := 5) (by omega)
  have a6 := fun (W : World) (h : Blk W w.heap.size 16 f 27) => h.cell (i := 6) (by omega)
  have a7 := fun (W : World) (h : Blk W w.heap.size 16 f 27) => h.cell (i := 7) (by omega)
  have a8 := fun (W : World) (h : Blk W w.heap.size 16 f 27) => h.cell (i := 8) (by omega)
  have a9 := fun (W : World) (h : Blk W w.heap.size 16 f 27) => h.cell (i := 9) (by omega)
  have a10 := fun (W : World) (h : Blk W w.heap.size 16 f 27) => h.cell (i := 10) (by omega)
  have a11 := fun (W : World) (h : Blk W w.heap.size 16 f 27) => h.cell (i := 11) (by omega)
  have a12 := fun (W : World) (h : Blk W w.heap.size 16 f 27) => h.cell (i := 12) (by omega)
  have a13 := fun (W : World) (h : Blk W w.heap.size 16 f 27) => h.cell (i := 13) (by omega)
  have a14 := fun (W : World) (h : Blk W w.heap.size 16 f 27) => h.cell (i := 14) (by omega)
  have a15 := fun (W : World) (h : Blk W w.heap.size 16 f 27) => h.cell (i := 15) (by omega)
  have ae : (#[.int .i64 (f 0), .int .i64 (f 1), .int .i64 (f 2), .int .i64 (f 3), .int .i64 (f 4), .int .i64 (f 5), .int .i64 (f 6), .int .i64 (f 7), .int .i64 (f 8), .int .i64 (f 9), .int .i64 (f 10), .int .i64 (f 11), .int .i64 (f 12), .int .i64 (f 13), .int .i64 (f 14), .int .i64 (f 15)] : Array Value) = mk 16 f := rfl
  have iV := idxV3
  have iF := fieldV3
  have iB := fieldB
  have iG : ∀ (g : Nat → Int) (W : World), (Instr.index 25 (.agg (mk 16 g)) (.int .i64 (i : Int))).run Try.prog W = .ok (.agg (mk 4 (fun c => g (i * 4 + c)))) W := fun g W => idxG g i hi W
  have vp := view_part f 3 i
  have ms := mk_size 4 (lineF f 3 i)
  have hst := fun (W : World) (h : Blk W (w.heap.size + 1) 4 (fun _ => 0) 24) => run_store_blk (P := Try.prog) (lineF f 3 i) h
  have K1 := K1.drew
  have K2 := K2.drew
  have HB : Hid (Below w.heap.size w w1.drew) := HB.out.drew
  go_region_with (first | (go_at_call 119; refine (views_any _).mono ?_; rintro e w3 ⟨rfl, hb3⟩; have J1 := K1.below hb3 K1.lt; have J2 := K2.below hb3 K2.lt; have JB : Hid (Below w.heap.size w w3) := HB.out.trans (hb3.mono HB.out.size); clear hb3) | (go_at_call 155; refine (there_3 _ _).mono ?_; rintro e w4 ⟨rfl, hb4⟩; have L2 := J2.below hb4 J2.lt; have LB : Hid (Below w.heap.size w w4) := JB.out.trans (hb4.mono JB.out.size); clear hb4))
  all_goals
    clear a0 a1 a2 a3 a4 a5 a6 a7 a8 a9 a10 a11 a12 a13 a14 a15 ae hst vp
    go_wp2_with fail
    try simp only [Exit.inBlock, Exit.then]
    exact retctR (L2.row 4 _) rfl rfl rfl ⟨rfl, below_setRow LB.out (by omega) _⟩
theorem specLineOf_any (f : Nat → Int) (d i : Int) (w : World) :
    Calls Try.prog 48 #[.agg (mk 16 f), .int .i64 d, .int .i64 i] w fun e w' => e = .returned (.tuple #[.agg (mk 4 (lineR f d i)), .bool (lineO f d i)]) ∧ Below w.heap.size w w' := by
  by_cases h : LineOk f d i
  · obtain ⟨y1, y2⟩ := line_yes h
    rw [y1, y2]
    obtain ⟨hV, ⟨d0, d3⟩, i0, i3⟩ := h
    obtain ⟨k, rfl⟩ := Int.eq_ofNat_of_zero_le i0
    rcases (by omega : d = 0 ∨ d = 1 ∨ d = 2 ∨ d = 3) with rfl | rfl | rfl | rfl
    · exact specLine_0 f k w hV (by omega)
    · exact specLine_1 f k w hV (by omega)
    · exact specLine_2 f k w hV (by omega)
    · exact specLine_3 f k w hV (by omega)
  · exact specLine_no f d i w h
theorem implLineOf_any (f : Nat → Int) (d i : Int) (w : World) :
    Calls Try.prog 47 #[.agg (mk 16 f), .int .i64 d, .int .i64 i] w fun e w' => e = .returned (.tuple #[.agg (mk 4 (lineR f d i)), .bool (lineO f d i)]) ∧ Below w.heap.size w w' := by
  by_cases h : LineOk f d i
  · obtain ⟨y1, y2⟩ := line_yes h
    rw [y1, y2]
    obtain ⟨hV, ⟨d0, d3⟩, i0, i3⟩ := h
    obtain ⟨k, rfl⟩ := Int.eq_ofNat_of_zero_le i0
    rcases (by omega : d = 0 ∨ d = 1 ∨ d = 2 ∨ d = 3) with rfl | rfl | rfl | rfl
    · exact implLine_0 f k w hV (by omega)
    · exact implLine_1 f k w hV (by omega)
    · exact implLine_2 f k w hV (by omega)
    · exact implLine_3 f k w hV (by omega)
  · exact implLine_no f d i w h
end Go.Proofs.Ytpiegllffkjneaa
