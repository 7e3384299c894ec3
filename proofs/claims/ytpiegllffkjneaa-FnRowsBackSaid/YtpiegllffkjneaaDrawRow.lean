/-
  The contracts of the reference's draws of rows: some row comes out, and nothing that lay there before turns.
-/
import Derived.Test.YtpiegllffkjneaaDraws
import Derived.Test.YtpiegllffkjneaaRowsA
namespace Go.Proofs.Ytpiegllffkjneaa
open Go.RowKit Plain
attribute [local go_sem] store_new

theorem turned_below {B : Nat} {w w' : World} (h : Below w.heap.size w w') : Turned B w w' := ⟨h.os, h.tape, h.output, h.size, fun k hk _ => h.block k hk⟩
theorem Dr.below {w W W' : World} {B m : Nat} (h : Dr w B m W) (hb : Go.RowKit.Below W.heap.size W W') : Dr w B m W' := h.call (h.1.kept hb) (turned_below hb)
theorem four_new (W : World) (a b c d : Int) (t : TypeId) : ∀ j, j < 4 → ∃ v, (W.alloc (.cells #[.int .i64 a, .int .i64 b, .int .i64 c, .int .i64 d] t)).cell? ⟨W.heap.size, j, none⟩ = some v ∧ ∃ t, v = .int .i64 t ∧ True := by
  intro j hj
  refine alloc_all W _ _ (fun v => ∃ t, v = .int .i64 t ∧ True) ?_ j hj
  intro v hv
  simp at hv
  rcases hv with rfl | rfl | rfl | rfl <;> exact ⟨_, rfl, trivial⟩
set_option maxHeartbeats 2000000 in
theorem row_any (w : World) (B m : Nat) (hc : Cur w B m) (hm : m ≤ 999990000) :
    Calls Try.prog 164 #[.pointer (some ⟨B, 0, none⟩)] w fun e w' => ∃ f, e = .returned (.agg (mk 4 f)) ∧ Cur w' B (m + 20) ∧ Turned B w w' := by
  have z4 := zero4
  have HD := Lib.hid (((Dr.start hc).alloc (.cells (mk 4 fun _ => 0) 24)).alloc (.cells (mk 4 fun _ => 0) 24))
  have k2 := (Blk.new w 4 (fun _ => 0) 24).alloc (.cells (mk 4 fun _ => 0) 24)
  have k3 := Blk.new (w.alloc (.cells (mk 4 fun _ => 0) 24)) 4 (fun _ => 0) 24
  simp only [World.size_alloc] at k3
  have hlt := hc.lt
  clear hc
  go_enter Try.func164, Try.ntmps164
  go_wp2_with fail
  generalize (w.alloc (.cells (mk 4 fun _ => 0) 24)).alloc (.cells (mk 4 fun _ => 0) 24) = w1 at *
  go_loopg [4] 4 (fun g s4 wr => ∃ (c : Nat) (f : Nat → Int), c + g = 4 ∧ s4 = .int .i64 c ∧ Hid (Dr w B (m + 2 * c) wr) ∧ Blk wr w.heap.size 4 (fun _ => 0) 24 ∧ Blk wr (w.heap.size + 1) 4 f 24)
  case atStart => exact ⟨0, _, by omega, rfl, HD, k2, k3⟩
  case round =>
    clear HD k2 k3
    obtain ⟨c, f, hcg, rfl, HD, k2, k3⟩ := hrel
    cases gk with
    | succ g =>
      have hc : (c : Int) < 4 := by omega
      go_wp2_with fail
      refine (tile_any _ B (m + 2 * c) HD.out.1 (by omega)).mono ?_
      rintro e w2 ⟨t, rfl, hc2, ht2⟩
      replace HD : Hid (Dr w B (m + 2 * c + 2) w2) := HD.out.call hc2 ht2
      replace k2 := k2.turned ht2 (by omega)
      replace k3 := k3.turned ht2 (by omega)
      clear hc2 ht2
      have c3 := k3.cell (i := c) (by omega)
      have f3 := k3.free c
      go_wp2_with fail
      go_roundg g
      case rel => exact ⟨c + 1, _, by omega, by go_num, (HD.out.set (by dsimp only; omega) _).more (by omega), k2.setOther _ _ (by dsimp only; omega), k3.set (by omega) _⟩
      case measure => omega
    | zero =>
      obtain rfl : c = 4 := by omega
      clear hcg
      go_wp2_with fail
      refine (pick_any _ B _ 20 HD.out.1 (by omega) (by omega) (by omega)).mono ?_
      rintro e w2 ⟨k, hk, rfl, hc2, ht2⟩
      replace HD : Hid (Dr w B (m + 2 * 4 + 2) w2) := HD.out.call hc2 ht2
      replace k2 := k2.turned ht2 (by omega)
      replace k3 := k3.turned ht2 (by omega)
      clear hc2 ht2
      by_cases h0 : k = 0
      · subst h0
        go_wp2_with fail
        refine (among_any _ B (m + 2 * 4 + 2) w2.heap.size 4 4 (fun _ => True) (HD.out.1.alloc _) (by omega) (by omega) (by omega) (by have := HD.out.1.lt; omega) (four_new _ _ _ _ _ _)).mono ?_
        rintro e w3 ⟨t, _, rfl, hc3, ht3⟩
        replace HD : Hid (Dr w B (m + 2 * 4 + 2 + 2) w3) := (HD.out.alloc _).call hc3 ht3
        replace k2 := (k2.alloc _).turned ht3 (by omega)
        replace k3 := (k3.alloc _).turned ht3 (by omega)
        clear hc3 ht3
        go_wp2_with fail
        refine (among_any _ B (m + 2 * 4 + 2 + 2) w3.heap.size 4 4 (fun _ => True) (HD.out.1.alloc _) (by omega) (by omega) (by omega) (by have := HD.out.1.lt; omega) (four_new _ _ _ _ _ _)).mono ?_
        rintro e w4 ⟨u, _, rfl, hc3, ht3⟩
        replace HD : Hid (Dr w B (m + 2 * 4 + 2 + 2 + 2) w4) := (HD.out.alloc _).call hc3 ht3
        replace k2 := (k2.alloc _).turned ht3 (by omega)
        replace k3 := (k3.alloc _).turned ht3 (by omega)
        clear hc3 ht3 z4
        have k3' := k3.row 4 (qd t t t u)
        have k2' := k2.rowOther (w.heap.size + 1) (mk 4 (qd t t t u)) (by omega)
        replace HD : Hid (Dr w B (m + 2 * 4 + 2 + 2 + 2) (w4.setRow (w.heap.size + 1) (mk 4 (qd t t t u)))) := HD.out.row (by omega) _
        go_wp2_with (first | ((with_reducible show wpList _ _ _ (Oper.mk _ (Op.store 24 (.tmp 3) _) _ _ _ _ :: _) _ _); refine storeR (g := qd _ _ _ _) k3 rfl rfl rfl rfl ?_) | ((with_reducible show wpList _ _ _ (Oper.mk _ (Op.load 24 _) _ _ _ _ :: _) _ _); refine loadR (k3') rfl rfl rfl ?_) | ((with_reducible show wpList _ _ _ (Oper.mk _ (Op.store 24 _ _) _ _ _ _ :: _) _ _); refine storeR (k2') rfl rfl rfl rfl ?_))
        try simp only [Exit.inBlock, Exit.then]
        exact retcR (k2'.row 4 _) rfl rfl rfl ⟨_, rfl, (HD.out.row (Nat.le_refl _) _).1.more (by omega), (HD.out.row (Nat.le_refl _) _).2.1⟩
      · have e0 : ((k : Int) == 0) = false := by simp; omega
        by_cases h1 : k = 1
        · subst h1
          clear h0 e0
          go_wp2_with fail
          refine (pick_any _ B _ 4 HD.out.1 (by omega) (by omega) (by omega)).mono ?_
          rintro e w3 ⟨j, hj, rfl, hc3, ht3⟩
          replace HD : Hid (Dr w B (m + 2 * 4 + 2 + 2) w3) := HD.out.call hc3 ht3
          replace k2 := k2.turned ht3 (by omega)
          replace k3 := k3.turned ht3 (by omega)
          clear hc3 ht3
          go_wp2_with fail
          refine (among_any _ B (m + 2 * 4 + 2 + 2) w3.heap.size 3 3 (fun _ => True) (HD.out.1.alloc _) (by omega) (by omega) (by omega) (by have := HD.out.1.lt; omega) (three_new _ _ _ _ _)).mono ?_
          rintro e w4 ⟨u, _, rfl, hc3, ht3⟩
          replace HD : Hid (Dr w B (m + 2 * 4 + 2 + 2 + 2) w4) := (HD.out.alloc _).call hc3 ht3
          replace k2 := (k2.alloc _).turned ht3 (by omega)
          replace k3 := (k3.alloc _).turned ht3 (by omega)
          clear hc3 ht3
          have c3 := k3.cell (i := j) (by omega)
          have f3 := k3.free j
          have hj4 : j < 4 := by omega
          have k3' := k3.set hj4 u
          have k2' := k2.setOther ⟨w.heap.size + 1, j, none⟩ (.int .i64 u) (by dsimp only; omega)
          replace HD : Hid (Dr w B (m + 2 * 4 + 2 + 2 + 2) (w4.setCell ⟨w.heap.size + 1, j, none⟩ (.int .i64 u))) := HD.out.set (by dsimp only; omega) _
          go_wp2_with (first | ((with_reducible show wpList _ _ _ (Oper.mk _ (Op.load 24 _) _ _ _ _ :: _) _ _); refine loadR (k3') rfl rfl rfl ?_) | ((with_reducible show wpList _ _ _ (Oper.mk _ (Op.store 24 _ _) _ _ _ _ :: _) _ _); refine storeR (k2') rfl rfl rfl rfl ?_))
          try simp only [Exit.inBlock, Exit.then]
          exact retcR (k2'.row 4 _) rfl rfl rfl ⟨_, rfl, (HD.out.row (Nat.le_refl _) _).1.more (by omega), (HD.out.row (Nat.le_refl _) _).2.1⟩
        · have e1 : ((k : Int) == 1) = false := by simp; omega
          by_cases h2 : k = 2 ∨ k = 3 ∨ k = 4
          · have key : ∃ b2 b3 b4 : Bool, ((k : Int) == 2) = b2 ∧ ((k : Int) == 3) = b3 ∧ ((k : Int) == 4) = b4 ∧ (b2 || b3 || b4) = true := ⟨_, _, _, rfl, rfl, rfl, by rcases h2 with rfl | rfl | rfl <;> rfl⟩
            rcases h2 with rfl | rfl | rfl <;> (
              clear key h0 h1
              go_wp2_with ((with_reducible show wpList _ _ _ (Oper.mk _ (Op.load 24 _) _ _ _ _ :: _) _ _); refine loadR (k3) rfl rfl rfl ?_)
              refine (l4Row_any _ _).mono ?_
              rintro e w3 ⟨rfl, hb⟩
              replace HD : Hid (Dr w B (m + 2 * 4 + 2) w3) := HD.out.below hb
              replace k2 := k2.below hb k2.lt
              replace k3 := k3.below hb k3.lt
              clear hb
              by_cases hV : VdRow f
              · rw [rwO_yes hV]
                have HV := Lib.hid hV
                clear hV
                go_wp2_with ((with_reducible show wpList _ _ _ (Oper.mk _ (Op.load 24 _) _ _ _ _ :: _) _ _); refine loadR (k3) rfl rfl rfl ?_)
                refine (l2Row_any f _ HV.out).mono ?_
                rintro e w4 ⟨rfl, hb⟩
                replace HD : Hid (Dr w B (m + 2 * 4 + 2) w4) := HD.out.below hb
                replace k2 := k2.below hb k2.lt
                replace k3 := k3.below hb k3.lt
                clear hb
                have k6 := Blk.new w4 4 (slid f 4).row 24
                replace k2 := k2.alloc (.cells (mk 4 (slid f 4).row) 24)
                replace k3 := k3.alloc (.cells (mk 4 (slid f 4).row) 24)
                replace HD : Hid (Dr w B (m + 2 * 4 + 2) (w4.alloc (.cells (mk 4 (slid f 4).row) 24))) := HD.out.alloc _
                have k3' := k3.row 4 (slid f 4).row
                have k2' := k2.rowOther (w.heap.size + 1) (mk 4 (slid f 4).row) (by omega)
                replace HD : Hid (Dr w B (m + 2 * 4 + 2) ((w4.alloc (.cells (mk 4 (slid f 4).row) 24)).setRow (w.heap.size + 1) (mk 4 (slid f 4).row))) := HD.out.row (by omega) _
                go_wp2_with (first | ((with_reducible show wpList _ _ _ (Oper.mk _ (Op.load 24 _) _ _ _ _ :: _) _ _); refine loadR (k6) rfl rfl rfl ?_) | ((with_reducible show wpList _ _ _ (Oper.mk _ (Op.store 24 _ _) _ _ _ _ :: _) _ _); refine storeR (k3) rfl rfl rfl rfl ?_) | ((with_reducible show wpList _ _ _ (Oper.mk _ (Op.load 24 _) _ _ _ _ :: _) _ _); refine loadR (k3') rfl rfl rfl ?_) | ((with_reducible show wpList _ _ _ (Oper.mk _ (Op.store 24 _ _) _ _ _ _ :: _) _ _); refine storeR (k2') rfl rfl rfl rfl ?_))
                try simp only [Exit.inBlock, Exit.then]
                exact retcR (k2'.row 4 _) rfl rfl rfl ⟨_, rfl, (HD.out.row (Nat.le_refl _) _).1.more (by omega), (HD.out.row (Nat.le_refl _) _).2.1⟩
              · rw [rwO_no hV]
                clear hV
                go_wp2_with (first | ((with_reducible show wpList _ _ _ (Oper.mk _ (Op.load 24 _) _ _ _ _ :: _) _ _); refine loadR (k3) rfl rfl rfl ?_) | ((with_reducible show wpList _ _ _ (Oper.mk _ (Op.store 24 _ _) _ _ _ _ :: _) _ _); refine storeR (k2) rfl rfl rfl rfl ?_))
                try simp only [Exit.inBlock, Exit.then]
                exact retcR (k2.row 4 _) rfl rfl rfl ⟨_, rfl, (HD.out.row (Nat.le_refl _) _).1.more (by omega), (HD.out.row (Nat.le_refl _) _).2.1⟩)
          · have e2 : ((k : Int) == 2) = false := by simp; omega
            have e3 : ((k : Int) == 3) = false := by simp; omega
            have e4 : ((k : Int) == 4) = false := by simp; omega
            clear h0 h1 h2
            go_wp2_with (first | ((with_reducible show wpList _ _ _ (Oper.mk _ (Op.load 24 _) _ _ _ _ :: _) _ _); refine loadR (k3) rfl rfl rfl ?_) | ((with_reducible show wpList _ _ _ (Oper.mk _ (Op.store 24 _ _) _ _ _ _ :: _) _ _); refine storeR (k2) rfl rfl rfl rfl ?_))
            try simp only [Exit.inBlock, Exit.then]
            exact retcR (k2.row 4 _) rfl rfl rfl ⟨_, rfl, (HD.out.row (Nat.le_refl _) _).1.more (by omega), (HD.out.row (Nat.le_refl _) _).2.1⟩
set_option maxHeartbeats 1000000 in
theorem drawIsRow_any (a : Option Addr) (len cap : Nat) (w : World) (hl : len ≤ 65536) (hr : CodeRow w a len w.heap.size) :
    Calls Try.prog 131 #[.slice a len cap] w fun e w' => ∃ f : Nat → Int, e = .returned (.agg (mk 4 f)) ∧ Below w.heap.size w w' := by
  have z4 := zero4
  have K2 := (Blk.new w 4 (fun _ => 0) 24).alloc (.cells #[.slice a len cap, .int .i64 0, .int .u64 0] 97)
  have hr1 := hr.later ((Below.refl _ w).alloc (Nat.le_refl _) (.cells (mk 4 fun _ => 0) 24))
  have HC := Lib.hid (Cur.new (w.alloc (.cells (mk 4 fun _ => 0) 24)) a len cap hl hr1)
  have hs : (w.alloc (.cells (mk 4 fun _ => 0) 24)).heap.size = w.heap.size + 1 := by simp
  rw [hs] at HC
  clear hr hr1
  go_enter Try.func131, Try.ntmps131
  go_wp2_with fail
  refine (row_any _ (w.heap.size + 1) 0 HC.out (by omega)).mono ?_
  rintro e w2 ⟨f, rfl, hc2, ht2⟩
  replace K2 := K2.turned ht2 (by omega)
  have HT := Lib.hid ht2
  clear hc2 ht2
  go_wp2_with ((with_reducible show wpList _ _ _ (Oper.mk _ (Op.store 24 _ _) _ _ _ _ :: _) _ _); refine storeR (K2) rfl rfl rfl rfl ?_)
  try simp only [Exit.inBlock, Exit.then]
  exact retcR (K2.row 4 _) rfl rfl rfl ⟨f, rfl, below_setRow (below_two rfl HT.out) (Nat.le_refl _) _⟩
theorem drawRowsBefore_any (a : Option Addr) (len cap : Nat) (w : World) (hl : len ≤ 65536) (hr : CodeRow w a len w.heap.size) :
    Calls Try.prog 57 #[.slice a len cap] w fun e w' => ∃ f : Nat → Int, e = .returned (.agg (mk 4 f)) ∧ Below w.heap.size w w' := by
  have z4 := zero4
  have K2 := Blk.new w 4 (fun _ => 0) 24
  have HB := Lib.hid ((Below.refl _ w).alloc (Nat.le_refl _) (.cells (mk 4 fun _ => 0) 24))
  have hr1 := Lib.hid (hr.later HB.out)
  clear hr
  go_enter Try.func57, Try.ntmps57
  go_wp2_with fail
  refine (drawIsRow_any a len cap _ hl hr1.out).mono ?_
  rintro e w2 ⟨f, rfl, hb⟩
  replace K2 := K2.below hb K2.lt
  replace HB : Hid (Below w.heap.size w w2) := HB.out.trans (hb.mono HB.out.size)
  clear hb hr1
  go_wp2_with ((with_reducible show wpList _ _ _ (Oper.mk _ (Op.store 24 _ _) _ _ _ _ :: _) _ _); refine storeR (K2) rfl rfl rfl rfl ?_)
  try simp only [Exit.inBlock, Exit.then]
  exact retcR (K2.row 4 _) rfl rfl rfl ⟨f, rfl, below_setRow HB.out (Nat.le_refl _) _⟩
end Go.Proofs.Ytpiegllffkjneaa
