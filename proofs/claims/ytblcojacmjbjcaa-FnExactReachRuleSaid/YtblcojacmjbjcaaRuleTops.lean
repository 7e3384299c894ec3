/-
  The contracts of the program's MergeOf and WorthBy.
-/
import Derived.Test.YtblcojacmjbjcaaRuleImpl
import Derived.Test.YtblcojacmjbjcaaRuleSpec
namespace Go.Proofs.Ytblcojacmjbjcaa
open Go.RowKit Plain
set_option linter.unusedVariables false
set_option linter.unusedSimpArgs false
attribute [local go_sem] store_new
set_option maxRecDepth 20000
theorem lawOf_at (r : Int) (w : World) (h : RlOk r) :
    Calls Try.prog 51 #[.int .i64 r] w fun e w' => e = .returned (.tuple #[.iface 112 (.agg #[inR r]), .bool true]) ∧ Below w.heap.size w w' := lawOf_yes r w h
set_option maxHeartbeats 1000000 in
theorem implMergeOf_any (r s t : Int) (w : World) :
    Calls Try.prog 16 #[.int .i64 r, .int .i64 s, .int .i64 t] w fun e w' => e = .returned (.tuple #[.int .i64 (mgR r s t), .bool (mgO r s t)]) ∧ Below w.heap.size w w' := by
  by_cases hr : RlOk r
  · have HR := Lib.hid hr
    have iM := method_merge (inR r)
    have HX := Lib.hid (merges_any r hr)
    have CL : Hid (∀ W, Calls Try.prog 51 #[.int .i64 r] W fun e w' => e = .returned (.tuple #[.iface 112 (.agg #[inR r]), .bool true]) ∧ Below W.heap.size W w') := fun W => lawOf_at r W hr
    generalize inR r = x at *
    by_cases hs : TlOk s
    · by_cases ht : TlOk t
      · obtain ⟨q1, q2⟩ := mg_yes (r := r) (s := s) (t := t) ⟨hr, hs, ht⟩
        rw [q1, q2]
        have H := Lib.hid (And.intro hs ht)
        clear hr hs ht q1 q2
        go_enter Try.func16, Try.ntmps16
        go_wp2_with fail
        refine (CL.out _).mono ?_
        rintro e w1 ⟨rfl, hb⟩
        go_wp2_with fail
        refine (isTile_yes s _ H.out.1.1 H.out.1.2).mono ?_
        rintro e w2 ⟨rfl, rfl⟩
        go_wp2_with fail
        refine (isTile_yes t _ H.out.2.1 H.out.2.2).mono ?_
        rintro e w2 ⟨rfl, rfl⟩
        go_wp2_with fail
        refine (HX.out.2 s t _ H.out.1 H.out.2).mono ?_
        rintro e w2 ⟨rfl, hb2⟩
        go_wp2_with fail
        go_ret2
        exact ⟨rfl, hb.trans (hb2.mono hb.size)⟩
      · obtain ⟨q1, q2⟩ := mg_no (r := r) (s := s) (t := t) (fun h => ht h.2.2)
        rw [q1, q2]
        have H := Lib.hid (And.intro hs (tl_out ht))
        clear hr hs ht q1 q2
        go_enter Try.func16, Try.ntmps16
        go_wp2_with fail
        refine (CL.out _).mono ?_
        rintro e w1 ⟨rfl, hb⟩
        go_wp2_with fail
        refine (isTile_yes s _ H.out.1.1 H.out.1.2).mono ?_
        rintro e w2 ⟨rfl, rfl⟩
        go_wp2_with fail
        refine (isTile_no t _ H.out.2).mono ?_
        rintro e w2 ⟨rfl, rfl⟩
        go_wp2_with fail
        go_ret2
        exact ⟨rfl, hb⟩
    · obtain ⟨q1, q2⟩ := mg_no (r := r) (s := s) (t := t) (fun h => hs h.2.1)
      rw [q1, q2]
      have H := Lib.hid (tl_out hs)
      clear hr hs q1 q2
      go_enter Try.func16, Try.ntmps16
      go_wp2_with fail
      refine (CL.out _).mono ?_
      rintro e w1 ⟨rfl, hb⟩
      go_wp2_with fail
      refine (isTile_no s _ H.out).mono ?_
      rintro e w2 ⟨rfl, rfl⟩
      go_wp2_with fail
      go_ret2
      exact ⟨rfl, hb⟩
  · obtain ⟨q1, q2⟩ := mg_no (r := r) (s := s) (t := t) (fun h => hr h.1)
    rw [q1, q2]
    have H := Lib.hid hr
    clear hr q1 q2
    go_enter Try.func16, Try.ntmps16
    go_wp2_with fail
    refine (lawOf_no r _ H.out).mono ?_
    rintro e w1 ⟨rfl, hb⟩
    go_wp2_with fail
    go_ret2
    exact ⟨rfl, hb⟩
theorem implWorthYes_1 (t : Int) (w : World) (ht : TlOk t) :
    Calls Try.prog 18 #[.int .i64 1, .int .i64 t] w fun e w' => e = .returned (.tuple #[.int .i64 (woF 1 t), .bool true]) ∧ Below w.heap.size w w' := by
  have CL : Hid (∀ W, Calls Try.prog 51 #[.int .i64 1] W fun e w' => e = .returned (.tuple #[.iface 112 (.agg #[.iface 110 (.agg #[])]), .bool true]) ∧ Below W.heap.size W w') := fun W => lawOf_at 1 W (by decide)
  have HW : Hid (∀ W, Calls Try.prog 142 #[.agg #[], .int .i64 t] W fun e w' => e = .returned (.int .i64 (woF 1 t)) ∧ Below W.heap.size W w') := fun W => doublingW t W ht
  generalize woF 1 t = V at *
  have H := Lib.hid ht
  clear ht
  go_enter Try.func18, Try.ntmps18
  go_wp2_with fail
  refine (CL.out _).mono ?_
  rintro e w1 ⟨rfl, hb⟩
  go_wp2_with fail
  refine (isTile_yes t _ H.out.1 H.out.2).mono ?_
  rintro e w2 ⟨rfl, rfl⟩
  go_wp2_with fail
  refine (HW.out _).mono ?_
  rintro e w2 ⟨rfl, hb2⟩
  go_wp2_with fail
  go_ret2
  exact ⟨rfl, hb.trans (hb2.mono hb.size)⟩
theorem implWorthYes_2 (t : Int) (w : World) (ht : TlOk t) :
    Calls Try.prog 18 #[.int .i64 2, .int .i64 t] w fun e w' => e = .returned (.tuple #[.int .i64 (woF 2 t), .bool true]) ∧ Below w.heap.size w w' := by
  have CL : Hid (∀ W, Calls Try.prog 51 #[.int .i64 2] W fun e w' => e = .returned (.tuple #[.iface 112 (.agg #[.iface 113 (.agg #[])]), .bool true]) ∧ Below W.heap.size W w') := fun W => lawOf_at 2 W (by decide)
  have HW : Hid (∀ W, Calls Try.prog 145 #[.agg #[], .int .i64 t] W fun e w' => e = .returned (.int .i64 (woF 2 t)) ∧ Below W.heap.size W w') := fun W => followingW t W ht
  generalize woF 2 t = V at *
  have H := Lib.hid ht
  clear ht
  go_enter Try.func18, Try.ntmps18
  go_wp2_with fail
  refine (CL.out _).mono ?_
  rintro e w1 ⟨rfl, hb⟩
  go_wp2_with fail
  refine (isTile_yes t _ H.out.1 H.out.2).mono ?_
  rintro e w2 ⟨rfl, rfl⟩
  go_wp2_with fail
  refine (HW.out _).mono ?_
  rintro e w2 ⟨rfl, hb2⟩
  go_wp2_with fail
  go_ret2
  exact ⟨rfl, hb.trans (hb2.mono hb.size)⟩
theorem implWorthYes_3 (t : Int) (w : World) (ht : TlOk t) :
    Calls Try.prog 18 #[.int .i64 3, .int .i64 t] w fun e w' => e = .returned (.tuple #[.int .i64 (woF 3 t), .bool true]) ∧ Below w.heap.size w w' := by
  have CL : Hid (∀ W, Calls Try.prog 51 #[.int .i64 3] W fun e w' => e = .returned (.tuple #[.iface 112 (.agg #[.iface 114 (.agg #[])]), .bool true]) ∧ Below W.heap.size W w') := fun W => lawOf_at 3 W (by decide)
  have HW : Hid (∀ W, Calls Try.prog 147 #[.agg #[], .int .i64 t] W fun e w' => e = .returned (.int .i64 (woF 3 t)) ∧ Below W.heap.size W w') := fun W => triplingW t W ht
  generalize woF 3 t = V at *
  have H := Lib.hid ht
  clear ht
  go_enter Try.func18, Try.ntmps18
  go_wp2_with fail
  refine (CL.out _).mono ?_
  rintro e w1 ⟨rfl, hb⟩
  go_wp2_with fail
  refine (isTile_yes t _ H.out.1 H.out.2).mono ?_
  rintro e w2 ⟨rfl, rfl⟩
  go_wp2_with fail
  refine (HW.out _).mono ?_
  rintro e w2 ⟨rfl, hb2⟩
  go_wp2_with fail
  go_ret2
  exact ⟨rfl, hb.trans (hb2.mono hb.size)⟩
theorem implWorthYes_4 (t : Int) (w : World) (ht : TlOk t) :
    Calls Try.prog 18 #[.int .i64 4, .int .i64 t] w fun e w' => e = .returned (.tuple #[.int .i64 (woF 4 t), .bool true]) ∧ Below w.heap.size w w' := by
  have CL : Hid (∀ W, Calls Try.prog 51 #[.int .i64 4] W fun e w' => e = .returned (.tuple #[.iface 112 (.agg #[.iface 115 (.agg #[])]), .bool true]) ∧ Below W.heap.size W w') := fun W => lawOf_at 4 W (by decide)
  have HW : Hid (∀ W, Calls Try.prog 149 #[.agg #[], .int .i64 t] W fun e w' => e = .returned (.int .i64 (woF 4 t)) ∧ Below W.heap.size W w') := fun W => addingW t W ht
  generalize woF 4 t = V at *
  have H := Lib.hid ht
  clear ht
  go_enter Try.func18, Try.ntmps18
  go_wp2_with fail
  refine (CL.out _).mono ?_
  rintro e w1 ⟨rfl, hb⟩
  go_wp2_with fail
  refine (isTile_yes t _ H.out.1 H.out.2).mono ?_
  rintro e w2 ⟨rfl, rfl⟩
  go_wp2_with fail
  refine (HW.out _).mono ?_
  rintro e w2 ⟨rfl, hb2⟩
  go_wp2_with fail
  go_ret2
  exact ⟨rfl, hb.trans (hb2.mono hb.size)⟩
theorem implWorthBy_any (r t : Int) (w : World) :
    Calls Try.prog 18 #[.int .i64 r, .int .i64 t] w fun e w' => e = .returned (.tuple #[.int .i64 (woR r t), .bool (woO r t)]) ∧ Below w.heap.size w w' := by
  by_cases hr : RlOk r
  · by_cases ht : TlOk t
    · obtain ⟨q1, q2⟩ := wo_yes (r := r) (t := t) ⟨hr, ht⟩
      rw [q1, q2]
      obtain ⟨h0, h1⟩ := hr
      rcases (by omega : r = 1 ∨ r = 2 ∨ r = 3 ∨ r = 4) with rfl | rfl | rfl | rfl
      · exact implWorthYes_1 t w ht
      · exact implWorthYes_2 t w ht
      · exact implWorthYes_3 t w ht
      · exact implWorthYes_4 t w ht
    · obtain ⟨q1, q2⟩ := wo_no (r := r) (t := t) (fun h => ht h.2)
      rw [q1, q2]
      have CL : Hid (∀ W, Calls Try.prog 51 #[.int .i64 r] W fun e w' => e = .returned (.tuple #[.iface 112 (.agg #[inR r]), .bool true]) ∧ Below W.heap.size W w') := fun W => lawOf_at r W hr
      generalize inR r = x at *
      have H := Lib.hid (tl_out ht)
      clear hr ht q1 q2
      go_enter Try.func18, Try.ntmps18
      go_wp2_with fail
      refine (CL.out _).mono ?_
      rintro e w1 ⟨rfl, hb⟩
      go_wp2_with fail
      refine (isTile_no t _ H.out).mono ?_
      rintro e w2 ⟨rfl, rfl⟩
      go_wp2_with fail
      go_ret2
      exact ⟨rfl, hb⟩
  · obtain ⟨q1, q2⟩ := wo_no (r := r) (t := t) (fun h => hr h.1)
    rw [q1, q2]
    have H := Lib.hid hr
    clear hr q1 q2
    go_enter Try.func18, Try.ntmps18
    go_wp2_with fail
    refine (lawOf_no r _ H.out).mono ?_
    rintro e w1 ⟨rfl, hb⟩
    go_wp2_with fail
    go_ret2
    exact ⟨rfl, hb⟩
end Go.Proofs.Ytblcojacmjbjcaa
