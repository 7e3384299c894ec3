/-
  The contracts of the reference's draws of cells.
-/
import Derived.Test.YtblcojacmjbjcabDrawsA
import Derived.Test.YtblcojacmjbjcabCellA
namespace Go.Proofs.Ytblcojacmjbjcab
open Go.RowKit Plain
attribute [local go_sem] Oper.semAt_some
set_option linter.unusedSimpArgs false

set_option maxHeartbeats 1000000 in
theorem cell_any (w : World) (B m : Nat) (hc : Cur w B m) (hm : m ≤ 999999000) :
    Calls Try.prog 184 #[.pointer (some ⟨B, 0, none⟩)] w fun e w' => ∃ f : Nat → Int, e = .returned (.agg (mk 2 f)) ∧ Cur w' B (m + 6) ∧ Turned B w w' := by
  have z2 := zero2
  have hlt := hc.lt
  have HC := Lib.hid (hc.alloc (.cells (mk 2 fun _ => 0) 42))
  have HT := Lib.hid ((Turned.refl B w).alloc (.cells (mk 2 fun _ => 0) 42))
  have K2 := Blk.new w 2 (fun _ => 0) 42
  have hne : w.heap.size ≠ B := by omega
  clear hc
  go_enter Try.func184, Try.ntmps184
  go_wp2_with fail
  refine (one_any _ B m 40 HC.out (by omega) (by omega) (by omega)).mono ?_
  rintro e w1 ⟨b, rfl, hc1, ht1⟩
  have HC1 := Lib.hid hc1
  have HT1 := Lib.hid (HT.out.trans ht1)
  have K2 := K2.turned ht1 hne
  have hlt1 := hc1.lt
  clear hc1 ht1 HC HT
  cases b with
  | true =>
    go_wp2_with fail
    refine (among_any _ B (m + 2) w1.heap.size 3 3 (fun _ => True) (HC1.out.alloc _) (by omega) (by omega) (by omega) (by omega) (three_new _ _ _ _ _)).mono ?_
    rintro e w2 ⟨x, _, rfl, hc2, ht2⟩
    have HC2 := Lib.hid hc2
    have HT2 := Lib.hid ((HT1.out.alloc _).trans ht2)
    have K2 := (K2.alloc _).turned ht2 hne
    have hlt2 := hc2.lt
    clear hc2 ht2 HC1 HT1
    go_wp2_with fail
    refine (among_any _ B (m + 2 + 2) w2.heap.size 3 3 (fun _ => True) (HC2.out.alloc _) (by omega) (by omega) (by omega) (by omega) (three_new _ _ _ _ _)).mono ?_
    rintro e w3 ⟨y, _, rfl, hc3, ht3⟩
    have HC3 := Lib.hid hc3
    have HT3 := Lib.hid ((HT2.out.alloc _).trans ht3)
    have K2 := (K2.alloc _).turned ht3 hne
    clear hc3 ht3 HC2 HT2
    have e2 : (#[.int .i64 x, .int .i64 y] : Array Value) = mk 2 (fun j => if j = 0 then x else y) := rfl
    clear z2
    go_wp2_with ((with_reducible show wpList _ _ _ (Oper.mk _ (Op.store 42 _ _) _ _ _ _ :: _) _ _); refine storeC (K2) rfl rfl rfl rfl ?_)
    try simp only [Exit.inBlock, Exit.then]
    exact retcC (K2.row 2 _) rfl rfl rfl ⟨_, rfl, (HC3.out.rowNew hlt _).more (by omega), HT3.out.rowNew (Nat.le_refl _) _⟩
  | false =>
    go_wp2_with fail
    refine (pick_any _ B (m + 2) 4 HC1.out (by omega) (by omega) (by omega)).mono ?_
    rintro e w2 ⟨x, hx, rfl, hc2, ht2⟩
    have HC2 := Lib.hid hc2
    have HT2 := Lib.hid (HT1.out.trans ht2)
    have K2 := K2.turned ht2 hne
    have hlt2 := hc2.lt
    clear hc2 ht2 HC1 HT1
    go_wp2_with fail
    refine (pick_any _ B (m + 2 + 2) 4 HC2.out (by omega) (by omega) (by omega)).mono ?_
    rintro e w3 ⟨y, hy, rfl, hc3, ht3⟩
    have HC3 := Lib.hid hc3
    have HT3 := Lib.hid (HT2.out.trans ht3)
    have K2 := K2.turned ht3 hne
    clear hc3 ht3 HC2 HT2
    have e2 : (#[.int .i64 (x : Int), .int .i64 (y : Int)] : Array Value) = mk 2 (fun j => if j = 0 then (x : Int) else y) := rfl
    clear z2
    go_wp2_with ((with_reducible show wpList _ _ _ (Oper.mk _ (Op.store 42 _ _) _ _ _ _ :: _) _ _); refine storeC (K2) rfl rfl rfl rfl ?_)
    try simp only [Exit.inBlock, Exit.then]
    exact retcC (K2.row 2 _) rfl rfl rfl ⟨_, rfl, (HC3.out.rowNew hlt _).more (by omega), HT3.out.rowNew (Nat.le_refl _) _⟩
theorem below_three {w w2 : World} {o p q : Obj} {B : Nat} (hB : B = w.heap.size + 2) (h : Turned B (((w.alloc o).alloc p).alloc q) w2) : Below w.heap.size w w2 :=
  ((((Below.refl w.heap.size w).alloc (Nat.le_refl _) o).alloc (by simp) p).alloc (by simp; omega) q).trans (h.below (by simp; omega) (by omega))
end Go.Proofs.Ytblcojacmjbjcab
