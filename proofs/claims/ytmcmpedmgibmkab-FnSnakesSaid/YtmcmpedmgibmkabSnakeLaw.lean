/-
  What FnSnakes needs of a board that SnakeBoard makes, of the snakes of a board and of a path: contracts told by plain facts.
-/
import Derived.Test.YtmcmpedmgibmkabImplSbd
import Derived.Test.YtmcmpedmgibmkabSnakeMade
import Derived.Test.YtmcmpedmgibmkabSnakeImpl
import Derived.Test.YtmcmpedmgibmkabCount
import Derived.Test.YtmcmpedmgibmkabVHelp
namespace Go.Proofs.Ytmcmpedmgibmkab
open Go.RowKit Plain
set_option linter.unusedVariables false
set_option linter.unusedSimpArgs false
/-- SnakesOf in the program, its row told by places. -/
theorem snakes_row (b : Nat → Int) (W : World) :
    Calls Try.prog 12 #[.agg (mk 16 b)] W fun e w' => ∃ g cap, e = .returned (.tuple #[.slice (some ⟨g, 0, none⟩) (snLR b).length cap, .bool (vdO b)]) ∧
      IRow w' (.slice (some ⟨g, 0, none⟩) (snLR b).length cap) (snLR b).length (fun i => (snLR b).getD i 0) ∧ Below W.heap.size W w' := by
  refine (implSnakes_any b W).mono fun e w' ⟨g, cap, h1, h2, h3⟩ => ⟨g, cap, h1, ?_, h3⟩
  unfold OwnsInts at h2
  rw [ints_mk (snLR b)] at h2
  exact IRow.of_own h2
theorem snakes_rowS (b : Nat → Int) (W : World) :
    Calls Try.prog 10 #[.agg (mk 16 b)] W fun e w' => ∃ g cap, e = .returned (.tuple #[.slice (some ⟨g, 0, none⟩) (snLR b).length cap, .bool (vdO b)]) ∧
      IRow w' (.slice (some ⟨g, 0, none⟩) (snLR b).length cap) (snLR b).length (fun i => (snLR b).getD i 0) ∧ Below W.heap.size W w' := by
  refine (specSnakes_any b W).mono fun e w' ⟨g, cap, h1, h2, h3⟩ => ⟨g, cap, h1, ?_, h3⟩
  unfold OwnsInts at h2
  rw [ints_mk (snLR b)] at h2
  exact IRow.of_own h2
theorem sbd_facts {u : Nat → Int} {m : Int} (h : sbdO u m = true) :
    ∃ c : Nat → Int, (∀ W, Calls Try.prog 25 #[.agg (mk 16 u)] W fun e w' => e = .returned (.tuple #[.agg (mk 18 c), .bool true]) ∧ Below W.heap.size W w') ∧
      (∀ W, Calls Try.prog 25 #[.agg (mk 16 (sbdR u m))] W fun e w' => e = .returned (.tuple #[.agg (mk 18 c), .bool true]) ∧ Below W.heap.size W w') ∧
      (∀ W, Calls Try.prog 17 #[.agg (mk 16 (sbdR u m)), .int .i64 m] W fun e w' => e = .returned (.tuple #[.agg (mk 16 (sbdR u m)), .bool true]) ∧ Below W.heap.size W w') ∧
      ∃ (n : Nat) (H : Nat → Int), n ≤ 8 ∧ hasI H n m = true ∧ ∀ W, Calls Try.prog 12 #[.agg (mk 16 (sbdR u m))] W fun e w' => ∃ g cap, e = .returned (.tuple #[.slice (some ⟨g, 0, none⟩) n cap, .bool true]) ∧
        IRow w' (.slice (some ⟨g, 0, none⟩) n cap) n H ∧ Below W.heap.size W w' := by
  have hS : SbdOk u m := of_decide_eq_true h
  obtain ⟨hV, hm0, hm7⟩ := hS
  obtain ⟨k, rfl⟩ := Int.eq_ofNat_of_zero_le hm0
  have hk : k < 8 := by omega
  have e : sbdR u (k : Int) = mdF k u := by rw [(sbd_yes ⟨hV, hm0, hm7⟩).2, Int.toNat_natCast]; rfl
  have hV2 := md_vd hV hk
  rw [e]
  refine ⟨cntF u 16, fun W => ?_, fun W => ?_, fun W => ?_, (snLR (mdF k u)).length, fun i => (snLR (mdF k u)).getD i 0, snLR_le _, ?_, fun W => ?_⟩
  · have := implCount_any u W
    rw [cntR_yes hV, vdO_yes hV] at this
    exact this
  · have := implCount_any (mdF k u) W
    rw [cntR_yes hV2, vdO_yes hV2, md_cnt hV hk] at this
    exact this
  · have := implSbd_any (mdF k u) (k : Int) W
    have h2 := sbd_yes (f := mdF k u) (k := (k : Int)) ⟨hV2, hm0, hm7⟩
    rw [h2.1, h2.2, Int.toNat_natCast] at this
    have e2 : ouF k (xsL (mdF k u)) 16 = mdF k u := md_again hV hk
    rw [e2] at this
    exact this
  · obtain ⟨i, hi, he⟩ := List.mem_iff_getElem.1 (md_mem hV hk)
    refine hasI_yes hi ?_
    rw [List.getD_eq_getElem?_getD, List.getElem?_eq_getElem hi, he]; rfl
  · have := snakes_row (mdF k u) W
    rw [vdO_yes hV2] at this
    exact this
theorem list_facts {b : Nat → Int} (h : vdO b = true) : ∀ i, i < (snLR b).length → ∀ W,
    Calls Try.prog 17 #[.agg (mk 16 b), .int .i64 ((snLR b).getD i 0)] W fun e w' => e = .returned (.tuple #[.agg (mk 16 b), .bool true]) ∧ Below W.heap.size W w' := by
  intro i hi W
  have hV : Vd b := of_decide_eq_true h
  have hm : (snLR b).getD i 0 ∈ snLR b := by
    rw [List.getD_eq_getElem?_getD, List.getElem?_eq_getElem hi]
    exact List.getElem_mem hi
  rw [snLR_yes hV] at *
  obtain ⟨k, hk, hk8, ho⟩ := sn_of 8 hm
  rw [hk]
  have := implSbd_any b (k : Int) W
  have h2 := sbd_yes (f := b) (k := (k : Int)) ⟨hV, by omega, by omega⟩
  rw [h2.1, h2.2, Int.toNat_natCast] at this
  have e2 : mk 16 (ouF k (xsL b) 16) = mk 16 b := mk_congr fun p hp => ord_same hV hk8 ho p hp
  rw [e2] at this
  exact this
theorem path_facts {k : Int} (h : snO k = true) : ∃ n : Nat, n < 8 ∧ snR k = spF n := by
  have hk : 0 ≤ k ∧ k ≤ 7 := of_decide_eq_true h
  exact ⟨k.toNat, by omega, (sn_yes hk).2⟩
theorem neqP_self (f : Nat → Int) (w : World) : (binOp .neq 23 (.agg (mk 32 f)) (.agg (mk 32 f))).run Try.prog w = .ok (.bool false) w := by
  rw [run_neq_struct, eqP 9997, sameP_iff.2 fun _ _ => rfl]; rfl
theorem neqB_selfS (f : Nat → Int) (w : World) : (binOp .neq 35 (.agg (mk 16 f)) (.agg (mk 16 f))).run Try.prog w = .ok (.bool false) w := by
  rw [neqB, sameB_iff.2 fun _ _ => rfl]; rfl
theorem eqN18S (d : Nat) (f g : Nat → Int) (w : World) : (Op.equalIn (d + 2) 51 (.agg (mk 18 f)) (.agg (mk 18 g))).run Try.prog w = .ok ((List.range 18).all fun c => f c == g c) w := by
  cases hq : Try.prog.info? 3 with
  | none => have := size1; simp [hq] at this
  | some i =>
    rw [run_equalIn_array w (d + 1) (mk 18 f) (mk 18 g) Try.underlying51 hq, cells1]
    exact items_all _ _ _ _ _ _ (fun c => .int .i64 (f c)) (fun c => .int .i64 (g c)) (fun c => f c == g c) _ fun c hc => by
      have hc4 : c < 18 := List.mem_range.1 hc
      exact ⟨part_int Try.underlying3 f hc4 w, part_int Try.underlying3 g hc4 w, run_equalIn_int w d _ _ _ _ _ Try.underlying3⟩
theorem neqN_selfS (f : Nat → Int) (w : World) : (binOp .neq 51 (.agg (mk 18 f)) (.agg (mk 18 f))).run Try.prog w = .ok (.bool false) w := by
  rw [run_neq_struct, eqN18S 9998]
  have : ((List.range 18).all fun c => f c == f c) = true := List.all_eq_true.2 fun c _ => by simp
  rw [this]; rfl
end Go.Proofs.Ytmcmpedmgibmkab
