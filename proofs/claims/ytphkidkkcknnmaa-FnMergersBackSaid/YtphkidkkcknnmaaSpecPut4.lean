/-
  The contracts of the reference's l1Has, l4Less, l4Place and l4Put: a row of four put to its place among others.
-/
import Derived.Test.YtphkidkkcknnmaaRowsKit
import Derived.Test.YtphkidkkcknnmaaDistKit
import Derived.Test.YtphkidkkcknnmaaPlainA
import Derived.Deep.QuietTactic
import Derived.BigQuiet
namespace Go.Proofs.Ytphkidkkcknnmaa
open Go.RowKit Plain
attribute [local go_sem] store_new
attribute [local go_sem] Oper.semAt_some
set_option linter.unusedVariables false
set_option linter.unusedSimpArgs false

set_option maxHeartbeats 1000000 in
theorem l1Has_any (g cap : Nat) (xs : List Int) (x : Int) (w : World) (hc : CAt w g xs.length fun i => xs.getD i 0) (hn : xs.length ≤ 1048576) :
    Calls Try.prog 119 #[.slice (some ⟨g, 0, none⟩) xs.length cap, .int .i64 x] w fun e w' => e = .returned (.bool (decide (x ∈ xs))) ∧ w = w' := by
  have HC : Hid (∀ k y, xs[k]? = some y → w.cell? ⟨g, k, none⟩ = some (.int .i64 y)) := fun k y hk => by
    have := hc.2 k (List.getElem?_eq_some_iff.1 hk).1
    simpa [List.getD, hk] using this
  clear hc
  generalize hN : xs.length = n at *
  go_enter Try.func119, Try.ntmps119
  go_wp2
  go_loop [5] (fun i => ∃ k : Nat, k ≤ n ∧ i = .int .i64 k ∧ ∀ j y, j < k → xs[j]? = some y → y ≠ x) (fun i => n - (intOf i).toNat)
  case atStart => exact ⟨0, Nat.zero_le _, rfl, fun j y hj => by omega⟩
  case round =>
    obtain ⟨k, hk, rfl, hp⟩ := hrel
    have HP := Lib.hid hp
    clear hp
    by_cases hlt : k < n
    · have hk0 : (0 : Int) ≤ (k : Int) := by omega
      have hl : (k : Int) < (n : Int) := by omega
      obtain ⟨y, hy⟩ : ∃ y, xs[k]? = some y := ⟨xs[k]'(by omega), List.getElem?_eq_getElem _⟩
      have HY := Lib.hid hy
      have c1 := HC.out k y hy
      clear hy
      by_cases hq : y = x
      · have HD : Hid (decide (x ∈ xs) = true) := decide_eq_true (by rw [← hq]; exact List.mem_of_getElem? HY.out)
        have q1 : (y == x) = true := by simpa using hq
        clear hq
        go_wp2
        go_ret
        exact ⟨by rw [HD.out]; rfl, rfl⟩
      · have HQ := Lib.hid hq
        have q1 : (y == x) = false := by simpa using hq
        clear hq
        go_wp2
        go_round
        case rel => exact ⟨k + 1, by omega, by go_num, fun j z hj hz => by
          rcases (by omega : j < k ∨ j = k) with p | rfl
          · exact HP.out j z p hz
          · rw [HY.out] at hz; cases hz; exact HQ.out⟩
        case measure => simp [intOf]; omega
    · obtain rfl : k = n := by omega
      have HD : Hid (decide (x ∈ xs) = false) := decide_eq_false fun hm => by
        obtain ⟨j, hj⟩ := List.getElem?_of_mem hm
        exact HP.out j x (by have := (List.getElem?_eq_some_iff.1 hj).1; omega) hj rfl
      go_wp2
      go_ret
      exact ⟨by rw [HD.out]; rfl, rfl⟩

set_option maxHeartbeats 1000000 in
set_option maxRecDepth 20000 in
theorem l4Less_any (f g : Nat → Int) (w : World) :
    Calls Try.prog 160 #[.agg (mk 4 f), .agg (mk 4 g)] w fun e w' => e = .returned (.bool (decide (lessN 4 f g))) ∧ Below w.heap.size w w' := by
  have K1 := (Blk.new w 4 f 22).alloc (.cells (mk 4 g) 22)
  have K2 := Blk.new (w.alloc (.cells (mk 4 f) 22)) 4 g 22
  have HB := Lib.hid (((Below.refl w.heap.size w).alloc (Nat.le_refl _) (.cells (mk 4 f) 22)).alloc (by simp) (.cells (mk 4 g) 22))
  simp only [World.size_alloc] at K2
  go_enter Try.func160, Try.ntmps160
  go_wp2_with fail
  generalize (w.alloc (.cells (mk 4 f) 22)).alloc (.cells (mk 4 g) 22) = w1 at *
  go_loopg [5] 4 (fun n s5 wr => ∃ c : Nat, c + n = 4 ∧ s5 = .int .i64 c ∧ (∀ i, i < c → f i = g i) ∧ Blk wr w.heap.size 4 f 22 ∧ Blk wr (w.heap.size + 1) 4 g 22 ∧ Hid (Below w.heap.size w wr))
  case atStart => exact ⟨0, by omega, rfl, fun i hi => by omega, K1, K2, HB⟩
  case round =>
    obtain ⟨c, hch, rfl, he, k1, k2, hb⟩ := hrel
    have HE := Lib.hid he
    clear he
    cases gk with
    | zero =>
      have hc : ¬ ((c : Int) < 4) := by omega
      obtain rfl : c = 4 := by omega
      have HL : Hid (decide (lessN 4 f g) = false) := decide_eq_false (lessN_none HE.out)
      clear hch hc
      go_wp2_with fail
      go_ret
      exact ⟨by rw [HL.out]; rfl, hb.out⟩
    | succ m =>
      have hc : (c : Int) < 4 := by omega
      have hc0 : (0 : Int) ≤ (c : Int) := by omega
      have c1 := k1.cell (i := c) (by omega)
      have c2 := k2.cell (i := c) (by omega)
      by_cases hq : f c = g c
      · have HQ := Lib.hid hq
        rw [← hq] at c2
        clear hq
        generalize f c = x at c1 c2
        go_wp2_with fail
        go_quiet (fail)
        go_wp2_with fail
        go_roundg m
        case rel => exact ⟨c + 1, by omega, by go_num, fun i hi => by
          by_cases e : i = c
          · subst e; exact HQ.out
          · exact HE.out i (by omega), k1.drewN _, k2.drewN _, below_drewN hb.out _⟩
        case measure => omega
      · have HL : Hid (decide (lessN 4 f g) = decide (f c < g c)) := by
          show _ = _
          rw [Bool.eq_iff_iff, decide_eq_true_iff, decide_eq_true_iff]; exact lessN_at (by omega) HE.out hq
        have q1 : (f c != g c) = true := by simpa using hq
        clear hq
        go_wp2_with fail
        go_quiet (fail)
        go_wp2_with fail
        go_quiet (fail)
        go_wp2_with fail
        go_ret
        exact ⟨by rw [HL.out]; rfl, below_drewN (below_drewN hb.out _) _⟩

theorem lt_less4 {L : List (List Int)} (ha : AllL 4 L) {k : Nat} {l : List Int} (h : L[k]? = some l) (f : Nat → Int) : lt 4 l (cl 4 f) = decide (lessN 4 (fun j => flatF L (k * 4 + j)) f) := by
  unfold lt
  rw [Bool.eq_iff_iff, decide_eq_true_iff, decide_eq_true_iff]
  exact lessN_congr (fun i hi => (flatF_at ha h hi).symm) (fn_cl f)
theorem eq_same4 {L : List (List Int)} (ha : AllL 4 L) {k : Nat} {l : List Int} (h : L[k]? = some l) (f : Nat → Int) : l = cl 4 f ↔ sameR (fun j => flatF L (k * 4 + j)) f = true := by
  rw [sameR_iff, ← cl_fn (ha l (List.mem_of_getElem? h)), cl_inj]
  constructor
  · intro e i hi; rw [flatF_at ha h hi]; exact e i hi
  · intro e i hi; rw [← flatF_at ha h hi]; exact e i hi
set_option maxHeartbeats 4000000 in
set_option maxRecDepth 20000 in
theorem l4Place_any (g cap : Nat) (L : List (List Int)) (f : Nat → Int) (w : World) (ha : AllL 4 L) (hn : L.length ≤ 65536) (hcap : L.length ≤ cap) (hc : CAt w g (L.length * 4) (flatF L)) :
    Calls Try.prog 142 #[.slice (some ⟨g, 0, none⟩) L.length cap, .agg (mk 4 f)] w fun e w' => e = .returned (.int .i64 (plcL (lt 4) (cl 4 f) L : Nat)) ∧ Below w.heap.size w w' := by
  have K3 := Blk.new w 4 f 22
  have HB := Lib.hid ((Below.refl w.heap.size w).alloc (Nat.le_refl _) (.cells (mk 4 f) 22))
  have HC : CAt (w.alloc (.cells (mk 4 f) 22)) g (L.length * 4) (flatF L) := hc.below ((Below.refl _ w).alloc (Nat.le_refl _) _)
  have HLT := Lib.hid (fun k l (e : L[k]? = some l) => lt_less4 ha e f)
  have HGE := Lib.hid (fun k (hk : k < L.length) => (show ∃ l, L[k]? = some l from ⟨L[k], List.getElem?_eq_getElem hk⟩))
  have HPL := Lib.hid (plc_eq (lt 4) (cl 4 f) L)
  generalize hN : L.length = n at *
  generalize hH : flatF L = h at *
  clear hc
  go_enter Try.func142, Try.ntmps142
  go_wp2_with fail
  generalize w.alloc (.cells (mk 4 f) 22) = w1 at *
  go_loopw [5] (fun i wr => ∃ k : Nat, k ≤ n ∧ i = .int .i64 k ∧ (∀ j x, j < k → L[j]? = some x → lt 4 x (cl 4 f) = true) ∧ CAt wr g (n * 4) h ∧ Blk wr w.heap.size 4 f 22 ∧ Hid (Below w.heap.size w wr)) (fun i _ => n - (intOf i).toNat)
  case atStart => exact ⟨0, Nat.zero_le _, rfl, fun j x hj => by omega, HC, K3, HB⟩
  case round =>
    obtain ⟨k, hk, rfl, hp, k1, k3, hb⟩ := hrel
    have HP := Lib.hid hp
    clear hp HC K3 HB
    by_cases hlt : k < n
    · have hk0 : (0 : Int) ≤ (k : Int) := by omega
      have hl : (k : Int) < (n : Int) := by omega
      obtain ⟨l, hkl⟩ := HGE.out k hlt
      have HKL := Lib.hid hkl
      have HL := Lib.hid (HLT.out k l hkl)
      clear hkl
      go_wp2_with fail
      have k1 : CAt wr.drew g (n * 4) h := k1.drew
      have k3 : Blk wr.drew w.heap.size 4 f 22 := k3.drew
      have hb : Hid (Below w.heap.size w wr.drew) := hb.out.drew
      refine wp_region_held_drew (S := fun W => CAt W g (n * 4) h ∧ Blk W w.heap.size 4 f 22) (by kernel_rfl) (⟨k1, k3⟩) (fun hHeld => ?_)
      generalize wr.drew = x0 at *
      refine wpAnyH_take (i := 0) (oi := { dst := some 6, op := _, type := _, pos := _, after := _, guard := _ }) (v := .int .i64 (k : Int)) rfl (by kernel_rfl) (by kernel_rfl) (by kernel_rfl) (fun _ _ _ h => h) (Or.inl ⟨by rfl, by intro w hSw; clear hSw; go_simp; (try with_reducible rfl)⟩) (by assumption) ?_
      try simp only [Act.put, List.setIfInBounds_toArray, List.set_cons_zero, List.set_cons_succ]
      refine wpAnyH_take (i := 1) (oi := { dst := some 7, op := _, type := _, pos := _, after := _, guard := _ }) (v := .slice (some ⟨g, 0, none⟩) n cap) rfl (by kernel_rfl) (by kernel_rfl) (by kernel_rfl) (fun _ _ _ h => h) (Or.inl ⟨by rfl, by intro w hSw; clear hSw; go_simp; (try with_reducible rfl)⟩) (by assumption) ?_
      try simp only [Act.put, List.setIfInBounds_toArray, List.set_cons_zero, List.set_cons_succ]
      refine wpAnyH_take (i := 2) (oi := { dst := some 8, op := _, type := _, pos := _, after := _, guard := _ }) (v := .int .i64 (n : Int)) rfl (by kernel_rfl) (by kernel_rfl) (by kernel_rfl) (fun _ _ _ h => h) (Or.inl ⟨by rfl, by intro w hSw; clear hSw; go_simp; (try with_reducible rfl)⟩) (by assumption) ?_
      try simp only [Act.put, List.setIfInBounds_toArray, List.set_cons_zero, List.set_cons_succ]
      refine wpAnyH_take (i := 3) (oi := { dst := some 9, op := _, type := _, pos := _, after := _, guard := _ }) (v := .bool true) rfl (by kernel_rfl) (by kernel_rfl) (by kernel_rfl) (fun _ _ _ h => h) (Or.inl ⟨by rfl, by intro w hSw; clear hSw; go_simp; (try with_reducible rfl)⟩) (by assumption) ?_
      try simp only [Act.put, List.setIfInBounds_toArray, List.set_cons_zero, List.set_cons_succ]
      refine wpAnyH_take (i := 4) (oi := { dst := some 10, op := _, type := _, pos := _, after := _, guard := _ }) (v := .bool true) rfl (by kernel_rfl) (by kernel_rfl) (by kernel_rfl) (fun _ _ _ h => h) (Or.inl ⟨by rfl, by intro w hSw; clear hSw; go_simp; (try with_reducible rfl)⟩) (by assumption) ?_
      try simp only [Act.put, List.setIfInBounds_toArray, List.set_cons_zero, List.set_cons_succ]
      refine wpAnyH_take (i := 5) (oi := { dst := some 11, op := _, type := _, pos := _, after := _, guard := _ }) (v := .slice (some ⟨g, 0, none⟩) n cap) rfl (by kernel_rfl) (by kernel_rfl) (by kernel_rfl) (fun _ _ _ h => h) (Or.inl ⟨by rfl, by intro w hSw; clear hSw; go_simp; (try with_reducible rfl)⟩) (by assumption) ?_
      try simp only [Act.put, List.setIfInBounds_toArray, List.set_cons_zero, List.set_cons_succ]
      refine wpAnyH_take (i := 6) (oi := { dst := some 12, op := _, type := _, pos := _, after := _, guard := _ }) (v := .int .i64 (k : Int)) rfl (by kernel_rfl) (by kernel_rfl) (by kernel_rfl) (fun _ _ _ h => h) (Or.inl ⟨by rfl, by intro w hSw; clear hSw; go_simp; (try with_reducible rfl)⟩) (by assumption) ?_
      try simp only [Act.put, List.setIfInBounds_toArray, List.set_cons_zero, List.set_cons_succ]
      refine wpAnyH_take (i := 7) (oi := { dst := some 13, op := _, type := _, pos := _, after := _, guard := _ }) (v := .pointer (some ⟨g, k * 4, none⟩)) rfl (by kernel_rfl) (by kernel_rfl) (by kernel_rfl) (fun _ _ _ h => h) (Or.inl ⟨by rfl, by intro w hSw; clear hSw; go_simp; (try with_reducible rfl)⟩) (by assumption) ?_
      try simp only [Act.put, List.setIfInBounds_toArray, List.set_cons_zero, List.set_cons_succ]
      refine wpAnyH_take (i := 8) (oi := { dst := some 14, op := _, type := _, pos := _, after := _, guard := _ }) (v := .agg (mk 4 fun j => h (k * 4 + j))) rfl (by kernel_rfl) (by kernel_rfl) (by kernel_rfl) (fun _ _ _ h => h) (Or.inl ⟨by rfl, fun _ q => execAR q.1 (by omega) rfl rfl⟩) (by assumption) ?_
      try simp only [Act.put, List.setIfInBounds_toArray, List.set_cons_zero, List.set_cons_succ]
      refine wpAnyH_take (i := 9) (oi := { dst := some 15, op := _, type := _, pos := _, after := _, guard := _ }) (v := .agg (mk 4 f)) rfl (by kernel_rfl) (by kernel_rfl) (by kernel_rfl) (fun _ _ _ h => h) (Or.inl ⟨by rfl, fun _ q => exec_load_blk _ _ rfl rfl q.2 Try.underlying22 rfl sizeR⟩) (by assumption) ?_
      try simp only [Act.put, List.setIfInBounds_toArray, List.set_cons_zero, List.set_cons_succ]
      refine wpAnyH_ready (rs := [10]) (by kernel_rfl) (by simp) ?_
      refine AllReadyH.cons rfl (fun K hK => ?_) AllReadyH.nil
      go_simp
      refine (l4Less_any _ _ _).mono ?_
      rintro e x1 ⟨rfl, hb6⟩
      have k1 := k1.below hb6
      have k3 := k3.below hb6 k3.lt
      have hb : Hid (Below w.heap.size w x1) := hb.out.trans (hb6.mono hb.out.size)
      clear hb6 hHeld
      go_wp2_with fail
      refine hK.out _ _ ⟨k1, k3⟩ (fun hHeld => ?_)
      clear hK K
      try simp only [Act.put, List.setIfInBounds_toArray, List.set_cons_zero, List.set_cons_succ]
      refine wpAnyH_take (i := 11) (oi := { dst := some 17, op := _, type := _, pos := _, after := _, guard := _ }) (v := .bool (decide (lessN 4 (fun j => h (k * 4 + j)) f))) rfl (by kernel_rfl) (by kernel_rfl) (by kernel_rfl) (fun _ _ _ h => h) (Or.inl ⟨by rfl, by intro w hSw; clear hSw; go_simp; (try with_reducible rfl)⟩) (by assumption) ?_
      try simp only [Act.put, List.setIfInBounds_toArray, List.set_cons_zero, List.set_cons_succ]
      refine wpAnyH_done (by kernel_rfl) ?_ _
      clear hHeld
      generalize hq : decide (lessN 4 (fun j => h (k * 4 + j)) f) = q at *
      have HQ := Lib.hid hq
      clear hq
      cases q with
      | true =>
        have HL2 : Hid (lt 4 l (cl 4 f) = true) := HL.out
        go_wp2_with fail
        go_roundw
        case rel => exact ⟨k + 1, by omega, by go_num, fun j x hj hx => by
          rcases (by omega : j < k ∨ j = k) with r | rfl
          · exact HP.out j x r hx
          · rw [HKL.out] at hx; cases hx; exact HL2.out, k1, k3, hb⟩
        case measure => simp [intOf]; omega
      | false =>
        have HL2 : Hid (lt 4 l (cl 4 f) = false) := HL.out
        have HK : Hid (plcL (lt 4) (cl 4 f) L = k) := HPL.out k (by omega) (fun j x hj hx => HP.out j x hj hx) (fun x hx => by rw [HKL.out] at hx; cases hx; exact HL2.out)
        go_wp2_with fail
        go_ret
        exact ⟨by rw [HK.out]; rfl, hb.out⟩
    · have hkn : k ≤ n := hk
      have hlt2 : ¬ ((k : Int) < (n : Int)) := by omega
      have HK : Hid (plcL (lt 4) (cl 4 f) L = k) := HPL.out k (by omega) (fun j x hj hx => HP.out j x hj hx) (fun x hx => by
        have := (List.getElem?_eq_some_iff.1 hx).1; omega)
      go_wp2_with fail
      have k1 : CAt wr.drew g (n * 4) h := k1.drew
      have k3 : Blk wr.drew w.heap.size 4 f 22 := k3.drew
      have hb : Hid (Below w.heap.size w wr.drew) := hb.out.drew
      refine wp_region_held_drew (S := fun W => CAt W g (n * 4) h ∧ Blk W w.heap.size 4 f 22) (by kernel_rfl) (⟨k1, k3⟩) (fun hHeld => ?_)
      generalize wr.drew = x0 at *
      refine wpAnyH_take (i := 0) (oi := { dst := some 6, op := _, type := _, pos := _, after := _, guard := _ }) (v := .int .i64 (k : Int)) rfl (by kernel_rfl) (by kernel_rfl) (by kernel_rfl) (fun _ _ _ h => h) (Or.inl ⟨by rfl, by intro w hSw; clear hSw; go_simp; (try with_reducible rfl)⟩) (by assumption) ?_
      try simp only [Act.put, List.setIfInBounds_toArray, List.set_cons_zero, List.set_cons_succ]
      refine wpAnyH_take (i := 1) (oi := { dst := some 7, op := _, type := _, pos := _, after := _, guard := _ }) (v := .slice (some ⟨g, 0, none⟩) n cap) rfl (by kernel_rfl) (by kernel_rfl) (by kernel_rfl) (fun _ _ _ h => h) (Or.inl ⟨by rfl, by intro w hSw; clear hSw; go_simp; (try with_reducible rfl)⟩) (by assumption) ?_
      try simp only [Act.put, List.setIfInBounds_toArray, List.set_cons_zero, List.set_cons_succ]
      refine wpAnyH_take (i := 2) (oi := { dst := some 8, op := _, type := _, pos := _, after := _, guard := _ }) (v := .int .i64 (n : Int)) rfl (by kernel_rfl) (by kernel_rfl) (by kernel_rfl) (fun _ _ _ h => h) (Or.inl ⟨by rfl, by intro w hSw; clear hSw; go_simp; (try with_reducible rfl)⟩) (by assumption) ?_
      try simp only [Act.put, List.setIfInBounds_toArray, List.set_cons_zero, List.set_cons_succ]
      refine wpAnyH_take (i := 3) (oi := { dst := some 9, op := _, type := _, pos := _, after := _, guard := _ }) (v := .bool false) rfl (by kernel_rfl) (by kernel_rfl) (by kernel_rfl) (fun _ _ _ h => h) (Or.inl ⟨by rfl, by intro w hSw; clear hSw; go_simp; (try with_reducible rfl)⟩) (by assumption) ?_
      try simp only [Act.put, List.setIfInBounds_toArray, List.set_cons_zero, List.set_cons_succ]
      refine wpAnyH_take (i := 4) (oi := { dst := some 10, op := _, type := _, pos := _, after := _, guard := _ }) (v := .bool false) rfl (by kernel_rfl) (by kernel_rfl) (by kernel_rfl) (fun _ _ _ h => h) (Or.inl ⟨by rfl, by intro w hSw; clear hSw; go_simp; (try with_reducible rfl)⟩) (by assumption) ?_
      try simp only [Act.put, List.setIfInBounds_toArray, List.set_cons_zero, List.set_cons_succ]
      refine wpAnyH_take (i := 5) (oi := { dst := some 11, op := _, type := _, pos := _, after := _, guard := _ }) (v := undef) rfl (by kernel_rfl) (by kernel_rfl) (by kernel_rfl) (fun _ _ _ h => h) (Or.inr ⟨by rfl, rfl⟩) (by assumption) ?_
      try simp only [Act.put, List.setIfInBounds_toArray, List.set_cons_zero, List.set_cons_succ]
      refine wpAnyH_take (i := 6) (oi := { dst := some 12, op := _, type := _, pos := _, after := _, guard := _ }) (v := undef) rfl (by kernel_rfl) (by kernel_rfl) (by kernel_rfl) (fun _ _ _ h => h) (Or.inr ⟨by rfl, rfl⟩) (by assumption) ?_
      try simp only [Act.put, List.setIfInBounds_toArray, List.set_cons_zero, List.set_cons_succ]
      refine wpAnyH_take (i := 7) (oi := { dst := some 13, op := _, type := _, pos := _, after := _, guard := _ }) (v := undef) rfl (by kernel_rfl) (by kernel_rfl) (by kernel_rfl) (fun _ _ _ h => h) (Or.inr ⟨by rfl, rfl⟩) (by assumption) ?_
      try simp only [Act.put, List.setIfInBounds_toArray, List.set_cons_zero, List.set_cons_succ]
      refine wpAnyH_take (i := 8) (oi := { dst := some 14, op := _, type := _, pos := _, after := _, guard := _ }) (v := undef) rfl (by kernel_rfl) (by kernel_rfl) (by kernel_rfl) (fun _ _ _ h => h) (Or.inr ⟨by rfl, rfl⟩) (by assumption) ?_
      try simp only [Act.put, List.setIfInBounds_toArray, List.set_cons_zero, List.set_cons_succ]
      refine wpAnyH_take (i := 9) (oi := { dst := some 15, op := _, type := _, pos := _, after := _, guard := _ }) (v := undef) rfl (by kernel_rfl) (by kernel_rfl) (by kernel_rfl) (fun _ _ _ h => h) (Or.inr ⟨by rfl, rfl⟩) (by assumption) ?_
      try simp only [Act.put, List.setIfInBounds_toArray, List.set_cons_zero, List.set_cons_succ]
      refine wpAnyH_take (i := 10) (oi := { dst := some 16, op := _, type := _, pos := _, after := _, guard := _ }) (v := undef) rfl (by kernel_rfl) (by kernel_rfl) (by kernel_rfl) (fun _ _ _ h => h) (Or.inr ⟨by rfl, rfl⟩) (by assumption) ?_
      try simp only [Act.put, List.setIfInBounds_toArray, List.set_cons_zero, List.set_cons_succ]
      refine wpAnyH_take (i := 11) (oi := { dst := some 17, op := _, type := _, pos := _, after := _, guard := _ }) (v := .bool false) rfl (by kernel_rfl) (by kernel_rfl) (by kernel_rfl) (fun _ _ _ h => h) (Or.inl ⟨by rfl, by intro w hSw; clear hSw; go_simp; (try with_reducible rfl)⟩) (by assumption) ?_
      try simp only [Act.put, List.setIfInBounds_toArray, List.set_cons_zero, List.set_cons_succ]
      refine wpAnyH_done (by kernel_rfl) ?_ _
      clear hHeld
      go_wp2_with fail
      go_ret
      exact ⟨by rw [HK.out]; rfl, hb.out⟩

set_option maxHeartbeats 8000000 in
set_option maxRecDepth 20000 in
theorem l4Put_any (g cap base : Nat) (L : List (List Int)) (f : Nat → Int) (w : World) (ha : AllL 4 L) (hn : L.length ≤ 65536) (ho : OwnsL 22 4 w base (.slice (some ⟨g, 0, none⟩) L.length cap) L) :
    Calls Try.prog 122 #[.slice (some ⟨g, 0, none⟩) L.length cap, .agg (mk 4 f)] w fun e w' => ∃ g' cap', e = .returned (.slice (some ⟨g', 0, none⟩) (insL (lt 4) L (cl 4 f)).length cap') ∧
      OwnsL 22 4 w' base (.slice (some ⟨g', 0, none⟩) (insL (lt 4) L (cl 4 f)).length cap') (insL (lt 4) L (cl 4 f)) ∧ Below w.heap.size w w' := by
  obtain ⟨i0, hi, hz0, hz1, hz2⟩ := info_parts infoR
  have HO := Lib.hid ho
  obtain ⟨_, _, e1, hcap, hc⟩ := KRow.of_list ha ho
  cases e1
  have K3 := Blk.new w 4 f 22
  have HB := Lib.hid ((Below.refl w.heap.size w).alloc (Nat.le_refl _) (.cells (mk 4 f) 22))
  have HC : CAt (w.alloc (.cells (mk 4 f) 22)) g (L.length * 4) (flatF L) := hc.below ((Below.refl _ w).alloc (Nat.le_refl _) _)
  have hgw : g < w.heap.size := hc.1
  have HEQ := Lib.hid (fun k l (e : L[k]? = some l) => eq_same4 ha e f)
  have HGE := Lib.hid (fun k (hk : k < L.length) => (show ∃ l, L[k]? = some l from ⟨L[k], List.getElem?_eq_getElem hk⟩))
  have hpl := plc_le (lt 4) (cl 4 f) L
  have hcon := l4Place_any g cap L f (w.alloc (.cells (mk 4 f) 22)) ha hn hcap HC
  generalize hN : L.length = n at *
  generalize hH : flatF L = h at *
  clear hc ho
  go_enter Try.func122, Try.ntmps122
  go_wp2_with ((with_reducible show wpList _ _ _ (Oper.mk _ (Op.load 22 _) _ _ _ _ :: _) _ _); refine loadR (K3) rfl rfl rfl ?_)
  refine hcon.mono ?_
  rintro e wr ⟨rfl, hb⟩
  have k1 := HC.below hb
  have k3 := K3.below hb K3.lt
  have hb : Hid (Below w.heap.size w wr) := HB.out.trans (hb.mono HB.out.size)
  clear hcon HC K3 HB
  generalize hK : plcL (lt 4) (cl 4 f) L = k at *
  have HK := Lib.hid hK
  clear hK
  have hkn : k ≤ n := hpl
  by_cases hlt : k < n
  · have hk0 : (0 : Int) ≤ (k : Int) := by omega
    have hl : (k : Int) < (n : Int) := by omega
    obtain ⟨l, hkl⟩ := HGE.out k hlt
    have HKL := Lib.hid hkl
    have HE := Lib.hid (HEQ.out k l hkl)
    clear hkl
    have iE : ∀ (w : World), (Op.equalIn 10000 22 (.agg (mk 4 fun j => h (k * 4 + j))) (.agg (mk 4 f))).run Try.prog w = .ok (sameR (fun j => h (k * 4 + j)) f) w := fun w => eqR 9998 _ _ w
    generalize hr : sameR (fun j => h (k * 4 + j)) f = r at *
    have HR := Lib.hid hr
    clear hr
    go_wp2_with fail
    have k1 : CAt wr.drew g (n * 4) h := k1.drew
    have k3 : Blk wr.drew w.heap.size 4 f 22 := k3.drew
    have hb : Hid (Below w.heap.size w wr.drew) := hb.out.drew
    refine wp_region_held_drew (S := fun W => CAt W g (n * 4) h ∧ Blk W w.heap.size 4 f 22) (by kernel_rfl) (⟨k1, k3⟩) (fun hHeld => ?_)
    generalize wr.drew = x0 at *
    refine wpAnyH_take (i := 0) (oi := { dst := some 9, op := _, type := _, pos := _, after := _, guard := _ }) (v := .int .i64 (k : Int)) rfl (by kernel_rfl) (by kernel_rfl) (by kernel_rfl) (fun _ _ _ h => h) (Or.inl ⟨by rfl, by intro w hSw; clear hSw; go_simp; (try with_reducible rfl)⟩) (by assumption) ?_
    try simp only [Act.put, List.setIfInBounds_toArray, List.set_cons_zero, List.set_cons_succ]
    refine wpAnyH_take (i := 1) (oi := { dst := some 10, op := _, type := _, pos := _, after := _, guard := _ }) (v := .slice (some ⟨g, 0, none⟩) n cap) rfl (by kernel_rfl) (by kernel_rfl) (by kernel_rfl) (fun _ _ _ h => h) (Or.inl ⟨by rfl, by intro w hSw; clear hSw; go_simp; (try with_reducible rfl)⟩) (by assumption) ?_
    try simp only [Act.put, List.setIfInBounds_toArray, List.set_cons_zero, List.set_cons_succ]
    refine wpAnyH_take (i := 2) (oi := { dst := some 11, op := _, type := _, pos := _, after := _, guard := _ }) (v := .int .i64 (n : Int)) rfl (by kernel_rfl) (by kernel_rfl) (by kernel_rfl) (fun _ _ _ h => h) (Or.inl ⟨by rfl, by intro w hSw; clear hSw; go_simp; (try with_reducible rfl)⟩) (by assumption) ?_
    try simp only [Act.put, List.setIfInBounds_toArray, List.set_cons_zero, List.set_cons_succ]
    refine wpAnyH_take (i := 3) (oi := { dst := some 12, op := _, type := _, pos := _, after := _, guard := _ }) (v := .bool true) rfl (by kernel_rfl) (by kernel_rfl) (by kernel_rfl) (fun _ _ _ h => h) (Or.inl ⟨by rfl, by intro w hSw; clear hSw; go_simp; (try with_reducible rfl)⟩) (by assumption) ?_
    try simp only [Act.put, List.setIfInBounds_toArray, List.set_cons_zero, List.set_cons_succ]
    refine wpAnyH_take (i := 4) (oi := { dst := some 13, op := _, type := _, pos := _, after := _, guard := _ }) (v := .bool true) rfl (by kernel_rfl) (by kernel_rfl) (by kernel_rfl) (fun _ _ _ h => h) (Or.inl ⟨by rfl, by intro w hSw; clear hSw; go_simp; (try with_reducible rfl)⟩) (by assumption) ?_
    try simp only [Act.put, List.setIfInBounds_toArray, List.set_cons_zero, List.set_cons_succ]
    refine wpAnyH_take (i := 5) (oi := { dst := some 14, op := _, type := _, pos := _, after := _, guard := _ }) (v := .slice (some ⟨g, 0, none⟩) n cap) rfl (by kernel_rfl) (by kernel_rfl) (by kernel_rfl) (fun _ _ _ h => h) (Or.inl ⟨by rfl, by intro w hSw; clear hSw; go_simp; (try with_reducible rfl)⟩) (by assumption) ?_
    try simp only [Act.put, List.setIfInBounds_toArray, List.set_cons_zero, List.set_cons_succ]
    refine wpAnyH_take (i := 6) (oi := { dst := some 15, op := _, type := _, pos := _, after := _, guard := _ }) (v := .int .i64 (k : Int)) rfl (by kernel_rfl) (by kernel_rfl) (by kernel_rfl) (fun _ _ _ h => h) (Or.inl ⟨by rfl, by intro w hSw; clear hSw; go_simp; (try with_reducible rfl)⟩) (by assumption) ?_
    try simp only [Act.put, List.setIfInBounds_toArray, List.set_cons_zero, List.set_cons_succ]
    refine wpAnyH_take (i := 7) (oi := { dst := some 16, op := _, type := _, pos := _, after := _, guard := _ }) (v := .pointer (some ⟨g, k * 4, none⟩)) rfl (by kernel_rfl) (by kernel_rfl) (by kernel_rfl) (fun _ _ _ h => h) (Or.inl ⟨by rfl, by intro w hSw; clear hSw; go_simp; (try with_reducible rfl)⟩) (by assumption) ?_
    try simp only [Act.put, List.setIfInBounds_toArray, List.set_cons_zero, List.set_cons_succ]
    refine wpAnyH_take (i := 8) (oi := { dst := some 17, op := _, type := _, pos := _, after := _, guard := _ }) (v := .agg (mk 4 fun j => h (k * 4 + j))) rfl (by kernel_rfl) (by kernel_rfl) (by kernel_rfl) (fun _ _ _ h => h) (Or.inl ⟨by rfl, fun _ q => execAR q.1 (by omega) rfl rfl⟩) (by assumption) ?_
    try simp only [Act.put, List.setIfInBounds_toArray, List.set_cons_zero, List.set_cons_succ]
    refine wpAnyH_take (i := 9) (oi := { dst := some 18, op := _, type := _, pos := _, after := _, guard := _ }) (v := .agg (mk 4 f)) rfl (by kernel_rfl) (by kernel_rfl) (by kernel_rfl) (fun _ _ _ h => h) (Or.inl ⟨by rfl, fun _ q => exec_load_blk _ _ rfl rfl q.2 Try.underlying22 rfl sizeR⟩) (by assumption) ?_
    try simp only [Act.put, List.setIfInBounds_toArray, List.set_cons_zero, List.set_cons_succ]
    refine wpAnyH_take (i := 10) (oi := { dst := some 19, op := _, type := _, pos := _, after := _, guard := _ }) (v := .bool r) rfl (by kernel_rfl) (by kernel_rfl) (by kernel_rfl) (fun _ _ _ h => h) (Or.inl ⟨by rfl, by intro W hSw; clear hSw; have iE2 := iE W; go_simp⟩) (by assumption) ?_
    try simp only [Act.put, List.setIfInBounds_toArray, List.set_cons_zero, List.set_cons_succ]
    refine wpAnyH_take (i := 11) (oi := { dst := some 20, op := _, type := _, pos := _, after := _, guard := _ }) (v := .bool r) rfl (by kernel_rfl) (by kernel_rfl) (by kernel_rfl) (fun _ _ _ h => h) (Or.inl ⟨by rfl, by intro w hSw; clear hSw; go_simp; (try with_reducible rfl)⟩) (by assumption) ?_
    try simp only [Act.put, List.setIfInBounds_toArray, List.set_cons_zero, List.set_cons_succ]
    refine wpAnyH_done (by kernel_rfl) ?_ _
    clear hHeld iE
    cases r with
    | true =>
      have HI : Hid (insL (lt 4) L (cl 4 f) = L) := ins_same _ (by rw [HK.out, HKL.out, (HE.out).2 rfl])
      go_wp2_with fail
      go_ret
      rw [HI.out, hN]
      exact ⟨g, cap, rfl, owns_below HO.out hb.out, hb.out⟩
    | false =>
      have HI : Hid (insL (lt 4) L (cl 4 f) = L.take k ++ cl 4 f :: L.drop k) := by
        have := ins_new (lt 4) (L := L) (b := cl 4 f) (by rw [HK.out, HKL.out]; intro e; cases e; have := (HE.out).1 rfl; cases this)
        rw [HK.out] at this
        exact this
      go_wp2_with fail
      have hkc : ¬ (cap < k) := by omega
      have hnk : ¬ ((n : Int) < (k : Int)) := by omega
      obtain ⟨o, HO1, HO2⟩ : ∃ o, Hid (cap = k → o = 0) ∧ Hid (cap ≠ k → o = k * 4) := by
        by_cases hcc : cap = k
        · exact ⟨0, fun _ => rfl, fun q => absurd hcc q⟩
        · exact ⟨k * 4, fun q => absurd q hcc, fun _ => rfl⟩
      have HF : Hid ([] ++ (mk (k * 4) fun j => h (0 + j)).toList ++ (mk (1 * 4) fun j => f (0 + j)).toList ++ (mk ((n - k) * 4) fun j => h (o + j)).toList = (L.take k ++ cl 4 f :: L.drop k).flatten.map (Value.int .i64)) := by
        show _ = _
        have := add_flat ha f (k := k) (o := o) (by omega) (by
          by_cases hcc : cap = k
          · exact Or.inl (by omega)
          · exact Or.inr (HO2.out hcc))
        rw [hN, hH] at this
        exact this.symm
      have ho16 : o + (n - k) * 4 ≤ n * 4 := by
        by_cases hcc : cap = k
        · have := HO1.out hcc; omega
        · have := HO2.out hcc; omega
      have A1 := k1
      have A3 := k3
      have HW := hb
      clear k1 k3 hb
      have ghi : base ≤ w.heap.size := by have := (HO.out.lt g rfl).1; omega
      have A1 : CAt x0.drew g (n * 4) h := A1.drew
      have A3 : Blk x0.drew w.heap.size 4 f 22 := A3.drew
      have HW : Hid (Below w.heap.size w x0.drew) := HW.out.drew
      refine wp_region_held_drew (S := fun W => CAt W g (n * 4) h ∧ Blk W w.heap.size 4 f 22) (by kernel_rfl) (⟨A1, A3⟩) (fun hHeld => ?_)
      generalize x0.drew = x0 at *
      refine wpAnyH_take (i := 1) (oi := { dst := some 23, op := _, type := _, pos := _, after := _, guard := _ }) (v := .slice (some ⟨g, 0, none⟩) n cap) rfl (by kernel_rfl) (by kernel_rfl) (by kernel_rfl) (fun _ _ _ h => h) (Or.inl ⟨by rfl, by intro w hSw; clear hSw; go_simp; (try with_reducible rfl)⟩) (by assumption) ?_
      try simp only [Act.put, List.setIfInBounds_toArray, List.set_cons_zero, List.set_cons_succ]
      refine wpAnyH_take (i := 2) (oi := { dst := some 24, op := _, type := _, pos := _, after := _, guard := _ }) (v := .int .i64 (k : Int)) rfl (by kernel_rfl) (by kernel_rfl) (by kernel_rfl) (fun _ _ _ h => h) (Or.inl ⟨by rfl, by intro w hSw; clear hSw; go_simp; (try with_reducible rfl)⟩) (by assumption) ?_
      try simp only [Act.put, List.setIfInBounds_toArray, List.set_cons_zero, List.set_cons_succ]
      refine wpAnyH_take (i := 3) (oi := { dst := some 25, op := _, type := _, pos := _, after := _, guard := _ }) (v := .slice (some ⟨g, 0, none⟩) k cap) rfl (by kernel_rfl) (by kernel_rfl) (by kernel_rfl) (fun _ _ _ h => h) (Or.inl ⟨by rfl, by intro w hSw; clear hSw; go_simp; (try with_reducible rfl)⟩) (by assumption) ?_
      try simp only [Act.put, List.setIfInBounds_toArray, List.set_cons_zero, List.set_cons_succ]
      refine wpAnyH_take (i := 5) (oi := { dst := some 27, op := _, type := _, pos := _, after := _, guard := _ }) (v := .agg (mk 4 f)) rfl (by kernel_rfl) (by kernel_rfl) (by kernel_rfl) (fun _ _ _ h => h) (Or.inl ⟨by rfl, fun _ q => exec_load_blk _ _ rfl rfl q.2 Try.underlying22 rfl sizeR⟩) (by assumption) ?_
      try simp only [Act.put, List.setIfInBounds_toArray, List.set_cons_zero, List.set_cons_succ]
      refine wpAnyH_take (i := 8) (oi := { dst := some 30, op := _, type := _, pos := _, after := _, guard := _ }) (v := .slice (some ⟨g, 0, none⟩) n cap) rfl (by kernel_rfl) (by kernel_rfl) (by kernel_rfl) (fun _ _ _ h => h) (Or.inl ⟨by rfl, by intro w hSw; clear hSw; go_simp; (try with_reducible rfl)⟩) (by assumption) ?_
      try simp only [Act.put, List.setIfInBounds_toArray, List.set_cons_zero, List.set_cons_succ]
      refine wpAnyH_take (i := 9) (oi := { dst := some 31, op := _, type := _, pos := _, after := _, guard := _ }) (v := .int .i64 (k : Int)) rfl (by kernel_rfl) (by kernel_rfl) (by kernel_rfl) (fun _ _ _ h => h) (Or.inl ⟨by rfl, by intro w hSw; clear hSw; go_simp; (try with_reducible rfl)⟩) (by assumption) ?_
      try simp only [Act.put, List.setIfInBounds_toArray, List.set_cons_zero, List.set_cons_succ]
      refine wpAnyH_take (i := 10) (oi := { dst := some 32, op := _, type := _, pos := _, after := _, guard := _ }) (v := .slice (some ⟨g, o, none⟩) (n - k) (cap - k)) rfl (by kernel_rfl) (by kernel_rfl) (by kernel_rfl) (fun _ _ _ h => h) (Or.inl ⟨by rfl, by
            intro W hSw
            clear hSw
            by_cases hcc : cap = k
            · have hoo := HO1.out hcc
              subst hoo
              go_simp
            · have hoo := HO2.out hcc
              subst hoo
              go_simp⟩) (by assumption) ?_
      try simp only [Act.put, List.setIfInBounds_toArray, List.set_cons_zero, List.set_cons_succ]
      clear HO1 HO2 hHeld
      refine wpAnyH_ready (rs := [0, 6]) (by kernel_rfl) (by simp) ?_
      refine AllReadyH.cons rfl (fun K hK => ?_) ?_
      · rw [if_pos (by rfl)]
        refine wp_build0 68 22 rfl Try.underlying68 hi hz0 ?_
        have R0 : (x0.alloc (.cells #[] 22)).ownsRow (w.heap.size + 1) 22 4 (.slice (some ⟨x0.heap.size, 0, none⟩) 0 0) 0 [] := World.ownsRow_made (base := w.heap.size + 1) (e := 22) (size := 4) x0 #[] 0 A3.lt (by decide) rfl
        have A1 : CAt (x0.alloc (.cells #[] 22)) g (n * 4) h := A1.alloc _
        have A3 : Blk (x0.alloc (.cells #[] 22)) w.heap.size 4 f 22 := A3.alloc _
        have HW : Hid (Below w.heap.size w (x0.alloc (.cells #[] 22))) := HW.out.alloc HW.out.size _
        have HSx1 : (x0.alloc (.cells #[] 22)).heap.size = x0.heap.size + 1 := by simp
        generalize (x0.alloc (.cells #[] 22)) = x1 at *
        refine hK.out _ _ ⟨A1, A3⟩ (fun hHeld => ?_)
        clear hK K hHeld
        try simp only [Act.put, List.setIfInBounds_toArray, List.set_cons_zero, List.set_cons_succ]
        refine wpAnyH_ready (rs := [4, 6]) (by kernel_rfl) (by simp) ?_
        refine AllReadyH.cons rfl (fun K hK => ?_) ?_
        · rw [if_pos (by rfl)]
          refine wp_app (v := .slice (some ⟨x0.heap.size, 0, none⟩) 0 0) _ _ 68 rfl (w.heap.size + 1) 22 i0 _ 4 32 Try.underlying68 hi hz0 hz1 hz2 rfl (by decide) rfl R0 g 0 k cap h (n * 4) rfl A1 (by omega) (by unfold maxLen; omega) (by omega) (by have := A3.lt; omega) ?_
          intro v1 y4 R1 hbl hgr
          have A1 := A1.low hbl (by omega)
          have A3 := A3.below hbl (by omega)
          have HW : Hid (Below w.heap.size w y4) := HW.out.trans (hbl.mono (by omega))
          clear hbl hgr R0
          refine hK.out _ _ ⟨A1, A3⟩ (fun hHeld => ?_)
          clear hK K hHeld
          try simp only [Act.put, List.setIfInBounds_toArray, List.set_cons_zero, List.set_cons_succ]
          refine wpAnyH_ready (rs := [6]) (by kernel_rfl) (by simp) ?_
          refine AllReadyH.cons rfl (fun K hK => ?_) AllReadyH.nil
          rw [if_pos (by rfl)]
          refine wp_buildR _ rfl (f := f) rfl ?_
          have B6 : Blk (y4.alloc (.cells (mk 4 f) 22)) y4.heap.size 4 f 22 := Blk.new _ _ _ _
          have A1 : CAt (y4.alloc (.cells (mk 4 f) 22)) g (n * 4) h := A1.alloc _
          have A3 : Blk (y4.alloc (.cells (mk 4 f) 22)) w.heap.size 4 f 22 := A3.alloc _
          have HW : Hid (Below w.heap.size w (y4.alloc (.cells (mk 4 f) 22))) := HW.out.alloc HW.out.size _
          have R1 : (y4.alloc (.cells (mk 4 f) 22)).ownsRow (w.heap.size + 1) 22 4 v1 (0 + k) ([] ++ (mk (k * 4) fun j => h (0 + j)).toList) := World.ownsRow.alloc R1 _
          have HSx2 : (y4.alloc (.cells (mk 4 f) 22)).heap.size = y4.heap.size + 1 := by simp
          generalize (y4.alloc (.cells (mk 4 f) 22)) = x2 at *
          refine hK.out _ _ ⟨A1, A3⟩ (fun hHeld => ?_)
          clear hK K hHeld
          try simp only [Act.put, List.setIfInBounds_toArray, List.set_cons_zero, List.set_cons_succ]
          refine wpAnyH_ready (rs := [7]) (by kernel_rfl) (by simp) ?_
          refine AllReadyH.cons rfl (fun K hK => ?_) AllReadyH.nil
          rw [if_pos (by rfl)]
          refine wp_app (v := v1) _ _ 68 rfl (w.heap.size + 1) 22 i0 _ 4 32 Try.underlying68 hi hz0 hz1 hz2 rfl (by decide) rfl R1 y4.heap.size 0 1 1 f 4 rfl B6.at (by omega) (by unfold maxLen; omega) (by omega) (by have := A3.lt; omega) ?_
          intro v2 y7 R2 hbl hgr
          have A1 := A1.low hbl (by omega)
          have A3 := A3.below hbl (by omega)
          have HW : Hid (Below w.heap.size w y7) := HW.out.trans (hbl.mono (by omega))
          clear hbl hgr R1
          refine hK.out _ _ ⟨A1, A3⟩ (fun hHeld => ?_)
          clear hK K hHeld
          try simp only [Act.put, List.setIfInBounds_toArray, List.set_cons_zero, List.set_cons_succ]
          clear B6
          refine wpAnyH_ready (rs := [11]) (by kernel_rfl) (by simp) ?_
          refine AllReadyH.cons rfl (fun K hK => ?_) AllReadyH.nil
          rw [if_pos (by rfl)]
          refine wp_app (v := v2) _ _ 68 rfl (w.heap.size + 1) 22 i0 _ 4 32 Try.underlying68 hi hz0 hz1 hz2 rfl (by decide) rfl R2 g o (n - k) (cap - k) h (n * 4) rfl A1 (by omega) (by unfold maxLen; omega) (by omega) (by have := A3.lt; omega) ?_
          intro v3 y8 R3 hbl hgr
          have A1 := A1.low hbl (by omega)
          have A3 := A3.below hbl (by omega)
          have HW : Hid (Below w.heap.size w y8) := HW.out.trans (hbl.mono (by omega))
          clear hbl hgr R2
          refine hK.out _ _ ⟨A1, A3⟩ (fun hHeld => ?_)
          clear hK K
          try simp only [Act.put, List.setIfInBounds_toArray, List.set_cons_zero, List.set_cons_succ]
          refine wpAnyH_take (i := 12) (oi := { dst := some 4, op := _, type := _, pos := _, after := _, guard := _ }) (v := v3) rfl (by kernel_rfl) (by kernel_rfl) (by kernel_rfl) (fun _ _ _ h => h) (Or.inl ⟨by rfl, by intro w hSw; clear hSw; go_simp; (try with_reducible rfl)⟩) (by assumption) ?_
          try simp only [Act.put, List.setIfInBounds_toArray, List.set_cons_zero, List.set_cons_succ]
          refine wpAnyH_done (by kernel_rfl) ?_ _
          have R3 := R3
          rw [show 0 + k + 1 + (n - k) = n + 1 by omega, HF.out] at R3
          obtain ⟨g', cap', hv'⟩ := ownsRow_succ R3
          have HV := Lib.hid hv'
          have HR3 := Lib.hid R3
          clear hv' R3
          go_wp2_with fail
          go_ret
          rw [HI.out]
          refine ⟨g', cap', ?_, ?_, HW.out⟩
          · rw [HV.out, List.length_append, List.length_cons, List.length_take, List.length_drop, hN, show min k n + (n - k + 1) = n + 1 by omega]; rfl
          · show OwnsL _ _ _ _ _ _
            have e := HR3.out
            rw [HV.out] at e
            unfold OwnsL
            rw [show (L.take k ++ cl 4 f :: L.drop k).length = n + 1 by rw [List.length_append, List.length_cons, List.length_take, List.length_drop, hN]; omega]
            exact ownsRow_wide e (by omega)
        refine AllReadyH.cons rfl (fun K hK => ?_) AllReadyH.nil
        rw [if_pos (by rfl)]
        refine wp_buildR _ rfl (f := f) rfl ?_
        have B6 : Blk (x1.alloc (.cells (mk 4 f) 22)) x1.heap.size 4 f 22 := Blk.new _ _ _ _
        have A1 : CAt (x1.alloc (.cells (mk 4 f) 22)) g (n * 4) h := A1.alloc _
        have A3 : Blk (x1.alloc (.cells (mk 4 f) 22)) w.heap.size 4 f 22 := A3.alloc _
        have HW : Hid (Below w.heap.size w (x1.alloc (.cells (mk 4 f) 22))) := HW.out.alloc HW.out.size _
        have R0 : (x1.alloc (.cells (mk 4 f) 22)).ownsRow (w.heap.size + 1) 22 4 (.slice (some ⟨x0.heap.size, 0, none⟩) 0 0) 0 [] := World.ownsRow.alloc R0 _
        have HSx2 : (x1.alloc (.cells (mk 4 f) 22)).heap.size = x1.heap.size + 1 := by simp
        generalize (x1.alloc (.cells (mk 4 f) 22)) = x2 at *
        refine hK.out _ _ ⟨A1, A3⟩ (fun hHeld => ?_)
        clear hK K hHeld
        try simp only [Act.put, List.setIfInBounds_toArray, List.set_cons_zero, List.set_cons_succ]
        refine wpAnyH_ready (rs := [4]) (by kernel_rfl) (by simp) ?_
        refine AllReadyH.cons rfl (fun K hK => ?_) AllReadyH.nil
        rw [if_pos (by rfl)]
        refine wp_app (v := .slice (some ⟨x0.heap.size, 0, none⟩) 0 0) _ _ 68 rfl (w.heap.size + 1) 22 i0 _ 4 32 Try.underlying68 hi hz0 hz1 hz2 rfl (by decide) rfl R0 g 0 k cap h (n * 4) rfl A1 (by omega) (by unfold maxLen; omega) (by omega) (by have := A3.lt; omega) ?_
        intro v1 y4 R1 hbl hgr
        have A1 := A1.low hbl (by omega)
        have A3 := A3.below hbl (by omega)
        have HW : Hid (Below w.heap.size w y4) := HW.out.trans (hbl.mono (by omega))
        have B6 := B6.grown hgr (by intro e; simp only [Value.ownBlock, Option.some.injEq] at e; omega)
        clear hbl hgr R0
        refine hK.out _ _ ⟨A1, A3⟩ (fun hHeld => ?_)
        clear hK K hHeld
        try simp only [Act.put, List.setIfInBounds_toArray, List.set_cons_zero, List.set_cons_succ]
        refine wpAnyH_ready (rs := [7]) (by kernel_rfl) (by simp) ?_
        refine AllReadyH.cons rfl (fun K hK => ?_) AllReadyH.nil
        rw [if_pos (by rfl)]
        refine wp_app (v := v1) _ _ 68 rfl (w.heap.size + 1) 22 i0 _ 4 32 Try.underlying68 hi hz0 hz1 hz2 rfl (by decide) rfl R1 x1.heap.size 0 1 1 f 4 rfl B6.at (by omega) (by unfold maxLen; omega) (by omega) (by have := A3.lt; omega) ?_
        intro v2 y7 R2 hbl hgr
        have A1 := A1.low hbl (by omega)
        have A3 := A3.below hbl (by omega)
        have HW : Hid (Below w.heap.size w y7) := HW.out.trans (hbl.mono (by omega))
        clear hbl hgr R1
        refine hK.out _ _ ⟨A1, A3⟩ (fun hHeld => ?_)
        clear hK K hHeld
        try simp only [Act.put, List.setIfInBounds_toArray, List.set_cons_zero, List.set_cons_succ]
        clear B6
        refine wpAnyH_ready (rs := [11]) (by kernel_rfl) (by simp) ?_
        refine AllReadyH.cons rfl (fun K hK => ?_) AllReadyH.nil
        rw [if_pos (by rfl)]
        refine wp_app (v := v2) _ _ 68 rfl (w.heap.size + 1) 22 i0 _ 4 32 Try.underlying68 hi hz0 hz1 hz2 rfl (by decide) rfl R2 g o (n - k) (cap - k) h (n * 4) rfl A1 (by omega) (by unfold maxLen; omega) (by omega) (by have := A3.lt; omega) ?_
        intro v3 y8 R3 hbl hgr
        have A1 := A1.low hbl (by omega)
        have A3 := A3.below hbl (by omega)
        have HW : Hid (Below w.heap.size w y8) := HW.out.trans (hbl.mono (by omega))
        clear hbl hgr R2
        refine hK.out _ _ ⟨A1, A3⟩ (fun hHeld => ?_)
        clear hK K
        try simp only [Act.put, List.setIfInBounds_toArray, List.set_cons_zero, List.set_cons_succ]
        refine wpAnyH_take (i := 12) (oi := { dst := some 4, op := _, type := _, pos := _, after := _, guard := _ }) (v := v3) rfl (by kernel_rfl) (by kernel_rfl) (by kernel_rfl) (fun _ _ _ h => h) (Or.inl ⟨by rfl, by intro w hSw; clear hSw; go_simp; (try with_reducible rfl)⟩) (by assumption) ?_
        try simp only [Act.put, List.setIfInBounds_toArray, List.set_cons_zero, List.set_cons_succ]
        refine wpAnyH_done (by kernel_rfl) ?_ _
        have R3 := R3
        rw [show 0 + k + 1 + (n - k) = n + 1 by omega, HF.out] at R3
        obtain ⟨g', cap', hv'⟩ := ownsRow_succ R3
        have HV := Lib.hid hv'
        have HR3 := Lib.hid R3
        clear hv' R3
        go_wp2_with fail
        go_ret
        rw [HI.out]
        refine ⟨g', cap', ?_, ?_, HW.out⟩
        · rw [HV.out, List.length_append, List.length_cons, List.length_take, List.length_drop, hN, show min k n + (n - k + 1) = n + 1 by omega]; rfl
        · show OwnsL _ _ _ _ _ _
          have e := HR3.out
          rw [HV.out] at e
          unfold OwnsL
          rw [show (L.take k ++ cl 4 f :: L.drop k).length = n + 1 by rw [List.length_append, List.length_cons, List.length_take, List.length_drop, hN]; omega]
          exact ownsRow_wide e (by omega)
      refine AllReadyH.cons rfl (fun K hK => ?_) AllReadyH.nil
      rw [if_pos (by rfl)]
      refine wp_buildR _ rfl (f := f) rfl ?_
      have B6 : Blk (x0.alloc (.cells (mk 4 f) 22)) x0.heap.size 4 f 22 := Blk.new _ _ _ _
      have A1 : CAt (x0.alloc (.cells (mk 4 f) 22)) g (n * 4) h := A1.alloc _
      have A3 : Blk (x0.alloc (.cells (mk 4 f) 22)) w.heap.size 4 f 22 := A3.alloc _
      have HW : Hid (Below w.heap.size w (x0.alloc (.cells (mk 4 f) 22))) := HW.out.alloc HW.out.size _
      have HSx1 : (x0.alloc (.cells (mk 4 f) 22)).heap.size = x0.heap.size + 1 := by simp
      generalize (x0.alloc (.cells (mk 4 f) 22)) = x1 at *
      refine hK.out _ _ ⟨A1, A3⟩ (fun hHeld => ?_)
      clear hK K hHeld
      try simp only [Act.put, List.setIfInBounds_toArray, List.set_cons_zero, List.set_cons_succ]
      refine wpAnyH_ready (rs := [0]) (by kernel_rfl) (by simp) ?_
      refine AllReadyH.cons rfl (fun K hK => ?_) AllReadyH.nil
      rw [if_pos (by rfl)]
      refine wp_build0 68 22 rfl Try.underlying68 hi hz0 ?_
      have R0 : (x1.alloc (.cells #[] 22)).ownsRow (w.heap.size + 1) 22 4 (.slice (some ⟨x1.heap.size, 0, none⟩) 0 0) 0 [] := World.ownsRow_made (base := w.heap.size + 1) (e := 22) (size := 4) x1 #[] 0 A3.lt (by decide) rfl
      have A1 : CAt (x1.alloc (.cells #[] 22)) g (n * 4) h := A1.alloc _
      have A3 : Blk (x1.alloc (.cells #[] 22)) w.heap.size 4 f 22 := A3.alloc _
      have HW : Hid (Below w.heap.size w (x1.alloc (.cells #[] 22))) := HW.out.alloc HW.out.size _
      have B6 : Blk (x1.alloc (.cells #[] 22)) x0.heap.size 4 f 22 := B6.alloc _
      have HSx2 : (x1.alloc (.cells #[] 22)).heap.size = x1.heap.size + 1 := by simp
      generalize (x1.alloc (.cells #[] 22)) = x2 at *
      refine hK.out _ _ ⟨A1, A3⟩ (fun hHeld => ?_)
      clear hK K hHeld
      try simp only [Act.put, List.setIfInBounds_toArray, List.set_cons_zero, List.set_cons_succ]
      refine wpAnyH_ready (rs := [4]) (by kernel_rfl) (by simp) ?_
      refine AllReadyH.cons rfl (fun K hK => ?_) AllReadyH.nil
      rw [if_pos (by rfl)]
      refine wp_app (v := .slice (some ⟨x1.heap.size, 0, none⟩) 0 0) _ _ 68 rfl (w.heap.size + 1) 22 i0 _ 4 32 Try.underlying68 hi hz0 hz1 hz2 rfl (by decide) rfl R0 g 0 k cap h (n * 4) rfl A1 (by omega) (by unfold maxLen; omega) (by omega) (by have := A3.lt; omega) ?_
      intro v1 y4 R1 hbl hgr
      have A1 := A1.low hbl (by omega)
      have A3 := A3.below hbl (by omega)
      have HW : Hid (Below w.heap.size w y4) := HW.out.trans (hbl.mono (by omega))
      have B6 := B6.grown hgr (by intro e; simp only [Value.ownBlock, Option.some.injEq] at e; omega)
      clear hbl hgr R0
      refine hK.out _ _ ⟨A1, A3⟩ (fun hHeld => ?_)
      clear hK K hHeld
      try simp only [Act.put, List.setIfInBounds_toArray, List.set_cons_zero, List.set_cons_succ]
      refine wpAnyH_ready (rs := [7]) (by kernel_rfl) (by simp) ?_
      refine AllReadyH.cons rfl (fun K hK => ?_) AllReadyH.nil
      rw [if_pos (by rfl)]
      refine wp_app (v := v1) _ _ 68 rfl (w.heap.size + 1) 22 i0 _ 4 32 Try.underlying68 hi hz0 hz1 hz2 rfl (by decide) rfl R1 x0.heap.size 0 1 1 f 4 rfl B6.at (by omega) (by unfold maxLen; omega) (by omega) (by have := A3.lt; omega) ?_
      intro v2 y7 R2 hbl hgr
      have A1 := A1.low hbl (by omega)
      have A3 := A3.below hbl (by omega)
      have HW : Hid (Below w.heap.size w y7) := HW.out.trans (hbl.mono (by omega))
      clear hbl hgr R1
      refine hK.out _ _ ⟨A1, A3⟩ (fun hHeld => ?_)
      clear hK K hHeld
      try simp only [Act.put, List.setIfInBounds_toArray, List.set_cons_zero, List.set_cons_succ]
      clear B6
      refine wpAnyH_ready (rs := [11]) (by kernel_rfl) (by simp) ?_
      refine AllReadyH.cons rfl (fun K hK => ?_) AllReadyH.nil
      rw [if_pos (by rfl)]
      refine wp_app (v := v2) _ _ 68 rfl (w.heap.size + 1) 22 i0 _ 4 32 Try.underlying68 hi hz0 hz1 hz2 rfl (by decide) rfl R2 g o (n - k) (cap - k) h (n * 4) rfl A1 (by omega) (by unfold maxLen; omega) (by omega) (by have := A3.lt; omega) ?_
      intro v3 y8 R3 hbl hgr
      have A1 := A1.low hbl (by omega)
      have A3 := A3.below hbl (by omega)
      have HW : Hid (Below w.heap.size w y8) := HW.out.trans (hbl.mono (by omega))
      clear hbl hgr R2
      refine hK.out _ _ ⟨A1, A3⟩ (fun hHeld => ?_)
      clear hK K
      try simp only [Act.put, List.setIfInBounds_toArray, List.set_cons_zero, List.set_cons_succ]
      refine wpAnyH_take (i := 12) (oi := { dst := some 4, op := _, type := _, pos := _, after := _, guard := _ }) (v := v3) rfl (by kernel_rfl) (by kernel_rfl) (by kernel_rfl) (fun _ _ _ h => h) (Or.inl ⟨by rfl, by intro w hSw; clear hSw; go_simp; (try with_reducible rfl)⟩) (by assumption) ?_
      try simp only [Act.put, List.setIfInBounds_toArray, List.set_cons_zero, List.set_cons_succ]
      refine wpAnyH_done (by kernel_rfl) ?_ _
      have R3 := R3
      rw [show 0 + k + 1 + (n - k) = n + 1 by omega, HF.out] at R3
      obtain ⟨g', cap', hv'⟩ := ownsRow_succ R3
      have HV := Lib.hid hv'
      have HR3 := Lib.hid R3
      clear hv' R3
      go_wp2_with fail
      go_ret
      rw [HI.out]
      refine ⟨g', cap', ?_, ?_, HW.out⟩
      · rw [HV.out, List.length_append, List.length_cons, List.length_take, List.length_drop, hN, show min k n + (n - k + 1) = n + 1 by omega]; rfl
      · show OwnsL _ _ _ _ _ _
        have e := HR3.out
        rw [HV.out] at e
        unfold OwnsL
        rw [show (L.take k ++ cl 4 f :: L.drop k).length = n + 1 by rw [List.length_append, List.length_cons, List.length_take, List.length_drop, hN]; omega]
        exact ownsRow_wide e (by omega)
  · have hlt2 : ¬ ((k : Int) < (n : Int)) := by omega
    have HI : Hid (insL (lt 4) L (cl 4 f) = L.take k ++ cl 4 f :: L.drop k) := by
      have := ins_new (lt 4) (L := L) (b := cl 4 f) (by rw [HK.out, List.getElem?_eq_none (by omega)]; simp)
      rw [HK.out] at this
      exact this
    go_wp2_with fail
    have k1 : CAt wr.drew g (n * 4) h := k1.drew
    have k3 : Blk wr.drew w.heap.size 4 f 22 := k3.drew
    have hb : Hid (Below w.heap.size w wr.drew) := hb.out.drew
    refine wp_region_held_drew (S := fun W => CAt W g (n * 4) h ∧ Blk W w.heap.size 4 f 22) (by kernel_rfl) (⟨k1, k3⟩) (fun hHeld => ?_)
    generalize wr.drew = x0 at *
    refine wpAnyH_take (i := 0) (oi := { dst := some 9, op := _, type := _, pos := _, after := _, guard := _ }) (v := .int .i64 (k : Int)) rfl (by kernel_rfl) (by kernel_rfl) (by kernel_rfl) (fun _ _ _ h => h) (Or.inl ⟨by rfl, by intro w hSw; clear hSw; go_simp; (try with_reducible rfl)⟩) (by assumption) ?_
    try simp only [Act.put, List.setIfInBounds_toArray, List.set_cons_zero, List.set_cons_succ]
    refine wpAnyH_take (i := 1) (oi := { dst := some 10, op := _, type := _, pos := _, after := _, guard := _ }) (v := .slice (some ⟨g, 0, none⟩) n cap) rfl (by kernel_rfl) (by kernel_rfl) (by kernel_rfl) (fun _ _ _ h => h) (Or.inl ⟨by rfl, by intro w hSw; clear hSw; go_simp; (try with_reducible rfl)⟩) (by assumption) ?_
    try simp only [Act.put, List.setIfInBounds_toArray, List.set_cons_zero, List.set_cons_succ]
    refine wpAnyH_take (i := 2) (oi := { dst := some 11, op := _, type := _, pos := _, after := _, guard := _ }) (v := .int .i64 (n : Int)) rfl (by kernel_rfl) (by kernel_rfl) (by kernel_rfl) (fun _ _ _ h => h) (Or.inl ⟨by rfl, by intro w hSw; clear hSw; go_simp; (try with_reducible rfl)⟩) (by assumption) ?_
    try simp only [Act.put, List.setIfInBounds_toArray, List.set_cons_zero, List.set_cons_succ]
    refine wpAnyH_take (i := 3) (oi := { dst := some 12, op := _, type := _, pos := _, after := _, guard := _ }) (v := .bool false) rfl (by kernel_rfl) (by kernel_rfl) (by kernel_rfl) (fun _ _ _ h => h) (Or.inl ⟨by rfl, by intro w hSw; clear hSw; go_simp; (try with_reducible rfl)⟩) (by assumption) ?_
    try simp only [Act.put, List.setIfInBounds_toArray, List.set_cons_zero, List.set_cons_succ]
    refine wpAnyH_take (i := 4) (oi := { dst := some 13, op := _, type := _, pos := _, after := _, guard := _ }) (v := .bool false) rfl (by kernel_rfl) (by kernel_rfl) (by kernel_rfl) (fun _ _ _ h => h) (Or.inl ⟨by rfl, by intro w hSw; clear hSw; go_simp; (try with_reducible rfl)⟩) (by assumption) ?_
    try simp only [Act.put, List.setIfInBounds_toArray, List.set_cons_zero, List.set_cons_succ]
    refine wpAnyH_take (i := 5) (oi := { dst := some 14, op := _, type := _, pos := _, after := _, guard := _ }) (v := undef) rfl (by kernel_rfl) (by kernel_rfl) (by kernel_rfl) (fun _ _ _ h => h) (Or.inr ⟨by rfl, rfl⟩) (by assumption) ?_
    try simp only [Act.put, List.setIfInBounds_toArray, List.set_cons_zero, List.set_cons_succ]
    refine wpAnyH_take (i := 6) (oi := { dst := some 15, op := _, type := _, pos := _, after := _, guard := _ }) (v := undef) rfl (by kernel_rfl) (by kernel_rfl) (by kernel_rfl) (fun _ _ _ h => h) (Or.inr ⟨by rfl, rfl⟩) (by assumption) ?_
    try simp only [Act.put, List.setIfInBounds_toArray, List.set_cons_zero, List.set_cons_succ]
    refine wpAnyH_take (i := 7) (oi := { dst := some 16, op := _, type := _, pos := _, after := _, guard := _ }) (v := undef) rfl (by kernel_rfl) (by kernel_rfl) (by kernel_rfl) (fun _ _ _ h => h) (Or.inr ⟨by rfl, rfl⟩) (by assumption) ?_
    try simp only [Act.put, List.setIfInBounds_toArray, List.set_cons_zero, List.set_cons_succ]
    refine wpAnyH_take (i := 8) (oi := { dst := some 17, op := _, type := _, pos := _, after := _, guard := _ }) (v := undef) rfl (by kernel_rfl) (by kernel_rfl) (by kernel_rfl) (fun _ _ _ h => h) (Or.inr ⟨by rfl, rfl⟩) (by assumption) ?_
    try simp only [Act.put, List.setIfInBounds_toArray, List.set_cons_zero, List.set_cons_succ]
    refine wpAnyH_take (i := 9) (oi := { dst := some 18, op := _, type := _, pos := _, after := _, guard := _ }) (v := undef) rfl (by kernel_rfl) (by kernel_rfl) (by kernel_rfl) (fun _ _ _ h => h) (Or.inr ⟨by rfl, rfl⟩) (by assumption) ?_
    try simp only [Act.put, List.setIfInBounds_toArray, List.set_cons_zero, List.set_cons_succ]
    refine wpAnyH_take (i := 10) (oi := { dst := some 19, op := _, type := _, pos := _, after := _, guard := _ }) (v := undef) rfl (by kernel_rfl) (by kernel_rfl) (by kernel_rfl) (fun _ _ _ h => h) (Or.inr ⟨by rfl, rfl⟩) (by assumption) ?_
    try simp only [Act.put, List.setIfInBounds_toArray, List.set_cons_zero, List.set_cons_succ]
    refine wpAnyH_take (i := 11) (oi := { dst := some 20, op := _, type := _, pos := _, after := _, guard := _ }) (v := .bool false) rfl (by kernel_rfl) (by kernel_rfl) (by kernel_rfl) (fun _ _ _ h => h) (Or.inl ⟨by rfl, by intro w hSw; clear hSw; go_simp; (try with_reducible rfl)⟩) (by assumption) ?_
    try simp only [Act.put, List.setIfInBounds_toArray, List.set_cons_zero, List.set_cons_succ]
    refine wpAnyH_done (by kernel_rfl) ?_ _
    clear hHeld
    go_wp2_with fail
    have hkc : ¬ (cap < k) := by omega
    have hnk : ¬ ((n : Int) < (k : Int)) := by omega
    obtain ⟨o, HO1, HO2⟩ : ∃ o, Hid (cap = k → o = 0) ∧ Hid (cap ≠ k → o = k * 4) := by
      by_cases hcc : cap = k
      · exact ⟨0, fun _ => rfl, fun q => absurd hcc q⟩
      · exact ⟨k * 4, fun q => absurd q hcc, fun _ => rfl⟩
    have HF : Hid ([] ++ (mk (k * 4) fun j => h (0 + j)).toList ++ (mk (1 * 4) fun j => f (0 + j)).toList ++ (mk ((n - k) * 4) fun j => h (o + j)).toList = (L.take k ++ cl 4 f :: L.drop k).flatten.map (Value.int .i64)) := by
      show _ = _
      have := add_flat ha f (k := k) (o := o) (by omega) (by
        by_cases hcc : cap = k
        · exact Or.inl (by omega)
        · exact Or.inr (HO2.out hcc))
      rw [hN, hH] at this
      exact this.symm
    have ho16 : o + (n - k) * 4 ≤ n * 4 := by
      by_cases hcc : cap = k
      · have := HO1.out hcc; omega
      · have := HO2.out hcc; omega
    have A1 := k1
    have A3 := k3
    have HW := hb
    clear k1 k3 hb
    have ghi : base ≤ w.heap.size := by have := (HO.out.lt g rfl).1; omega
    have A1 : CAt x0.drew g (n * 4) h := A1.drew
    have A3 : Blk x0.drew w.heap.size 4 f 22 := A3.drew
    have HW : Hid (Below w.heap.size w x0.drew) := HW.out.drew
    refine wp_region_held_drew (S := fun W => CAt W g (n * 4) h ∧ Blk W w.heap.size 4 f 22) (by kernel_rfl) (⟨A1, A3⟩) (fun hHeld => ?_)
    generalize x0.drew = x0 at *
    refine wpAnyH_take (i := 1) (oi := { dst := some 23, op := _, type := _, pos := _, after := _, guard := _ }) (v := .slice (some ⟨g, 0, none⟩) n cap) rfl (by kernel_rfl) (by kernel_rfl) (by kernel_rfl) (fun _ _ _ h => h) (Or.inl ⟨by rfl, by intro w hSw; clear hSw; go_simp; (try with_reducible rfl)⟩) (by assumption) ?_
    try simp only [Act.put, List.setIfInBounds_toArray, List.set_cons_zero, List.set_cons_succ]
    refine wpAnyH_take (i := 2) (oi := { dst := some 24, op := _, type := _, pos := _, after := _, guard := _ }) (v := .int .i64 (k : Int)) rfl (by kernel_rfl) (by kernel_rfl) (by kernel_rfl) (fun _ _ _ h => h) (Or.inl ⟨by rfl, by intro w hSw; clear hSw; go_simp; (try with_reducible rfl)⟩) (by assumption) ?_
    try simp only [Act.put, List.setIfInBounds_toArray, List.set_cons_zero, List.set_cons_succ]
    refine wpAnyH_take (i := 3) (oi := { dst := some 25, op := _, type := _, pos := _, after := _, guard := _ }) (v := .slice (some ⟨g, 0, none⟩) k cap) rfl (by kernel_rfl) (by kernel_rfl) (by kernel_rfl) (fun _ _ _ h => h) (Or.inl ⟨by rfl, by intro w hSw; clear hSw; go_simp; (try with_reducible rfl)⟩) (by assumption) ?_
    try simp only [Act.put, List.setIfInBounds_toArray, List.set_cons_zero, List.set_cons_succ]
    refine wpAnyH_take (i := 5) (oi := { dst := some 27, op := _, type := _, pos := _, after := _, guard := _ }) (v := .agg (mk 4 f)) rfl (by kernel_rfl) (by kernel_rfl) (by kernel_rfl) (fun _ _ _ h => h) (Or.inl ⟨by rfl, fun _ q => exec_load_blk _ _ rfl rfl q.2 Try.underlying22 rfl sizeR⟩) (by assumption) ?_
    try simp only [Act.put, List.setIfInBounds_toArray, List.set_cons_zero, List.set_cons_succ]
    refine wpAnyH_take (i := 8) (oi := { dst := some 30, op := _, type := _, pos := _, after := _, guard := _ }) (v := .slice (some ⟨g, 0, none⟩) n cap) rfl (by kernel_rfl) (by kernel_rfl) (by kernel_rfl) (fun _ _ _ h => h) (Or.inl ⟨by rfl, by intro w hSw; clear hSw; go_simp; (try with_reducible rfl)⟩) (by assumption) ?_
    try simp only [Act.put, List.setIfInBounds_toArray, List.set_cons_zero, List.set_cons_succ]
    refine wpAnyH_take (i := 9) (oi := { dst := some 31, op := _, type := _, pos := _, after := _, guard := _ }) (v := .int .i64 (k : Int)) rfl (by kernel_rfl) (by kernel_rfl) (by kernel_rfl) (fun _ _ _ h => h) (Or.inl ⟨by rfl, by intro w hSw; clear hSw; go_simp; (try with_reducible rfl)⟩) (by assumption) ?_
    try simp only [Act.put, List.setIfInBounds_toArray, List.set_cons_zero, List.set_cons_succ]
    refine wpAnyH_take (i := 10) (oi := { dst := some 32, op := _, type := _, pos := _, after := _, guard := _ }) (v := .slice (some ⟨g, o, none⟩) (n - k) (cap - k)) rfl (by kernel_rfl) (by kernel_rfl) (by kernel_rfl) (fun _ _ _ h => h) (Or.inl ⟨by rfl, by
          intro W hSw
          clear hSw
          by_cases hcc : cap = k
          · have hoo := HO1.out hcc
            subst hoo
            go_simp
          · have hoo := HO2.out hcc
            subst hoo
            go_simp⟩) (by assumption) ?_
    try simp only [Act.put, List.setIfInBounds_toArray, List.set_cons_zero, List.set_cons_succ]
    clear HO1 HO2 hHeld
    refine wpAnyH_ready (rs := [0, 6]) (by kernel_rfl) (by simp) ?_
    refine AllReadyH.cons rfl (fun K hK => ?_) ?_
    · rw [if_pos (by rfl)]
      refine wp_build0 68 22 rfl Try.underlying68 hi hz0 ?_
      have R0 : (x0.alloc (.cells #[] 22)).ownsRow (w.heap.size + 1) 22 4 (.slice (some ⟨x0.heap.size, 0, none⟩) 0 0) 0 [] := World.ownsRow_made (base := w.heap.size + 1) (e := 22) (size := 4) x0 #[] 0 A3.lt (by decide) rfl
      have A1 : CAt (x0.alloc (.cells #[] 22)) g (n * 4) h := A1.alloc _
      have A3 : Blk (x0.alloc (.cells #[] 22)) w.heap.size 4 f 22 := A3.alloc _
      have HW : Hid (Below w.heap.size w (x0.alloc (.cells #[] 22))) := HW.out.alloc HW.out.size _
      have HSx1 : (x0.alloc (.cells #[] 22)).heap.size = x0.heap.size + 1 := by simp
      generalize (x0.alloc (.cells #[] 22)) = x1 at *
      refine hK.out _ _ ⟨A1, A3⟩ (fun hHeld => ?_)
      clear hK K hHeld
      try simp only [Act.put, List.setIfInBounds_toArray, List.set_cons_zero, List.set_cons_succ]
      refine wpAnyH_ready (rs := [4, 6]) (by kernel_rfl) (by simp) ?_
      refine AllReadyH.cons rfl (fun K hK => ?_) ?_
      · rw [if_pos (by rfl)]
        refine wp_app (v := .slice (some ⟨x0.heap.size, 0, none⟩) 0 0) _ _ 68 rfl (w.heap.size + 1) 22 i0 _ 4 32 Try.underlying68 hi hz0 hz1 hz2 rfl (by decide) rfl R0 g 0 k cap h (n * 4) rfl A1 (by omega) (by unfold maxLen; omega) (by omega) (by have := A3.lt; omega) ?_
        intro v1 y4 R1 hbl hgr
        have A1 := A1.low hbl (by omega)
        have A3 := A3.below hbl (by omega)
        have HW : Hid (Below w.heap.size w y4) := HW.out.trans (hbl.mono (by omega))
        clear hbl hgr R0
        refine hK.out _ _ ⟨A1, A3⟩ (fun hHeld => ?_)
        clear hK K hHeld
        try simp only [Act.put, List.setIfInBounds_toArray, List.set_cons_zero, List.set_cons_succ]
        refine wpAnyH_ready (rs := [6]) (by kernel_rfl) (by simp) ?_
        refine AllReadyH.cons rfl (fun K hK => ?_) AllReadyH.nil
        rw [if_pos (by rfl)]
        refine wp_buildR _ rfl (f := f) rfl ?_
        have B6 : Blk (y4.alloc (.cells (mk 4 f) 22)) y4.heap.size 4 f 22 := Blk.new _ _ _ _
        have A1 : CAt (y4.alloc (.cells (mk 4 f) 22)) g (n * 4) h := A1.alloc _
        have A3 : Blk (y4.alloc (.cells (mk 4 f) 22)) w.heap.size 4 f 22 := A3.alloc _
        have HW : Hid (Below w.heap.size w (y4.alloc (.cells (mk 4 f) 22))) := HW.out.alloc HW.out.size _
        have R1 : (y4.alloc (.cells (mk 4 f) 22)).ownsRow (w.heap.size + 1) 22 4 v1 (0 + k) ([] ++ (mk (k * 4) fun j => h (0 + j)).toList) := World.ownsRow.alloc R1 _
        have HSx2 : (y4.alloc (.cells (mk 4 f) 22)).heap.size = y4.heap.size + 1 := by simp
        generalize (y4.alloc (.cells (mk 4 f) 22)) = x2 at *
        refine hK.out _ _ ⟨A1, A3⟩ (fun hHeld => ?_)
        clear hK K hHeld
        try simp only [Act.put, List.setIfInBounds_toArray, List.set_cons_zero, List.set_cons_succ]
        refine wpAnyH_ready (rs := [7]) (by kernel_rfl) (by simp) ?_
        refine AllReadyH.cons rfl (fun K hK => ?_) AllReadyH.nil
        rw [if_pos (by rfl)]
        refine wp_app (v := v1) _ _ 68 rfl (w.heap.size + 1) 22 i0 _ 4 32 Try.underlying68 hi hz0 hz1 hz2 rfl (by decide) rfl R1 y4.heap.size 0 1 1 f 4 rfl B6.at (by omega) (by unfold maxLen; omega) (by omega) (by have := A3.lt; omega) ?_
        intro v2 y7 R2 hbl hgr
        have A1 := A1.low hbl (by omega)
        have A3 := A3.below hbl (by omega)
        have HW : Hid (Below w.heap.size w y7) := HW.out.trans (hbl.mono (by omega))
        clear hbl hgr R1
        refine hK.out _ _ ⟨A1, A3⟩ (fun hHeld => ?_)
        clear hK K hHeld
        try simp only [Act.put, List.setIfInBounds_toArray, List.set_cons_zero, List.set_cons_succ]
        clear B6
        refine wpAnyH_ready (rs := [11]) (by kernel_rfl) (by simp) ?_
        refine AllReadyH.cons rfl (fun K hK => ?_) AllReadyH.nil
        rw [if_pos (by rfl)]
        refine wp_app (v := v2) _ _ 68 rfl (w.heap.size + 1) 22 i0 _ 4 32 Try.underlying68 hi hz0 hz1 hz2 rfl (by decide) rfl R2 g o (n - k) (cap - k) h (n * 4) rfl A1 (by omega) (by unfold maxLen; omega) (by omega) (by have := A3.lt; omega) ?_
        intro v3 y8 R3 hbl hgr
        have A1 := A1.low hbl (by omega)
        have A3 := A3.below hbl (by omega)
        have HW : Hid (Below w.heap.size w y8) := HW.out.trans (hbl.mono (by omega))
        clear hbl hgr R2
        refine hK.out _ _ ⟨A1, A3⟩ (fun hHeld => ?_)
        clear hK K
        try simp only [Act.put, List.setIfInBounds_toArray, List.set_cons_zero, List.set_cons_succ]
        refine wpAnyH_take (i := 12) (oi := { dst := some 4, op := _, type := _, pos := _, after := _, guard := _ }) (v := v3) rfl (by kernel_rfl) (by kernel_rfl) (by kernel_rfl) (fun _ _ _ h => h) (Or.inl ⟨by rfl, by intro w hSw; clear hSw; go_simp; (try with_reducible rfl)⟩) (by assumption) ?_
        try simp only [Act.put, List.setIfInBounds_toArray, List.set_cons_zero, List.set_cons_succ]
        refine wpAnyH_done (by kernel_rfl) ?_ _
        have R3 := R3
        rw [show 0 + k + 1 + (n - k) = n + 1 by omega, HF.out] at R3
        obtain ⟨g', cap', hv'⟩ := ownsRow_succ R3
        have HV := Lib.hid hv'
        have HR3 := Lib.hid R3
        clear hv' R3
        go_wp2_with fail
        go_ret
        rw [HI.out]
        refine ⟨g', cap', ?_, ?_, HW.out⟩
        · rw [HV.out, List.length_append, List.length_cons, List.length_take, List.length_drop, hN, show min k n + (n - k + 1) = n + 1 by omega]; rfl
        · show OwnsL _ _ _ _ _ _
          have e := HR3.out
          rw [HV.out] at e
          unfold OwnsL
          rw [show (L.take k ++ cl 4 f :: L.drop k).length = n + 1 by rw [List.length_append, List.length_cons, List.length_take, List.length_drop, hN]; omega]
          exact ownsRow_wide e (by omega)
      refine AllReadyH.cons rfl (fun K hK => ?_) AllReadyH.nil
      rw [if_pos (by rfl)]
      refine wp_buildR _ rfl (f := f) rfl ?_
      have B6 : Blk (x1.alloc (.cells (mk 4 f) 22)) x1.heap.size 4 f 22 := Blk.new _ _ _ _
      have A1 : CAt (x1.alloc (.cells (mk 4 f) 22)) g (n * 4) h := A1.alloc _
      have A3 : Blk (x1.alloc (.cells (mk 4 f) 22)) w.heap.size 4 f 22 := A3.alloc _
      have HW : Hid (Below w.heap.size w (x1.alloc (.cells (mk 4 f) 22))) := HW.out.alloc HW.out.size _
      have R0 : (x1.alloc (.cells (mk 4 f) 22)).ownsRow (w.heap.size + 1) 22 4 (.slice (some ⟨x0.heap.size, 0, none⟩) 0 0) 0 [] := World.ownsRow.alloc R0 _
      have HSx2 : (x1.alloc (.cells (mk 4 f) 22)).heap.size = x1.heap.size + 1 := by simp
      generalize (x1.alloc (.cells (mk 4 f) 22)) = x2 at *
      refine hK.out _ _ ⟨A1, A3⟩ (fun hHeld => ?_)
      clear hK K hHeld
      try simp only [Act.put, List.setIfInBounds_toArray, List.set_cons_zero, List.set_cons_succ]
      refine wpAnyH_ready (rs := [4]) (by kernel_rfl) (by simp) ?_
      refine AllReadyH.cons rfl (fun K hK => ?_) AllReadyH.nil
      rw [if_pos (by rfl)]
      refine wp_app (v := .slice (some ⟨x0.heap.size, 0, none⟩) 0 0) _ _ 68 rfl (w.heap.size + 1) 22 i0 _ 4 32 Try.underlying68 hi hz0 hz1 hz2 rfl (by decide) rfl R0 g 0 k cap h (n * 4) rfl A1 (by omega) (by unfold maxLen; omega) (by omega) (by have := A3.lt; omega) ?_
      intro v1 y4 R1 hbl hgr
      have A1 := A1.low hbl (by omega)
      have A3 := A3.below hbl (by omega)
      have HW : Hid (Below w.heap.size w y4) := HW.out.trans (hbl.mono (by omega))
      have B6 := B6.grown hgr (by intro e; simp only [Value.ownBlock, Option.some.injEq] at e; omega)
      clear hbl hgr R0
      refine hK.out _ _ ⟨A1, A3⟩ (fun hHeld => ?_)
      clear hK K hHeld
      try simp only [Act.put, List.setIfInBounds_toArray, List.set_cons_zero, List.set_cons_succ]
      refine wpAnyH_ready (rs := [7]) (by kernel_rfl) (by simp) ?_
      refine AllReadyH.cons rfl (fun K hK => ?_) AllReadyH.nil
      rw [if_pos (by rfl)]
      refine wp_app (v := v1) _ _ 68 rfl (w.heap.size + 1) 22 i0 _ 4 32 Try.underlying68 hi hz0 hz1 hz2 rfl (by decide) rfl R1 x1.heap.size 0 1 1 f 4 rfl B6.at (by omega) (by unfold maxLen; omega) (by omega) (by have := A3.lt; omega) ?_
      intro v2 y7 R2 hbl hgr
      have A1 := A1.low hbl (by omega)
      have A3 := A3.below hbl (by omega)
      have HW : Hid (Below w.heap.size w y7) := HW.out.trans (hbl.mono (by omega))
      clear hbl hgr R1
      refine hK.out _ _ ⟨A1, A3⟩ (fun hHeld => ?_)
      clear hK K hHeld
      try simp only [Act.put, List.setIfInBounds_toArray, List.set_cons_zero, List.set_cons_succ]
      clear B6
      refine wpAnyH_ready (rs := [11]) (by kernel_rfl) (by simp) ?_
      refine AllReadyH.cons rfl (fun K hK => ?_) AllReadyH.nil
      rw [if_pos (by rfl)]
      refine wp_app (v := v2) _ _ 68 rfl (w.heap.size + 1) 22 i0 _ 4 32 Try.underlying68 hi hz0 hz1 hz2 rfl (by decide) rfl R2 g o (n - k) (cap - k) h (n * 4) rfl A1 (by omega) (by unfold maxLen; omega) (by omega) (by have := A3.lt; omega) ?_
      intro v3 y8 R3 hbl hgr
      have A1 := A1.low hbl (by omega)
      have A3 := A3.below hbl (by omega)
      have HW : Hid (Below w.heap.size w y8) := HW.out.trans (hbl.mono (by omega))
      clear hbl hgr R2
      refine hK.out _ _ ⟨A1, A3⟩ (fun hHeld => ?_)
      clear hK K
      try simp only [Act.put, List.setIfInBounds_toArray, List.set_cons_zero, List.set_cons_succ]
      refine wpAnyH_take (i := 12) (oi := { dst := some 4, op := _, type := _, pos := _, after := _, guard := _ }) (v := v3) rfl (by kernel_rfl) (by kernel_rfl) (by kernel_rfl) (fun _ _ _ h => h) (Or.inl ⟨by rfl, by intro w hSw; clear hSw; go_simp; (try with_reducible rfl)⟩) (by assumption) ?_
      try simp only [Act.put, List.setIfInBounds_toArray, List.set_cons_zero, List.set_cons_succ]
      refine wpAnyH_done (by kernel_rfl) ?_ _
      have R3 := R3
      rw [show 0 + k + 1 + (n - k) = n + 1 by omega, HF.out] at R3
      obtain ⟨g', cap', hv'⟩ := ownsRow_succ R3
      have HV := Lib.hid hv'
      have HR3 := Lib.hid R3
      clear hv' R3
      go_wp2_with fail
      go_ret
      rw [HI.out]
      refine ⟨g', cap', ?_, ?_, HW.out⟩
      · rw [HV.out, List.length_append, List.length_cons, List.length_take, List.length_drop, hN, show min k n + (n - k + 1) = n + 1 by omega]; rfl
      · show OwnsL _ _ _ _ _ _
        have e := HR3.out
        rw [HV.out] at e
        unfold OwnsL
        rw [show (L.take k ++ cl 4 f :: L.drop k).length = n + 1 by rw [List.length_append, List.length_cons, List.length_take, List.length_drop, hN]; omega]
        exact ownsRow_wide e (by omega)
    refine AllReadyH.cons rfl (fun K hK => ?_) AllReadyH.nil
    rw [if_pos (by rfl)]
    refine wp_buildR _ rfl (f := f) rfl ?_
    have B6 : Blk (x0.alloc (.cells (mk 4 f) 22)) x0.heap.size 4 f 22 := Blk.new _ _ _ _
    have A1 : CAt (x0.alloc (.cells (mk 4 f) 22)) g (n * 4) h := A1.alloc _
    have A3 : Blk (x0.alloc (.cells (mk 4 f) 22)) w.heap.size 4 f 22 := A3.alloc _
    have HW : Hid (Below w.heap.size w (x0.alloc (.cells (mk 4 f) 22))) := HW.out.alloc HW.out.size _
    have HSx1 : (x0.alloc (.cells (mk 4 f) 22)).heap.size = x0.heap.size + 1 := by simp
    generalize (x0.alloc (.cells (mk 4 f) 22)) = x1 at *
    refine hK.out _ _ ⟨A1, A3⟩ (fun hHeld => ?_)
    clear hK K hHeld
    try simp only [Act.put, List.setIfInBounds_toArray, List.set_cons_zero, List.set_cons_succ]
    refine wpAnyH_ready (rs := [0]) (by kernel_rfl) (by simp) ?_
    refine AllReadyH.cons rfl (fun K hK => ?_) AllReadyH.nil
    rw [if_pos (by rfl)]
    refine wp_build0 68 22 rfl Try.underlying68 hi hz0 ?_
    have R0 : (x1.alloc (.cells #[] 22)).ownsRow (w.heap.size + 1) 22 4 (.slice (some ⟨x1.heap.size, 0, none⟩) 0 0) 0 [] := World.ownsRow_made (base := w.heap.size + 1) (e := 22) (size := 4) x1 #[] 0 A3.lt (by decide) rfl
    have A1 : CAt (x1.alloc (.cells #[] 22)) g (n * 4) h := A1.alloc _
    have A3 : Blk (x1.alloc (.cells #[] 22)) w.heap.size 4 f 22 := A3.alloc _
    have HW : Hid (Below w.heap.size w (x1.alloc (.cells #[] 22))) := HW.out.alloc HW.out.size _
    have B6 : Blk (x1.alloc (.cells #[] 22)) x0.heap.size 4 f 22 := B6.alloc _
    have HSx2 : (x1.alloc (.cells #[] 22)).heap.size = x1.heap.size + 1 := by simp
    generalize (x1.alloc (.cells #[] 22)) = x2 at *
    refine hK.out _ _ ⟨A1, A3⟩ (fun hHeld => ?_)
    clear hK K hHeld
    try simp only [Act.put, List.setIfInBounds_toArray, List.set_cons_zero, List.set_cons_succ]
    refine wpAnyH_ready (rs := [4]) (by kernel_rfl) (by simp) ?_
    refine AllReadyH.cons rfl (fun K hK => ?_) AllReadyH.nil
    rw [if_pos (by rfl)]
    refine wp_app (v := .slice (some ⟨x1.heap.size, 0, none⟩) 0 0) _ _ 68 rfl (w.heap.size + 1) 22 i0 _ 4 32 Try.underlying68 hi hz0 hz1 hz2 rfl (by decide) rfl R0 g 0 k cap h (n * 4) rfl A1 (by omega) (by unfold maxLen; omega) (by omega) (by have := A3.lt; omega) ?_
    intro v1 y4 R1 hbl hgr
    have A1 := A1.low hbl (by omega)
    have A3 := A3.below hbl (by omega)
    have HW : Hid (Below w.heap.size w y4) := HW.out.trans (hbl.mono (by omega))
    have B6 := B6.grown hgr (by intro e; simp only [Value.ownBlock, Option.some.injEq] at e; omega)
    clear hbl hgr R0
    refine hK.out _ _ ⟨A1, A3⟩ (fun hHeld => ?_)
    clear hK K hHeld
    try simp only [Act.put, List.setIfInBounds_toArray, List.set_cons_zero, List.set_cons_succ]
    refine wpAnyH_ready (rs := [7]) (by kernel_rfl) (by simp) ?_
    refine AllReadyH.cons rfl (fun K hK => ?_) AllReadyH.nil
    rw [if_pos (by rfl)]
    refine wp_app (v := v1) _ _ 68 rfl (w.heap.size + 1) 22 i0 _ 4 32 Try.underlying68 hi hz0 hz1 hz2 rfl (by decide) rfl R1 x0.heap.size 0 1 1 f 4 rfl B6.at (by omega) (by unfold maxLen; omega) (by omega) (by have := A3.lt; omega) ?_
    intro v2 y7 R2 hbl hgr
    have A1 := A1.low hbl (by omega)
    have A3 := A3.below hbl (by omega)
    have HW : Hid (Below w.heap.size w y7) := HW.out.trans (hbl.mono (by omega))
    clear hbl hgr R1
    refine hK.out _ _ ⟨A1, A3⟩ (fun hHeld => ?_)
    clear hK K hHeld
    try simp only [Act.put, List.setIfInBounds_toArray, List.set_cons_zero, List.set_cons_succ]
    clear B6
    refine wpAnyH_ready (rs := [11]) (by kernel_rfl) (by simp) ?_
    refine AllReadyH.cons rfl (fun K hK => ?_) AllReadyH.nil
    rw [if_pos (by rfl)]
    refine wp_app (v := v2) _ _ 68 rfl (w.heap.size + 1) 22 i0 _ 4 32 Try.underlying68 hi hz0 hz1 hz2 rfl (by decide) rfl R2 g o (n - k) (cap - k) h (n * 4) rfl A1 (by omega) (by unfold maxLen; omega) (by omega) (by have := A3.lt; omega) ?_
    intro v3 y8 R3 hbl hgr
    have A1 := A1.low hbl (by omega)
    have A3 := A3.below hbl (by omega)
    have HW : Hid (Below w.heap.size w y8) := HW.out.trans (hbl.mono (by omega))
    clear hbl hgr R2
    refine hK.out _ _ ⟨A1, A3⟩ (fun hHeld => ?_)
    clear hK K
    try simp only [Act.put, List.setIfInBounds_toArray, List.set_cons_zero, List.set_cons_succ]
    refine wpAnyH_take (i := 12) (oi := { dst := some 4, op := _, type := _, pos := _, after := _, guard := _ }) (v := v3) rfl (by kernel_rfl) (by kernel_rfl) (by kernel_rfl) (fun _ _ _ h => h) (Or.inl ⟨by rfl, by intro w hSw; clear hSw; go_simp; (try with_reducible rfl)⟩) (by assumption) ?_
    try simp only [Act.put, List.setIfInBounds_toArray, List.set_cons_zero, List.set_cons_succ]
    refine wpAnyH_done (by kernel_rfl) ?_ _
    have R3 := R3
    rw [show 0 + k + 1 + (n - k) = n + 1 by omega, HF.out] at R3
    obtain ⟨g', cap', hv'⟩ := ownsRow_succ R3
    have HV := Lib.hid hv'
    have HR3 := Lib.hid R3
    clear hv' R3
    go_wp2_with fail
    go_ret
    rw [HI.out]
    refine ⟨g', cap', ?_, ?_, HW.out⟩
    · rw [HV.out, List.length_append, List.length_cons, List.length_take, List.length_drop, hN, show min k n + (n - k + 1) = n + 1 by omega]; rfl
    · show OwnsL _ _ _ _ _ _
      have e := HR3.out
      rw [HV.out] at e
      unfold OwnsL
      rw [show (L.take k ++ cl 4 f :: L.drop k).length = n + 1 by rw [List.length_append, List.length_cons, List.length_take, List.length_drop, hN]; omega]
      exact ownsRow_wide e (by omega)
end Go.Proofs.Ytphkidkkcknnmaa
