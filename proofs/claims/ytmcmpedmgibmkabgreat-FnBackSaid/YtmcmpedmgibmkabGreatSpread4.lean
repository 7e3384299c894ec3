/-
  Several texts in one:
  The contracts of the reference's l1Has, l4Less, l4Place and l4Put: a row of four put to its place among others.
  The contract of the reference's l4Spread: all rows that have some tiles, in order.
  The contracts of bits.OnesCount at small numbers and of the program's spread.
  The contract of the reference's l4Before, for every valid row.
-/
import Derived.Test.YtmcmpedmgibmkabGreatRowsKit
import Derived.Test.YtmcmpedmgibmkabGreatMapDist
import Derived.Test.YtmcmpedmgibmkabGreatPlainA
import Derived.Deep.QuietTactic
import Derived.BigQuiet
import Derived.Test.YtmcmpedmgibmkabGreatSpecRow
namespace Go.Proofs.YtmcmpedmgibmkabGreat
open Go.RowKit Plain
attribute [local go_sem] store_new
attribute [local go_sem] Oper.semAt_some
set_option linter.unusedVariables false
set_option linter.unusedSimpArgs false

set_option maxHeartbeats 1000000 in
theorem l1Has_any (g cap : Nat) (xs : List Int) (x : Int) (w : World) (hc : CAt w g xs.length fun i => xs.getD i 0) (hn : xs.length ≤ 1048576) :
    Calls Tryz.prog 106 #[.slice (some ⟨g, 0, none⟩) xs.length cap, .int .i64 x] w fun e w' => e = .returned (.bool (decide (x ∈ xs))) ∧ w = w' := by
  have HC : Hid (∀ k y, xs[k]? = some y → w.cell? ⟨g, k, none⟩ = some (.int .i64 y)) := fun k y hk => by
    have := hc.2 k (List.getElem?_eq_some_iff.1 hk).1
    simpa [List.getD, hk] using this
  clear hc
  generalize hN : xs.length = n at *
  go_enter Tryz.func106, Tryz.ntmps106
  go_wp2
  go_loop [5] (fun i => ∃ k : Nat, k ≤ n ∧ i = .int .i64 k ∧ ∀ j y, j < k → xs[j]? = some y → y ≠ x) (fun i => n - (intOf i).toNat)
  case atStart => exact ⟨0, Nat.zero_le _, rfl, fun j y hj => by omega⟩
  case round =>
    obtain ⟨k, hk, rfl, hp⟩ := hrel
    have HP := Lib.hid hp
    clear hp
    by_cases hlt : k < n
    · have hk0 : (0 : Int) ≤ (k : Int) := by omega
      have hl : (k : Int) < (n : Int) := by omega
      obtain ⟨y, hy⟩ : ∃ y, xs[k]? = some y := ⟨xs[k]'(by omega), List.getElem?_eq_getElem _⟩
      have HY := Lib.hid hy
      have c1 := HC.out k y hy
      clear hy
      by_cases hq : y = x
      · have HD : Hid (decide (x ∈ xs) = true) := decide_eq_true (by rw [← hq]; exact List.mem_of_getElem? HY.out)
        have q1 : (y == x) = true := by simpa using hq
        clear hq
        go_wp2
        go_ret
        exact ⟨by rw [HD.out]; rfl, rfl⟩
      · have HQ := Lib.hid hq
        have q1 : (y == x) = false := by simpa using hq
        clear hq
        go_wp2
        go_round
        case rel => exact ⟨k + 1, by omega, by go_num, fun j z hj hz => by
          rcases (by omega : j < k ∨ j = k) with p | rfl
          · exact HP.out j z p hz
          · rw [HY.out] at hz; cases hz; exact HQ.out⟩
        case measure => simp [intOf]; omega
    · obtain rfl : k = n := by omega
      have HD : Hid (decide (x ∈ xs) = false) := decide_eq_false fun hm => by
        obtain ⟨j, hj⟩ := List.getElem?_of_mem hm
        exact HP.out j x (by have := (List.getElem?_eq_some_iff.1 hj).1; omega) hj rfl
      go_wp2
      go_ret
      exact ⟨by rw [HD.out]; rfl, rfl⟩

set_option maxHeartbeats 1000000 in
set_option maxRecDepth 20000 in
theorem l4Less_any (f g : Nat → Int) (w : World) :
    Calls Tryz.prog 126 #[.agg (mk 4 f), .agg (mk 4 g)] w fun e w' => e = .returned (.bool (decide (lessN 4 f g))) ∧ Below w.heap.size w w' := by
  have K1 := (Blk.new w 4 f 24).alloc (.cells (mk 4 g) 24)
  have K2 := Blk.new (w.alloc (.cells (mk 4 f) 24)) 4 g 24
  have HB := Lib.hid (((Below.refl w.heap.size w).alloc (Nat.le_refl _) (.cells (mk 4 f) 24)).alloc (by simp) (.cells (mk 4 g) 24))
  simp only [World.size_alloc] at K2
  go_enter Tryz.func126, Tryz.ntmps126
  go_wp2_with fail
  generalize (w.alloc (.cells (mk 4 f) 24)).alloc (.cells (mk 4 g) 24) = w1 at *
  go_loopg [5] 4 (fun n s5 wr => ∃ c : Nat, c + n = 4 ∧ s5 = .int .i64 c ∧ (∀ i, i < c → f i = g i) ∧ Blk wr w.heap.size 4 f 24 ∧ Blk wr (w.heap.size + 1) 4 g 24 ∧ Hid (Below w.heap.size w wr))
  case atStart => exact ⟨0, by omega, rfl, fun i hi => by omega, K1, K2, HB⟩
  case round =>
    obtain ⟨c, hch, rfl, he, k1, k2, hb⟩ := hrel
    have HE := Lib.hid he
    clear he
    cases gk with
    | zero =>
      have hc : ¬ ((c : Int) < 4) := by omega
      obtain rfl : c = 4 := by omega
      have HL : Hid (decide (lessN 4 f g) = false) := decide_eq_false (lessN_none HE.out)
      clear hch hc
      go_wp2_with fail
      go_ret
      exact ⟨by rw [HL.out]; rfl, hb.out⟩
    | succ m =>
      have hc : (c : Int) < 4 := by omega
      have hc0 : (0 : Int) ≤ (c : Int) := by omega
      have c1 := k1.cell (i := c) (by omega)
      have c2 := k2.cell (i := c) (by omega)
      by_cases hq : f c = g c
      · have HQ := Lib.hid hq
        rw [← hq] at c2
        clear hq
        generalize f c = x at c1 c2
        go_wp2_with fail
        go_quiet (fail)
        go_wp2_with fail
        go_roundg m
        case rel => exact ⟨c + 1, by omega, by go_num, fun i hi => by
          by_cases e : i = c
          · subst e; exact HQ.out
          · exact HE.out i (by omega), k1.drewN _, k2.drewN _, below_drewN hb.out _⟩
        case measure => omega
      · have HL : Hid (decide (lessN 4 f g) = decide (f c < g c)) := by
          show _ = _
          rw [Bool.eq_iff_iff, decide_eq_true_iff, decide_eq_true_iff]; exact lessN_at (by omega) HE.out hq
        have q1 : (f c != g c) = true := by simpa using hq
        clear hq
        go_wp2_with fail
        go_quiet (fail)
        go_wp2_with fail
        go_quiet (fail)
        go_wp2_with fail
        go_ret
        exact ⟨by rw [HL.out]; rfl, below_drewN (below_drewN hb.out _) _⟩

theorem lt_less4 {L : List (List Int)} (ha : AllL 4 L) {k : Nat} {l : List Int} (h : L[k]? = some l) (f : Nat → Int) : lt 4 l (cl 4 f) = decide (lessN 4 (fun j => flatF L (k * 4 + j)) f) := by
  unfold lt
  rw [Bool.eq_iff_iff, decide_eq_true_iff, decide_eq_true_iff]
  exact lessN_congr (fun i hi => (flatF_at ha h hi).symm) (fn_cl f)
theorem eq_same4 {L : List (List Int)} (ha : AllL 4 L) {k : Nat} {l : List Int} (h : L[k]? = some l) (f : Nat → Int) : l = cl 4 f ↔ sameR (fun j => flatF L (k * 4 + j)) f = true := by
  rw [sameR_iff, ← cl_fn (ha l (List.mem_of_getElem? h)), cl_inj]
  constructor
  · intro e i hi; rw [flatF_at ha h hi]; exact e i hi
  · intro e i hi; rw [← flatF_at ha h hi]; exact e i hi
set_option maxHeartbeats 4000000 in
set_option maxRecDepth 20000 in
theorem l4Place_any (g cap : Nat) (L : List (List Int)) (f : Nat → Int) (w : World) (ha : AllL 4 L) (hn : L.length ≤ 65536) (hcap : L.length ≤ cap) (hc : CAt w g (L.length * 4) (flatF L)) :
    Calls Tryz.prog 122 #[.slice (some ⟨g, 0, none⟩) L.length cap, .agg (mk 4 f)] w fun e w' => e = .returned (.int .i64 (plcL (lt 4) (cl 4 f) L : Nat)) ∧ Below w.heap.size w w' := by
  have K3 := Blk.new w 4 f 24
  have HB := Lib.hid ((Below.refl w.heap.size w).alloc (Nat.le_refl _) (.cells (mk 4 f) 24))
  have HC : CAt (w.alloc (.cells (mk 4 f) 24)) g (L.length * 4) (flatF L) := hc.below ((Below.refl _ w).alloc (Nat.le_refl _) _)
  have HLT := Lib.hid (fun k l (e : L[k]? = some l) => lt_less4 ha e f)
  have HGE := Lib.hid (fun k (hk : k < L.length) => (show ∃ l, L[k]? = some l from ⟨L[k], List.getElem?_eq_getElem hk⟩))
  have HPL := Lib.hid (plc_eq (lt 4) (cl 4 f) L)
  generalize hN : L.length = n at *
  generalize hH : flatF L = h at *
  clear hc
  go_enter Tryz.func122, Tryz.ntmps122
  go_wp2_with fail
  generalize w.alloc (.cells (mk 4 f) 24) = w1 at *
  go_loopw [5] (fun i wr => ∃ k : Nat, k ≤ n ∧ i = .int .i64 k ∧ (∀ j x, j < k → L[j]? = some x → lt 4 x (cl 4 f) = true) ∧ CAt wr g (n * 4) h ∧ Blk wr w.heap.size 4 f 24 ∧ Hid (Below w.heap.size w wr)) (fun i _ => n - (intOf i).toNat)
  case atStart => exact ⟨0, Nat.zero_le _, rfl, fun j x hj => by omega, HC, K3, HB⟩
  case round =>
    obtain ⟨k, hk, rfl, hp, k1, k3, hb⟩ := hrel
    have HP := Lib.hid hp
    clear hp HC K3 HB
    by_cases hlt : k < n
    · have hk0 : (0 : Int) ≤ (k : Int) := by omega
      have hl : (k : Int) < (n : Int) := by omega
      obtain ⟨l, hkl⟩ := HGE.out k hlt
      have HKL := Lib.hid hkl
      have HL := Lib.hid (HLT.out k l hkl)
      clear hkl
      go_wp2_with fail
      have k1 : CAt wr.drew g (n * 4) h := k1.drew
      have k3 : Blk wr.drew w.heap.size 4 f 24 := k3.drew
      have hb : Hid (Below w.heap.size w wr.drew) := hb.out.drew
      refine wp_region_held_drew (S := fun W => CAt W g (n * 4) h ∧ Blk W w.heap.size 4 f 24) (by kernel_rfl) (⟨k1, k3⟩) (fun hHeld => ?_)
      generalize wr.drew = x0 at *
      refine wpAnyH_take (i := 0) (oi := { dst := some 6, op := _, type := _, pos := _, after := _, guard := _ }) (v := .int .i64 (k : Int)) rfl (by kernel_rfl) (by kernel_rfl) (by kernel_rfl) (fun _ _ _ h => h) (Or.inl ⟨by rfl, by intro w hSw; clear hSw; go_simp; (try with_reducible rfl)⟩) (by assumption) ?_
      try simp only [Act.put, List.setIfInBounds_toArray, List.set_cons_zero, List.set_cons_succ]
      refine wpAnyH_take (i := 1) (oi := { dst := some 7, op := _, type := _, pos := _, after := _, guard := _ }) (v := .slice (some ⟨g, 0, none⟩) n cap) rfl (by kernel_rfl) (by kernel_rfl) (by kernel_rfl) (fun _ _ _ h => h) (Or.inl ⟨by rfl, by intro w hSw; clear hSw; go_simp; (try with_reducible rfl)⟩) (by assumption) ?_
      try simp only [Act.put, List.setIfInBounds_toArray, List.set_cons_zero, List.set_cons_succ]
      refine wpAnyH_take (i := 2) (oi := { dst := some 8, op := _, type := _, pos := _, after := _, guard := _ }) (v := .int .i64 (n : Int)) rfl (by kernel_rfl) (by kernel_rfl) (by kernel_rfl) (fun _ _ _ h => h) (Or.inl ⟨by rfl, by intro w hSw; clear hSw; go_simp; (try with_reducible rfl)⟩) (by assumption) ?_
      try simp only [Act.put, List.setIfInBounds_toArray, List.set_cons_zero, List.set_cons_succ]
      refine wpAnyH_take (i := 3) (oi := { dst := some 9, op := _, type := _, pos := _, after := _, guard := _ }) (v := .bool true) rfl (by kernel_rfl) (by kernel_rfl) (by kernel_rfl) (fun _ _ _ h => h) (Or.inl ⟨by rfl, by intro w hSw; clear hSw; go_simp; (try with_reducible rfl)⟩) (by assumption) ?_
      try simp only [Act.put, List.setIfInBounds_toArray, List.set_cons_zero, List.set_cons_succ]
      refine wpAnyH_take (i := 4) (oi := { dst := some 10, op := _, type := _, pos := _, after := _, guard := _ }) (v := .bool true) rfl (by kernel_rfl) (by kernel_rfl) (by kernel_rfl) (fun _ _ _ h => h) (Or.inl ⟨by rfl, by intro w hSw; clear hSw; go_simp; (try with_reducible rfl)⟩) (by assumption) ?_
      try simp only [Act.put, List.setIfInBounds_toArray, List.set_cons_zero, List.set_cons_succ]
      refine wpAnyH_take (i := 5) (oi := { dst := some 11, op := _, type := _, pos := _, after := _, guard := _ }) (v := .slice (some ⟨g, 0, none⟩) n cap) rfl (by kernel_rfl) (by kernel_rfl) (by kernel_rfl) (fun _ _ _ h => h) (Or.inl ⟨by rfl, by intro w hSw; clear hSw; go_simp; (try with_reducible rfl)⟩) (by assumption) ?_
      try simp only [Act.put, List.setIfInBounds_toArray, List.set_cons_zero, List.set_cons_succ]
      refine wpAnyH_take (i := 6) (oi := { dst := some 12, op := _, type := _, pos := _, after := _, guard := _ }) (v := .int .i64 (k : Int)) rfl (by kernel_rfl) (by kernel_rfl) (by kernel_rfl) (fun _ _ _ h => h) (Or.inl ⟨by rfl, by intro w hSw; clear hSw; go_simp; (try with_reducible rfl)⟩) (by assumption) ?_
      try simp only [Act.put, List.setIfInBounds_toArray, List.set_cons_zero, List.set_cons_succ]
      refine wpAnyH_take (i := 7) (oi := { dst := some 13, op := _, type := _, pos := _, after := _, guard := _ }) (v := .pointer (some ⟨g, k * 4, none⟩)) rfl (by kernel_rfl) (by kernel_rfl) (by kernel_rfl) (fun _ _ _ h => h) (Or.inl ⟨by rfl, by intro w hSw; clear hSw; go_simp; (try with_reducible rfl)⟩) (by assumption) ?_
      try simp only [Act.put, List.setIfInBounds_toArray, List.set_cons_zero, List.set_cons_succ]
      refine wpAnyH_take (i := 8) (oi := { dst := some 14, op := _, type := _, pos := _, after := _, guard := _ }) (v := .agg (mk 4 fun j => h (k * 4 + j))) rfl (by kernel_rfl) (by kernel_rfl) (by kernel_rfl) (fun _ _ _ h => h) (Or.inl ⟨by rfl, fun _ q => execAR q.1 (by omega) rfl rfl⟩) (by assumption) ?_
      try simp only [Act.put, List.setIfInBounds_toArray, List.set_cons_zero, List.set_cons_succ]
      refine wpAnyH_take (i := 9) (oi := { dst := some 15, op := _, type := _, pos := _, after := _, guard := _ }) (v := .agg (mk 4 f)) rfl (by kernel_rfl) (by kernel_rfl) (by kernel_rfl) (fun _ _ _ h => h) (Or.inl ⟨by rfl, fun _ q => exec_load_blk _ _ rfl rfl q.2 Tryz.underlying24 rfl sizeR⟩) (by assumption) ?_
      try simp only [Act.put, List.setIfInBounds_toArray, List.set_cons_zero, List.set_cons_succ]
      refine wpAnyH_ready (rs := [10]) (by kernel_rfl) (by simp) ?_
      refine AllReadyH.cons rfl (fun K hK => ?_) AllReadyH.nil
      go_simp
      refine (l4Less_any _ _ _).mono ?_
      rintro e x1 ⟨rfl, hb6⟩
      have k1 := k1.below hb6
      have k3 := k3.below hb6 k3.lt
      have hb : Hid (Below w.heap.size w x1) := hb.out.trans (hb6.mono hb.out.size)
      clear hb6 hHeld
      go_wp2_with fail
      refine hK.out _ _ ⟨k1, k3⟩ (fun hHeld => ?_)
      clear hK K
      try simp only [Act.put, List.setIfInBounds_toArray, List.set_cons_zero, List.set_cons_succ]
      refine wpAnyH_take (i := 11) (oi := { dst := some 17, op := _, type := _, pos := _, after := _, guard := _ }) (v := .bool (decide (lessN 4 (fun j => h (k * 4 + j)) f))) rfl (by kernel_rfl) (by kernel_rfl) (by kernel_rfl) (fun _ _ _ h => h) (Or.inl ⟨by rfl, by intro w hSw; clear hSw; go_simp; (try with_reducible rfl)⟩) (by assumption) ?_
      try simp only [Act.put, List.setIfInBounds_toArray, List.set_cons_zero, List.set_cons_succ]
      refine wpAnyH_done (by kernel_rfl) ?_ _
      clear hHeld
      generalize hq : decide (lessN 4 (fun j => h (k * 4 + j)) f) = q at *
      have HQ := Lib.hid hq
      clear hq
      cases q with
      | true =>
        have HL2 : Hid (lt 4 l (cl 4 f) = true) := HL.out
        go_wp2_with fail
        go_roundw
        case rel => exact ⟨k + 1, by omega, by go_num, fun j x hj hx => by
          rcases (by omega : j < k ∨ j = k) with r | rfl
          · exact HP.out j x r hx
          · rw [HKL.out] at hx; cases hx; exact HL2.out, k1, k3, hb⟩
        case measure => simp [intOf]; omega
      | false =>
        have HL2 : Hid (lt 4 l (cl 4 f) = false) := HL.out
        have HK : Hid (plcL (lt 4) (cl 4 f) L = k) := HPL.out k (by omega) (fun j x hj hx => HP.out j x hj hx) (fun x hx => by rw [HKL.out] at hx; cases hx; exact HL2.out)
        go_wp2_with fail
        go_ret
        exact ⟨by rw [HK.out]; rfl, hb.out⟩
    · have hkn : k ≤ n := hk
      have hlt2 : ¬ ((k : Int) < (n : Int)) := by omega
      have HK : Hid (plcL (lt 4) (cl 4 f) L = k) := HPL.out k (by omega) (fun j x hj hx => HP.out j x hj hx) (fun x hx => by
        have := (List.getElem?_eq_some_iff.1 hx).1; omega)
      go_wp2_with fail
      have k1 : CAt wr.drew g (n * 4) h := k1.drew
      have k3 : Blk wr.drew w.heap.size 4 f 24 := k3.drew
      have hb : Hid (Below w.heap.size w wr.drew) := hb.out.drew
      refine wp_region_held_drew (S := fun W => CAt W g (n * 4) h ∧ Blk W w.heap.size 4 f 24) (by kernel_rfl) (⟨k1, k3⟩) (fun hHeld => ?_)
      generalize wr.drew = x0 at *
      refine wpAnyH_take (i := 0) (oi := { dst := some 6, op := _, type := _, pos := _, after := _, guard := _ }) (v := .int .i64 (k : Int)) rfl (by kernel_rfl) (by kernel_rfl) (by kernel_rfl) (fun _ _ _ h => h) (Or.inl ⟨by rfl, by intro w hSw; clear hSw; go_simp; (try with_reducible rfl)⟩) (by assumption) ?_
      try simp only [Act.put, List.setIfInBounds_toArray, List.set_cons_zero, List.set_cons_succ]
      refine wpAnyH_take (i := 1) (oi := { dst := some 7, op := _, type := _, pos := _, after := _, guard := _ }) (v := .slice (some ⟨g, 0, none⟩) n cap) rfl (by kernel_rfl) (by kernel_rfl) (by kernel_rfl) (fun _ _ _ h => h) (Or.inl ⟨by rfl, by intro w hSw; clear hSw; go_simp; (try with_reducible rfl)⟩) (by assumption) ?_
      try simp only [Act.put, List.setIfInBounds_toArray, List.set_cons_zero, List.set_cons_succ]
      refine wpAnyH_take (i := 2) (oi := { dst := some 8, op := _, type := _, pos := _, after := _, guard := _ }) (v := .int .i64 (n : Int)) rfl (by kernel_rfl) (by kernel_rfl) (by kernel_rfl) (fun _ _ _ h => h) (Or.inl ⟨by rfl, by intro w hSw; clear hSw; go_simp; (try with_reducible rfl)⟩) (by assumption) ?_
      try simp only [Act.put, List.setIfInBounds_toArray, List.set_cons_zero, List.set_cons_succ]
      refine wpAnyH_take (i := 3) (oi := { dst := some 9, op := _, type := _, pos := _, after := _, guard := _ }) (v := .bool false) rfl (by kernel_rfl) (by kernel_rfl) (by kernel_rfl) (fun _ _ _ h => h) (Or.inl ⟨by rfl, by intro w hSw; clear hSw; go_simp; (try with_reducible rfl)⟩) (by assumption) ?_
      try simp only [Act.put, List.setIfInBounds_toArray, List.set_cons_zero, List.set_cons_succ]
      refine wpAnyH_take (i := 4) (oi := { dst := some 10, op := _, type := _, pos := _, after := _, guard := _ }) (v := .bool false) rfl (by kernel_rfl) (by kernel_rfl) (by kernel_rfl) (fun _ _ _ h => h) (Or.inl ⟨by rfl, by intro w hSw; clear hSw; go_simp; (try with_reducible rfl)⟩) (by assumption) ?_
      try simp only [Act.put, List.setIfInBounds_toArray, List.set_cons_zero, List.set_cons_succ]
      refine wpAnyH_take (i := 5) (oi := { dst := some 11, op := _, type := _, pos := _, after := _, guard := _ }) (v := undef) rfl (by kernel_rfl) (by kernel_rfl) (by kernel_rfl) (fun _ _ _ h => h) (Or.inr ⟨by rfl, rfl⟩) (by assumption) ?_
      try simp only [Act.put, List.setIfInBounds_toArray, List.set_cons_zero, List.set_cons_succ]
      refine wpAnyH_take (i := 6) (oi := { dst := some 12, op := _, type := _, pos := _, after := _, guard := _ }) (v := undef) rfl (by kernel_rfl) (by kernel_rfl) (by kernel_rfl) (fun _ _ _ h => h) (Or.inr ⟨by rfl, rfl⟩) (by assumption) ?_
      try simp only [Act.put, List.setIfInBounds_toArray, List.set_cons_zero, List.set_cons_succ]
      refine wpAnyH_take (i := 7) (oi := { dst := some 13, op := _, type := _, pos := _, after := _, guard := _ }) (v := undef) rfl (by kernel_rfl) (by kernel_rfl) (by kernel_rfl) (fun _ _ _ h => h) (Or.inr ⟨by rfl, rfl⟩) (by assumption) ?_
      try simp only [Act.put, List.setIfInBounds_toArray, List.set_cons_zero, List.set_cons_succ]
      refine wpAnyH_take (i := 8) (oi := { dst := some 14, op := _, type := _, pos := _, after := _, guard := _ }) (v := undef) rfl (by kernel_rfl) (by kernel_rfl) (by kernel_rfl) (fun _ _ _ h => h) (Or.inr ⟨by rfl, rfl⟩) (by assumption) ?_
      try simp only [Act.put, List.setIfInBounds_toArray, List.set_cons_zero, List.set_cons_succ]
      refine wpAnyH_take (i := 9) (oi := { dst := some 15, op := _, type := _, pos := _, after := _, guard := _ }) (v := undef) rfl (by kernel_rfl) (by kernel_rfl) (by kernel_rfl) (fun _ _ _ h => h) (Or.inr ⟨by rfl, rfl⟩) (by assumption) ?_
      try simp only [Act.put, List.setIfInBounds_toArray, List.set_cons_zero, List.set_cons_succ]
      refine wpAnyH_take (i := 10) (oi := { dst := some 16, op := _, type := _, pos := _, after := _, guard := _ }) (v := undef) rfl (by kernel_rfl) (by kernel_rfl) (by kernel_rfl) (fun _ _ _ h => h) (Or.inr ⟨by rfl, rfl⟩) (by assumption) ?_
      try simp only [Act.put, List.setIfInBounds_toArray, List.set_cons_zero, List.set_cons_succ]
      refine wpAnyH_take (i := 11) (oi := { dst := some 17, op := _, type := _, pos := _, after := _, guard := _ }) (v := .bool false) rfl (by kernel_rfl) (by kernel_rfl) (by kernel_rfl) (fun _ _ _ h => h) (Or.inl ⟨by rfl, by intro w hSw; clear hSw; go_simp; (try with_reducible rfl)⟩) (by assumption) ?_
      try simp only [Act.put, List.setIfInBounds_toArray, List.set_cons_zero, List.set_cons_succ]
      refine wpAnyH_done (by kernel_rfl) ?_ _
      clear hHeld
      go_wp2_with fail
      go_ret
      exact ⟨by rw [HK.out]; rfl, hb.out⟩

set_option maxHeartbeats 8000000 in
set_option maxRecDepth 20000 in
theorem l4Put_any (g cap base : Nat) (L : List (List Int)) (f : Nat → Int) (w : World) (ha : AllL 4 L) (hn : L.length ≤ 65536) (ho : OwnsL 24 4 w base (.slice (some ⟨g, 0, none⟩) L.length cap) L) :
    Calls Tryz.prog 108 #[.slice (some ⟨g, 0, none⟩) L.length cap, .agg (mk 4 f)] w fun e w' => ∃ g' cap', e = .returned (.slice (some ⟨g', 0, none⟩) (insL (lt 4) L (cl 4 f)).length cap') ∧
      OwnsL 24 4 w' base (.slice (some ⟨g', 0, none⟩) (insL (lt 4) L (cl 4 f)).length cap') (insL (lt 4) L (cl 4 f)) ∧ Below w.heap.size w w' := by
  obtain ⟨i0, hi, hz0, hz1, hz2⟩ := info_parts infoR
  have HO := Lib.hid ho
  obtain ⟨_, _, e1, hcap, hc⟩ := KRow.of_list ha ho
  cases e1
  have K3 := Blk.new w 4 f 24
  have HB := Lib.hid ((Below.refl w.heap.size w).alloc (Nat.le_refl _) (.cells (mk 4 f) 24))
  have HC : CAt (w.alloc (.cells (mk 4 f) 24)) g (L.length * 4) (flatF L) := hc.below ((Below.refl _ w).alloc (Nat.le_refl _) _)
  have hgw : g < w.heap.size := hc.1
  have HEQ := Lib.hid (fun k l (e : L[k]? = some l) => eq_same4 ha e f)
  have HGE := Lib.hid (fun k (hk : k < L.length) => (show ∃ l, L[k]? = some l from ⟨L[k], List.getElem?_eq_getElem hk⟩))
  have hpl := plc_le (lt 4) (cl 4 f) L
  have hcon := l4Place_any g cap L f (w.alloc (.cells (mk 4 f) 24)) ha hn hcap HC
  generalize hN : L.length = n at *
  generalize hH : flatF L = h at *
  clear hc ho
  go_enter Tryz.func108, Tryz.ntmps108
  go_wp2_with ((with_reducible show wpList _ _ _ (Oper.mk _ (Op.load 24 _) _ _ _ _ :: _) _ _); refine loadR (K3) rfl rfl rfl ?_)
  refine hcon.mono ?_
  rintro e wr ⟨rfl, hb⟩
  have k1 := HC.below hb
  have k3 := K3.below hb K3.lt
  have hb : Hid (Below w.heap.size w wr) := HB.out.trans (hb.mono HB.out.size)
  clear hcon HC K3 HB
  generalize hK : plcL (lt 4) (cl 4 f) L = k at *
  have HK := Lib.hid hK
  clear hK
  have hkn : k ≤ n := hpl
  by_cases hlt : k < n
  · have hk0 : (0 : Int) ≤ (k : Int) := by omega
    have hl : (k : Int) < (n : Int) := by omega
    obtain ⟨l, hkl⟩ := HGE.out k hlt
    have HKL := Lib.hid hkl
    have HE := Lib.hid (HEQ.out k l hkl)
    clear hkl
    have iE : ∀ (w : World), (Op.equalIn 10000 24 (.agg (mk 4 fun j => h (k * 4 + j))) (.agg (mk 4 f))).run Tryz.prog w = .ok (sameR (fun j => h (k * 4 + j)) f) w := fun w => eqR 9998 _ _ w
    generalize hr : sameR (fun j => h (k * 4 + j)) f = r at *
    have HR := Lib.hid hr
    clear hr
    go_wp2_with fail
    have k1 : CAt wr.drew g (n * 4) h := k1.drew
    have k3 : Blk wr.drew w.heap.size 4 f 24 := k3.drew
    have hb : Hid (Below w.heap.size w wr.drew) := hb.out.drew
    refine wp_region_held_drew (S := fun W => CAt W g (n * 4) h ∧ Blk W w.heap.size 4 f 24) (by kernel_rfl) (⟨k1, k3⟩) (fun hHeld => ?_)
    generalize wr.drew = x0 at *
    refine wpAnyH_take (i := 0) (oi := { dst := some 9, op := _, type := _, pos := _, after := _, guard := _ }) (v := .int .i64 (k : Int)) rfl (by kernel_rfl) (by kernel_rfl) (by kernel_rfl) (fun _ _ _ h => h) (Or.inl ⟨by rfl, by intro w hSw; clear hSw; go_simp; (try with_reducible rfl)⟩) (by assumption) ?_
    try simp only [Act.put, List.setIfInBounds_toArray, List.set_cons_zero, List.set_cons_succ]
    refine wpAnyH_take (i := 1) (oi := { dst := some 10, op := _, type := _, pos := _, after := _, guard := _ }) (v := .slice (some ⟨g, 0, none⟩) n cap) rfl (by kernel_rfl) (by kernel_rfl) (by kernel_rfl) (fun _ _ _ h => h) (Or.inl ⟨by rfl, by intro w hSw; clear hSw; go_simp; (try with_reducible rfl)⟩) (by assumption) ?_
    try simp only [Act.put, List.setIfInBounds_toArray, List.set_cons_zero, List.set_cons_succ]
    refine wpAnyH_take (i := 2) (oi := { dst := some 11, op := _, type := _, pos := _, after := _, guard := _ }) (v := .int .i64 (n : Int)) rfl (by kernel_rfl) (by kernel_rfl) (by kernel_rfl) (fun _ _ _ h => h) (Or.inl ⟨by rfl, by intro w hSw; clear hSw; go_simp; (try with_reducible rfl)⟩) (by assumption) ?_
    try simp only [Act.put, List.setIfInBounds_toArray, List.set_cons_zero, List.set_cons_succ]
    refine wpAnyH_take (i := 3) (oi := { dst := some 12, op := _, type := _, pos := _, after := _, guard := _ }) (v := .bool true) rfl (by kernel_rfl) (by kernel_rfl) (by kernel_rfl) (fun _ _ _ h => h) (Or.inl ⟨by rfl, by intro w hSw; clear hSw; go_simp; (try with_reducible rfl)⟩) (by assumption) ?_
    try simp only [Act.put, List.setIfInBounds_toArray, List.set_cons_zero, List.set_cons_succ]
    refine wpAnyH_take (i := 4) (oi := { dst := some 13, op := _, type := _, pos := _, after := _, guard := _ }) (v := .bool true) rfl (by kernel_rfl) (by kernel_rfl) (by kernel_rfl) (fun _ _ _ h => h) (Or.inl ⟨by rfl, by intro w hSw; clear hSw; go_simp; (try with_reducible rfl)⟩) (by assumption) ?_
    try simp only [Act.put, List.setIfInBounds_toArray, List.set_cons_zero, List.set_cons_succ]
    refine wpAnyH_take (i := 5) (oi := { dst := some 14, op := _, type := _, pos := _, after := _, guard := _ }) (v := .slice (some ⟨g, 0, none⟩) n cap) rfl (by kernel_rfl) (by kernel_rfl) (by kernel_rfl) (fun _ _ _ h => h) (Or.inl ⟨by rfl, by intro w hSw; clear hSw; go_simp; (try with_reducible rfl)⟩) (by assumption) ?_
    try simp only [Act.put, List.setIfInBounds_toArray, List.set_cons_zero, List.set_cons_succ]
    refine wpAnyH_take (i := 6) (oi := { dst := some 15, op := _, type := _, pos := _, after := _, guard := _ }) (v := .int .i64 (k : Int)) rfl (by kernel_rfl) (by kernel_rfl) (by kernel_rfl) (fun _ _ _ h => h) (Or.inl ⟨by rfl, by intro w hSw; clear hSw; go_simp; (try with_reducible rfl)⟩) (by assumption) ?_
    try simp only [Act.put, List.setIfInBounds_toArray, List.set_cons_zero, List.set_cons_succ]
    refine wpAnyH_take (i := 7) (oi := { dst := some 16, op := _, type := _, pos := _, after := _, guard := _ }) (v := .pointer (some ⟨g, k * 4, none⟩)) rfl (by kernel_rfl) (by kernel_rfl) (by kernel_rfl) (fun _ _ _ h => h) (Or.inl ⟨by rfl, by intro w hSw; clear hSw; go_simp; (try with_reducible rfl)⟩) (by assumption) ?_
    try simp only [Act.put, List.setIfInBounds_toArray, List.set_cons_zero, List.set_cons_succ]
    refine wpAnyH_take (i := 8) (oi := { dst := some 17, op := _, type := _, pos := _, after := _, guard := _ }) (v := .agg (mk 4 fun j => h (k * 4 + j))) rfl (by kernel_rfl) (by kernel_rfl) (by kernel_rfl) (fun _ _ _ h => h) (Or.inl ⟨by rfl, fun _ q => execAR q.1 (by omega) rfl rfl⟩) (by assumption) ?_
    try simp only [Act.put, List.setIfInBounds_toArray, List.set_cons_zero, List.set_cons_succ]
    refine wpAnyH_take (i := 9) (oi := { dst := some 18, op := _, type := _, pos := _, after := _, guard := _ }) (v := .agg (mk 4 f)) rfl (by kernel_rfl) (by kernel_rfl) (by kernel_rfl) (fun _ _ _ h => h) (Or.inl ⟨by rfl, fun _ q => exec_load_blk _ _ rfl rfl q.2 Tryz.underlying24 rfl sizeR⟩) (by assumption) ?_
    try simp only [Act.put, List.setIfInBounds_toArray, List.set_cons_zero, List.set_cons_succ]
    refine wpAnyH_take (i := 10) (oi := { dst := some 19, op := _, type := _, pos := _, after := _, guard := _ }) (v := .bool r) rfl (by kernel_rfl) (by kernel_rfl) (by kernel_rfl) (fun _ _ _ h => h) (Or.inl ⟨by rfl, by intro W hSw; clear hSw; have iE2 := iE W; go_simp⟩) (by assumption) ?_
    try simp only [Act.put, List.setIfInBounds_toArray, List.set_cons_zero, List.set_cons_succ]
    refine wpAnyH_take (i := 11) (oi := { dst := some 20, op := _, type := _, pos := _, after := _, guard := _ }) (v := .bool r) rfl (by kernel_rfl) (by kernel_rfl) (by kernel_rfl) (fun _ _ _ h => h) (Or.inl ⟨by rfl, by intro w hSw; clear hSw; go_simp; (try with_reducible rfl)⟩) (by assumption) ?_
    try simp only [Act.put, List.setIfInBounds_toArray, List.set_cons_zero, List.set_cons_succ]
    refine wpAnyH_done (by kernel_rfl) ?_ _
    clear hHeld iE
    cases r with
    | true =>
      have HI : Hid (insL (lt 4) L (cl 4 f) = L) := ins_same _ (by rw [HK.out, HKL.out, (HE.out).2 rfl])
      go_wp2_with fail
      go_ret
      rw [HI.out, hN]
      exact ⟨g, cap, rfl, owns_below HO.out hb.out, hb.out⟩
    | false =>
      have HI : Hid (insL (lt 4) L (cl 4 f) = L.take k ++ cl 4 f :: L.drop k) := by
        have := ins_new (lt 4) (L := L) (b := cl 4 f) (by rw [HK.out, HKL.out]; intro e; cases e; have := (HE.out).1 rfl; cases this)
        rw [HK.out] at this
        exact this
      go_wp2_with fail
      have hkc : ¬ (cap < k) := by omega
      have hnk : ¬ ((n : Int) < (k : Int)) := by omega
      obtain ⟨o, HO1, HO2⟩ : ∃ o, Hid (cap = k → o = 0) ∧ Hid (cap ≠ k → o = k * 4) := by
        by_cases hcc : cap = k
        · exact ⟨0, fun _ => rfl, fun q => absurd hcc q⟩
        · exact ⟨k * 4, fun q => absurd q hcc, fun _ => rfl⟩
      have HF : Hid ([] ++ (mk (k * 4) fun j => h (0 + j)).toList ++ (mk (1 * 4) fun j => f (0 + j)).toList ++ (mk ((n - k) * 4) fun j => h (o + j)).toList = (L.take k ++ cl 4 f :: L.drop k).flatten.map (Value.int .i64)) := by
        show _ = _
        have := add_flat ha f (k := k) (o := o) (by omega) (by
          by_cases hcc : cap = k
          · exact Or.inl (by omega)
          · exact Or.inr (HO2.out hcc))
        rw [hN, hH] at this
        exact this.symm
      have ho16 : o + (n - k) * 4 ≤ n * 4 := by
        by_cases hcc : cap = k
        · have := HO1.out hcc; omega
        · have := HO2.out hcc; omega
      have A1 := k1
      have A3 := k3
      have HW := hb
      clear k1 k3 hb
      have ghi : base ≤ w.heap.size := by have := (HO.out.lt g rfl).1; omega
      have A1 : CAt x0.drew g (n * 4) h := A1.drew
      have A3 : Blk x0.drew w.heap.size 4 f 24 := A3.drew
      have HW : Hid (Below w.heap.size w x0.drew) := HW.out.drew
      refine wp_region_held_drew (S := fun W => CAt W g (n * 4) h ∧ Blk W w.heap.size 4 f 24) (by kernel_rfl) (⟨A1, A3⟩) (fun hHeld => ?_)
      generalize x0.drew = x0 at *
      refine wpAnyH_take (i := 1) (oi := { dst := some 23, op := _, type := _, pos := _, after := _, guard := _ }) (v := .slice (some ⟨g, 0, none⟩) n cap) rfl (by kernel_rfl) (by kernel_rfl) (by kernel_rfl) (fun _ _ _ h => h) (Or.inl ⟨by rfl, by intro w hSw; clear hSw; go_simp; (try with_reducible rfl)⟩) (by assumption) ?_
      try simp only [Act.put, List.setIfInBounds_toArray, List.set_cons_zero, List.set_cons_succ]
      refine wpAnyH_take (i := 2) (oi := { dst := some 24, op := _, type := _, pos := _, after := _, guard := _ }) (v := .int .i64 (k : Int)) rfl (by kernel_rfl) (by kernel_rfl) (by kernel_rfl) (fun _ _ _ h => h) (Or.inl ⟨by rfl, by intro w hSw; clear hSw; go_simp; (try with_reducible rfl)⟩) (by assumption) ?_
      try simp only [Act.put, List.setIfInBounds_toArray, List.set_cons_zero, List.set_cons_succ]
      refine wpAnyH_take (i := 3) (oi := { dst := some 25, op := _, type := _, pos := _, after := _, guard := _ }) (v := .slice (some ⟨g, 0, none⟩) k cap) rfl (by kernel_rfl) (by kernel_rfl) (by kernel_rfl) (fun _ _ _ h => h) (Or.inl ⟨by rfl, by intro w hSw; clear hSw; go_simp; (try with_reducible rfl)⟩) (by assumption) ?_
      try simp only [Act.put, List.setIfInBounds_toArray, List.set_cons_zero, List.set_cons_succ]
      refine wpAnyH_take (i := 5) (oi := { dst := some 27, op := _, type := _, pos := _, after := _, guard := _ }) (v := .agg (mk 4 f)) rfl (by kernel_rfl) (by kernel_rfl) (by kernel_rfl) (fun _ _ _ h => h) (Or.inl ⟨by rfl, fun _ q => exec_load_blk _ _ rfl rfl q.2 Tryz.underlying24 rfl sizeR⟩) (by assumption) ?_
      try simp only [Act.put, List.setIfInBounds_toArray, List.set_cons_zero, List.set_cons_succ]
      refine wpAnyH_take (i := 8) (oi := { dst := some 30, op := _, type := _, pos := _, after := _, guard := _ }) (v := .slice (some ⟨g, 0, none⟩) n cap) rfl (by kernel_rfl) (by kernel_rfl) (by kernel_rfl) (fun _ _ _ h => h) (Or.inl ⟨by rfl, by intro w hSw; clear hSw; go_simp; (try with_reducible rfl)⟩) (by assumption) ?_
      try simp only [Act.put, List.setIfInBounds_toArray, List.set_cons_zero, List.set_cons_succ]
      refine wpAnyH_take (i := 9) (oi := { dst := some 31, op := _, type := _, pos := _, after := _, guard := _ }) (v := .int .i64 (k : Int)) rfl (by kernel_rfl) (by kernel_rfl) (by kernel_rfl) (fun _ _ _ h => h) (Or.inl ⟨by rfl, by intro w hSw; clear hSw; go_simp; (try with_reducible rfl)⟩) (by assumption) ?_
      try simp only [Act.put, List.setIfInBounds_toArray, List.set_cons_zero, List.set_cons_succ]
      refine wpAnyH_take (i := 10) (oi := { dst := some 32, op := _, type := _, pos := _, after := _, guard := _ }) (v := .slice (some ⟨g, o, none⟩) (n - k) (cap - k)) rfl (by kernel_rfl) (by kernel_rfl) (by kernel_rfl) (fun _ _ _ h => h) (Or.inl ⟨by rfl, by
            intro W hSw
            clear hSw
            by_cases hcc : cap = k
            · have hoo := HO1.out hcc
              subst hoo
              go_simp
            · have hoo := HO2.out hcc
              subst hoo
              go_simp⟩) (by assumption) ?_
      try simp only [Act.put, List.setIfInBounds_toArray, List.set_cons_zero, List.set_cons_succ]
      clear HO1 HO2 hHeld
      refine wpAnyH_ready (rs := [0, 6]) (by kernel_rfl) (by simp) ?_
      refine AllReadyH.cons rfl (fun K hK => ?_) ?_
      · rw [if_pos (by rfl)]
        refine wp_build0 64 24 rfl Tryz.underlying64 hi hz0 ?_
        have R0 : (x0.alloc (.cells #[] 24)).ownsRow (w.heap.size + 1) 24 4 (.slice (some ⟨x0.heap.size, 0, none⟩) 0 0) 0 [] := World.ownsRow_made (base := w.heap.size + 1) (e := 24) (size := 4) x0 #[] 0 A3.lt (by decide) rfl
        have A1 : CAt (x0.alloc (.cells #[] 24)) g (n * 4) h := A1.alloc _
        have A3 : Blk (x0.alloc (.cells #[] 24)) w.heap.size 4 f 24 := A3.alloc _
        have HW : Hid (Below w.heap.size w (x0.alloc (.cells #[] 24))) := HW.out.alloc HW.out.size _
        have HSx1 : (x0.alloc (.cells #[] 24)).heap.size = x0.heap.size + 1 := by simp
        generalize (x0.alloc (.cells #[] 24)) = x1 at *
        refine hK.out _ _ ⟨A1, A3⟩ (fun hHeld => ?_)
        clear hK K hHeld
        try simp only [Act.put, List.setIfInBounds_toArray, List.set_cons_zero, List.set_cons_succ]
        refine wpAnyH_ready (rs := [4, 6]) (by kernel_rfl) (by simp) ?_
        refine AllReadyH.cons rfl (fun K hK => ?_) ?_
        · rw [if_pos (by rfl)]
          refine wp_app (v := .slice (some ⟨x0.heap.size, 0, none⟩) 0 0) _ _ 64 rfl (w.heap.size + 1) 24 i0 _ 4 32 Tryz.underlying64 hi hz0 hz1 hz2 rfl (by decide) rfl R0 g 0 k cap h (n * 4) rfl A1 (by omega) (by unfold maxLen; omega) (by omega) (by have := A3.lt; omega) ?_
          intro v1 y4 R1 hbl hgr
          have A1 := A1.low hbl (by omega)
          have A3 := A3.below hbl (by omega)
          have HW : Hid (Below w.heap.size w y4) := HW.out.trans (hbl.mono (by omega))
          clear hbl hgr R0
          refine hK.out _ _ ⟨A1, A3⟩ (fun hHeld => ?_)
          clear hK K hHeld
          try simp only [Act.put, List.setIfInBounds_toArray, List.set_cons_zero, List.set_cons_succ]
          refine wpAnyH_ready (rs := [6]) (by kernel_rfl) (by simp) ?_
          refine AllReadyH.cons rfl (fun K hK => ?_) AllReadyH.nil
          rw [if_pos (by rfl)]
          refine wp_buildR _ rfl (f := f) rfl ?_
          have B6 : Blk (y4.alloc (.cells (mk 4 f) 24)) y4.heap.size 4 f 24 := Blk.new _ _ _ _
          have A1 : CAt (y4.alloc (.cells (mk 4 f) 24)) g (n * 4) h := A1.alloc _
          have A3 : Blk (y4.alloc (.cells (mk 4 f) 24)) w.heap.size 4 f 24 := A3.alloc _
          have HW : Hid (Below w.heap.size w (y4.alloc (.cells (mk 4 f) 24))) := HW.out.alloc HW.out.size _
          have R1 : (y4.alloc (.cells (mk 4 f) 24)).ownsRow (w.heap.size + 1) 24 4 v1 (0 + k) ([] ++ (mk (k * 4) fun j => h (0 + j)).toList) := World.ownsRow.alloc R1 _
          have HSx2 : (y4.alloc (.cells (mk 4 f) 24)).heap.size = y4.heap.size + 1 := by simp
          generalize (y4.alloc (.cells (mk 4 f) 24)) = x2 at *
          refine hK.out _ _ ⟨A1, A3⟩ (fun hHeld => ?_)
          clear hK K hHeld
          try simp only [Act.put, List.setIfInBounds_toArray, List.set_cons_zero, List.set_cons_succ]
          refine wpAnyH_ready (rs := [7]) (by kernel_rfl) (by simp) ?_
          refine AllReadyH.cons rfl (fun K hK => ?_) AllReadyH.nil
          rw [if_pos (by rfl)]
          refine wp_app (v := v1) _ _ 64 rfl (w.heap.size + 1) 24 i0 _ 4 32 Tryz.underlying64 hi hz0 hz1 hz2 rfl (by decide) rfl R1 y4.heap.size 0 1 1 f 4 rfl B6.at (by omega) (by unfold maxLen; omega) (by omega) (by have := A3.lt; omega) ?_
          intro v2 y7 R2 hbl hgr
          have A1 := A1.low hbl (by omega)
          have A3 := A3.below hbl (by omega)
          have HW : Hid (Below w.heap.size w y7) := HW.out.trans (hbl.mono (by omega))
          clear hbl hgr R1
          refine hK.out _ _ ⟨A1, A3⟩ (fun hHeld => ?_)
          clear hK K hHeld
          try simp only [Act.put, List.setIfInBounds_toArray, List.set_cons_zero, List.set_cons_succ]
          clear B6
          refine wpAnyH_ready (rs := [11]) (by kernel_rfl) (by simp) ?_
          refine AllReadyH.cons rfl (fun K hK => ?_) AllReadyH.nil
          rw [if_pos (by rfl)]
          refine wp_app (v := v2) _ _ 64 rfl (w.heap.size + 1) 24 i0 _ 4 32 Tryz.underlying64 hi hz0 hz1 hz2 rfl (by decide) rfl R2 g o (n - k) (cap - k) h (n * 4) rfl A1 (by omega) (by unfold maxLen; omega) (by omega) (by have := A3.lt; omega) ?_
          intro v3 y8 R3 hbl hgr
          have A1 := A1.low hbl (by omega)
          have A3 := A3.below hbl (by omega)
          have HW : Hid (Below w.heap.size w y8) := HW.out.trans (hbl.mono (by omega))
          clear hbl hgr R2
          refine hK.out _ _ ⟨A1, A3⟩ (fun hHeld => ?_)
          clear hK K
          try simp only [Act.put, List.setIfInBounds_toArray, List.set_cons_zero, List.set_cons_succ]
          refine wpAnyH_take (i := 12) (oi := { dst := some 4, op := _, type := _, pos := _, after := _, guard := _ }) (v := v3) rfl (by kernel_rfl) (by kernel_rfl) (by kernel_rfl) (fun _ _ _ h => h) (Or.inl ⟨by rfl, by intro w hSw; clear hSw; go_simp; (try with_reducible rfl)⟩) (by assumption) ?_
          try simp only [Act.put, List.setIfInBounds_toArray, List.set_cons_zero, List.set_cons_succ]
          refine wpAnyH_done (by kernel_rfl) ?_ _
          have R3 := R3
          rw [show 0 + k + 1 + (n - k) = n + 1 by omega, HF.out] at R3
          obtain ⟨g', cap', hv'⟩ := ownsRow_succ R3
          have HV := Lib.hid hv'
          have HR3 := Lib.hid R3
          clear hv' R3
          go_wp2_with fail
          go_ret
          rw [HI.out]
          refine ⟨g', cap', ?_, ?_, HW.out⟩
          · rw [HV.out, List.length_append, List.length_cons, List.length_take, List.length_drop, hN, show min k n + (n - k + 1) = n + 1 by omega]; rfl
          · show OwnsL _ _ _ _ _ _
            have e := HR3.out
            rw [HV.out] at e
            unfold OwnsL
            rw [show (L.take k ++ cl 4 f :: L.drop k).length = n + 1 by rw [List.length_append, List.length_cons, List.length_take, List.length_drop, hN]; omega]
            exact ownsRow_wide e (by omega)
        refine AllReadyH.cons rfl (fun K hK => ?_) AllReadyH.nil
        rw [if_pos (by rfl)]
        refine wp_buildR _ rfl (f := f) rfl ?_
        have B6 : Blk (x1.alloc (.cells (mk 4 f) 24)) x1.heap.size 4 f 24 := Blk.new _ _ _ _
        have A1 : CAt (x1.alloc (.cells (mk 4 f) 24)) g (n * 4) h := A1.alloc _
        have A3 : Blk (x1.alloc (.cells (mk 4 f) 24)) w.heap.size 4 f 24 := A3.alloc _
        have HW : Hid (Below w.heap.size w (x1.alloc (.cells (mk 4 f) 24))) := HW.out.alloc HW.out.size _
        have R0 : (x1.alloc (.cells (mk 4 f) 24)).ownsRow (w.heap.size + 1) 24 4 (.slice (some ⟨x0.heap.size, 0, none⟩) 0 0) 0 [] := World.ownsRow.alloc R0 _
        have HSx2 : (x1.alloc (.cells (mk 4 f) 24)).heap.size = x1.heap.size + 1 := by simp
        generalize (x1.alloc (.cells (mk 4 f) 24)) = x2 at *
        refine hK.out _ _ ⟨A1, A3⟩ (fun hHeld => ?_)
        clear hK K hHeld
        try simp only [Act.put, List.setIfInBounds_toArray, List.set_cons_zero, List.set_cons_succ]
        refine wpAnyH_ready (rs := [4]) (by kernel_rfl) (by simp) ?_
        refine AllReadyH.cons rfl (fun K hK => ?_) AllReadyH.nil
        rw [if_pos (by rfl)]
        refine wp_app (v := .slice (some ⟨x0.heap.size, 0, none⟩) 0 0) _ _ 64 rfl (w.heap.size + 1) 24 i0 _ 4 32 Tryz.underlying64 hi hz0 hz1 hz2 rfl (by decide) rfl R0 g 0 k cap h (n * 4) rfl A1 (by omega) (by unfold maxLen; omega) (by omega) (by have := A3.lt; omega) ?_
        intro v1 y4 R1 hbl hgr
        have A1 := A1.low hbl (by omega)
        have A3 := A3.below hbl (by omega)
        have HW : Hid (Below w.heap.size w y4) := HW.out.trans (hbl.mono (by omega))
        have B6 := B6.grown hgr (by intro e; simp only [Value.ownBlock, Option.some.injEq] at e; omega)
        clear hbl hgr R0
        refine hK.out _ _ ⟨A1, A3⟩ (fun hHeld => ?_)
        clear hK K hHeld
        try simp only [Act.put, List.setIfInBounds_toArray, List.set_cons_zero, List.set_cons_succ]
        refine wpAnyH_ready (rs := [7]) (by kernel_rfl) (by simp) ?_
        refine AllReadyH.cons rfl (fun K hK => ?_) AllReadyH.nil
        rw [if_pos (by rfl)]
        refine wp_app (v := v1) _ _ 64 rfl (w.heap.size + 1) 24 i0 _ 4 32 Tryz.underlying64 hi hz0 hz1 hz2 rfl (by decide) rfl R1 x1.heap.size 0 1 1 f 4 rfl B6.at (by omega) (by unfold maxLen; omega) (by omega) (by have := A3.lt; omega) ?_
        intro v2 y7 R2 hbl hgr
        have A1 := A1.low hbl (by omega)
        have A3 := A3.below hbl (by omega)
        have HW : Hid (Below w.heap.size w y7) := HW.out.trans (hbl.mono (by omega))
        clear hbl hgr R1
        refine hK.out _ _ ⟨A1, A3⟩ (fun hHeld => ?_)
        clear hK K hHeld
        try simp only [Act.put, List.setIfInBounds_toArray, List.set_cons_zero, List.set_cons_succ]
        clear B6
        refine wpAnyH_ready (rs := [11]) (by kernel_rfl) (by simp) ?_
        refine AllReadyH.cons rfl (fun K hK => ?_) AllReadyH.nil
        rw [if_pos (by rfl)]
        refine wp_app (v := v2) _ _ 64 rfl (w.heap.size + 1) 24 i0 _ 4 32 Tryz.underlying64 hi hz0 hz1 hz2 rfl (by decide) rfl R2 g o (n - k) (cap - k) h (n * 4) rfl A1 (by omega) (by unfold maxLen; omega) (by omega) (by have := A3.lt; omega) ?_
        intro v3 y8 R3 hbl hgr
        have A1 := A1.low hbl (by omega)
        have A3 := A3.below hbl (by omega)
        have HW : Hid (Below w.heap.size w y8) := HW.out.trans (hbl.mono (by omega))
        clear hbl hgr R2
        refine hK.out _ _ ⟨A1, A3⟩ (fun hHeld => ?_)
        clear hK K
        try simp only [Act.put, List.setIfInBounds_toArray, List.set_cons_zero, List.set_cons_succ]
        refine wpAnyH_take (i := 12) (oi := { dst := some 4, op := _, type := _, pos := _, after := _, guard := _ }) (v := v3) rfl (by kernel_rfl) (by kernel_rfl) (by kernel_rfl) (fun _ _ _ h => h) (Or.inl ⟨by rfl, by intro w hSw; clear hSw; go_simp; (try with_reducible rfl)⟩) (by assumption) ?_
        try simp only [Act.put, List.setIfInBounds_toArray, List.set_cons_zero, List.set_cons_succ]
        refine wpAnyH_done (by kernel_rfl) ?_ _
        have R3 := R3
        rw [show 0 + k + 1 + (n - k) = n + 1 by omega, HF.out] at R3
        obtain ⟨g', cap', hv'⟩ := ownsRow_succ R3
        have HV := Lib.hid hv'
        have HR3 := Lib.hid R3
        clear hv' R3
        go_wp2_with fail
        go_ret
        rw [HI.out]
        refine ⟨g', cap', ?_, ?_, HW.out⟩
        · rw [HV.out, List.length_append, List.length_cons, List.length_take, List.length_drop, hN, show min k n + (n - k + 1) = n + 1 by omega]; rfl
        · show OwnsL _ _ _ _ _ _
          have e := HR3.out
          rw [HV.out] at e
          unfold OwnsL
          rw [show (L.take k ++ cl 4 f :: L.drop k).length = n + 1 by rw [List.length_append, List.length_cons, List.length_take, List.length_drop, hN]; omega]
          exact ownsRow_wide e (by omega)
      refine AllReadyH.cons rfl (fun K hK => ?_) AllReadyH.nil
      rw [if_pos (by rfl)]
      refine wp_buildR _ rfl (f := f) rfl ?_
      have B6 : Blk (x0.alloc (.cells (mk 4 f) 24)) x0.heap.size 4 f 24 := Blk.new _ _ _ _
      have A1 : CAt (x0.alloc (.cells (mk 4 f) 24)) g (n * 4) h := A1.alloc _
      have A3 : Blk (x0.alloc (.cells (mk 4 f) 24)) w.heap.size 4 f 24 := A3.alloc _
      have HW : Hid (Below w.heap.size w (x0.alloc (.cells (mk 4 f) 24))) := HW.out.alloc HW.out.size _
      have HSx1 : (x0.alloc (.cells (mk 4 f) 24)).heap.size = x0.heap.size + 1 := by simp
      generalize (x0.alloc (.cells (mk 4 f) 24)) = x1 at *
      refine hK.out _ _ ⟨A1, A3⟩ (fun hHeld => ?_)
      clear hK K hHeld
      try simp only [Act.put, List.setIfInBounds_toArray, List.set_cons_zero, List.set_cons_succ]
      refine wpAnyH_ready (rs := [0]) (by kernel_rfl) (by simp) ?_
      refine AllReadyH.cons rfl (fun K hK => ?_) AllReadyH.nil
      rw [if_pos (by rfl)]
      refine wp_build0 64 24 rfl Tryz.underlying64 hi hz0 ?_
      have R0 : (x1.alloc (.cells #[] 24)).ownsRow (w.heap.size + 1) 24 4 (.slice (some ⟨x1.heap.size, 0, none⟩) 0 0) 0 [] := World.ownsRow_made (base := w.heap.size + 1) (e := 24) (size := 4) x1 #[] 0 A3.lt (by decide) rfl
      have A1 : CAt (x1.alloc (.cells #[] 24)) g (n * 4) h := A1.alloc _
      have A3 : Blk (x1.alloc (.cells #[] 24)) w.heap.size 4 f 24 := A3.alloc _
      have HW : Hid (Below w.heap.size w (x1.alloc (.cells #[] 24))) := HW.out.alloc HW.out.size _
      have B6 : Blk (x1.alloc (.cells #[] 24)) x0.heap.size 4 f 24 := B6.alloc _
      have HSx2 : (x1.alloc (.cells #[] 24)).heap.size = x1.heap.size + 1 := by simp
      generalize (x1.alloc (.cells #[] 24)) = x2 at *
      refine hK.out _ _ ⟨A1, A3⟩ (fun hHeld => ?_)
      clear hK K hHeld
      try simp only [Act.put, List.setIfInBounds_toArray, List.set_cons_zero, List.set_cons_succ]
      refine wpAnyH_ready (rs := [4]) (by kernel_rfl) (by simp) ?_
      refine AllReadyH.cons rfl (fun K hK => ?_) AllReadyH.nil
      rw [if_pos (by rfl)]
      refine wp_app (v := .slice (some ⟨x1.heap.size, 0, none⟩) 0 0) _ _ 64 rfl (w.heap.size + 1) 24 i0 _ 4 32 Tryz.underlying64 hi hz0 hz1 hz2 rfl (by decide) rfl R0 g 0 k cap h (n * 4) rfl A1 (by omega) (by unfold maxLen; omega) (by omega) (by have := A3.lt; omega) ?_
      intro v1 y4 R1 hbl hgr
      have A1 := A1.low hbl (by omega)
      have A3 := A3.below hbl (by omega)
      have HW : Hid (Below w.heap.size w y4) := HW.out.trans (hbl.mono (by omega))
      have B6 := B6.grown hgr (by intro e; simp only [Value.ownBlock, Option.some.injEq] at e; omega)
      clear hbl hgr R0
      refine hK.out _ _ ⟨A1, A3⟩ (fun hHeld => ?_)
      clear hK K hHeld
      try simp only [Act.put, List.setIfInBounds_toArray, List.set_cons_zero, List.set_cons_succ]
      refine wpAnyH_ready (rs := [7]) (by kernel_rfl) (by simp) ?_
      refine AllReadyH.cons rfl (fun K hK => ?_) AllReadyH.nil
      rw [if_pos (by rfl)]
      refine wp_app (v := v1) _ _ 64 rfl (w.heap.size + 1) 24 i0 _ 4 32 Tryz.underlying64 hi hz0 hz1 hz2 rfl (by decide) rfl R1 x0.heap.size 0 1 1 f 4 rfl B6.at (by omega) (by unfold maxLen; omega) (by omega) (by have := A3.lt; omega) ?_
      intro v2 y7 R2 hbl hgr
      have A1 := A1.low hbl (by omega)
      have A3 := A3.below hbl (by omega)
      have HW : Hid (Below w.heap.size w y7) := HW.out.trans (hbl.mono (by omega))
      clear hbl hgr R1
      refine hK.out _ _ ⟨A1, A3⟩ (fun hHeld => ?_)
      clear hK K hHeld
      try simp only [Act.put, List.setIfInBounds_toArray, List.set_cons_zero, List.set_cons_succ]
      clear B6
      refine wpAnyH_ready (rs := [11]) (by kernel_rfl) (by simp) ?_
      refine AllReadyH.cons rfl (fun K hK => ?_) AllReadyH.nil
      rw [if_pos (by rfl)]
      refine wp_app (v := v2) _ _ 64 rfl (w.heap.size + 1) 24 i0 _ 4 32 Tryz.underlying64 hi hz0 hz1 hz2 rfl (by decide) rfl R2 g o (n - k) (cap - k) h (n * 4) rfl A1 (by omega) (by unfold maxLen; omega) (by omega) (by have := A3.lt; omega) ?_
      intro v3 y8 R3 hbl hgr
      have A1 := A1.low hbl (by omega)
      have A3 := A3.below hbl (by omega)
      have HW : Hid (Below w.heap.size w y8) := HW.out.trans (hbl.mono (by omega))
      clear hbl hgr R2
      refine hK.out _ _ ⟨A1, A3⟩ (fun hHeld => ?_)
      clear hK K
      try simp only [Act.put, List.setIfInBounds_toArray, List.set_cons_zero, List.set_cons_succ]
      refine wpAnyH_take (i := 12) (oi := { dst := some 4, op := _, type := _, pos := _, after := _, guard := _ }) (v := v3) rfl (by kernel_rfl) (by kernel_rfl) (by kernel_rfl) (fun _ _ _ h => h) (Or.inl ⟨by rfl, by intro w hSw; clear hSw; go_simp; (try with_reducible rfl)⟩) (by assumption) ?_
      try simp only [Act.put, List.setIfInBounds_toArray, List.set_cons_zero, List.set_cons_succ]
      refine wpAnyH_done (by kernel_rfl) ?_ _
      have R3 := R3
      rw [show 0 + k + 1 + (n - k) = n + 1 by omega, HF.out] at R3
      obtain ⟨g', cap', hv'⟩ := ownsRow_succ R3
      have HV := Lib.hid hv'
      have HR3 := Lib.hid R3
      clear hv' R3
      go_wp2_with fail
      go_ret
      rw [HI.out]
      refine ⟨g', cap', ?_, ?_, HW.out⟩
      · rw [HV.out, List.length_append, List.length_cons, List.length_take, List.length_drop, hN, show min k n + (n - k + 1) = n + 1 by omega]; rfl
      · show OwnsL _ _ _ _ _ _
        have e := HR3.out
        rw [HV.out] at e
        unfold OwnsL
        rw [show (L.take k ++ cl 4 f :: L.drop k).length = n + 1 by rw [List.length_append, List.length_cons, List.length_take, List.length_drop, hN]; omega]
        exact ownsRow_wide e (by omega)
  · have hlt2 : ¬ ((k : Int) < (n : Int)) := by omega
    have HI : Hid (insL (lt 4) L (cl 4 f) = L.take k ++ cl 4 f :: L.drop k) := by
      have := ins_new (lt 4) (L := L) (b := cl 4 f) (by rw [HK.out, List.getElem?_eq_none (by omega)]; simp)
      rw [HK.out] at this
      exact this
    go_wp2_with fail
    have k1 : CAt wr.drew g (n * 4) h := k1.drew
    have k3 : Blk wr.drew w.heap.size 4 f 24 := k3.drew
    have hb : Hid (Below w.heap.size w wr.drew) := hb.out.drew
    refine wp_region_held_drew (S := fun W => CAt W g (n * 4) h ∧ Blk W w.heap.size 4 f 24) (by kernel_rfl) (⟨k1, k3⟩) (fun hHeld => ?_)
    generalize wr.drew = x0 at *
    refine wpAnyH_take (i := 0) (oi := { dst := some 9, op := _, type := _, pos := _, after := _, guard := _ }) (v := .int .i64 (k : Int)) rfl (by kernel_rfl) (by kernel_rfl) (by kernel_rfl) (fun _ _ _ h => h) (Or.inl ⟨by rfl, by intro w hSw; clear hSw; go_simp; (try with_reducible rfl)⟩) (by assumption) ?_
    try simp only [Act.put, List.setIfInBounds_toArray, List.set_cons_zero, List.set_cons_succ]
    refine wpAnyH_take (i := 1) (oi := { dst := some 10, op := _, type := _, pos := _, after := _, guard := _ }) (v := .slice (some ⟨g, 0, none⟩) n cap) rfl (by kernel_rfl) (by kernel_rfl) (by kernel_rfl) (fun _ _ _ h => h) (Or.inl ⟨by rfl, by intro w hSw; clear hSw; go_simp; (try with_reducible rfl)⟩) (by assumption) ?_
    try simp only [Act.put, List.setIfInBounds_toArray, List.set_cons_zero, List.set_cons_succ]
    refine wpAnyH_take (i := 2) (oi := { dst := some 11, op := _, type := _, pos := _, after := _, guard := _ }) (v := .int .i64 (n : Int)) rfl (by kernel_rfl) (by kernel_rfl) (by kernel_rfl) (fun _ _ _ h => h) (Or.inl ⟨by rfl, by intro w hSw; clear hSw; go_simp; (try with_reducible rfl)⟩) (by assumption) ?_
    try simp only [Act.put, List.setIfInBounds_toArray, List.set_cons_zero, List.set_cons_succ]
    refine wpAnyH_take (i := 3) (oi := { dst := some 12, op := _, type := _, pos := _, after := _, guard := _ }) (v := .bool false) rfl (by kernel_rfl) (by kernel_rfl) (by kernel_rfl) (fun _ _ _ h => h) (Or.inl ⟨by rfl, by intro w hSw; clear hSw; go_simp; (try with_reducible rfl)⟩) (by assumption) ?_
    try simp only [Act.put, List.setIfInBounds_toArray, List.set_cons_zero, List.set_cons_succ]
    refine wpAnyH_take (i := 4) (oi := { dst := some 13, op := _, type := _, pos := _, after := _, guard := _ }) (v := .bool false) rfl (by kernel_rfl) (by kernel_rfl) (by kernel_rfl) (fun _ _ _ h => h) (Or.inl ⟨by rfl, by intro w hSw; clear hSw; go_simp; (try with_reducible rfl)⟩) (by assumption) ?_
    try simp only [Act.put, List.setIfInBounds_toArray, List.set_cons_zero, List.set_cons_succ]
    refine wpAnyH_take (i := 5) (oi := { dst := some 14, op := _, type := _, pos := _, after := _, guard := _ }) (v := undef) rfl (by kernel_rfl) (by kernel_rfl) (by kernel_rfl) (fun _ _ _ h => h) (Or.inr ⟨by rfl, rfl⟩) (by assumption) ?_
    try simp only [Act.put, List.setIfInBounds_toArray, List.set_cons_zero, List.set_cons_succ]
    refine wpAnyH_take (i := 6) (oi := { dst := some 15, op := _, type := _, pos := _, after := _, guard := _ }) (v := undef) rfl (by kernel_rfl) (by kernel_rfl) (by kernel_rfl) (fun _ _ _ h => h) (Or.inr ⟨by rfl, rfl⟩) (by assumption) ?_
    try simp only [Act.put, List.setIfInBounds_toArray, List.set_cons_zero, List.set_cons_succ]
    refine wpAnyH_take (i := 7) (oi := { dst := some 16, op := _, type := _, pos := _, after := _, guard := _ }) (v := undef) rfl (by kernel_rfl) (by kernel_rfl) (by kernel_rfl) (fun _ _ _ h => h) (Or.inr ⟨by rfl, rfl⟩) (by assumption) ?_
    try simp only [Act.put, List.setIfInBounds_toArray, List.set_cons_zero, List.set_cons_succ]
    refine wpAnyH_take (i := 8) (oi := { dst := some 17, op := _, type := _, pos := _, after := _, guard := _ }) (v := undef) rfl (by kernel_rfl) (by kernel_rfl) (by kernel_rfl) (fun _ _ _ h => h) (Or.inr ⟨by rfl, rfl⟩) (by assumption) ?_
    try simp only [Act.put, List.setIfInBounds_toArray, List.set_cons_zero, List.set_cons_succ]
    refine wpAnyH_take (i := 9) (oi := { dst := some 18, op := _, type := _, pos := _, after := _, guard := _ }) (v := undef) rfl (by kernel_rfl) (by kernel_rfl) (by kernel_rfl) (fun _ _ _ h => h) (Or.inr ⟨by rfl, rfl⟩) (by assumption) ?_
    try simp only [Act.put, List.setIfInBounds_toArray, List.set_cons_zero, List.set_cons_succ]
    refine wpAnyH_take (i := 10) (oi := { dst := some 19, op := _, type := _, pos := _, after := _, guard := _ }) (v := undef) rfl (by kernel_rfl) (by kernel_rfl) (by kernel_rfl) (fun _ _ _ h => h) (Or.inr ⟨by rfl, rfl⟩) (by assumption) ?_
    try simp only [Act.put, List.setIfInBounds_toArray, List.set_cons_zero, List.set_cons_succ]
    refine wpAnyH_take (i := 11) (oi := { dst := some 20, op := _, type := _, pos := _, after := _, guard := _ }) (v := .bool false) rfl (by kernel_rfl) (by kernel_rfl) (by kernel_rfl) (fun _ _ _ h => h) (Or.inl ⟨by rfl, by intro w hSw; clear hSw; go_simp; (try with_reducible rfl)⟩) (by assumption) ?_
    try simp only [Act.put, List.setIfInBounds_toArray, List.set_cons_zero, List.set_cons_succ]
    refine wpAnyH_done (by kernel_rfl) ?_ _
    clear hHeld
    go_wp2_with fail
    have hkc : ¬ (cap < k) := by omega
    have hnk : ¬ ((n : Int) < (k : Int)) := by omega
    obtain ⟨o, HO1, HO2⟩ : ∃ o, Hid (cap = k → o = 0) ∧ Hid (cap ≠ k → o = k * 4) := by
      by_cases hcc : cap = k
      · exact ⟨0, fun _ => rfl, fun q => absurd hcc q⟩
      · exact ⟨k * 4, fun q => absurd q hcc, fun _ => rfl⟩
    have HF : Hid ([] ++ (mk (k * 4) fun j => h (0 + j)).toList ++ (mk (1 * 4) fun j => f (0 + j)).toList ++ (mk ((n - k) * 4) fun j => h (o + j)).toList = (L.take k ++ cl 4 f :: L.drop k).flatten.map (Value.int .i64)) := by
      show _ = _
      have := add_flat ha f (k := k) (o := o) (by omega) (by
        by_cases hcc : cap = k
        · exact Or.inl (by omega)
        · exact Or.inr (HO2.out hcc))
      rw [hN, hH] at this
      exact this.symm
    have ho16 : o + (n - k) * 4 ≤ n * 4 := by
      by_cases hcc : cap = k
      · have := HO1.out hcc; omega
      · have := HO2.out hcc; omega
    have A1 := k1
    have A3 := k3
    have HW := hb
    clear k1 k3 hb
    have ghi : base ≤ w.heap.size := by have := (HO.out.lt g rfl).1; omega
    have A1 : CAt x0.drew g (n * 4) h := A1.drew
    have A3 : Blk x0.drew w.heap.size 4 f 24 := A3.drew
    have HW : Hid (Below w.heap.size w x0.drew) := HW.out.drew
    refine wp_region_held_drew (S := fun W => CAt W g (n * 4) h ∧ Blk W w.heap.size 4 f 24) (by kernel_rfl) (⟨A1, A3⟩) (fun hHeld => ?_)
    generalize x0.drew = x0 at *
    refine wpAnyH_take (i := 1) (oi := { dst := some 23, op := _, type := _, pos := _, after := _, guard := _ }) (v := .slice (some ⟨g, 0, none⟩) n cap) rfl (by kernel_rfl) (by kernel_rfl) (by kernel_rfl) (fun _ _ _ h => h) (Or.inl ⟨by rfl, by intro w hSw; clear hSw; go_simp; (try with_reducible rfl)⟩) (by assumption) ?_
    try simp only [Act.put, List.setIfInBounds_toArray, List.set_cons_zero, List.set_cons_succ]
    refine wpAnyH_take (i := 2) (oi := { dst := some 24, op := _, type := _, pos := _, after := _, guard := _ }) (v := .int .i64 (k : Int)) rfl (by kernel_rfl) (by kernel_rfl) (by kernel_rfl) (fun _ _ _ h => h) (Or.inl ⟨by rfl, by intro w hSw; clear hSw; go_simp; (try with_reducible rfl)⟩) (by assumption) ?_
    try simp only [Act.put, List.setIfInBounds_toArray, List.set_cons_zero, List.set_cons_succ]
    refine wpAnyH_take (i := 3) (oi := { dst := some 25, op := _, type := _, pos := _, after := _, guard := _ }) (v := .slice (some ⟨g, 0, none⟩) k cap) rfl (by kernel_rfl) (by kernel_rfl) (by kernel_rfl) (fun _ _ _ h => h) (Or.inl ⟨by rfl, by intro w hSw; clear hSw; go_simp; (try with_reducible rfl)⟩) (by assumption) ?_
    try simp only [Act.put, List.setIfInBounds_toArray, List.set_cons_zero, List.set_cons_succ]
    refine wpAnyH_take (i := 5) (oi := { dst := some 27, op := _, type := _, pos := _, after := _, guard := _ }) (v := .agg (mk 4 f)) rfl (by kernel_rfl) (by kernel_rfl) (by kernel_rfl) (fun _ _ _ h => h) (Or.inl ⟨by rfl, fun _ q => exec_load_blk _ _ rfl rfl q.2 Tryz.underlying24 rfl sizeR⟩) (by assumption) ?_
    try simp only [Act.put, List.setIfInBounds_toArray, List.set_cons_zero, List.set_cons_succ]
    refine wpAnyH_take (i := 8) (oi := { dst := some 30, op := _, type := _, pos := _, after := _, guard := _ }) (v := .slice (some ⟨g, 0, none⟩) n cap) rfl (by kernel_rfl) (by kernel_rfl) (by kernel_rfl) (fun _ _ _ h => h) (Or.inl ⟨by rfl, by intro w hSw; clear hSw; go_simp; (try with_reducible rfl)⟩) (by assumption) ?_
    try simp only [Act.put, List.setIfInBounds_toArray, List.set_cons_zero, List.set_cons_succ]
    refine wpAnyH_take (i := 9) (oi := { dst := some 31, op := _, type := _, pos := _, after := _, guard := _ }) (v := .int .i64 (k : Int)) rfl (by kernel_rfl) (by kernel_rfl) (by kernel_rfl) (fun _ _ _ h => h) (Or.inl ⟨by rfl, by intro w hSw; clear hSw; go_simp; (try with_reducible rfl)⟩) (by assumption) ?_
    try simp only [Act.put, List.setIfInBounds_toArray, List.set_cons_zero, List.set_cons_succ]
    refine wpAnyH_take (i := 10) (oi := { dst := some 32, op := _, type := _, pos := _, after := _, guard := _ }) (v := .slice (some ⟨g, o, none⟩) (n - k) (cap - k)) rfl (by kernel_rfl) (by kernel_rfl) (by kernel_rfl) (fun _ _ _ h => h) (Or.inl ⟨by rfl, by
          intro W hSw
          clear hSw
          by_cases hcc : cap = k
          · have hoo := HO1.out hcc
            subst hoo
            go_simp
          · have hoo := HO2.out hcc
            subst hoo
            go_simp⟩) (by assumption) ?_
    try simp only [Act.put, List.setIfInBounds_toArray, List.set_cons_zero, List.set_cons_succ]
    clear HO1 HO2 hHeld
    refine wpAnyH_ready (rs := [0, 6]) (by kernel_rfl) (by simp) ?_
    refine AllReadyH.cons rfl (fun K hK => ?_) ?_
    · rw [if_pos (by rfl)]
      refine wp_build0 64 24 rfl Tryz.underlying64 hi hz0 ?_
      have R0 : (x0.alloc (.cells #[] 24)).ownsRow (w.heap.size + 1) 24 4 (.slice (some ⟨x0.heap.size, 0, none⟩) 0 0) 0 [] := World.ownsRow_made (base := w.heap.size + 1) (e := 24) (size := 4) x0 #[] 0 A3.lt (by decide) rfl
      have A1 : CAt (x0.alloc (.cells #[] 24)) g (n * 4) h := A1.alloc _
      have A3 : Blk (x0.alloc (.cells #[] 24)) w.heap.size 4 f 24 := A3.alloc _
      have HW : Hid (Below w.heap.size w (x0.alloc (.cells #[] 24))) := HW.out.alloc HW.out.size _
      have HSx1 : (x0.alloc (.cells #[] 24)).heap.size = x0.heap.size + 1 := by simp
      generalize (x0.alloc (.cells #[] 24)) = x1 at *
      refine hK.out _ _ ⟨A1, A3⟩ (fun hHeld => ?_)
      clear hK K hHeld
      try simp only [Act.put, List.setIfInBounds_toArray, List.set_cons_zero, List.set_cons_succ]
      refine wpAnyH_ready (rs := [4, 6]) (by kernel_rfl) (by simp) ?_
      refine AllReadyH.cons rfl (fun K hK => ?_) ?_
      · rw [if_pos (by rfl)]
        refine wp_app (v := .slice (some ⟨x0.heap.size, 0, none⟩) 0 0) _ _ 64 rfl (w.heap.size + 1) 24 i0 _ 4 32 Tryz.underlying64 hi hz0 hz1 hz2 rfl (by decide) rfl R0 g 0 k cap h (n * 4) rfl A1 (by omega) (by unfold maxLen; omega) (by omega) (by have := A3.lt; omega) ?_
        intro v1 y4 R1 hbl hgr
        have A1 := A1.low hbl (by omega)
        have A3 := A3.below hbl (by omega)
        have HW : Hid (Below w.heap.size w y4) := HW.out.trans (hbl.mono (by omega))
        clear hbl hgr R0
        refine hK.out _ _ ⟨A1, A3⟩ (fun hHeld => ?_)
        clear hK K hHeld
        try simp only [Act.put, List.setIfInBounds_toArray, List.set_cons_zero, List.set_cons_succ]
        refine wpAnyH_ready (rs := [6]) (by kernel_rfl) (by simp) ?_
        refine AllReadyH.cons rfl (fun K hK => ?_) AllReadyH.nil
        rw [if_pos (by rfl)]
        refine wp_buildR _ rfl (f := f) rfl ?_
        have B6 : Blk (y4.alloc (.cells (mk 4 f) 24)) y4.heap.size 4 f 24 := Blk.new _ _ _ _
        have A1 : CAt (y4.alloc (.cells (mk 4 f) 24)) g (n * 4) h := A1.alloc _
        have A3 : Blk (y4.alloc (.cells (mk 4 f) 24)) w.heap.size 4 f 24 := A3.alloc _
        have HW : Hid (Below w.heap.size w (y4.alloc (.cells (mk 4 f) 24))) := HW.out.alloc HW.out.size _
        have R1 : (y4.alloc (.cells (mk 4 f) 24)).ownsRow (w.heap.size + 1) 24 4 v1 (0 + k) ([] ++ (mk (k * 4) fun j => h (0 + j)).toList) := World.ownsRow.alloc R1 _
        have HSx2 : (y4.alloc (.cells (mk 4 f) 24)).heap.size = y4.heap.size + 1 := by simp
        generalize (y4.alloc (.cells (mk 4 f) 24)) = x2 at *
        refine hK.out _ _ ⟨A1, A3⟩ (fun hHeld => ?_)
        clear hK K hHeld
        try simp only [Act.put, List.setIfInBounds_toArray, List.set_cons_zero, List.set_cons_succ]
        refine wpAnyH_ready (rs := [7]) (by kernel_rfl) (by simp) ?_
        refine AllReadyH.cons rfl (fun K hK => ?_) AllReadyH.nil
        rw [if_pos (by rfl)]
        refine wp_app (v := v1) _ _ 64 rfl (w.heap.size + 1) 24 i0 _ 4 32 Tryz.underlying64 hi hz0 hz1 hz2 rfl (by decide) rfl R1 y4.heap.size 0 1 1 f 4 rfl B6.at (by omega) (by unfold maxLen; omega) (by omega) (by have := A3.lt; omega) ?_
        intro v2 y7 R2 hbl hgr
        have A1 := A1.low hbl (by omega)
        have A3 := A3.below hbl (by omega)
        have HW : Hid (Below w.heap.size w y7) := HW.out.trans (hbl.mono (by omega))
        clear hbl hgr R1
        refine hK.out _ _ ⟨A1, A3⟩ (fun hHeld => ?_)
        clear hK K hHeld
        try simp only [Act.put, List.setIfInBounds_toArray, List.set_cons_zero, List.set_cons_succ]
        clear B6
        refine wpAnyH_ready (rs := [11]) (by kernel_rfl) (by simp) ?_
        refine AllReadyH.cons rfl (fun K hK => ?_) AllReadyH.nil
        rw [if_pos (by rfl)]
        refine wp_app (v := v2) _ _ 64 rfl (w.heap.size + 1) 24 i0 _ 4 32 Tryz.underlying64 hi hz0 hz1 hz2 rfl (by decide) rfl R2 g o (n - k) (cap - k) h (n * 4) rfl A1 (by omega) (by unfold maxLen; omega) (by omega) (by have := A3.lt; omega) ?_
        intro v3 y8 R3 hbl hgr
        have A1 := A1.low hbl (by omega)
        have A3 := A3.below hbl (by omega)
        have HW : Hid (Below w.heap.size w y8) := HW.out.trans (hbl.mono (by omega))
        clear hbl hgr R2
        refine hK.out _ _ ⟨A1, A3⟩ (fun hHeld => ?_)
        clear hK K
        try simp only [Act.put, List.setIfInBounds_toArray, List.set_cons_zero, List.set_cons_succ]
        refine wpAnyH_take (i := 12) (oi := { dst := some 4, op := _, type := _, pos := _, after := _, guard := _ }) (v := v3) rfl (by kernel_rfl) (by kernel_rfl) (by kernel_rfl) (fun _ _ _ h => h) (Or.inl ⟨by rfl, by intro w hSw; clear hSw; go_simp; (try with_reducible rfl)⟩) (by assumption) ?_
        try simp only [Act.put, List.setIfInBounds_toArray, List.set_cons_zero, List.set_cons_succ]
        refine wpAnyH_done (by kernel_rfl) ?_ _
        have R3 := R3
        rw [show 0 + k + 1 + (n - k) = n + 1 by omega, HF.out] at R3
        obtain ⟨g', cap', hv'⟩ := ownsRow_succ R3
        have HV := Lib.hid hv'
        have HR3 := Lib.hid R3
        clear hv' R3
        go_wp2_with fail
        go_ret
        rw [HI.out]
        refine ⟨g', cap', ?_, ?_, HW.out⟩
        · rw [HV.out, List.length_append, List.length_cons, List.length_take, List.length_drop, hN, show min k n + (n - k + 1) = n + 1 by omega]; rfl
        · show OwnsL _ _ _ _ _ _
          have e := HR3.out
          rw [HV.out] at e
          unfold OwnsL
          rw [show (L.take k ++ cl 4 f :: L.drop k).length = n + 1 by rw [List.length_append, List.length_cons, List.length_take, List.length_drop, hN]; omega]
          exact ownsRow_wide e (by omega)
      refine AllReadyH.cons rfl (fun K hK => ?_) AllReadyH.nil
      rw [if_pos (by rfl)]
      refine wp_buildR _ rfl (f := f) rfl ?_
      have B6 : Blk (x1.alloc (.cells (mk 4 f) 24)) x1.heap.size 4 f 24 := Blk.new _ _ _ _
      have A1 : CAt (x1.alloc (.cells (mk 4 f) 24)) g (n * 4) h := A1.alloc _
      have A3 : Blk (x1.alloc (.cells (mk 4 f) 24)) w.heap.size 4 f 24 := A3.alloc _
      have HW : Hid (Below w.heap.size w (x1.alloc (.cells (mk 4 f) 24))) := HW.out.alloc HW.out.size _
      have R0 : (x1.alloc (.cells (mk 4 f) 24)).ownsRow (w.heap.size + 1) 24 4 (.slice (some ⟨x0.heap.size, 0, none⟩) 0 0) 0 [] := World.ownsRow.alloc R0 _
      have HSx2 : (x1.alloc (.cells (mk 4 f) 24)).heap.size = x1.heap.size + 1 := by simp
      generalize (x1.alloc (.cells (mk 4 f) 24)) = x2 at *
      refine hK.out _ _ ⟨A1, A3⟩ (fun hHeld => ?_)
      clear hK K hHeld
      try simp only [Act.put, List.setIfInBounds_toArray, List.set_cons_zero, List.set_cons_succ]
      refine wpAnyH_ready (rs := [4]) (by kernel_rfl) (by simp) ?_
      refine AllReadyH.cons rfl (fun K hK => ?_) AllReadyH.nil
      rw [if_pos (by rfl)]
      refine wp_app (v := .slice (some ⟨x0.heap.size, 0, none⟩) 0 0) _ _ 64 rfl (w.heap.size + 1) 24 i0 _ 4 32 Tryz.underlying64 hi hz0 hz1 hz2 rfl (by decide) rfl R0 g 0 k cap h (n * 4) rfl A1 (by omega) (by unfold maxLen; omega) (by omega) (by have := A3.lt; omega) ?_
      intro v1 y4 R1 hbl hgr
      have A1 := A1.low hbl (by omega)
      have A3 := A3.below hbl (by omega)
      have HW : Hid (Below w.heap.size w y4) := HW.out.trans (hbl.mono (by omega))
      have B6 := B6.grown hgr (by intro e; simp only [Value.ownBlock, Option.some.injEq] at e; omega)
      clear hbl hgr R0
      refine hK.out _ _ ⟨A1, A3⟩ (fun hHeld => ?_)
      clear hK K hHeld
      try simp only [Act.put, List.setIfInBounds_toArray, List.set_cons_zero, List.set_cons_succ]
      refine wpAnyH_ready (rs := [7]) (by kernel_rfl) (by simp) ?_
      refine AllReadyH.cons rfl (fun K hK => ?_) AllReadyH.nil
      rw [if_pos (by rfl)]
      refine wp_app (v := v1) _ _ 64 rfl (w.heap.size + 1) 24 i0 _ 4 32 Tryz.underlying64 hi hz0 hz1 hz2 rfl (by decide) rfl R1 x1.heap.size 0 1 1 f 4 rfl B6.at (by omega) (by unfold maxLen; omega) (by omega) (by have := A3.lt; omega) ?_
      intro v2 y7 R2 hbl hgr
      have A1 := A1.low hbl (by omega)
      have A3 := A3.below hbl (by omega)
      have HW : Hid (Below w.heap.size w y7) := HW.out.trans (hbl.mono (by omega))
      clear hbl hgr R1
      refine hK.out _ _ ⟨A1, A3⟩ (fun hHeld => ?_)
      clear hK K hHeld
      try simp only [Act.put, List.setIfInBounds_toArray, List.set_cons_zero, List.set_cons_succ]
      clear B6
      refine wpAnyH_ready (rs := [11]) (by kernel_rfl) (by simp) ?_
      refine AllReadyH.cons rfl (fun K hK => ?_) AllReadyH.nil
      rw [if_pos (by rfl)]
      refine wp_app (v := v2) _ _ 64 rfl (w.heap.size + 1) 24 i0 _ 4 32 Tryz.underlying64 hi hz0 hz1 hz2 rfl (by decide) rfl R2 g o (n - k) (cap - k) h (n * 4) rfl A1 (by omega) (by unfold maxLen; omega) (by omega) (by have := A3.lt; omega) ?_
      intro v3 y8 R3 hbl hgr
      have A1 := A1.low hbl (by omega)
      have A3 := A3.below hbl (by omega)
      have HW : Hid (Below w.heap.size w y8) := HW.out.trans (hbl.mono (by omega))
      clear hbl hgr R2
      refine hK.out _ _ ⟨A1, A3⟩ (fun hHeld => ?_)
      clear hK K
      try simp only [Act.put, List.setIfInBounds_toArray, List.set_cons_zero, List.set_cons_succ]
      refine wpAnyH_take (i := 12) (oi := { dst := some 4, op := _, type := _, pos := _, after := _, guard := _ }) (v := v3) rfl (by kernel_rfl) (by kernel_rfl) (by kernel_rfl) (fun _ _ _ h => h) (Or.inl ⟨by rfl, by intro w hSw; clear hSw; go_simp; (try with_reducible rfl)⟩) (by assumption) ?_
      try simp only [Act.put, List.setIfInBounds_toArray, List.set_cons_zero, List.set_cons_succ]
      refine wpAnyH_done (by kernel_rfl) ?_ _
      have R3 := R3
      rw [show 0 + k + 1 + (n - k) = n + 1 by omega, HF.out] at R3
      obtain ⟨g', cap', hv'⟩ := ownsRow_succ R3
      have HV := Lib.hid hv'
      have HR3 := Lib.hid R3
      clear hv' R3
      go_wp2_with fail
      go_ret
      rw [HI.out]
      refine ⟨g', cap', ?_, ?_, HW.out⟩
      · rw [HV.out, List.length_append, List.length_cons, List.length_take, List.length_drop, hN, show min k n + (n - k + 1) = n + 1 by omega]; rfl
      · show OwnsL _ _ _ _ _ _
        have e := HR3.out
        rw [HV.out] at e
        unfold OwnsL
        rw [show (L.take k ++ cl 4 f :: L.drop k).length = n + 1 by rw [List.length_append, List.length_cons, List.length_take, List.length_drop, hN]; omega]
        exact ownsRow_wide e (by omega)
    refine AllReadyH.cons rfl (fun K hK => ?_) AllReadyH.nil
    rw [if_pos (by rfl)]
    refine wp_buildR _ rfl (f := f) rfl ?_
    have B6 : Blk (x0.alloc (.cells (mk 4 f) 24)) x0.heap.size 4 f 24 := Blk.new _ _ _ _
    have A1 : CAt (x0.alloc (.cells (mk 4 f) 24)) g (n * 4) h := A1.alloc _
    have A3 : Blk (x0.alloc (.cells (mk 4 f) 24)) w.heap.size 4 f 24 := A3.alloc _
    have HW : Hid (Below w.heap.size w (x0.alloc (.cells (mk 4 f) 24))) := HW.out.alloc HW.out.size _
    have HSx1 : (x0.alloc (.cells (mk 4 f) 24)).heap.size = x0.heap.size + 1 := by simp
    generalize (x0.alloc (.cells (mk 4 f) 24)) = x1 at *
    refine hK.out _ _ ⟨A1, A3⟩ (fun hHeld => ?_)
    clear hK K hHeld
    try simp only [Act.put, List.setIfInBounds_toArray, List.set_cons_zero, List.set_cons_succ]
    refine wpAnyH_ready (rs := [0]) (by kernel_rfl) (by simp) ?_
    refine AllReadyH.cons rfl (fun K hK => ?_) AllReadyH.nil
    rw [if_pos (by rfl)]
    refine wp_build0 64 24 rfl Tryz.underlying64 hi hz0 ?_
    have R0 : (x1.alloc (.cells #[] 24)).ownsRow (w.heap.size + 1) 24 4 (.slice (some ⟨x1.heap.size, 0, none⟩) 0 0) 0 [] := World.ownsRow_made (base := w.heap.size + 1) (e := 24) (size := 4) x1 #[] 0 A3.lt (by decide) rfl
    have A1 : CAt (x1.alloc (.cells #[] 24)) g (n * 4) h := A1.alloc _
    have A3 : Blk (x1.alloc (.cells #[] 24)) w.heap.size 4 f 24 := A3.alloc _
    have HW : Hid (Below w.heap.size w (x1.alloc (.cells #[] 24))) := HW.out.alloc HW.out.size _
    have B6 : Blk (x1.alloc (.cells #[] 24)) x0.heap.size 4 f 24 := B6.alloc _
    have HSx2 : (x1.alloc (.cells #[] 24)).heap.size = x1.heap.size + 1 := by simp
    generalize (x1.alloc (.cells #[] 24)) = x2 at *
    refine hK.out _ _ ⟨A1, A3⟩ (fun hHeld => ?_)
    clear hK K hHeld
    try simp only [Act.put, List.setIfInBounds_toArray, List.set_cons_zero, List.set_cons_succ]
    refine wpAnyH_ready (rs := [4]) (by kernel_rfl) (by simp) ?_
    refine AllReadyH.cons rfl (fun K hK => ?_) AllReadyH.nil
    rw [if_pos (by rfl)]
    refine wp_app (v := .slice (some ⟨x1.heap.size, 0, none⟩) 0 0) _ _ 64 rfl (w.heap.size + 1) 24 i0 _ 4 32 Tryz.underlying64 hi hz0 hz1 hz2 rfl (by decide) rfl R0 g 0 k cap h (n * 4) rfl A1 (by omega) (by unfold maxLen; omega) (by omega) (by have := A3.lt; omega) ?_
    intro v1 y4 R1 hbl hgr
    have A1 := A1.low hbl (by omega)
    have A3 := A3.below hbl (by omega)
    have HW : Hid (Below w.heap.size w y4) := HW.out.trans (hbl.mono (by omega))
    have B6 := B6.grown hgr (by intro e; simp only [Value.ownBlock, Option.some.injEq] at e; omega)
    clear hbl hgr R0
    refine hK.out _ _ ⟨A1, A3⟩ (fun hHeld => ?_)
    clear hK K hHeld
    try simp only [Act.put, List.setIfInBounds_toArray, List.set_cons_zero, List.set_cons_succ]
    refine wpAnyH_ready (rs := [7]) (by kernel_rfl) (by simp) ?_
    refine AllReadyH.cons rfl (fun K hK => ?_) AllReadyH.nil
    rw [if_pos (by rfl)]
    refine wp_app (v := v1) _ _ 64 rfl (w.heap.size + 1) 24 i0 _ 4 32 Tryz.underlying64 hi hz0 hz1 hz2 rfl (by decide) rfl R1 x0.heap.size 0 1 1 f 4 rfl B6.at (by omega) (by unfold maxLen; omega) (by omega) (by have := A3.lt; omega) ?_
    intro v2 y7 R2 hbl hgr
    have A1 := A1.low hbl (by omega)
    have A3 := A3.below hbl (by omega)
    have HW : Hid (Below w.heap.size w y7) := HW.out.trans (hbl.mono (by omega))
    clear hbl hgr R1
    refine hK.out _ _ ⟨A1, A3⟩ (fun hHeld => ?_)
    clear hK K hHeld
    try simp only [Act.put, List.setIfInBounds_toArray, List.set_cons_zero, List.set_cons_succ]
    clear B6
    refine wpAnyH_ready (rs := [11]) (by kernel_rfl) (by simp) ?_
    refine AllReadyH.cons rfl (fun K hK => ?_) AllReadyH.nil
    rw [if_pos (by rfl)]
    refine wp_app (v := v2) _ _ 64 rfl (w.heap.size + 1) 24 i0 _ 4 32 Tryz.underlying64 hi hz0 hz1 hz2 rfl (by decide) rfl R2 g o (n - k) (cap - k) h (n * 4) rfl A1 (by omega) (by unfold maxLen; omega) (by omega) (by have := A3.lt; omega) ?_
    intro v3 y8 R3 hbl hgr
    have A1 := A1.low hbl (by omega)
    have A3 := A3.below hbl (by omega)
    have HW : Hid (Below w.heap.size w y8) := HW.out.trans (hbl.mono (by omega))
    clear hbl hgr R2
    refine hK.out _ _ ⟨A1, A3⟩ (fun hHeld => ?_)
    clear hK K
    try simp only [Act.put, List.setIfInBounds_toArray, List.set_cons_zero, List.set_cons_succ]
    refine wpAnyH_take (i := 12) (oi := { dst := some 4, op := _, type := _, pos := _, after := _, guard := _ }) (v := v3) rfl (by kernel_rfl) (by kernel_rfl) (by kernel_rfl) (fun _ _ _ h => h) (Or.inl ⟨by rfl, by intro w hSw; clear hSw; go_simp; (try with_reducible rfl)⟩) (by assumption) ?_
    try simp only [Act.put, List.setIfInBounds_toArray, List.set_cons_zero, List.set_cons_succ]
    refine wpAnyH_done (by kernel_rfl) ?_ _
    have R3 := R3
    rw [show 0 + k + 1 + (n - k) = n + 1 by omega, HF.out] at R3
    obtain ⟨g', cap', hv'⟩ := ownsRow_succ R3
    have HV := Lib.hid hv'
    have HR3 := Lib.hid R3
    clear hv' R3
    go_wp2_with fail
    go_ret
    rw [HI.out]
    refine ⟨g', cap', ?_, ?_, HW.out⟩
    · rw [HV.out, List.length_append, List.length_cons, List.length_take, List.length_drop, hN, show min k n + (n - k + 1) = n + 1 by omega]; rfl
    · show OwnsL _ _ _ _ _ _
      have e := HR3.out
      rw [HV.out] at e
      unfold OwnsL
      rw [show (L.take k ++ cl 4 f :: L.drop k).length = n + 1 by rw [List.length_append, List.length_cons, List.length_take, List.length_drop, hN]; omega]
      exact ownsRow_wide e (by omega)
end Go.Proofs.YtmcmpedmgibmkabGreat
namespace Go.Proofs.YtmcmpedmgibmkabGreat
open Go.RowKit Plain
attribute [local go_sem] store_new
set_option linter.unusedVariables false
set_option linter.unusedSimpArgs false

theorem bitF {c k : Nat} (hc : c < 16) (hk : k < 4) : (bits BinOp.and IntKind.i64 ((c : Int) / 2 ^ k) 1 == 1) = c.testBit k := by
  have key : ∀ c : Fin 16, ∀ k : Fin 4, (bits BinOp.and IntKind.i64 ((c.val : Int) / 2 ^ k.val) 1 == 1) = c.val.testBit k.val := by decide
  exact key ⟨c, hc⟩ ⟨k, hk⟩
theorem grownBy_setCell (w : World) (p : Addr) (u : Value) : w.grownBy (w.setCell p u) (some p.block) := by
  refine ⟨rfl, rfl, rfl, ?_, fun j hj hne => ?_⟩
  · simp [World.setCell]
  · exact Below.heap_setCell w p u j (fun e => hne (by rw [e]))

set_option maxHeartbeats 2000000 in
set_option maxRecDepth 20000 in
theorem l4Spread_any (g cap : Nat) (ts : List Int) (w : World) (hts : ts.length ≤ 8) (hc : CAt w g ts.length (fn ts)) :
    Calls Tryz.prog 107 #[.slice (some ⟨g, 0, none⟩) ts.length cap] w fun e w' => ∃ g' cap', e = .returned (.slice (some ⟨g', 0, none⟩) (sprL ts 16).length cap') ∧
      OwnsL 24 4 w' w.heap.size (.slice (some ⟨g', 0, none⟩) (sprL ts 16).length cap') (sprL ts 16) ∧ Below w.heap.size w w' := by
  obtain ⟨i0, hi, hz0, hz1, hz2⟩ := info_parts infoR
  have HB := Lib.hid ((Below.refl w.heap.size w).alloc (Nat.le_refl _) (.cells #[] 24))
  have HC := hc.alloc (.cells #[] 24)
  have HO : Hid (OwnsL 24 4 (w.alloc (.cells #[] 24)) w.heap.size (.slice (some ⟨w.heap.size, 0, none⟩) 0 0) []) := OwnsL.made w (Nat.le_refl _)
  have hgw : g < w.heap.size := hc.1
  clear hc
  generalize hN : ts.length = n at *
  go_enter Tryz.func107, Tryz.ntmps107
  go_wp2_with fail
  go_loopg [3, 4] 16 (fun gk s3 s4 wr => ∃ (c : Nat) (v : Value), c + gk = 16 ∧ s4 = .int .i64 c ∧ v = s3 ∧ (∃ gg cap, v = .slice (some ⟨gg, 0, none⟩) (sprL ts c).length cap) ∧ Hid (OwnsL 24 4 wr w.heap.size v (sprL ts c)) ∧ CAt wr g n (fn ts) ∧ Hid (Below w.heap.size w wr))
  case atStart => exact ⟨0, _, by omega, rfl, rfl, ⟨_, _, rfl⟩, HO, HC, HB⟩
  case round =>
    obtain ⟨c, v, hcg, rfl, rfl, ⟨gg, cap1, hv⟩, HO, HC, HB⟩ := hrel
    subst hv
    cases gk with
    | zero =>
      have hk : ¬ ((c : Int) < 16) := by omega
      obtain rfl : c = 16 := by omega
      clear hcg hk
      go_wp2_with fail
      go_ret
      exact ⟨gg, cap1, rfl, HO.out, HB.out⟩
    | succ gk2 =>
      have hc16 : (c : Int) < 16 := by omega
      have HNE : Hid (gg < wr.heap.size ∧ g < wr.heap.size ∧ w.heap.size ≤ wr.heap.size) := ⟨(HO.out.lt gg rfl).2, HC.1, HB.out.size⟩
      have z4 := zero4
      have sr := World.setRow_alloc_new
      go_wp2_with fail
      clear z4 sr
      have K5 := Blk.new wr 4 (fun _ => 0) 24
      have HO : Hid (OwnsL 24 4 (wr.alloc (.cells (mk 4 fun _ => 0) 24)) w.heap.size (.slice (some ⟨gg, 0, none⟩) (sprL ts c).length cap1) (sprL ts c)) := HO.out.alloc _
      have HC := HC.alloc (.cells (mk 4 fun _ => 0) 24)
      have HB : Hid (Below w.heap.size w (wr.alloc (.cells (mk 4 fun _ => 0) 24))) := HB.out.alloc HB.out.size _
      generalize hb5 : wr.heap.size = b5 at *
      generalize wr.alloc (.cells (mk 4 fun _ => 0) 24) = x0 at *
      go_loopg [6, 7] 4 (fun gj s6 s7 wx => ∃ (k : Nat), k + gj = 4 ∧ s7 = .int .i64 k ∧ s6 = .int .i64 ((spr ts c k).2 : Nat) ∧ Blk wx b5 4 (spr ts c k).1 24 ∧ Hid (OwnsL 24 4 wx w.heap.size (.slice (some ⟨gg, 0, none⟩) (sprL ts c).length cap1) (sprL ts c)) ∧ CAt wx g n (fn ts) ∧ Hid (Below w.heap.size w wx))
      case atStart => exact ⟨0, by omega, rfl, rfl, K5, HO, HC, HB⟩
      case round =>
        obtain ⟨k, hkg, rfl, rfl, K5, HO, HC, HB⟩ := hrel
        cases gk with
        | zero =>
          have hk : ¬ ((k : Int) < 4) := by omega
          obtain rfl : k = 4 := by omega
          clear hkg hk
          have hle := sprL_len ts c
          have hle2 : (sprL ts c).length ≤ 16 := by omega
          have hx9 := K5.lt
          by_cases hq : (spr ts c 4).2 = n
          · have Y : Hid (sprL ts (c + 1) = sprL ts c ++ [cl 4 (spr ts c 4).1]) := by show _ = _; rw [sprL, if_pos (by rw [hN]; exact hq)]
            have hq1 : (((spr ts c 4).2 : Nat) : Int) = (n : Int) := by omega
            clear hq hle
            generalize (spr ts c 4).2 = m4 at *
            generalize (spr ts c 4).1 = G at *
            go_wp2_with (first | ((with_reducible show wpList _ _ _ (Oper.mk _ (Op.load 24 _) _ _ _ _ :: _) _ _); refine loadR (K5) rfl rfl rfl ?_) | ((with_reducible show wpList _ _ _ (Oper.mk _ (Op.buildSlice _ 1 _) _ _ _ _ :: _) _ _); refine wpl_buildR _ rfl rfl (f := G) rfl ?_) | (at_builtin; refine wpl_app (v := .slice (some ⟨gg, 0, none⟩) (sprL ts c).length cap1) rfl _ _ 64 rfl w.heap.size 24 i0 _ 4 32 Tryz.underlying64 hi hz0 hz1 hz2 rfl (by decide) rfl (World.ownsRow.alloc HO.out _) wr.heap.size 0 1 1 G 4 rfl (Blk.new _ _ _ _).at (by omega) (by unfold maxLen; omega) (by omega) (by simp; have := HB.out.size; omega) ?_))
            intro v' w8 R hbl hgr hloc
            obtain ⟨g', cap', hv'⟩ := ownsRow_succ R
            have HVv : Hid (∃ gg cap, v' = .slice (some ⟨gg, 0, none⟩) (sprL ts (c + 1)).length cap) := ⟨g', cap', by rw [Y.out, List.length_append]; exact hv'⟩
            have HR : Hid (OwnsL 24 4 w8 w.heap.size v' (sprL ts (c + 1))) := by
              rw [snoc_walk (m := 4) _ G] at R
              show OwnsL _ _ _ _ _ _
              rw [Y.out]
              unfold OwnsL
              rw [List.length_append]
              exact R
            have HC := (HC.alloc (.cells (mk 4 G) 24)).low hbl hgw
            have HB : Hid (Below w.heap.size w w8) := (HB.out.alloc HB.out.size _).trans hbl
            clear hbl hgr R hv' HO hloc
            go_wp2_with fail
            go_roundg gk2
            case rel => exact ⟨c + 1, _, by omega, by go_num, rfl, HVv.out, HR, HC, HB⟩
            case measure => omega
          · have Y : Hid (sprL ts (c + 1) = sprL ts c) := by show _ = _; rw [sprL, if_neg (by rw [hN]; exact hq)]
            have hq1 : ¬ ((((spr ts c 4).2 : Nat) : Int) = (n : Int)) := by omega
            clear hq hle
            go_wp2_with fail
            go_roundg gk2
            case rel => exact ⟨c + 1, _, by omega, by go_num, rfl, ⟨gg, cap1, by rw [Y.out]⟩, by rw [Y.out]; exact HO, HC, HB⟩
            case measure => omega
        | succ gj2 =>
          have hk4 : (k : Int) < 4 := by omega
          have hk0 : (0 : Int) ≤ (k : Int) := by omega
          have hbit := bitF (c := c) (k := k) (by omega) (by omega)
          by_cases hb : c.testBit k = true
          · rw [hb] at hbit
            by_cases hm : (spr ts c k).2 < n
            · have Y1 : Hid ((spr ts c (k + 1)).1 = upd (spr ts c k).1 k (fn ts (spr ts c k).2)) := by show _ = _; rw [spr, if_pos hb, if_pos (by rw [hN]; exact hm)]
              have Y2 : Hid ((spr ts c (k + 1)).2 = (spr ts c k).2 + 1) := by show _ = _; rw [spr, if_pos hb]
              have hm1 : (((spr ts c k).2 : Nat) : Int) < (n : Int) := by omega
              have c1 := HC.2 (spr ts c k).2 hm
              have c5 := K5.cell (i := k) (by omega)
              have f5 := K5.free k
              have hm8 : (spr ts c k).2 ≤ 8 := by omega
              clear hb hm
              generalize (spr ts c k).2 = m at *
              generalize fn ts m = tv at *
              generalize hold : (spr ts c k).1 k = old at c5
              go_wp2_with fail
              have hgr := grownBy_setCell wr ⟨b5, k, none⟩ (.int .i64 tv)
              have HO : Hid (OwnsL 24 4 (wr.setCell ⟨b5, k, none⟩ (.int .i64 tv)) w.heap.size (.slice (some ⟨gg, 0, none⟩) (sprL ts c).length cap1) (sprL ts c)) := World.ownsRow.kept HO.out hgr (Or.inr (by simp only [Value.ownBlock]; intro e; cases e; exact absurd HNE.out.1 (Nat.lt_irrefl _)))
              have HC := HC.grown hgr (fun e => by cases e; exact absurd HNE.out.2.1 (Nat.lt_irrefl _))
              have K5 := K5.set (i := k) (by omega) tv
              have HB : Hid (Below w.heap.size w (wr.setCell ⟨b5, k, none⟩ (.int .i64 tv))) := HB.out.setCell (by exact HNE.out.2.2) _
              go_roundg gj2
              case rel => exact ⟨k + 1, by omega, by go_num, by rw [Y2.out]; go_num, by rw [Y1.out]; exact K5, HO, HC, HB⟩
              case measure => omega
            · have Y1 : Hid ((spr ts c (k + 1)).1 = (spr ts c k).1) := by show _ = _; rw [spr, if_pos hb, if_neg (by rw [hN]; exact hm)]
              have Y2 : Hid ((spr ts c (k + 1)).2 = (spr ts c k).2 + 1) := by show _ = _; rw [spr, if_pos hb]
              have hm1 : ¬ ((((spr ts c k).2 : Nat) : Int) < (n : Int)) := by omega
              have hm8 := spr_le ts c k
              clear hb hm
              generalize (spr ts c k).2 = m at *
              go_wp2_with fail
              go_roundg gj2
              case rel => exact ⟨k + 1, by omega, by go_num, by rw [Y2.out]; go_num, by rw [Y1.out]; exact K5, HO, HC, HB⟩
              case measure => omega
          · have hb2 : c.testBit k = false := by simpa using hb
            have Y : Hid (spr ts c (k + 1) = spr ts c k) := by show _ = _; rw [spr, if_neg hb]
            rw [hb2] at hbit
            clear hb hb2
            go_wp2_with fail
            go_roundg gj2
            case rel => exact ⟨k + 1, by omega, by go_num, by rw [Y.out], by rw [Y.out]; exact K5, HO, HC, HB⟩
            case measure => omega
end Go.Proofs.YtmcmpedmgibmkabGreat
namespace Go.Proofs.YtmcmpedmgibmkabGreat
open Go.RowKit Plain
attribute [local go_sem] store_new
set_option linter.unusedVariables false
set_option linter.unusedSimpArgs false

/-- How many of the four lowest bits are set. -/
def popc (c : Nat) : Nat := (if c.testBit 0 then 1 else 0) + (if c.testBit 1 then 1 else 0) + (if c.testBit 2 then 1 else 0) + (if c.testBit 3 then 1 else 0)
set_option maxHeartbeats 1000000 in
theorem ones64_any (c : Nat) (w : World) (hc : c < 16) : Calls Tryz.prog 112 #[.int .u64 c] w fun e w' => e = .returned (.int .i64 (popc c : Nat)) ∧ w = w' := by
  go_enter Tryz.func112, Tryz.ntmps112
  go_wp2
  go_ret
  refine ⟨?_, rfl⟩
  rcases (by omega : c = 0 ∨ c = 1 ∨ c = 2 ∨ c = 3 ∨ c = 4 ∨ c = 5 ∨ c = 6 ∨ c = 7 ∨ c = 8 ∨ c = 9 ∨ c = 10 ∨ c = 11 ∨ c = 12 ∨ c = 13 ∨ c = 14 ∨ c = 15) with rfl | rfl | rfl | rfl | rfl | rfl | rfl | rfl | rfl | rfl | rfl | rfl | rfl | rfl | rfl | rfl <;> kernel_rfl
theorem ones_any (c : Nat) (w : World) (hc : c < 16) : Calls Tryz.prog 99 #[.int .u64 c] w fun e w' => e = .returned (.int .i64 (popc c : Nat)) ∧ w = w' := by
  go_enter Tryz.func99, Tryz.ntmps99
  go_wp2_with fail
  refine (ones64_any c _ hc).mono ?_
  rintro e w' ⟨rfl, rfl⟩
  go_wp2_with fail
  go_ret
  exact ⟨rfl, rfl⟩
theorem bitU {c k : Nat} (hc : c < 16) (hk : k < 4) : (bits BinOp.and IntKind.u64 ((c : Int) / 2 ^ k) 1 == 1) = c.testBit k := by
  have key : ∀ c : Fin 16, ∀ k : Fin 4, (bits BinOp.and IntKind.u64 ((c.val : Int) / 2 ^ k.val) 1 == 1) = c.val.testBit k.val := by decide
  exact key ⟨c, hc⟩ ⟨k, hk⟩
theorem spr_pop (ts : List Int) (c : Nat) : (spr ts c 4).2 = popc c := by
  unfold popc
  simp only [spr]
  by_cases h0 : c.testBit 0 = true <;> by_cases h1 : c.testBit 1 = true <;> by_cases h2 : c.testBit 2 = true <;> by_cases h3 : c.testBit 3 = true <;> simp [h0, h1, h2, h3]
/-- Of a code with as many bits, at each of its bits there is a tile. -/
theorem spr_room {ts : List Int} {c k : Nat} (h : popc c = ts.length) (hk : k < 4) (hb : c.testBit k = true) : (spr ts c k).2 < ts.length := by
  rw [← h, ← spr_pop ts c]
  have mono : ∀ j, j ≤ 3 → (spr ts c j).2 ≤ (spr ts c (j + 1)).2 := fun j _ => by
    rw [spr]; split <;> simp
  have hs : (spr ts c (k + 1)).2 = (spr ts c k).2 + 1 := by rw [spr, if_pos hb]
  have up : ∀ j, j ≤ 4 → k + 1 ≤ j → (spr ts c (k + 1)).2 ≤ (spr ts c j).2 := by
    intro j
    induction j with
    | zero => intro _ h; omega
    | succ j ih =>
      intro h1 h2
      rcases (by omega : j + 1 = k + 1 ∨ k + 1 ≤ j) with e | e
      · rw [e]; exact Nat.le_refl _
      · exact Nat.le_trans (ih (by omega) e) (mono j (by omega))
  have := up 4 (Nat.le_refl _) (by omega)
  omega

set_option maxHeartbeats 2000000 in
set_option maxRecDepth 20000 in
theorem spread_any (g cap : Nat) (ts : List Int) (w : World) (hts : ts.length ≤ 64) (hc : CAt w g ts.length (fn ts)) :
    Calls Tryz.prog 78 #[.slice (some ⟨g, 0, none⟩) ts.length cap] w fun e w' => ∃ g' cap', e = .returned (.slice (some ⟨g', 0, none⟩) (sprL ts 16).length cap') ∧
      OwnsL 24 4 w' w.heap.size (.slice (some ⟨g', 0, none⟩) (sprL ts 16).length cap') (sprL ts 16) ∧ Below w.heap.size w w' := by
  obtain ⟨i0, hi, hz0, hz1, hz2⟩ := info_parts infoR
  have HB := Lib.hid ((Below.refl w.heap.size w).alloc (Nat.le_refl _) (.cells #[] 24))
  have HC := hc.alloc (.cells #[] 24)
  have HO : Hid (OwnsL 24 4 (w.alloc (.cells #[] 24)) w.heap.size (.slice (some ⟨w.heap.size, 0, none⟩) 0 0) []) := OwnsL.made w (Nat.le_refl _)
  have hgw : g < w.heap.size := hc.1
  clear hc
  generalize hN : ts.length = n at *
  go_enter Tryz.func78, Tryz.ntmps78
  go_wp2_with fail
  go_loopg [3, 9] 16 (fun gk s3 s9 wr => ∃ (c : Nat) (v : Value), c + gk = 16 ∧ s9 = .int .u64 c ∧ v = s3 ∧ (∃ gg cap, v = .slice (some ⟨gg, 0, none⟩) (sprL ts c).length cap) ∧ Hid (OwnsL 24 4 wr w.heap.size v (sprL ts c)) ∧ CAt wr g n (fn ts) ∧ Hid (Below w.heap.size w wr))
  case atStart => exact ⟨0, _, by omega, rfl, rfl, ⟨_, _, rfl⟩, HO, HC, HB⟩
  case round =>
    obtain ⟨c, v, hcg, rfl, rfl, ⟨gg, cap1, hv⟩, HO, HC, HB⟩ := hrel
    subst hv
    cases gk with
    | zero =>
      have hk : ¬ ((c : Int) < 16) := by omega
      obtain rfl : c = 16 := by omega
      clear hcg hk
      go_wp2_with fail
      go_ret
      exact ⟨gg, cap1, rfl, HO.out, HB.out⟩
    | succ gk2 =>
      have hc16 : (c : Int) < 16 := by omega
      have hw1 : IntKind.u64.wrap ((c : Int) + 1) = (c : Int) + 1 := IntWalk.u64_in _ (by omega)
      go_wp2_with fail
      refine (ones_any c _ (by omega)).mono ?_
      rintro e w' ⟨rfl, rfl⟩
      by_cases hp : popc c = n
      · have Y : Hid (sprL ts (c + 1) = sprL ts c ++ [cl 4 (spr ts c 4).1]) := by show _ = _; rw [sprL, if_pos (by rw [spr_pop, hN]; exact hp)]
        have HRM : Hid (∀ k, k < 4 → c.testBit k = true → (spr ts c k).2 < n) := fun k hk hb => by have := spr_room (ts := ts) (by rw [hN]; exact hp) hk hb; rw [hN] at this; exact this
        have hp1 : (((popc c : Nat) : Int) != (n : Int)) = false := by simp; omega
        clear hp
        have HNE : Hid (gg < wr.heap.size ∧ g < wr.heap.size ∧ w.heap.size ≤ wr.heap.size) := ⟨(HO.out.lt gg rfl).2, HC.1, HB.out.size⟩
        have z4 := zero4
        have sr := World.setRow_alloc_new
        go_wp2_with fail
        clear z4 sr
        have K5 := Blk.new wr 4 (fun _ => 0) 24
        have HO : Hid (OwnsL 24 4 (wr.alloc (.cells (mk 4 fun _ => 0) 24)) w.heap.size (.slice (some ⟨gg, 0, none⟩) (sprL ts c).length cap1) (sprL ts c)) := HO.out.alloc _
        have HC := HC.alloc (.cells (mk 4 fun _ => 0) 24)
        have HB : Hid (Below w.heap.size w (wr.alloc (.cells (mk 4 fun _ => 0) 24))) := HB.out.alloc HB.out.size _
        generalize hb5 : wr.heap.size = b5 at *
        generalize wr.alloc (.cells (mk 4 fun _ => 0) 24) = x0 at *
        go_loopg [6, 18] 4 (fun gj s6 s18 wx => ∃ (k : Nat), k + gj = 4 ∧ s18 = .int .i64 k ∧ s6 = .int .i64 ((spr ts c k).2 : Nat) ∧ Blk wx b5 4 (spr ts c k).1 24 ∧ Hid (OwnsL 24 4 wx w.heap.size (.slice (some ⟨gg, 0, none⟩) (sprL ts c).length cap1) (sprL ts c)) ∧ CAt wx g n (fn ts) ∧ Hid (Below w.heap.size w wx))
        case atStart => exact ⟨0, by omega, rfl, rfl, K5, HO, HC, HB⟩
        case round =>
          obtain ⟨k, hkg, rfl, rfl, K5, HO, HC, HB⟩ := hrel
          cases gk with
          | zero =>
            have hk : ¬ ((k : Int) < 4) := by omega
            obtain rfl : k = 4 := by omega
            clear hkg hk
            have hle := sprL_len ts c
            have hle2 : (sprL ts c).length ≤ 16 := by omega
            have hx9 := K5.lt
            clear hle
            generalize (spr ts c 4).2 = m4 at *
            generalize (spr ts c 4).1 = G at *
            go_wp2_with (first | ((with_reducible show wpList _ _ _ (Oper.mk _ (Op.load 24 _) _ _ _ _ :: _) _ _); refine loadR (K5) rfl rfl rfl ?_) | ((with_reducible show wpList _ _ _ (Oper.mk _ (Op.buildSlice _ 1 _) _ _ _ _ :: _) _ _); refine wpl_buildR _ rfl rfl (f := G) rfl ?_) | (at_builtin; refine wpl_app (v := .slice (some ⟨gg, 0, none⟩) (sprL ts c).length cap1) rfl _ _ 64 rfl w.heap.size 24 i0 _ 4 32 Tryz.underlying64 hi hz0 hz1 hz2 rfl (by decide) rfl (World.ownsRow.alloc HO.out _) wr.heap.size 0 1 1 G 4 rfl (Blk.new _ _ _ _).at (by omega) (by unfold maxLen; omega) (by omega) (by simp; have := HB.out.size; omega) ?_))
            intro v' w8 R hbl hgr hloc
            obtain ⟨g', cap', hv'⟩ := ownsRow_succ R
            have HVv : Hid (∃ gg cap, v' = .slice (some ⟨gg, 0, none⟩) (sprL ts (c + 1)).length cap) := ⟨g', cap', by rw [Y.out, List.length_append]; exact hv'⟩
            have HR : Hid (OwnsL 24 4 w8 w.heap.size v' (sprL ts (c + 1))) := by
              rw [snoc_walk (m := 4) _ G] at R
              show OwnsL _ _ _ _ _ _
              rw [Y.out]
              unfold OwnsL
              rw [List.length_append]
              exact R
            have HC := (HC.alloc (.cells (mk 4 G) 24)).low hbl hgw
            have HB : Hid (Below w.heap.size w w8) := (HB.out.alloc HB.out.size _).trans hbl
            clear hbl hgr R hv' HO hloc
            go_wp2_with fail
            go_roundg gk2
            case rel => exact ⟨c + 1, _, by omega, by go_num, rfl, HVv.out, HR, HC, HB⟩
            case measure => omega
          | succ gj2 =>
            have hk4 : (k : Int) < 4 := by omega
            have hk0 : (0 : Int) ≤ (k : Int) := by omega
            have hbit := bitU (c := c) (k := k) (by omega) (by omega)
            by_cases hb : c.testBit k = true
            · have hm := HRM.out k (by omega) hb
              rw [hb] at hbit
              have Y1 : Hid ((spr ts c (k + 1)).1 = upd (spr ts c k).1 k (fn ts (spr ts c k).2)) := by show _ = _; rw [spr, if_pos hb, if_pos (by rw [hN]; exact hm)]
              have Y2 : Hid ((spr ts c (k + 1)).2 = (spr ts c k).2 + 1) := by show _ = _; rw [spr, if_pos hb]
              have hm1 : (((spr ts c k).2 : Nat) : Int) < (n : Int) := by omega
              have hm0 : (0 : Int) ≤ (((spr ts c k).2 : Nat) : Int) := by omega
              have c1 := HC.2 (spr ts c k).2 hm
              have c5 := K5.cell (i := k) (by omega)
              have f5 := K5.free k
              have hm8 := spr_le ts c k
              clear hb hm
              generalize (spr ts c k).2 = m at *
              generalize fn ts m = tv at *
              generalize hold : (spr ts c k).1 k = old at c5
              go_wp2_with fail
              have hgr := grownBy_setCell wr ⟨b5, k, none⟩ (.int .i64 tv)
              have HO : Hid (OwnsL 24 4 (wr.setCell ⟨b5, k, none⟩ (.int .i64 tv)) w.heap.size (.slice (some ⟨gg, 0, none⟩) (sprL ts c).length cap1) (sprL ts c)) := World.ownsRow.kept HO.out hgr (Or.inr (by simp only [Value.ownBlock]; intro e; cases e; exact absurd HNE.out.1 (Nat.lt_irrefl _)))
              have HC := HC.grown hgr (fun e => by cases e; exact absurd HNE.out.2.1 (Nat.lt_irrefl _))
              have K5 := K5.set (i := k) (by omega) tv
              have HB : Hid (Below w.heap.size w (wr.setCell ⟨b5, k, none⟩ (.int .i64 tv))) := HB.out.setCell (by exact HNE.out.2.2) _
              go_roundg gj2
              case rel => exact ⟨k + 1, by omega, by go_num, by rw [Y2.out]; go_num, by rw [Y1.out]; exact K5, HO, HC, HB⟩
              case measure => omega
            · have hb2 : c.testBit k = false := by simpa using hb
              have Y : Hid (spr ts c (k + 1) = spr ts c k) := by show _ = _; rw [spr, if_neg hb]
              rw [hb2] at hbit
              clear hb hb2
              go_wp2_with fail
              go_roundg gj2
              case rel => exact ⟨k + 1, by omega, by go_num, by rw [Y.out], by rw [Y.out]; exact K5, HO, HC, HB⟩
              case measure => omega
      · have Y : Hid (sprL ts (c + 1) = sprL ts c) := by show _ = _; rw [sprL, if_neg (by rw [spr_pop, hN]; exact hp)]
        have hp1 : (((popc c : Nat) : Int) != (n : Int)) = true := by simp; omega
        clear hp
        go_wp2_with fail
        go_roundg gk2
        case rel => exact ⟨c + 1, _, by omega, by go_num, rfl, ⟨gg, cap1, by rw [Y.out]⟩, by rw [Y.out]; exact HO, HC, HB⟩
        case measure => omega
end Go.Proofs.YtmcmpedmgibmkabGreat
namespace Go.Proofs.YtmcmpedmgibmkabGreat
open Go.RowKit Plain
attribute [local go_sem] store_new
set_option linter.unusedVariables false
set_option linter.unusedSimpArgs false

theorem sprL_vd {ts : List Int} (h : ∀ x, x ∈ ts → 0 ≤ x ∧ x ≤ 17) {m : Nat} {x : List Int} (hx : x ∈ sprL ts m) : VdRow (fn x) := by
  obtain ⟨c, _, _, rfl⟩ := (sprL_mem ts m x).1 hx
  intro i hi
  rw [fn_cl _ i hi]
  rcases spr_in ts c 4 i with q | q
  · rw [q]; omega
  · exact h _ q

set_option maxHeartbeats 8000000 in
set_option maxRecDepth 100000 in
theorem l4Before_any (r : Nat → Int) (w : World) (hV : VdRow r) :
    Calls Tryz.prog 91 #[.agg (mk 4 r)] w fun e w' => ∃ g cap, e = .returned (.slice (some ⟨g, 0, none⟩) (befS r 16).length cap) ∧
      OwnsL 24 4 w' w.heap.size (.slice (some ⟨g, 0, none⟩) (befS r 16).length cap) (befS r 16) ∧ Below w.heap.size w w' := by
  obtain ⟨i0, hi, hz0, hz1, hz2⟩ := info_parts infoInt
  have K1 := (Blk.new w 4 r 24).alloc (.cells #[] 24)
  have HB := Lib.hid (((Below.refl w.heap.size w).alloc (Nat.le_refl _) (.cells (mk 4 r) 24)).alloc (by simp) (.cells #[] 24))
  have HU : Hid (OwnsL 24 4 ((w.alloc (.cells (mk 4 r) 24)).alloc (.cells #[] 24)) w.heap.size (.slice (some ⟨w.heap.size + 1, 0, none⟩) 0 0) []) := by
    have := OwnsL.made (t := 24) (m := 4) (b := w.heap.size) (w.alloc (.cells (mk 4 r) 24)) (by simp)
    rw [show (w.alloc (.cells (mk 4 r) 24)).heap.size = w.heap.size + 1 by simp] at this
    exact this
  have HV := Lib.hid hV
  clear hV
  go_enter Tryz.func91, Tryz.ntmps91
  go_wp2_with fail
  go_loopg [3, 4] 16 (fun gk s3 s4 wr => ∃ (c : Nat) (u : Value), c + gk = 16 ∧ s4 = .int .i64 c ∧ u = s3 ∧ (∃ gu cu, u = .slice (some ⟨gu, 0, none⟩) (befS r c).length cu) ∧ Hid (OwnsL 24 4 wr w.heap.size u (befS r c)) ∧ Blk wr w.heap.size 4 r 24 ∧ Hid (Below w.heap.size w wr))
  case atStart => exact ⟨0, _, by omega, rfl, rfl, ⟨_, _, rfl⟩, HU, K1, HB⟩
  case round =>
    obtain ⟨c, u, hcg, rfl, rfl, ⟨gu, cu, hu⟩, HU, K1, HB⟩ := hrel
    subst hu
    cases gk with
    | zero =>
      have hk : ¬ ((c : Int) < 16) := by omega
      obtain rfl : c = 16 := by omega
      clear hcg hk
      go_wp2_with fail
      go_ret
      exact ⟨gu, cu, rfl, HU.out, HB.out⟩
    | succ gk2 =>
      have hc16 : (c : Int) < 16 := by omega
      have HT : Hid (OwnsInts (wr.alloc (.cells #[] 3)) w.heap.size (.slice (some ⟨wr.heap.size, 0, none⟩) 0 0) []) := World.ownsRow_made (base := w.heap.size) (e := 3) (size := 1) wr #[] 0 HB.out.size (by decide) rfl
      have HU : Hid (OwnsL 24 4 (wr.alloc (.cells #[] 3)) w.heap.size (.slice (some ⟨gu, 0, none⟩) (befS r c).length cu) (befS r c)) := HU.out.alloc _
      have K1 := K1.alloc (.cells #[] 3)
      have HB : Hid (Below w.heap.size w (wr.alloc (.cells #[] 3))) := HB.out.alloc HB.out.size _
      go_wp2_with fail
      generalize wr.alloc (.cells #[] 3) = wy at *
      go_loopg [5, 6] 4 (fun gj s5 s6 wx => ∃ (k : Nat) (v : Value), k + gj = 4 ∧ s6 = .int .i64 k ∧ v = s5 ∧ (∃ gt ct, v = .slice (some ⟨gt, 0, none⟩) (tls r c k).length ct) ∧ Hid (OwnsInts wx w.heap.size v (tls r c k)) ∧ Hid (∀ j, j < k → 0 < r j) ∧ Hid (OwnsL 24 4 wx w.heap.size (.slice (some ⟨gu, 0, none⟩) (befS r c).length cu) (befS r c)) ∧ Blk wx w.heap.size 4 r 24 ∧ Hid (Below w.heap.size w wx))
      case atStart => exact ⟨0, _, by omega, rfl, rfl, ⟨_, _, rfl⟩, HT, fun j hj => by omega, HU, K1, HB⟩
      case round =>
        obtain ⟨k, v, hkg, rfl, rfl, ⟨gt, ct, hv⟩, HT, HP, HU, K1, HB⟩ := hrel
        subst hv
        by_cases hgo : k < 4 ∧ 0 < r k
        · obtain ⟨hk9, hx0⟩ := hgo
          obtain ⟨gj2, rfl⟩ : ∃ gj2, gk = gj2 + 1 := ⟨gk - 1, by omega⟩
          have hk4 : (k : Int) < 4 := by omega
          have hk0 : (0 : Int) ≤ (k : Int) := by omega
          have hbit := bitF (c := c) (k := k) (by omega) hk9
          have HPN : Hid (∀ j, j < k + 1 → 0 < r j) := fun j hj => by
            rcases (by omega : j < k ∨ j = k) with q | rfl
            · exact HP.out j q
            · exact hx0
          have hx17 := (HV.out k hk9).2
          have hle := tls_len r c k
          have hle8 : (tls r c k).length ≤ 8 := by omega
          clear hle
          have c1 := K1.cell (i := k) hk9
          generalize hX : r k = x at c1 hx0 hx17
          have HX := Lib.hid hX
          clear hX
          have hw : IntKind.i64.wrap (x - 1) = x - 1 := IntWalk.i64_in _ (by omega)
          by_cases hb : c.testBit k = true
          · rw [hb] at hbit
            have HBT := Lib.hid hb
            clear hb
            go_wp2_with fail
            have K1 : Blk wr.drew w.heap.size 4 r 24 := K1.drew
            have HT : Hid (OwnsInts wr.drew w.heap.size (.slice (some ⟨gt, 0, none⟩) (tls r c k).length ct) (tls r c k)) := HT.out
            have HU : Hid (OwnsL 24 4 wr.drew w.heap.size (.slice (some ⟨gu, 0, none⟩) (befS r c).length cu) (befS r c)) := HU.out
            have HB : Hid (Below w.heap.size w wr.drew) := HB.out.drew
            refine wp_region_held_drew (S := fun W => Blk W w.heap.size 4 r 24) (by kernel_rfl) (K1) (fun hHeld => ?_)
            clear hHeld
            generalize wr.drew = x0 at *
            have hHeld := K1
            refine wpAnyH_take (i := 0) (oi := { dst := some 32, op := _, type := _, pos := _, after := _, guard := _ }) (v := .slice (some ⟨gt, 0, none⟩) (tls r c k).length ct) rfl (by kernel_rfl) (by kernel_rfl) (by kernel_rfl) (fun _ _ _ h => h) (Or.inl ⟨by rfl, by intro w hSw; clear hSw; go_simp; (try with_reducible rfl)⟩) (by assumption) ?_
            try simp only [Act.put, List.setIfInBounds_toArray, List.set_cons_zero, List.set_cons_succ]
            refine wpAnyH_take (i := 1) (oi := { dst := some 33, op := _, type := _, pos := _, after := _, guard := _ }) (v := .int .i64 (k : Int)) rfl (by kernel_rfl) (by kernel_rfl) (by kernel_rfl) (fun _ _ _ h => h) (Or.inl ⟨by rfl, by intro w hSw; clear hSw; go_simp; (try with_reducible rfl)⟩) (by assumption) ?_
            try simp only [Act.put, List.setIfInBounds_toArray, List.set_cons_zero, List.set_cons_succ]
            refine wpAnyH_take (i := 2) (oi := { dst := some 34, op := _, type := _, pos := _, after := _, guard := _ }) (v := .pointer (some ⟨w.heap.size, k, none⟩)) rfl (by kernel_rfl) (by kernel_rfl) (by kernel_rfl) (fun _ _ _ h => h) (Or.inl ⟨by rfl, by intro w hSw; clear hSw; go_simp; (try with_reducible rfl)⟩) (by assumption) ?_
            try simp only [Act.put, List.setIfInBounds_toArray, List.set_cons_zero, List.set_cons_succ]
            refine wpAnyH_take (i := 3) (oi := { dst := some 35, op := _, type := _, pos := _, after := _, guard := _ }) (v := .int .i64 x) rfl (by kernel_rfl) (by kernel_rfl) (by kernel_rfl) (fun _ _ _ h => h) (Or.inl ⟨by rfl, by intro W hSw; have c9 := hSw.cell (i := k) (by omega); rw [HX.out] at c9; clear hSw; go_simp⟩) (by assumption) ?_
            try simp only [Act.put, List.setIfInBounds_toArray, List.set_cons_zero, List.set_cons_succ]
            refine wpAnyH_take (i := 4) (oi := { dst := some 36, op := _, type := _, pos := _, after := _, guard := _ }) (v := .int .i64 (x - 1)) rfl (by kernel_rfl) (by kernel_rfl) (by kernel_rfl) (fun _ _ _ h => h) (Or.inl ⟨by rfl, by intro w hSw; clear hSw; go_simp; (try with_reducible rfl)⟩) (by assumption) ?_
            try simp only [Act.put, List.setIfInBounds_toArray, List.set_cons_zero, List.set_cons_succ]
            refine wpAnyH_take (i := 5) (oi := { dst := some 37, op := _, type := _, pos := _, after := _, guard := _ }) (v := .int .i64 (k : Int)) rfl (by kernel_rfl) (by kernel_rfl) (by kernel_rfl) (fun _ _ _ h => h) (Or.inl ⟨by rfl, by intro w hSw; clear hSw; go_simp; (try with_reducible rfl)⟩) (by assumption) ?_
            try simp only [Act.put, List.setIfInBounds_toArray, List.set_cons_zero, List.set_cons_succ]
            refine wpAnyH_take (i := 6) (oi := { dst := some 38, op := _, type := _, pos := _, after := _, guard := _ }) (v := .pointer (some ⟨w.heap.size, k, none⟩)) rfl (by kernel_rfl) (by kernel_rfl) (by kernel_rfl) (fun _ _ _ h => h) (Or.inl ⟨by rfl, by intro w hSw; clear hSw; go_simp; (try with_reducible rfl)⟩) (by assumption) ?_
            try simp only [Act.put, List.setIfInBounds_toArray, List.set_cons_zero, List.set_cons_succ]
            refine wpAnyH_take (i := 7) (oi := { dst := some 39, op := _, type := _, pos := _, after := _, guard := _ }) (v := .int .i64 x) rfl (by kernel_rfl) (by kernel_rfl) (by kernel_rfl) (fun _ _ _ h => h) (Or.inl ⟨by rfl, by intro W hSw; have c9 := hSw.cell (i := k) (by omega); rw [HX.out] at c9; clear hSw; go_simp⟩) (by assumption) ?_
            try simp only [Act.put, List.setIfInBounds_toArray, List.set_cons_zero, List.set_cons_succ]
            refine wpAnyH_take (i := 8) (oi := { dst := some 40, op := _, type := _, pos := _, after := _, guard := _ }) (v := .int .i64 (x - 1)) rfl (by kernel_rfl) (by kernel_rfl) (by kernel_rfl) (fun _ _ _ h => h) (Or.inl ⟨by rfl, by intro w hSw; clear hSw; go_simp; (try with_reducible rfl)⟩) (by assumption) ?_
            try simp only [Act.put, List.setIfInBounds_toArray, List.set_cons_zero, List.set_cons_succ]
            clear hHeld
            refine wpAnyH_ready (rs := [9]) (by kernel_rfl) (by simp) ?_
            refine AllReadyH.cons rfl (fun K hK => ?_) AllReadyH.nil
            go_simp
            have K1 := K1.alloc (.cells #[.int .i64 (x - 1), .int .i64 (x - 1)] 3)
            have HTa := World.ownsRow.alloc HT.out (.cells #[.int .i64 (x - 1), .int .i64 (x - 1)] 3)
            have HU : Hid (OwnsL 24 4 (x0.alloc (.cells #[.int .i64 (x - 1), .int .i64 (x - 1)] 3)) w.heap.size (.slice (some ⟨gu, 0, none⟩) (befS r c).length cu) (befS r c)) := HU.out.alloc _
            have HB : Hid (Below w.heap.size w (x0.alloc (.cells #[.int .i64 (x - 1), .int .i64 (x - 1)] 3))) := HB.out.alloc HB.out.size _
            have hcn := cell_two_new x0 (.int .i64 (x - 1)) (.int .i64 (x - 1)) 3
            generalize x0.alloc (.cells #[.int .i64 (x - 1), .int .i64 (x - 1)] 3) = x1 at *
            refine hK.out _ _ K1 (fun hHeld => ?_)
            clear hK K hHeld
            try simp only [Act.put, List.setIfInBounds_toArray, List.set_cons_zero, List.set_cons_succ]
            refine wpAnyH_ready (rs := [10]) (by kernel_rfl) (by simp) ?_
            refine AllReadyH.cons rfl (fun K hK => ?_) AllReadyH.nil
            rw [if_pos (by rfl)]
            refine Go.wp_append_own _ _ _ 35 rfl w.heap.size 3 i0 (.int .i64 0) 1 8 Tryz.underlying35 hi hz0 hz1 hz2 rfl (by decide) (.slice (some ⟨gt, 0, none⟩) (tls r c k).length ct) (tls r c k).length _ rfl HTa ⟨x0.heap.size, 0, none⟩ 2 2 [.int .i64 (x - 1), .int .i64 (x - 1)] rfl rfl hcn (by simp [Value.oneCell']) (by unfold maxLen; omega) (by omega) HB.out.size ?_
            intro v' x2 hown' hgr _
            have K1 := K1.grown hgr (fun e => own_ne_blk HTa K1 (by decide) e.symm)
            have HU : Hid (OwnsL 24 4 x2 w.heap.size (.slice (some ⟨gu, 0, none⟩) (befS r c).length cu) (befS r c)) := World.ownsRow.kept HU.out hgr (own_ne_own HU.out HTa (by decide))
            have HB : Hid (Below w.heap.size w x2) := HB.out.grown hgr HB.out.size (fun j hj => (HTa.lt j hj).1)
            have HTn : Hid (x2.ownsRow w.heap.size 3 1 v' ((tls r c k).length + 2) ((tls r c k).map (Value.int .i64) ++ [.int .i64 (x - 1), .int .i64 (x - 1)])) := hown'
            clear hown' hgr HTa hcn
            refine hK.out _ _ K1 (fun hHeld => ?_)
            clear hK K
            try simp only [Act.put, List.setIfInBounds_toArray, List.set_cons_zero, List.set_cons_succ]
            refine wpAnyH_take (i := 11) (oi := { dst := some 5, op := _, type := _, pos := _, after := _, guard := _ }) (v := v') rfl (by kernel_rfl) (by kernel_rfl) (by kernel_rfl) (fun _ _ _ h => h) (Or.inl ⟨by rfl, by intro w hSw; clear hSw; go_simp; (try with_reducible rfl)⟩) (by assumption) ?_
            try simp only [Act.put, List.setIfInBounds_toArray, List.set_cons_zero, List.set_cons_succ]
            refine wpAnyH_done (by kernel_rfl) ?_ _
            clear hHeld
            have Y : Hid (tls r c (k + 1) = tls r c k ++ [x - 1, x - 1]) := by show _ = _; rw [tls, if_pos HBT.out, HX.out]
            obtain ⟨g', c', hv'⟩ := ownsRow_succ HTn.out
            have HVv : Hid (∃ gg cap, v' = .slice (some ⟨gg, 0, none⟩) (tls r c (k + 1)).length cap) := ⟨g', c', by rw [Y.out, List.length_append]; exact hv'⟩
            have HT : Hid (OwnsInts x2 w.heap.size v' (tls r c (k + 1))) := by
              show OwnsInts _ _ _ _
              unfold OwnsInts
              rw [Y.out, List.map_append, List.length_append]
              exact HTn.out
            clear HTn hv'
            go_wp2_with fail
            go_roundg gj2
            case rel => exact ⟨k + 1, _, by omega, by go_num, rfl, HVv.out, HT, HPN, HU, K1, HB⟩
            case measure => omega
          · have hb2 : c.testBit k = false := by simpa using hb
            rw [hb2] at hbit
            clear hb
            have Y : Hid (tls r c (k + 1) = tls r c k ++ [x]) := by show _ = _; rw [tls, hb2, HX.out]; rfl
            clear hb2
            have hbs := HB.out.size
            have HTa := World.ownsRow.alloc HT.out (.cells #[.int .i64 x] 3)
            go_wp2_with (first | (at_builtin; refine wpList_append_own _ rfl _ _ 35 rfl w.heap.size 3 i0 (.int .i64 0) 1 8 Tryz.underlying35 hi hz0 hz1 hz2 rfl (by decide) (.slice (some ⟨gt, 0, none⟩) (tls r c k).length ct) (tls r c k).length _ rfl HTa ⟨wr.heap.size, 0, none⟩ 1 1 [.int .i64 x] rfl rfl ?c1 ?c2 ?c3 ?c4 ?c5 ?_))
            case c1 =>
              have := cell_one_new wr (.int .i64 x) 3
              simpa only [World.size_alloc] using this
            case c2 => simp [Value.oneCell']
            case c3 => unfold maxLen; omega
            case c4 => omega
            case c5 => simp; omega
            intro v' w2 hown' hgr _
            have K1 := (K1.alloc (.cells #[.int .i64 x] 3)).grown hgr (fun e => own_ne_blk HTa (K1.alloc _) (by decide) e.symm)
            have HU : Hid (OwnsL 24 4 w2 w.heap.size (.slice (some ⟨gu, 0, none⟩) (befS r c).length cu) (befS r c)) := World.ownsRow.kept (HU.out.alloc (.cells #[.int .i64 x] 3)) hgr (own_ne_own (HU.out.alloc (.cells #[.int .i64 x] 3)) HTa (by decide))
            have HB : Hid (Below w.heap.size w w2) := (HB.out.alloc hbs _).grown hgr (by simp; omega) (fun j hj => (HTa.lt j hj).1)
            obtain ⟨g', c', hv'⟩ := ownsRow_succ hown'
            have HVv : Hid (∃ gg cap, v' = .slice (some ⟨gg, 0, none⟩) (tls r c (k + 1)).length cap) := ⟨g', c', by rw [Y.out, List.length_append]; exact hv'⟩
            have HT : Hid (OwnsInts w2 w.heap.size v' (tls r c (k + 1))) := by
              show OwnsInts _ _ _ _
              unfold OwnsInts
              rw [Y.out, List.map_append, List.length_append]
              exact hown'
            clear hown' hgr hv' HTa
            go_wp2_with fail
            go_roundg gj2
            case rel => exact ⟨k + 1, _, by omega, by go_num, rfl, HVv.out, HT, HPN, HU, K1, HB⟩
            case measure => omega
        · have HLD : Hid (led r = k) := led_eq (by omega) (fun j hj => HP.out j hj) (by
            by_cases h4 : k = 4
            · exact Or.inl h4
            · right
              have : ¬ 0 < r k := fun q => hgo ⟨by omega, q⟩
              omega)
          have hle := tls_len r c k
          have hle8 : (tls r c k).length ≤ 8 := by omega
          have HCT : Hid (CAt wr gt (tls r c k).length (fn (tls r c k))) := CAt.of_ints HT.out
          have HCH := l1Has_any gt ct (tls r c k) 0 wr HCT.out (by omega)
          clear hle
          by_cases h4 : k = 4
          · have hk4 : ¬ ((k : Int) < 4) := by omega
            generalize hts : tls r c k = ts at *
            have HTS : Hid (tls r c (led r) = ts) := by show _ = _; rw [HLD.out]; exact hts
            clear hts
            by_cases hl4 : 4 < ts.length
            · have Y : Hid (befS r (c + 1) = befS r c) := by
                show _ = _
                rw [befS, if_neg]
                unfold tlsOk
                rw [HTS.out]
                simp; omega
              have hl5 : (4 : Int) < (ts.length : Int) := by omega
              clear HCH hl4
              go_wp2_with fail
              go_roundg gk2
              case rel => exact ⟨c + 1, _, by omega, by go_num, rfl, ⟨gu, cu, by rw [Y.out]⟩, by rw [Y.out]; exact HU, K1, HB⟩
              case measure => omega
            · have hl5 : ¬ ((4 : Int) < (ts.length : Int)) := by omega
              generalize hd : decide ((0 : Int) ∈ ts) = d0 at HCH
              have HD := Lib.hid hd
              clear hd
              go_wp2_with fail
              refine HCH.mono ?_
              rintro e w' ⟨rfl, rfl⟩
              clear HCH
              cases d0 with
              | true =>
                have Y : Hid (befS r (c + 1) = befS r c) := by
                  show _ = _
                  rw [befS, if_neg]
                  unfold tlsOk
                  rw [HTS.out]
                  have := of_decide_eq_true HD.out
                  simp [this]
                go_wp2_with fail
                go_roundg gk2
                case rel => exact ⟨c + 1, _, by omega, by go_num, rfl, ⟨gu, cu, by rw [Y.out]⟩, by rw [Y.out]; exact HU, K1, HB⟩
                case measure => omega
              | false =>
                have h0n : ¬ (0 : Int) ∈ ts := of_decide_eq_false HD.out
                have Y : Hid (befS r (c + 1) = insR r (sprL ts 16) (befS r c) (sprL ts 16).length) := by
                  show _ = _
                  rw [befS, if_pos, HTS.out]
                  unfold tlsOk
                  rw [HTS.out]
                  exact decide_eq_true ⟨by omega, h0n⟩
                have HXV : Hid (∀ x, x ∈ sprL ts 16 → VdRow (fn x)) := fun x hx => sprL_vd (fun y hy => by
                  have q1 := tls_mem HV.out c (led r) (led_le r) y (by rw [HTS.out]; exact hy)
                  have q2 := tls_pos (led r) (led_pos r) y (by rw [HTS.out]; exact hy)
                  exact ⟨q2, q1.2⟩) hx
                have hxl := sprL_len ts 16
                have hbl := befS_len r c
                have HIL : Hid (∀ i, i ≤ 16 → (insR r (sprL ts 16) (befS r c) i).length ≤ 65536) := fun i hi => by
                  have := insR_le r (sprL ts 16) (befS r c) i
                  omega
                have HIA : Hid (∀ i, i ≤ (sprL ts 16).length → AllL 4 (insR r (sprL ts 16) (befS r c) i)) := fun i hi => insR_all (sprL_all ts 16) (befS_all c) i hi
                clear h0n hbl
                go_wp2_with fail
                refine (l4Spread_any gt ct ts _ (by omega) HCT.out).mono ?_
                rintro e w5 ⟨gx, cx, rfl, hox, hb⟩
                obtain ⟨_, _, e1, hcx, CX⟩ := KRow.of_list (sprL_all ts 16) hox
                cases e1
                have HXA : Hid (∀ i x, (sprL ts 16)[i]? = some x → ∀ j, j < 4 → flatF (sprL ts 16) (i * 4 + j) = fn x j) := fun i x hx j hj => flatF_at (sprL_all ts 16) hx hj
                have HXL : Hid (∀ x, x ∈ sprL ts 16 → x.length = 4) := sprL_all ts 16
                have K1 := K1.below hb K1.lt
                have HU : Hid (OwnsL 24 4 w5 w.heap.size (.slice (some ⟨gu, 0, none⟩) (befS r c).length cu) (befS r c)) := HU.out.below hb
                have HB : Hid (Below w.heap.size w w5) := HB.out.trans (hb.mono HB.out.size)
                clear hb hox HCT HT
                generalize hXX : sprL ts 16 = X at *
                generalize hFX : flatF X = hX at *
                generalize hNX : X.length = nX at *
                generalize hII : befS r c = I at *
                go_wp2_with fail
                go_loopg [3, 8] nX (fun gj s3 s8 wx => ∃ (i : Nat) (u : Value), i + gj = nX ∧ s8 = .int .i64 i ∧ u = s3 ∧ (∃ gu cu, u = .slice (some ⟨gu, 0, none⟩) (insR r X I i).length cu) ∧ Hid (OwnsL 24 4 wx w.heap.size u (insR r X I i)) ∧ CAt wx gx (nX * 4) hX ∧ Blk wx w.heap.size 4 r 24 ∧ Hid (Below w.heap.size w wx))
                case atStart => exact ⟨0, _, by omega, rfl, rfl, ⟨gu, cu, rfl⟩, HU, CX, K1, HB⟩
                case round =>
                  obtain ⟨i, u, hig, rfl, rfl, ⟨gu, cu, hu⟩, HU, CX, K1, HB⟩ := hrel
                  subst hu
                  cases gk with
                  | zero =>
                    have hk : ¬ ((i : Int) < (nX : Int)) := by omega
                    obtain rfl : i = nX := by omega
                    go_wp2_with fail
                    go_roundg gk2
                    case rel => exact ⟨c + 1, _, by omega, by go_num, rfl, ⟨gu, cu, by rw [Y.out]⟩, by rw [Y.out]; exact HU, K1, HB⟩
                    case measure => omega
                  | succ gi2 =>
                    have hi4 : (i : Int) < (nX : Int) := by omega
                    have hi0 : (0 : Int) ≤ (i : Int) := by omega
                    have hi9 : i < nX := by omega
                    obtain ⟨x, hx⟩ : ∃ x, X[i]? = some x := ⟨X[i]'(by omega), List.getElem?_eq_getElem _⟩
                    have HFX : Hid (∀ j, j < 4 → hX (i * 4 + j) = fn x j) := HXA.out i x hx
                    have HFV : Hid (VdRow (fun j => hX (i * 4 + j))) := fun j hj => by
                      show 0 ≤ hX (i * 4 + j) ∧ hX (i * 4 + j) ≤ 17
                      rw [HFX.out j hj]; exact HXV.out x (List.mem_of_getElem? hx) j hj
                    have HCX : Hid (cl 4 (fun j => hX (i * 4 + j)) = x) := by
                      show _ = _
                      rw [← cl_fn (HXL.out x (List.mem_of_getElem? hx)), cl_inj]; exact HFX.out
                    have HSL : Hid (slid (fn x) 4 = slid (fun j => hX (i * 4 + j)) 4) := slid_congr 4 fun j hj => (HFX.out j hj).symm
                    have HXI := Lib.hid hx
                    clear hx
                    go_wp2_with (first | ((with_reducible show wpList _ _ _ (Oper.mk _ (Op.load 24 _) _ _ _ _ :: _) _ _); refine loadAR (off := i * 4) CX (by omega) rfl rfl rfl ?_))
                    have HFq : Hid ((fun j => hX (i * 4 + j)) = fun j => hX (i * 4 + j)) := rfl
                    refine (l2Row_any (fun j => hX (i * 4 + j)) _ HFV.out).mono ?_
                    rintro e w6 ⟨rfl, hb⟩
                    have K1 := K1.below hb K1.lt
                    have CX := CX.below hb
                    have HU : Hid (OwnsL 24 4 w6 w.heap.size (.slice (some ⟨gu, 0, none⟩) (insR r X I i).length cu) (insR r X I i)) := HU.out.below hb
                    have HB : Hid (Below w.heap.size w w6) := HB.out.trans (hb.mono HB.out.size)
                    clear hb
                    have iE : ∀ (w : World), (Op.equalIn 10000 24 (.agg (mk 4 (slid (fun j => hX (i * 4 + j)) 4).row)) (.agg (mk 4 r))).run Tryz.prog w = .ok (sameR (slid (fun j => hX (i * 4 + j)) 4).row r) w := fun w => eqR 9998 _ _ w
                    have HNI := Lib.hid (HIL.out i (by omega))
                    have HAI := Lib.hid (HIA.out i (by omega))
                    have HYT : Hid (sameR (slid (fun j => hX (i * 4 + j)) 4).row r = true → insR r X I (i + 1) = insL (lt 4) (insR r X I i) x) := fun q => by
                      rw [insR]; simp only [HXI.out]; rw [if_pos (by rw [HSL.out]; exact q)]
                    have HYF : Hid (sameR (slid (fun j => hX (i * 4 + j)) 4).row r = false → insR r X I (i + 1) = insR r X I i) := fun q => by
                      rw [insR]; simp only [HXI.out]; rw [if_neg (by rw [HSL.out, q]; simp)]
                    generalize hR9 : (slid (fun j => hX (i * 4 + j)) 4).row = R9 at *
                    clear hR9
                    have z4 := zero4
                    have K9 := Blk.new w6 4 R9 24
                    have K1 := K1.alloc (.cells (mk 4 R9) 24)
                    have CX := CX.alloc (.cells (mk 4 R9) 24)
                    have HU : Hid (OwnsL 24 4 (w6.alloc (.cells (mk 4 R9) 24)) w.heap.size (.slice (some ⟨gu, 0, none⟩) (insR r X I i).length cu) (insR r X I i)) := HU.out.alloc _
                    have HB : Hid (Below w.heap.size w (w6.alloc (.cells (mk 4 R9) 24))) := HB.out.alloc HB.out.size _
                    cases hs : sameR R9 r with
                    | true =>
                      have Z := Lib.hid (HYT.out hs)
                      rw [hs] at iE
                      clear hs HYT HYF
                      go_wp2_with (first | ((with_reducible show wpList _ _ _ (Oper.mk _ (Op.load 24 _) _ _ _ _ :: _) _ _); refine loadR (K9) rfl rfl rfl ?_) | ((with_reducible show wpList _ _ _ (Oper.mk _ (Op.load 24 _) _ _ _ _ :: _) _ _); refine loadR (K1) rfl rfl rfl ?_) | ((with_reducible show wpList _ _ _ (Oper.mk _ (Op.load 24 _) _ _ _ _ :: _) _ _); refine loadAR (off := i * 4) CX (by omega) rfl rfl rfl ?_))
                      refine (l4Put_any gu cu w.heap.size (insR r X I i) (fun j => hX (i * 4 + j)) _ HAI.out HNI.out HU.out).mono ?_
                      rw [HCX.out, ← Z.out]
                      rintro e w7 ⟨g7, c7, rfl, ho7, hb⟩
                      have HU : Hid (OwnsL 24 4 w7 w.heap.size (.slice (some ⟨g7, 0, none⟩) (insR r X I (i + 1)).length c7) (insR r X I (i + 1))) := ho7
                      have K1 := K1.below hb K1.lt
                      have CX := CX.below hb
                      have HB : Hid (Below w.heap.size w w7) := HB.out.trans (hb.mono HB.out.size)
                      clear hb ho7
                      go_wp2_with fail
                      go_roundg gi2
                      case rel => exact ⟨i + 1, _, by omega, by go_num, rfl, ⟨g7, c7, rfl⟩, HU, CX, K1, HB⟩
                      case measure => omega
                    | false =>
                      have Z := Lib.hid (HYF.out hs)
                      rw [hs] at iE
                      clear hs HYT HYF
                      go_wp2_with (first | ((with_reducible show wpList _ _ _ (Oper.mk _ (Op.load 24 _) _ _ _ _ :: _) _ _); refine loadR (K9) rfl rfl rfl ?_) | ((with_reducible show wpList _ _ _ (Oper.mk _ (Op.load 24 _) _ _ _ _ :: _) _ _); refine loadR (K1) rfl rfl rfl ?_))
                      go_roundg gi2
                      case rel => exact ⟨i + 1, _, by omega, by go_num, rfl, ⟨gu, cu, by rw [Z.out]⟩, by rw [Z.out]; exact HU, CX, K1, HB⟩
                      case measure => omega
          · have hk4 : (k : Int) < 4 := by omega
            have hk9 : k < 4 := by omega
            have hk0 : (0 : Int) ≤ (k : Int) := by omega
            have c1 := K1.cell (i := k) hk9
            have hx0 : ¬ (0 < r k) := fun q => hgo ⟨hk9, q⟩
            generalize hX : r k = x at c1 hx0
            clear hX
            generalize hts : tls r c k = ts at *
            have HTS : Hid (tls r c (led r) = ts) := by show _ = _; rw [HLD.out]; exact hts
            clear hts
            by_cases hl4 : 4 < ts.length
            · have Y : Hid (befS r (c + 1) = befS r c) := by
                show _ = _
                rw [befS, if_neg]
                unfold tlsOk
                rw [HTS.out]
                simp; omega
              have hl5 : (4 : Int) < (ts.length : Int) := by omega
              clear HCH hl4
              go_wp2_with fail
              go_roundg gk2
              case rel => exact ⟨c + 1, _, by omega, by go_num, rfl, ⟨gu, cu, by rw [Y.out]⟩, by rw [Y.out]; exact HU, K1, HB⟩
              case measure => omega
            · have hl5 : ¬ ((4 : Int) < (ts.length : Int)) := by omega
              generalize hd : decide ((0 : Int) ∈ ts) = d0 at HCH
              have HD := Lib.hid hd
              clear hd
              go_wp2_with fail
              refine HCH.mono ?_
              rintro e w' ⟨rfl, rfl⟩
              clear HCH
              cases d0 with
              | true =>
                have Y : Hid (befS r (c + 1) = befS r c) := by
                  show _ = _
                  rw [befS, if_neg]
                  unfold tlsOk
                  rw [HTS.out]
                  have := of_decide_eq_true HD.out
                  simp [this]
                go_wp2_with fail
                go_roundg gk2
                case rel => exact ⟨c + 1, _, by omega, by go_num, rfl, ⟨gu, cu, by rw [Y.out]⟩, by rw [Y.out]; exact HU, K1, HB⟩
                case measure => omega
              | false =>
                have h0n : ¬ (0 : Int) ∈ ts := of_decide_eq_false HD.out
                have Y : Hid (befS r (c + 1) = insR r (sprL ts 16) (befS r c) (sprL ts 16).length) := by
                  show _ = _
                  rw [befS, if_pos, HTS.out]
                  unfold tlsOk
                  rw [HTS.out]
                  exact decide_eq_true ⟨by omega, h0n⟩
                have HXV : Hid (∀ x, x ∈ sprL ts 16 → VdRow (fn x)) := fun x hx => sprL_vd (fun y hy => by
                  have q1 := tls_mem HV.out c (led r) (led_le r) y (by rw [HTS.out]; exact hy)
                  have q2 := tls_pos (led r) (led_pos r) y (by rw [HTS.out]; exact hy)
                  exact ⟨q2, q1.2⟩) hx
                have hxl := sprL_len ts 16
                have hbl := befS_len r c
                have HIL : Hid (∀ i, i ≤ 16 → (insR r (sprL ts 16) (befS r c) i).length ≤ 65536) := fun i hi => by
                  have := insR_le r (sprL ts 16) (befS r c) i
                  omega
                have HIA : Hid (∀ i, i ≤ (sprL ts 16).length → AllL 4 (insR r (sprL ts 16) (befS r c) i)) := fun i hi => insR_all (sprL_all ts 16) (befS_all c) i hi
                clear h0n hbl
                go_wp2_with fail
                refine (l4Spread_any gt ct ts _ (by omega) HCT.out).mono ?_
                rintro e w5 ⟨gx, cx, rfl, hox, hb⟩
                obtain ⟨_, _, e1, hcx, CX⟩ := KRow.of_list (sprL_all ts 16) hox
                cases e1
                have HXA : Hid (∀ i x, (sprL ts 16)[i]? = some x → ∀ j, j < 4 → flatF (sprL ts 16) (i * 4 + j) = fn x j) := fun i x hx j hj => flatF_at (sprL_all ts 16) hx hj
                have HXL : Hid (∀ x, x ∈ sprL ts 16 → x.length = 4) := sprL_all ts 16
                have K1 := K1.below hb K1.lt
                have HU : Hid (OwnsL 24 4 w5 w.heap.size (.slice (some ⟨gu, 0, none⟩) (befS r c).length cu) (befS r c)) := HU.out.below hb
                have HB : Hid (Below w.heap.size w w5) := HB.out.trans (hb.mono HB.out.size)
                clear hb hox HCT HT
                generalize hXX : sprL ts 16 = X at *
                generalize hFX : flatF X = hX at *
                generalize hNX : X.length = nX at *
                generalize hII : befS r c = I at *
                go_wp2_with fail
                go_loopg [3, 8] nX (fun gj s3 s8 wx => ∃ (i : Nat) (u : Value), i + gj = nX ∧ s8 = .int .i64 i ∧ u = s3 ∧ (∃ gu cu, u = .slice (some ⟨gu, 0, none⟩) (insR r X I i).length cu) ∧ Hid (OwnsL 24 4 wx w.heap.size u (insR r X I i)) ∧ CAt wx gx (nX * 4) hX ∧ Blk wx w.heap.size 4 r 24 ∧ Hid (Below w.heap.size w wx))
                case atStart => exact ⟨0, _, by omega, rfl, rfl, ⟨gu, cu, rfl⟩, HU, CX, K1, HB⟩
                case round =>
                  obtain ⟨i, u, hig, rfl, rfl, ⟨gu, cu, hu⟩, HU, CX, K1, HB⟩ := hrel
                  subst hu
                  cases gk with
                  | zero =>
                    have hk : ¬ ((i : Int) < (nX : Int)) := by omega
                    obtain rfl : i = nX := by omega
                    go_wp2_with fail
                    go_roundg gk2
                    case rel => exact ⟨c + 1, _, by omega, by go_num, rfl, ⟨gu, cu, by rw [Y.out]⟩, by rw [Y.out]; exact HU, K1, HB⟩
                    case measure => omega
                  | succ gi2 =>
                    have hi4 : (i : Int) < (nX : Int) := by omega
                    have hi0 : (0 : Int) ≤ (i : Int) := by omega
                    have hi9 : i < nX := by omega
                    obtain ⟨x, hx⟩ : ∃ x, X[i]? = some x := ⟨X[i]'(by omega), List.getElem?_eq_getElem _⟩
                    have HFX : Hid (∀ j, j < 4 → hX (i * 4 + j) = fn x j) := HXA.out i x hx
                    have HFV : Hid (VdRow (fun j => hX (i * 4 + j))) := fun j hj => by
                      show 0 ≤ hX (i * 4 + j) ∧ hX (i * 4 + j) ≤ 17
                      rw [HFX.out j hj]; exact HXV.out x (List.mem_of_getElem? hx) j hj
                    have HCX : Hid (cl 4 (fun j => hX (i * 4 + j)) = x) := by
                      show _ = _
                      rw [← cl_fn (HXL.out x (List.mem_of_getElem? hx)), cl_inj]; exact HFX.out
                    have HSL : Hid (slid (fn x) 4 = slid (fun j => hX (i * 4 + j)) 4) := slid_congr 4 fun j hj => (HFX.out j hj).symm
                    have HXI := Lib.hid hx
                    clear hx
                    go_wp2_with (first | ((with_reducible show wpList _ _ _ (Oper.mk _ (Op.load 24 _) _ _ _ _ :: _) _ _); refine loadAR (off := i * 4) CX (by omega) rfl rfl rfl ?_))
                    have HFq : Hid ((fun j => hX (i * 4 + j)) = fun j => hX (i * 4 + j)) := rfl
                    refine (l2Row_any (fun j => hX (i * 4 + j)) _ HFV.out).mono ?_
                    rintro e w6 ⟨rfl, hb⟩
                    have K1 := K1.below hb K1.lt
                    have CX := CX.below hb
                    have HU : Hid (OwnsL 24 4 w6 w.heap.size (.slice (some ⟨gu, 0, none⟩) (insR r X I i).length cu) (insR r X I i)) := HU.out.below hb
                    have HB : Hid (Below w.heap.size w w6) := HB.out.trans (hb.mono HB.out.size)
                    clear hb
                    have iE : ∀ (w : World), (Op.equalIn 10000 24 (.agg (mk 4 (slid (fun j => hX (i * 4 + j)) 4).row)) (.agg (mk 4 r))).run Tryz.prog w = .ok (sameR (slid (fun j => hX (i * 4 + j)) 4).row r) w := fun w => eqR 9998 _ _ w
                    have HNI := Lib.hid (HIL.out i (by omega))
                    have HAI := Lib.hid (HIA.out i (by omega))
                    have HYT : Hid (sameR (slid (fun j => hX (i * 4 + j)) 4).row r = true → insR r X I (i + 1) = insL (lt 4) (insR r X I i) x) := fun q => by
                      rw [insR]; simp only [HXI.out]; rw [if_pos (by rw [HSL.out]; exact q)]
                    have HYF : Hid (sameR (slid (fun j => hX (i * 4 + j)) 4).row r = false → insR r X I (i + 1) = insR r X I i) := fun q => by
                      rw [insR]; simp only [HXI.out]; rw [if_neg (by rw [HSL.out, q]; simp)]
                    generalize hR9 : (slid (fun j => hX (i * 4 + j)) 4).row = R9 at *
                    clear hR9
                    have z4 := zero4
                    have K9 := Blk.new w6 4 R9 24
                    have K1 := K1.alloc (.cells (mk 4 R9) 24)
                    have CX := CX.alloc (.cells (mk 4 R9) 24)
                    have HU : Hid (OwnsL 24 4 (w6.alloc (.cells (mk 4 R9) 24)) w.heap.size (.slice (some ⟨gu, 0, none⟩) (insR r X I i).length cu) (insR r X I i)) := HU.out.alloc _
                    have HB : Hid (Below w.heap.size w (w6.alloc (.cells (mk 4 R9) 24))) := HB.out.alloc HB.out.size _
                    cases hs : sameR R9 r with
                    | true =>
                      have Z := Lib.hid (HYT.out hs)
                      rw [hs] at iE
                      clear hs HYT HYF
                      go_wp2_with (first | ((with_reducible show wpList _ _ _ (Oper.mk _ (Op.load 24 _) _ _ _ _ :: _) _ _); refine loadR (K9) rfl rfl rfl ?_) | ((with_reducible show wpList _ _ _ (Oper.mk _ (Op.load 24 _) _ _ _ _ :: _) _ _); refine loadR (K1) rfl rfl rfl ?_) | ((with_reducible show wpList _ _ _ (Oper.mk _ (Op.load 24 _) _ _ _ _ :: _) _ _); refine loadAR (off := i * 4) CX (by omega) rfl rfl rfl ?_))
                      refine (l4Put_any gu cu w.heap.size (insR r X I i) (fun j => hX (i * 4 + j)) _ HAI.out HNI.out HU.out).mono ?_
                      rw [HCX.out, ← Z.out]
                      rintro e w7 ⟨g7, c7, rfl, ho7, hb⟩
                      have HU : Hid (OwnsL 24 4 w7 w.heap.size (.slice (some ⟨g7, 0, none⟩) (insR r X I (i + 1)).length c7) (insR r X I (i + 1))) := ho7
                      have K1 := K1.below hb K1.lt
                      have CX := CX.below hb
                      have HB : Hid (Below w.heap.size w w7) := HB.out.trans (hb.mono HB.out.size)
                      clear hb ho7
                      go_wp2_with fail
                      go_roundg gi2
                      case rel => exact ⟨i + 1, _, by omega, by go_num, rfl, ⟨g7, c7, rfl⟩, HU, CX, K1, HB⟩
                      case measure => omega
                    | false =>
                      have Z := Lib.hid (HYF.out hs)
                      rw [hs] at iE
                      clear hs HYT HYF
                      go_wp2_with (first | ((with_reducible show wpList _ _ _ (Oper.mk _ (Op.load 24 _) _ _ _ _ :: _) _ _); refine loadR (K9) rfl rfl rfl ?_) | ((with_reducible show wpList _ _ _ (Oper.mk _ (Op.load 24 _) _ _ _ _ :: _) _ _); refine loadR (K1) rfl rfl rfl ?_))
                      go_roundg gi2
                      case rel => exact ⟨i + 1, _, by omega, by go_num, rfl, ⟨gu, cu, by rw [Z.out]⟩, by rw [Z.out]; exact HU, CX, K1, HB⟩
                      case measure => omega
end Go.Proofs.YtmcmpedmgibmkabGreat
