/-
  The contract of the reference's l10Reach: the ordered list of the tiles that can come out.
-/
import Derived.Test.YtblcojacmjbjcaaRchSpec
namespace Go.Proofs.Ytblcojacmjbjcaa.Plain
set_option linter.unusedVariables false
set_option linter.unusedSimpArgs false
theorem putA_len (n : Int) : ∀ L, (putA n L).length ≤ L.length + 1
  | [] => by simp [putA]
  | x :: L => by
    have ih := putA_len n L
    unfold putA
    split
    · simp; omega
    · split
      · simp
      · simp
theorem rsI_len {m : Int → Int → Int} {rec : List Int → List Int → List Int} {L : List Int} {i n B : Nat} {o : List Int} (hr : ∀ M o, M.length ≤ n → (rec M o).length ≤ o.length + B) (hi : i < L.length) (hl : L.length ≤ n + 1) : ∀ k, k ≤ i → (rsI m rec L i o k).length ≤ o.length + 1 + k * B
  | 0, _ => by unfold rsI; have := putA_len (L.getD i 0) o; omega
  | k + 1, hk => by
    have ih := rsI_len (m := m) (o := o) hr hi hl k (by omega)
    unfold rsI
    rw [Nat.succ_mul]
    split
    · omega
    · have := hr (m (L.getD k 0) (L.getD i 0) :: othL L i k L.length) (rsI m rec L i o k) (by have := oth_len (show k < i by omega) hi; simp; omega)
      omega
theorem rsO_len {m : Int → Int → Int} {rec : List Int → List Int → List Int} {L out : List Int} {n B : Nat} (hr : ∀ M o, M.length ≤ n → (rec M o).length ≤ o.length + B) (hl : L.length ≤ n + 1) : ∀ i, i ≤ L.length → (rsO m rec L out i).length ≤ out.length + i * (1 + (n + 1) * B)
  | 0, _ => by unfold rsO; omega
  | i + 1, hi => by
    have ih := rsO_len (m := m) (out := out) hr hl i (by omega)
    have h1 := rsI_len (m := m) (o := rsO m rec L out i) hr (show i < L.length by omega) hl i (Nat.le_refl _)
    have h2 : i * B ≤ (n + 1) * B := Nat.mul_le_mul_right _ (by omega)
    unfold rsO
    rw [Nat.succ_mul]
    omega
theorem rsL_len (m : Int → Int → Int) : ∀ (n : Nat) (L out : List Int), L.length ≤ n → (rsL m n L out).length ≤ out.length + rfB n
  | 0, L, out, h => by unfold rsL; omega
  | n + 1, L, out, h => by
    have h1 := rsO_len (m := m) (out := out) (fun M o hM => rsL_len m n M o hM) h L.length (Nat.le_refl _)
    have h2 : L.length * (1 + (n + 1) * rfB n) ≤ (n + 1) * (1 + (n + 1) * rfB n) := Nat.mul_le_mul_right _ h
    have h3 : (n + 1) * (1 + (n + 1) * rfB n) = (n + 1) + (n + 1) * (n + 1) * rfB n := by rw [Nat.mul_add, Nat.mul_one, Nat.mul_assoc]
    unfold rsL rfB
    omega
def rkO (m : Int → Int → Int) (n : Nat) (L out : List Int) (i : Nat) : List Int := rsO m (rsL m n) L out i
def rkI (m : Int → Int → Int) (n : Nat) (L out : List Int) (i k : Nat) : List Int := rsI m (rsL m n) L i (rkO m n L out i) k
theorem rkO_len (m : Int → Int → Int) {n : Nat} {L out : List Int} (hl : L.length ≤ n + 1) {i : Nat} (hi : i ≤ L.length) : (rkO m n L out i).length ≤ out.length + rfB (n + 1) := by
  have h1 := rsO_len (m := m) (out := out) (fun M o hM => rsL_len m n M o hM) hl i hi
  have h2 : i * (1 + (n + 1) * rfB n) ≤ (n + 1) * (1 + (n + 1) * rfB n) := Nat.mul_le_mul_right _ (by omega)
  have h3 : (n + 1) * (1 + (n + 1) * rfB n) = (n + 1) + (n + 1) * (n + 1) * rfB n := by rw [Nat.mul_add, Nat.mul_one, Nat.mul_assoc]
  unfold rkO
  show _ ≤ out.length + ((n + 1) + (n + 1) * (n + 1) * rfB n)
  omega
theorem rkI_len (m : Int → Int → Int) {n : Nat} {L out : List Int} (hl : L.length ≤ n + 1) {i k : Nat} (hi : i < L.length) (hk : k < i) : (rkI m n L out i k).length + rfB n ≤ out.length + rfB (n + 1) := by
  have h0 := rsO_len (m := m) (out := out) (fun M o hM => rsL_len m n M o hM) hl i (by omega)
  have h1 := rsI_len (m := m) (o := rkO m n L out i) (fun M o hM => rsL_len m n M o hM) hi hl k (by omega)
  have h2 : (i + 1) * (1 + (n + 1) * rfB n) ≤ (n + 1) * (1 + (n + 1) * rfB n) := Nat.mul_le_mul_right _ (by omega)
  have h3 : (n + 1) * (1 + (n + 1) * rfB n) = (n + 1) + (n + 1) * (n + 1) * rfB n := by rw [Nat.mul_add, Nat.mul_one, Nat.mul_assoc]
  have h4 : (k + 1) * rfB n ≤ (n + 1) * rfB n := Nat.mul_le_mul_right _ (by omega)
  rw [Nat.succ_mul] at h2 h4
  unfold rkI rkO at *
  show _ ≤ out.length + ((n + 1) + (n + 1) * (n + 1) * rfB n)
  omega
theorem rkI_zero (m : Int → Int → Int) (n : Nat) (L out : List Int) (i : Nat) : rkI m n L out i 0 = putA (L.getD i 0) (rkO m n L out i) := rfl
theorem rkI_no {m : Int → Int → Int} {n : Nat} {L out : List Int} {i k : Nat} (h : m (L.getD k 0) (L.getD i 0) = 0) : rkI m n L out i (k + 1) = rkI m n L out i k := by unfold rkI; rw [rsI, if_pos h]
theorem rkI_yes {m : Int → Int → Int} {n : Nat} {L out : List Int} {i k : Nat} (h : ¬ m (L.getD k 0) (L.getD i 0) = 0) : rkI m n L out i (k + 1) = rsL m n (m (L.getD k 0) (L.getD i 0) :: othL L i k L.length) (rkI m n L out i k) := by unfold rkI; rw [rsI, if_neg h]
theorem rkO_succ (m : Int → Int → Int) (n : Nat) (L out : List Int) (i : Nat) : rkO m n L out (i + 1) = rkI m n L out i i := rfl
theorem rkO_all (m : Int → Int → Int) (n : Nat) (L out : List Int) : rsL m (n + 1) L out = rkO m n L out L.length := rfl
theorem oth_le (L : List Int) (i k : Nat) : ∀ n, (othL L i k n).length ≤ n
  | 0 => by simp [othL]
  | n + 1 => by
    have := oth_le L i k n
    unfold othL; split <;> simp <;> omega
theorem oth_yes {L : List Int} {i k n : Nat} (h : n ≠ i ∧ n ≠ k) : othL L i k (n + 1) = othL L i k n ++ [L.getD n 0] := by rw [othL, if_pos h]
theorem oth_no {L : List Int} {i k n : Nat} (h : ¬ (n ≠ i ∧ n ≠ k)) : othL L i k (n + 1) = othL L i k n := by rw [othL, if_neg h]
end Go.Proofs.Ytblcojacmjbjcaa.Plain
namespace Go.Proofs.Ytblcojacmjbjcaa
open Go.RowKit Plain Go.Sort Go.Shelf
attribute [local go_sem] store_new
set_option linter.unusedVariables false
set_option linter.unusedSimpArgs false
def RSn (r : Int) (n : Nat) : Prop := ∀ (L out : List Int) (g cap b c : Nat) (w : World), IL w (.slice (some ⟨g, 0, none⟩) L.length cap) L → L.length ≤ n → (∀ y ∈ L, TlOk y) → IL w (.slice (some ⟨b, 0, none⟩) out.length c) out → out.length + rfB n ≤ 100000 →
  Calls Try.prog 71 #[.int .i64 r, .slice (some ⟨g, 0, none⟩) L.length cap, .slice (some ⟨b, 0, none⟩) out.length c] w fun e w' => ∃ b' c', e = .returned (.slice (some ⟨b', 0, none⟩) (rsL (mgF r) n L out).length c') ∧ IL w' (.slice (some ⟨b', 0, none⟩) (rsL (mgF r) n L out).length c') (rsL (mgF r) n L out) ∧ Below w.heap.size w w'
set_option maxRecDepth 20000 in
theorem l10Reach_zero (r : Int) : RSn r 0 := by
  intro L out g cap b c w hL hl hT hO ho
  obtain rfl : L = [] := List.eq_nil_of_length_eq_zero (by omega)
  have HO := Lib.hid hO
  clear hL hT hl hO ho
  show Calls _ _ _ _ fun e w' => ∃ b' c', e = .returned (.slice (some ⟨b', 0, none⟩) out.length c') ∧ IL w' (.slice (some ⟨b', 0, none⟩) out.length c') out ∧ _
  generalize out.length = M at *
  go_enter Try.func71, Try.ntmps71
  go_wp2_with fail
  go_loopg [2, 7] 0 (fun q s2 s7 wr => s7 = .int .i64 0 ∧ s2 = .slice (some ⟨b, 0, none⟩) M c ∧ wr = w)
  case atStart => exact ⟨rfl, rfl, rfl⟩
  case round =>
    obtain ⟨rfl, rfl, rfl⟩ := hrel
    go_wp2_with fail
    go_ret
    exact ⟨b, c, rfl, HO.out, Below.refl _ _⟩
set_option maxHeartbeats 4000000 in
set_option maxRecDepth 20000 in
theorem l10Reach_step (r : Int) (hr : RlOk r) (n : Nat) (hn : n ≤ 4) (hrec : RSn r n) : RSn r (n + 1) := by
  intro L out g cap b c w hL hl hT hO ho
  have HR := Lib.hid hr
  have HRec := Lib.hid hrec
  have HL := Lib.hid hL
  have HT := Lib.hid hT
  have hgl := il_len hL
  have hl5 : L.length ≤ 5 := by omega
  have HTat : Hid (∀ i, i < L.length → TlOk (L.getD i 0)) := fun i hi => HT.out _ (by rw [List.getD_eq_getElem?_getD, List.getElem?_eq_getElem hi]; exact List.getElem_mem hi)
  have HMg := Lib.hid (mgFn r)
  have HKO : Hid (∀ i, i ≤ L.length → (rkO (mgF r) n L out i).length ≤ 100000) := fun i hi => Nat.le_trans (rkO_len (mgF r) hl hi) ho
  have HKI : Hid (∀ i k, i < L.length → k < i → (rkI (mgF r) n L out i k).length + rfB n ≤ 100000) := fun i k hi hk => Nat.le_trans (rkI_len (mgF r) hl hi hk) ho
  have HZ := Lib.hid (rkI_zero (mgF r) n L out)
  have HSu := Lib.hid (rkO_succ (mgF r) n L out)
  have HNo := Lib.hid (fun i k => rkI_no (m := mgF r) (n := n) (L := L) (out := out) (i := i) (k := k))
  have HYe := Lib.hid (fun i k => rkI_yes (m := mgF r) (n := n) (L := L) (out := out) (i := i) (k := k))
  have HOt := Lib.hid (fun (i k : Nat) (hk : k < i) (hi : i < L.length) => And.intro (oth_len hk hi) (oth_all hk hi))
  rw [rkO_all]
  have HO : Hid (IL w (.slice (some ⟨b, 0, none⟩) (rkO (mgF r) n L out 0).length c) (rkO (mgF r) n L out 0)) := hO
  clear hL hT hO ho hr hrec
  have e0 : out.length = (rkO (mgF r) n L out 0).length := rfl
  rw [e0]
  clear e0
  generalize hN : L.length = N at *
  have HLN := Lib.hid hN
  clear hN
  obtain ⟨i0, hII, hz0, hz1, hz2⟩ := info_parts infoInt
  go_enter Try.func71, Try.ntmps71
  go_wp2_with fail
  go_loopg [2, 7] N (fun q s2 s7 wr => ∃ (i b c : Nat), i + q = N ∧ s7 = .int .i64 (i : Int) ∧ s2 = .slice (some ⟨b, 0, none⟩) (rkO (mgF r) n L out i).length c ∧ Hid (IL wr (.slice (some ⟨b, 0, none⟩) (rkO (mgF r) n L out i).length c) (rkO (mgF r) n L out i)) ∧ Hid (Below w.heap.size w wr))
  case atStart => exact ⟨0, b, c, by omega, rfl, rfl, HO, Lib.hid (Below.refl _ _)⟩
  case round =>
    clear HO
    obtain ⟨i, b, c, hiq, rfl, rfl, HO, HB⟩ := hrel
    cases gk with
    | zero =>
      have hi : ¬ ((i : Int) < (N : Int)) := by omega
      obtain rfl : i = N := by omega
      go_wp2_with fail
      go_ret
      exact ⟨b, c, rfl, HO.out, HB.out⟩
    | succ q =>
      have hi : (i : Int) < (N : Int) := by omega
      have hi0 : (0 : Int) ≤ (i : Int) := by omega
      have hiN : i < N := by omega
      have c1 := (HL.out.below HB.out).at (j := i) (by have := HLN.out; omega)
      have HTi := Lib.hid (HTat.out i (by omega))
      have hko := HKO.out i (by omega)
      have Z := Lib.hid (HZ.out i)
      have Su := Lib.hid (HSu.out i)
      have No := Lib.hid (HNo.out i)
      have Ye := Lib.hid (HYe.out i)
      obtain ⟨t, ht⟩ : ∃ t, L.getD i 0 = t := ⟨_, rfl⟩
      rw [ht] at c1 HTi Z No Ye
      have HSt := Lib.hid ht
      clear ht
      go_wp2_with fail
      refine (l1Put_any (rkO (mgF r) n L out i) t b c _ HO.out (by omega)).mono ?_
      rintro e w2 ⟨b2, c2, rfl, hO2, hb⟩
      replace HB : Hid (Below w.heap.size w w2) := HB.out.trans (hb.mono HB.out.size)
      have hpl := putA_len t (rkO (mgF r) n L out i)
      rw [← Z.out] at hO2 hpl ⊢
      replace HO := Lib.hid hO2
      clear hO2 hb c1
      go_wp2_with fail
      refine (l1Own_any (rkI (mgF r) n L out i 0) b2 c2 _ HO.out (by omega)).mono ?_
      rintro e w3 ⟨b3, c3, rfl, hO3, hb⟩
      replace HB : Hid (Below w.heap.size w w3) := HB.out.trans (hb.mono HB.out.size)
      replace HO := Lib.hid (IL.of_own hO3)
      clear hO3 hb hpl
      go_wp2_with fail
      go_loopg [2, 8] i (fun q s2 s8 wr => ∃ (k b c : Nat), k + q = i ∧ s8 = .int .i64 (k : Int) ∧ s2 = .slice (some ⟨b, 0, none⟩) (rkI (mgF r) n L out i k).length c ∧ Hid (IL wr (.slice (some ⟨b, 0, none⟩) (rkI (mgF r) n L out i k).length c) (rkI (mgF r) n L out i k)) ∧ Hid (Below w.heap.size w wr))
      case atStart => exact ⟨0, b3, c3, by omega, rfl, rfl, HO, HB⟩
      case round =>
        clear HO HB
        obtain ⟨k, b, c, hkq, rfl, rfl, HO, HB⟩ := hrel
        cases gk with
        | zero =>
          have hk : ¬ ((k : Int) < (i : Int)) := by omega
          obtain rfl : k = i := by omega
          go_wp2_with fail
          go_roundg q
          case rel => exact ⟨k + 1, b, c, by omega, by go_num, by rw [Su.out], by rw [Su.out]; exact HO, HB⟩
          case measure => omega
        | succ p =>
          have hk : (k : Int) < (i : Int) := by omega
          have hk0 : (0 : Int) ≤ (k : Int) := by omega
          have hkN : k < N := by omega
          have hkNi : (k : Int) < (N : Int) := by omega
          have hki : k < i := by omega
          have c1 := (HL.out.below HB.out).at (j := i) (by have := HLN.out; omega)
          rw [HSt.out] at c1
          have c2 := (HL.out.below HB.out).at (j := k) (by have := HLN.out; omega)
          have HTk := Lib.hid (HTat.out k (by omega))
          have No := Lib.hid (No.out k)
          have Ye := Lib.hid (Ye.out k)
          have HOk := Lib.hid (HOt.out i k hki (by omega))
          have hki2 := HKI.out i k (by omega) hki
          obtain ⟨s, hs⟩ : ∃ s, L.getD k 0 = s := ⟨_, rfl⟩
          rw [hs] at c2 HTk No Ye
          clear hs
          go_wp2_with fail
          refine wp_region_held_drew (S := fun W => W.cell? ⟨g, k, none⟩ = some (.int .i64 s) ∧ W.cell? ⟨g, i, none⟩ = some (.int .i64 t)) (by kernel_rfl) ⟨c2, c1⟩ (fun hHeld => ?_)
          refine wpAnyH_take (i := 0) (oi := { dst := some 30, op := _, type := _, pos := _, after := _, guard := _ }) (v := .int .i64 r) rfl (by kernel_rfl) (by kernel_rfl) (by kernel_rfl) (fun _ _ _ h => h) (Or.inl ⟨by rfl, by intro w hSw; obtain ⟨hS1, hS2⟩ := hSw; go_simp; (try with_reducible rfl)⟩) (by assumption) ?_
          try simp only [Act.put, List.setIfInBounds_toArray, List.set_cons_zero, List.set_cons_succ]
          refine wpAnyH_take (i := 1) (oi := { dst := some 31, op := _, type := _, pos := _, after := _, guard := _ }) (v := .slice (some ⟨g, 0, none⟩) N cap) rfl (by kernel_rfl) (by kernel_rfl) (by kernel_rfl) (fun _ _ _ h => h) (Or.inl ⟨by rfl, by intro w hSw; obtain ⟨hS1, hS2⟩ := hSw; go_simp; (try with_reducible rfl)⟩) (by assumption) ?_
          try simp only [Act.put, List.setIfInBounds_toArray, List.set_cons_zero, List.set_cons_succ]
          refine wpAnyH_take (i := 2) (oi := { dst := some 32, op := _, type := _, pos := _, after := _, guard := _ }) (v := .int .i64 (k : Int)) rfl (by kernel_rfl) (by kernel_rfl) (by kernel_rfl) (fun _ _ _ h => h) (Or.inl ⟨by rfl, by intro w hSw; obtain ⟨hS1, hS2⟩ := hSw; go_simp; (try with_reducible rfl)⟩) (by assumption) ?_
          try simp only [Act.put, List.setIfInBounds_toArray, List.set_cons_zero, List.set_cons_succ]
          refine wpAnyH_take (i := 3) (oi := { dst := some 33, op := _, type := _, pos := _, after := _, guard := _ }) (v := .pointer (some ⟨g, k, none⟩)) rfl (by kernel_rfl) (by kernel_rfl) (by kernel_rfl) (fun _ _ _ h => h) (Or.inl ⟨by rfl, by intro w hSw; obtain ⟨hS1, hS2⟩ := hSw; go_simp; (try with_reducible rfl)⟩) (by assumption) ?_
          try simp only [Act.put, List.setIfInBounds_toArray, List.set_cons_zero, List.set_cons_succ]
          refine wpAnyH_take (i := 4) (oi := { dst := some 34, op := _, type := _, pos := _, after := _, guard := _ }) (v := .int .i64 s) rfl (by kernel_rfl) (by kernel_rfl) (by kernel_rfl) (fun _ _ _ h => h) (Or.inl ⟨by rfl, by intro w hSw; obtain ⟨hS1, hS2⟩ := hSw; go_simp; (try with_reducible rfl)⟩) (by assumption) ?_
          try simp only [Act.put, List.setIfInBounds_toArray, List.set_cons_zero, List.set_cons_succ]
          refine wpAnyH_take (i := 5) (oi := { dst := some 35, op := _, type := _, pos := _, after := _, guard := _ }) (v := .slice (some ⟨g, 0, none⟩) N cap) rfl (by kernel_rfl) (by kernel_rfl) (by kernel_rfl) (fun _ _ _ h => h) (Or.inl ⟨by rfl, by intro w hSw; obtain ⟨hS1, hS2⟩ := hSw; go_simp; (try with_reducible rfl)⟩) (by assumption) ?_
          try simp only [Act.put, List.setIfInBounds_toArray, List.set_cons_zero, List.set_cons_succ]
          refine wpAnyH_take (i := 6) (oi := { dst := some 36, op := _, type := _, pos := _, after := _, guard := _ }) (v := .int .i64 (i : Int)) rfl (by kernel_rfl) (by kernel_rfl) (by kernel_rfl) (fun _ _ _ h => h) (Or.inl ⟨by rfl, by intro w hSw; obtain ⟨hS1, hS2⟩ := hSw; go_simp; (try with_reducible rfl)⟩) (by assumption) ?_
          try simp only [Act.put, List.setIfInBounds_toArray, List.set_cons_zero, List.set_cons_succ]
          refine wpAnyH_take (i := 7) (oi := { dst := some 37, op := _, type := _, pos := _, after := _, guard := _ }) (v := .pointer (some ⟨g, i, none⟩)) rfl (by kernel_rfl) (by kernel_rfl) (by kernel_rfl) (fun _ _ _ h => h) (Or.inl ⟨by rfl, by intro w hSw; obtain ⟨hS1, hS2⟩ := hSw; go_simp; (try with_reducible rfl)⟩) (by assumption) ?_
          try simp only [Act.put, List.setIfInBounds_toArray, List.set_cons_zero, List.set_cons_succ]
          refine wpAnyH_take (i := 8) (oi := { dst := some 38, op := _, type := _, pos := _, after := _, guard := _ }) (v := .int .i64 t) rfl (by kernel_rfl) (by kernel_rfl) (by kernel_rfl) (fun _ _ _ h => h) (Or.inl ⟨by rfl, by intro w hSw; obtain ⟨hS1, hS2⟩ := hSw; go_simp; (try with_reducible rfl)⟩) (by assumption) ?_
          try simp only [Act.put, List.setIfInBounds_toArray, List.set_cons_zero, List.set_cons_succ]
          refine wpAnyH_ready (rs := [9]) (by kernel_rfl) (by simp) ?_
          refine AllReadyH.cons rfl (fun K hK => ?_) AllReadyH.nil
          rw [if_pos (by rfl)]
          go_simp
          refine (l10Merge_any r s t _ HR.out HTk.out HTi.out).mono ?_
          rintro e wh ⟨rfl, hwh⟩
          subst hwh
          have hbd := HMg.out s t HTk.out HTi.out
          obtain ⟨u, hu⟩ : ∃ u, mgF r s t = u := ⟨_, rfl⟩
          rw [hu] at No Ye hbd ⊢
          clear hu
          go_wp2_with fail
          refine hK.out _ _ hHeld (fun hHeld => ?_)
          clear hK K
          try simp only [Act.put, List.setIfInBounds_toArray, List.set_cons_zero, List.set_cons_succ]
          refine wpAnyH_take (i := 10) (oi := { dst := some 9, op := _, type := _, pos := _, after := _, guard := _ }) (v := .int .i64 u) rfl (by kernel_rfl) (by kernel_rfl) (by kernel_rfl) (fun _ _ _ h => h) (Or.inl ⟨by rfl, by intro w hSw; obtain ⟨hS1, hS2⟩ := hSw; go_simp; (try with_reducible rfl)⟩) (by assumption) ?_
          try simp only [Act.put, List.setIfInBounds_toArray, List.set_cons_zero, List.set_cons_succ]
          refine wpAnyH_done (by kernel_rfl) ?_ _
          replace HO := Lib.hid (HO.out.below ((Below.refl _ _).drew))
          replace HB : Hid (Below w.heap.size w wr.drew) := HB.out.drew
          clear hHeld c1 c2
          generalize wr.drew = w4 at *
          by_cases hu0 : u = 0
          · have Y := Lib.hid (No.out hu0)
            clear No Ye
            go_wp2_with fail
            go_roundg p
            case rel => exact ⟨k + 1, b, c, by omega, by go_num, by rw [Y.out], by rw [Y.out]; exact HO, HB⟩
            case measure => omega
          · have Y := Lib.hid (Ye.out hu0)
            clear No Ye
            have du : (u == 0) = false := by simp [hu0]
            have hoR : (w4.alloc (.cells #[.int .i64 u] 3)).ownsRow w4.heap.size 3 1 (.slice (some ⟨w4.heap.size, 0, none⟩) 1 1) (u :: othL L i k 0).length ((u :: othL L i k 0).map (Value.int .i64)) := World.ownsRow_lit w4 #[.int .i64 u] 1 (Nat.le_refl _) (by decide) rfl
            have HRo := Lib.hid hoR
            have HBr : Hid (Below w4.heap.size w4 (w4.alloc (.cells #[.int .i64 u] 3))) := Lib.hid ((Below.refl _ _).alloc (Nat.le_refl _) _)
            have HLr := Lib.hid (HL.out.below HB.out)
            clear hoR
            go_wp2_with fail
            go_loopg [10, 11] N (fun q s10 s11 wx => ∃ (j : Nat) (v : Value), j + q = N ∧ s11 = .int .i64 (j : Int) ∧ v = s10 ∧ Hid (∃ gg cc, v = .slice (some ⟨gg, 0, none⟩) (u :: othL L i k j).length cc) ∧ Hid (wx.ownsRow w4.heap.size 3 1 v (u :: othL L i k j).length ((u :: othL L i k j).map (Value.int .i64))) ∧ Hid (Below w4.heap.size w4 wx))
            case atStart => exact ⟨0, _, by omega, rfl, rfl, ⟨_, _, rfl⟩, HRo, HBr⟩
            case round =>
              clear HRo HBr
              obtain ⟨j, v, hjq, rfl, rfl, HV, HRo, HBr⟩ := hrel
              cases gk with
              | zero =>
                have hj : ¬ ((j : Int) < (N : Int)) := by omega
                obtain rfl : j = N := by omega
                obtain ⟨gg, cc, hv⟩ := HV.out
                subst hv
                have hoL : (u :: othL L i k j).length ≤ n := by have := HOk.out.1; simp; omega
                have hTl : ∀ y ∈ u :: othL L i k j, TlOk y := fun y hy => by
                  rcases List.mem_cons.1 hy with rfl | hy
                  · unfold TlOk; omega
                  · exact HT.out y (HOk.out.2.symm.mem_iff.1 (by simp [hy]))
                have HC := Lib.hid (HRec.out (u :: othL L i k j) (rkI (mgF r) n L out i k) gg cc b c _ (IL.of_own HRo.out) hoL hTl (HO.out.below HBr.out) hki2)
                clear hTl hoL
                rw [← Y.out] at HC
                generalize (u :: othL L i k j).length = NL at *
                go_wp2_with fail
                refine HC.out.mono ?_
                rintro e w8 ⟨b8, c8, rfl, hO8, hb⟩
                have HO8 := Lib.hid hO8
                have HB8 : Hid (Below w.heap.size w w8) := (HB.out.trans (HBr.out.mono HB.out.size)).trans (hb.mono (Nat.le_trans HB.out.size HBr.out.size))
                clear hO8 hb HC
                go_wp2_with fail
                go_roundg p
                case rel => exact ⟨k + 1, b8, c8, by omega, by go_num, rfl, HO8, HB8⟩
                case measure => omega
              | succ q2 =>
                have hj : (j : Int) < (N : Int) := by omega
                have hj0 : (0 : Int) ≤ (j : Int) := by omega
                have hjN : j < N := by omega
                have hik : ¬ ((i : Int) = (k : Int)) := by omega
                have hik2 : ¬ ((k : Int) = (i : Int)) := by omega
                by_cases h1 : j = i
                · have E := Lib.hid (oth_no (L := L) (i := i) (k := k) (n := j) (by omega))
                  subst h1
                  go_wp2_with fail
                  go_roundg q2
                  case rel => exact ⟨j + 1, v, by omega, by go_num, rfl, by rw [E.out]; exact HV, by rw [E.out]; exact HRo, HBr⟩
                  case measure => omega
                · by_cases h2 : j = k
                  · have E := Lib.hid (oth_no (L := L) (i := i) (k := k) (n := j) (by omega))
                    subst h2
                    go_wp2_with fail
                    go_roundg q2
                    case rel => exact ⟨j + 1, v, by omega, by go_num, rfl, by rw [E.out]; exact HV, by rw [E.out]; exact HRo, HBr⟩
                    case measure => omega
                  · have E := Lib.hid (oth_yes (L := L) (i := i) (k := k) (n := j) ⟨h1, h2⟩)
                    have hji : ¬ ((j : Int) = (i : Int)) := by omega
                    have hjk : ¬ ((j : Int) = (k : Int)) := by omega
                    have ni : ((j : Int) != (i : Int)) = true := by simp; omega
                    have nk : ((j : Int) != (k : Int)) = true := by simp; omega
                    have c3 := (HLr.out.below HBr.out).at (j := j) (by have := HLN.out; omega)
                    obtain ⟨z, hz⟩ : ∃ z, L.getD j 0 = z := ⟨_, rfl⟩
                    rw [hz] at c3
                    rw [hz] at E
                    clear hz
                    have ho0 := HRo.out
                    have hle := oth_le L i k j
                    have hsz := HBr.out.size
                    have hlc : (u :: othL L i k j).length = (othL L i k j).length + 1 := rfl
                    go_wp2_with (at_builtin; go_loud (refine wpList_append_own _ rfl _ _ 43 rfl w4.heap.size 3 i0 (.int .i64 0) 1 8 Try.underlying43 hII hz0 hz1 hz2 rfl (by decide) _ _ _ rfl (World.ownsRow.alloc ho0 _) ⟨wr.heap.size, 0, none⟩ 1 1 [.int .i64 z] rfl rfl ?c1 ?c2 ?c3 ?c4 ?c5 ?_))
                    case c1 => exact cell_one_new _ _ _
                    case c2 => simp [Value.oneCell']
                    case c3 => unfold maxLen; omega
                    case c4 => omega
                    case c5 => simp; omega
                    intro v' w6 hown' hgrow' hnil
                    have HB6 : Hid (Below w4.heap.size w4 w6) := (HBr.out.alloc hsz _).grown hgrow' (by simp; omega) (fun m hm => by have := (ho0.lt m hm).1; omega)
                    have HR6 : Hid (w6.ownsRow w4.heap.size 3 1 v' (u :: othL L i k (j + 1)).length ((u :: othL L i k (j + 1)).map (Value.int .i64))) := by
                      show World.ownsRow _ _ _ _ _ _ _
                      rw [E.out, ← List.cons_append, List.map_append, List.length_append]
                      exact hown'
                    have HV6 : Hid (∃ gg cc, v' = .slice (some ⟨gg, 0, none⟩) (u :: othL L i k (j + 1)).length cc) := own_form HR6.out (fun q => by first | exact hnil q | (have := (hnil.1 q).2; cases this))
                    clear hown' hgrow' ho0 hnil
                    go_wp2_with fail
                    go_roundg q2
                    case rel => exact ⟨j + 1, v', by omega, by go_num, rfl, HV6, HR6, HB6⟩
                    case measure => omega
                    all_goals (exfalso; simp_all; done)
theorem l10Reach_any (r : Int) (hr : RlOk r) : ∀ n, n ≤ 5 → RSn r n
  | 0, _ => l10Reach_zero r
  | n + 1, h => l10Reach_step r hr n (by omega) (l10Reach_any r hr n (by omega))
end Go.Proofs.Ytblcojacmjbjcaa
