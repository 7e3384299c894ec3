/-
  The contract of the program's reachedFrom: the tiles that can come out of a list, as RchPlain's rfL lists them.
-/
import Derived.Test.YtblcojacmjbjcaaRchKit
namespace Go.Proofs.Ytblcojacmjbjcaa.Plain
/-- What reachedFrom has listed: behind the rounds before i, and behind the rounds before j in the round i. -/
def kO (m : Int → Int → Int) (n : Nat) (L : List Int) (i : Nat) : List Int := L ++ rfO m (rfL m n) L i
def kI (m : Int → Int → Int) (n : Nat) (L : List Int) (i j : Nat) : List Int := kO m n L i ++ rfI m (rfL m n) L i j
theorem kO_zero (m : Int → Int → Int) (n : Nat) (L : List Int) : kO m n L 0 = L := by unfold kO; simp [rfO]
theorem kI_zero (m : Int → Int → Int) (n : Nat) (L : List Int) (i : Nat) : kI m n L i 0 = kO m n L i := by unfold kI; simp [rfI]
theorem kI_yes {m : Int → Int → Int} {n : Nat} {L : List Int} {i j : Nat} (h : 0 < m (L.getD i 0) (L.getD j 0)) : kI m n L i (j + 1) = kI m n L i j ++ rfL m n (lefL L i j (m (L.getD i 0) (L.getD j 0))) := by
  unfold kI; rw [rfI, if_pos h, List.append_assoc]
theorem kI_no {m : Int → Int → Int} {n : Nat} {L : List Int} {i j : Nat} (h : ¬ 0 < m (L.getD i 0) (L.getD j 0)) : kI m n L i (j + 1) = kI m n L i j := by
  unfold kI; rw [rfI, if_neg h, List.append_nil]
theorem kO_succ (m : Int → Int → Int) (n : Nat) (L : List Int) (i : Nat) : kO m n L (i + 1) = kI m n L i i := by
  unfold kI kO; rw [rfO, List.append_assoc]
theorem kO_all (m : Int → Int → Int) (n : Nat) (L : List Int) : rfL m (n + 1) L = kO m n L L.length := rfl
theorem rfB_le (n : Nat) (h : n ≤ 4) : rfB n ≤ 916 := by
  rcases (by omega : n = 0 ∨ n = 1 ∨ n = 2 ∨ n = 3 ∨ n = 4) with rfl | rfl | rfl | rfl | rfl <;> decide
theorem kO_le (m : Int → Int → Int) {n : Nat} {L : List Int} (hn : n ≤ 4) (hl : L.length ≤ n + 1) {i : Nat} (hi : i ≤ L.length) : (kO m n L i).length ≤ 22905 := by
  have h1 := rfO_le (m := m) (rec := rfL m n) (L := L) (B := rfB n) (fun i k v hi => rfL_le m n _ (by have := len_lef (j := k) v hi; omega)) i hi
  have hB := rfB_le n hn
  have h2 : L.length * rfB n ≤ 5 * 916 := Nat.mul_le_mul (by omega) hB
  have h3 : i * (L.length * rfB n) ≤ 5 * (5 * 916) := Nat.mul_le_mul (by omega) h2
  unfold kO
  rw [List.length_append]
  omega
theorem kI_le (m : Int → Int → Int) {n : Nat} {L : List Int} (hn : n ≤ 4) (hl : L.length ≤ n + 1) {i j : Nat} (hi : i < L.length) (hj : j ≤ i) : (kI m n L i j).length ≤ 27485 := by
  have h0 := kO_le m hn hl (i := i) (by omega)
  have h1 := rfI_le (m := m) (rec := rfL m n) (L := L) (i := i) (B := rfB n) (fun k v => rfL_le m n _ (by have := len_lef (j := k) v hi; omega)) j
  have h2 : j * rfB n ≤ 5 * 916 := Nat.mul_le_mul (by omega) (rfB_le n hn)
  unfold kI
  rw [List.length_append]
  omega
end Go.Proofs.Ytblcojacmjbjcaa.Plain
namespace Go.Proofs.Ytblcojacmjbjcaa
open Go.RowKit Plain Go.Sort Go.Shelf
attribute [local go_sem] store_new
set_option linter.unusedVariables false
set_option linter.unusedSimpArgs false
theorem own_form {w : World} {base : Nat} {v : Value} {L : List Int} (h : w.ownsRow base 3 1 v L.length (L.map (Value.int .i64))) (hv : v ≠ .slice none 0 0) : ∃ g cap, v = .slice (some ⟨g, 0, none⟩) L.length cap := by
  rcases h.2 with ⟨h0, _⟩ | ⟨g, cap, cur, e, _⟩
  · exact absurd h0 hv
  · exact ⟨g, cap, e⟩
theorem clone_N (L : List Int) (g cap N : Nat) (w : World) (hN : L.length = N) (h : IL w (.slice (some ⟨g, 0, none⟩) N cap) L) (hl : N ≤ 1000000) :
    Calls Try.prog 94 #[.slice (some ⟨g, 0, none⟩) N cap] w fun e w' => ∃ g2 cap2, e = .returned (.slice (some ⟨g2, 0, none⟩) L.length cap2) ∧ w'.ownsRow w.heap.size 3 1 (.slice (some ⟨g2, 0, none⟩) L.length cap2) L.length (L.map (Value.int .i64)) ∧ Below w.heap.size w w' := by
  subst hN
  refine (clone_any L g cap w h hl).mono ?_
  rintro e w' ⟨v, rfl, ho, hv, hb⟩
  obtain ⟨g2, cap2, rfl⟩ := own_form ho hv
  exact ⟨g2, cap2, rfl, ho, hb⟩
/-- What reachedFrom makes of a list of at most n tiles. -/
def RFn (x : Value) (m : Int → Int → Int) (n : Nat) : Prop := ∀ (L : List Int) (g cap : Nat) (w : World), IL w (.slice (some ⟨g, 0, none⟩) L.length cap) L → L.length ≤ n → (∀ y ∈ L, TlOk y) →
  Calls Try.prog 73 #[.slice (some ⟨g, 0, none⟩) L.length cap, .iface 112 (.agg #[x])] w fun e w' => ∃ v', e = .returned v' ∧ w'.ownsRow w.heap.size 3 1 v' (rfL m n L).length ((rfL m n L).map (Value.int .i64)) ∧ v' ≠ .slice none 0 0 ∧ Below w.heap.size w w'
theorem IL.at {w : World} {g cap N : Nat} {L : List Int} (h : IL w (.slice (some ⟨g, 0, none⟩) N cap) L) {j : Nat} (hj : j < L.length) : w.cell? ⟨g, j, none⟩ = some (.int .i64 (L.getD j 0)) := by
  obtain ⟨b, c, e, hb, hn, hc⟩ := h
  cases e
  exact hc j hj
theorem il_len {w : World} {g cap : Nat} {L : List Int} (h : IL w (.slice (some ⟨g, 0, none⟩) L.length cap) L) : g < w.heap.size ∧ L.length ≤ cap := by
  obtain ⟨b, c, e, hb, hn, hc⟩ := h
  cases e
  exact ⟨by first | exact hb | exact hn, by first | exact hn | exact hb⟩
set_option maxHeartbeats 4000000 in
set_option maxRecDepth 20000 in
theorem reached_step (x : Value) (m : Int → Int → Int) (hx : MergesAs x m) (n : Nat) (hn : n ≤ 4) (hrec : RFn x m n) : RFn x m (n + 1) := by
  intro L g cap w hL hlen hT
  obtain ⟨i0, hII, hz0, hz1, hz2⟩ := info_parts infoInt
  have HX := Lib.hid hx
  have HR := Lib.hid hrec
  have HL := Lib.hid hL
  have HLw := Lib.hid hL
  have HT := Lib.hid hT
  have iM := method_merge x
  have hgl := il_len hL
  have hl5 : L.length ≤ 5 := by omega
  have HTat : Hid (∀ i, i < L.length → TlOk (L.getD i 0)) := fun i hi => HT.out _ (by rw [List.getD_eq_getElem?_getD, List.getElem?_eq_getElem hi]; exact List.getElem_mem hi)
  have HK0 := Lib.hid (kO_zero m n L)
  have HKs := Lib.hid (kO_succ m n L)
  have HKz := Lib.hid (kI_zero m n L)
  have HKa := Lib.hid (kO_all m n L)
  have HKl : Hid (∀ i j, i < L.length → j ≤ i → (kI m n L i j).length ≤ 27485) := fun i j hi hj => kI_le m hn hlen hi hj
  clear hx hrec hL hT
  go_enter Try.func73, Try.ntmps73
  go_wp2_with fail
  refine (clone_any L g cap _ HL.out (by omega)).mono ?_
  rintro e w1 ⟨v1, rfl, ho, hv1, hb⟩
  replace HL := Lib.hid (HL.out.below hb)
  have HV1 := Lib.hid (own_form ho hv1)
  have HO : Hid (OwnsInts w1 w.heap.size v1 (kO m n L 0)) := by
    show OwnsInts _ _ _ _
    unfold OwnsInts
    rw [HK0.out]; exact ho
  replace HV1 : Hid (∃ g cap, v1 = .slice (some ⟨g, 0, none⟩) (kO m n L 0).length cap) := by rw [HK0.out]; exact HV1.out
  have HB : Hid (Below w.heap.size w w1) := hb
  clear ho hv1 hb HK0
  generalize hN : L.length = N at *
  have HN := Lib.hid hN
  clear hN
  go_wp2_with fail
  go_loopg [5, 17] N (fun q s5 s17 wr => ∃ (i : Nat) (v : Value), i + q = N ∧ s17 = .int .i64 (i : Int) ∧ v = s5 ∧ Hid (∃ g cap, v = .slice (some ⟨g, 0, none⟩) (kO m n L i).length cap) ∧ Hid (OwnsInts wr w.heap.size v (kO m n L i)) ∧ Hid (IL wr (.slice (some ⟨g, 0, none⟩) N cap) L) ∧ Hid (Below w.heap.size w wr))
  case atStart => exact ⟨0, _, by omega, rfl, rfl, HV1, HO, HL, HB⟩
  case round =>
    clear HV1 HO HL HB
    obtain ⟨i, v, hiq, rfl, rfl, HV, HO, HL, HB⟩ := hrel
    cases gk with
    | zero =>
      have hi : ¬ ((i : Int) < (N : Int)) := by omega
      obtain rfl : i = N := by omega
      obtain ⟨g2, cap2, hv⟩ := HV.out
      subst hv
      go_wp2_with fail
      go_ret
      refine ⟨_, rfl, ?_, (fun q => by cases q), HB.out⟩
      rw [HKa.out]
      exact HO.out
    | succ q =>
      have hi : (i : Int) < (N : Int) := by omega
      have hi0 : (0 : Int) ≤ (i : Int) := by omega
      have hil : (i : Int) ≤ (cap : Int) := by omega
      have hiN : i < N := by omega
      have hc1 := HL.out.at (j := i) (by have := HN.out; omega)
      have HTi := Lib.hid (HTat.out i (by have := HN.out; omega))
      replace HV : Hid (∃ g cap, v = .slice (some ⟨g, 0, none⟩) (kI m n L i 0).length cap) := by rw [HKz.out]; exact HV.out
      replace HO : Hid (OwnsInts wr w.heap.size v (kI m n L i 0)) := by rw [HKz.out]; exact HO.out
      obtain ⟨s, hs⟩ : ∃ s, L.getD i 0 = s := ⟨_, rfl⟩
      rw [hs] at hc1 HTi
      have HSi := Lib.hid hs
      clear hs
      go_wp2_with fail
      go_loopg [5, 26] i (fun q s5 s26 wx => ∃ (j : Nat) (v : Value), j + q = i ∧ s26 = .int .i64 (j : Int) ∧ v = s5 ∧ Hid (∃ g cap, v = .slice (some ⟨g, 0, none⟩) (kI m n L i j).length cap) ∧ Hid (OwnsInts wx w.heap.size v (kI m n L i j)) ∧ Hid (IL wx (.slice (some ⟨g, 0, none⟩) N cap) L) ∧ Hid (Below w.heap.size w wx))
      case atStart => exact ⟨0, _, by omega, rfl, rfl, HV, HO, HL, HB⟩
      case round =>
        clear HV HO HL HB hc1
        obtain ⟨j, v, hjq, rfl, rfl, HV, HO, HL, HB⟩ := hrel
        cases gk with
        | zero =>
          have hj : ¬ ((j : Int) < (i : Int)) := by omega
          obtain rfl : j = i := by omega
          go_wp2_with fail
          go_roundg q
          case rel => exact ⟨j + 1, _, by omega, by go_num, rfl, by rw [HKs.out]; exact HV, by rw [HKs.out]; exact HO, HL, HB⟩
          case measure => omega
        | succ p =>
          have hj : (j : Int) < (i : Int) := by omega
          have hj0 : (0 : Int) ≤ (j : Int) := by omega
          have hjN : j < N := by omega
          have hjn : j < i := by omega
          have hc2 := HL.out.at (j := j) (by have := HN.out; omega)
          have HTj := Lib.hid (HTat.out j (by have := HN.out; omega))
          have HY := Lib.hid (kI_yes (m := m) (n := n) (L := L) (i := i) (j := j))
          have HNo := Lib.hid (kI_no (m := m) (n := n) (L := L) (i := i) (j := j))
          rw [HSi.out] at HY HNo
          have HKb := HKl.out i j (by have := HN.out; omega) (by omega)
          obtain ⟨t, ht⟩ : ∃ t, L.getD j 0 = t := ⟨_, rfl⟩
          rw [ht] at hc2 HTj HY HNo
          clear ht
          go_wp2_with fail
          refine (HX.out.2 s t _ HTi.out HTj.out).mono ?_
          rintro e w2 ⟨rfl, hb⟩
          replace HO : Hid (OwnsInts w2 w.heap.size v (kI m n L i j)) := owns_below HO.out hb
          replace HL := Lib.hid (HL.out.below hb)
          replace HB : Hid (Below w.heap.size w w2) := HB.out.trans (hb.mono HB.out.size)
          have hbd := HX.out.1 s t HTi.out HTj.out
          have HTl : Hid (∀ v, 0 < v → v ≤ 17 → ∀ y ∈ lefL L i j v, TlOk y) := fun v h0 h1 y hy => by
            obtain ⟨R, q1, q2⟩ := lef_perm (L := L) hjn (by have := HN.out; omega) v
            rcases List.mem_cons.1 (q2.mem_iff.1 hy) with rfl | hy2
            · exact ⟨by omega, h1⟩
            · exact HT.out y (q1.symm.mem_iff.1 (by simp [hy2]))
          clear hb hc2
          obtain ⟨u, hu⟩ : ∃ u, m s t = u := ⟨_, rfl⟩
          rw [hu] at HY HNo hbd ⊢
          clear hu
          by_cases h0 : 0 < u
          · have du : decide (0 < u) = true := by simpa using h0
            have Y := Lib.hid (HY.out h0)
            have HTl2 := Lib.hid (HTl.out u h0 (by omega))
            clear HY HNo HTl
            go_wp2_with fail
            refine (clone_N L g cap N _ HN.out HL.out (by omega)).mono ?_
            rintro e w3 ⟨g2, cap2, rfl, ho3, hb3⟩
            have hg2 := (ho3.lt g2 rfl).1
            have HO3 := Lib.hid ho3
            have HB3 := Lib.hid hb3
            clear ho3 hb3
            go_wp2_with fail
            refine (delete_any L w2.heap.size g2 cap2 i _ HO3.out (by have := HN.out; omega)).mono ?_
            rintro e w4 ⟨rfl, ho4, hgr⟩
            have hle := len_erase L i (by have := HN.out; omega)
            have hlf := len_lef (L := L) (i := i) (j := j) u (by have := HN.out; omega)
            have BX : Hid (Below w2.heap.size w2 w4) := HB3.out.grown hgr (by have := HB3.out.size; omega) (fun k hk => by cases hk; exact hg2)
            have hown := ho4.stored j (.int .i64 u)
            rw [← List.map_set] at hown
            have hlen3 : (lefL L i j u).length = (L.eraseIdx i).length := by omega
            have hown2 : (w4.setCell ⟨g2, j, none⟩ (.int .i64 u)).ownsRow w2.heap.size 3 1 (.slice (some ⟨g2, 0, none⟩) (lefL L i j u).length cap2) (lefL L i j u).length ((lefL L i j u).map (Value.int .i64)) := by rw [hlen3]; exact hown.1
            have HC := Lib.hid (HR.out (lefL L i j u) g2 cap2 _ (IL.of_own hown2) (by have := HN.out; omega) HTl2.out)
            have HKn : Hid ((rfL m n (lefL L i j u)).length ≤ 916) := Nat.le_trans (rfL_le m n _ (by have := HN.out; omega)) (rfB_le n hn)
            have c3 : ∃ z, w4.cell? ⟨g2, j, none⟩ = some z := by
              have := ho4.cellAt j (by have := HN.out; omega)
              exact ⟨_, this.trans (List.getElem?_eq_getElem (by simp; have := HN.out; omega))⟩
            obtain ⟨z, c3⟩ := c3
            have f3 := ho4.frozenAt j
            have BX : Hid (Below w2.heap.size w2 (w4.setCell ⟨g2, j, none⟩ (.int .i64 u))) := BX.out.setCell (by dsimp only; omega) _
            rw [hlen3] at HC
            have hj3 : (j : Int) < ((L.eraseIdx i).length : Int) := by have := HN.out; omega
            generalize (L.eraseIdx i).length = n3 at *
            generalize rfL m n (lefL L i j u) = K at *
            clear hown hown2 ho4 hgr HO3 HB3 hle hlf hlen3 HTl2
            go_wp2_with fail
            refine HC.out.mono ?_
            rintro e w5 ⟨v5, rfl, ho5, hv5, hb5⟩
            obtain ⟨g5, cap5, rfl⟩ := own_form ho5 hv5
            have BY : Below w2.heap.size w2 w5 := BX.out.trans (hb5.mono BX.out.size)
            have ho0 : w5.ownsRow w.heap.size 3 1 v (kI m n L i j).length ((kI m n L i j).map (Value.int .i64)) := owns_below HO.out BY
            replace HL := Lib.hid (HL.out.below BY)
            replace HB : Hid (Below w.heap.size w w5) := HB.out.trans (BY.mono HB.out.size)
            have hsz := HB.out.size
            have HC5 := Lib.hid (ho5.cells (g := g5) rfl)
            have hKn := HKn.out
            clear BX BY hb5 hv5 HC ho5 c3 f3
            go_wp2_with (at_builtin; go_loud (refine wpList_append_own _ rfl _ _ 43 rfl w.heap.size 3 i0 (.int .i64 0) 1 8 Try.underlying43 hII hz0 hz1 hz2 rfl (by decide) _ _ _ rfl ho0 ⟨g5, 0, none⟩ K.length cap5 (K.map (Value.int .i64)) rfl (by simp) ?c1 ?c2 ?c3 ?c4 ?c5 ?_))
            try (case c1 => exact HC5.out)
            case c2 => simp [Value.oneCell']
            case c3 => unfold maxLen; omega
            case c4 => omega
            case c5 => first | (simp; done) | (simp; omega) | omega
            intro v' w6 hown' hgrow' hnil
            have HO6 : Hid (OwnsInts w6 w.heap.size v' (kI m n L i (j + 1))) := by
              show OwnsInts _ _ _ _
              rw [Y.out]
              unfold OwnsInts
              rw [List.map_append, List.length_append]
              exact hown'
            have HV6 : Hid (∃ g cap, v' = .slice (some ⟨g, 0, none⟩) (kI m n L i (j + 1)).length cap) := by
              obtain ⟨gv, cv, hv⟩ := HV.out
              refine own_form HO6.out ?_
              intro q
              have := (hnil.1 q).1
              rw [hv] at this
              cases this
            have HB6 : Hid (Below w.heap.size w w6) := HB.out.grown hgrow' (by omega) (fun k hk => (ho0.lt k hk).1)
            have HL6 : Hid (IL w6 (.slice (some ⟨g, 0, none⟩) N cap) L) := HLw.out.below HB6.out
            clear hown' hgrow' ho0
            go_wp2_with fail
            go_roundg p
            case rel => exact ⟨j + 1, _, by omega, by go_num, rfl, HV6, HO6, HL6, HB6⟩
            case measure => omega
          · have du : decide (0 < u) = false := by simpa using h0
            have Y := Lib.hid (HNo.out (by omega))
            clear HY HNo HTl
            go_wp2_with fail
            go_roundg p
            case rel => exact ⟨j + 1, _, by omega, by go_num, rfl, by rw [Y.out]; exact HV, by rw [Y.out]; exact HO, HL, HB⟩
            case measure => omega
set_option maxRecDepth 20000 in
theorem reached_zero (x : Value) (m : Int → Int → Int) : RFn x m 0 := by
  intro L g cap w hL hlen hT
  obtain rfl : L = [] := List.eq_nil_of_length_eq_zero (by omega)
  have HL := Lib.hid hL
  have hgl := il_len hL
  clear hL hT hlen
  go_enter Try.func73, Try.ntmps73
  go_wp2_with fail
  refine (clone_any [] g cap _ HL.out (by simp)).mono ?_
  rintro e w1 ⟨v1, rfl, ho, hv1, hb⟩
  obtain ⟨g1, cap1, rfl⟩ := own_form ho hv1
  have HO := Lib.hid ho
  have HB := Lib.hid hb
  clear ho hb
  go_wp2_with fail
  go_loopg [5, 17] 0 (fun q s5 s17 wr => s17 = .int .i64 0 ∧ s5 = .slice (some ⟨g1, 0, none⟩) 0 cap1 ∧ wr = w1)
  case atStart => exact ⟨rfl, rfl, rfl⟩
  case round =>
    obtain ⟨rfl, rfl, rfl⟩ := hrel
    go_wp2_with fail
    go_ret
    exact ⟨.slice (some ⟨g1, 0, none⟩) 0 cap1, rfl, HO.out, (fun q => by cases q), HB.out⟩
theorem reached_any (x : Value) (m : Int → Int → Int) (hx : MergesAs x m) : ∀ n, n ≤ 5 → RFn x m n
  | 0, _ => reached_zero x m
  | n + 1, h => reached_step x m hx n (by omega) (reached_any x m hx n (by omega))
end Go.Proofs.Ytblcojacmjbjcaa
