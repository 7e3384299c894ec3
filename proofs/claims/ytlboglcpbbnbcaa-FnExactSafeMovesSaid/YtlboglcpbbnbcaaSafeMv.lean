/-
  The contracts of SafeMoves, in the reference and in the program, for every board and number.
-/
import Derived.Test.YtlboglcpbbnbcaaLastTop
import Derived.Test.YtlboglcpbbnbcaaRowsKit
namespace Go.Proofs.Ytlboglcpbbnbcaa
open Go.RowKit Go.Shelf Plain
attribute [local go_sem] store_new Oper.semAt_some
set_option linter.unusedVariables false
set_option linter.unusedSimpArgs false
/-- Directions as numbers. -/
def dirs (L : List Nat) : List Int := L.map fun d => ((d : Nat) : Int)
theorem dirs_len (L : List Nat) : (dirs L).length = L.length := by simp [dirs]
theorem dirs_snoc (L : List Nat) (d : Nat) : dirs (L ++ [d]) = dirs L ++ [(d : Int)] := by simp [dirs]
theorem sfR_le (f : Nat → Int) (n : Int) : (sfR f n).length ≤ 4 := by
  unfold sfR; split
  · rw [List.length_map]; exact sfL_le _ _ _
  · simp
set_option maxHeartbeats 1000000 in
set_option maxRecDepth 20000 in
theorem specSafe_any (f : Nat → Int) (n : Int) (w : World) :
    Calls Try.prog 33 #[.agg (mk 16 f), .int .i64 n] w fun e w' => ∃ g cap, e = .returned (.tuple #[.slice (some ⟨g, 0, none⟩) (sfR f n).length cap, .bool (sfO f n)]) ∧
      OwnsInts w' w.heap.size (.slice (some ⟨g, 0, none⟩) (sfR f n).length cap) (sfR f n) ∧ Below w.heap.size w w' := by
  obtain ⟨i0, hi, hz0, hz1, hz2⟩ := info_parts infoInt
  have K1 := (Blk.new w 16 f 29).alloc (.cells #[] 3)
  have HB := Lib.hid (((Below.refl w.heap.size w).alloc (Nat.le_refl _) (.cells (mk 16 f) 29)).alloc (by simp) (.cells #[] 3))
  have HO : Hid (OwnsInts ((w.alloc (.cells (mk 16 f) 29)).alloc (.cells #[] 3)) w.heap.size (.slice (some ⟨w.heap.size + 1, 0, none⟩) 0 0) []) := by
    have := World.ownsRow_made (base := w.heap.size) (e := 3) (size := 1) (w.alloc (.cells (mk 16 f) 29)) #[] 0 (by simp) (by decide) rfl
    simp only [World.size_alloc] at this
    exact this
  by_cases hV : Vd f
  · have HV := Lib.hid hV
    by_cases hn : 1 ≤ n ∧ n ≤ 3
    · obtain ⟨n0, n1⟩ := hn
      obtain ⟨y1, y2⟩ := sf_yes (f := f) (n := n) ⟨hV, n0, n1⟩
      obtain ⟨m, hm⟩ := Int.eq_ofNat_of_zero_le (show 0 ≤ n - 1 by omega)
      have hm8 : n.toNat - 1 = m := by omega
      rw [hm8] at y1
      rw [y1, y2]
      show Calls _ _ _ _ fun e w' => ∃ g cap, e = .returned (.tuple #[.slice (some ⟨g, 0, none⟩) (dirs (sfL m f 4)).length cap, .bool true]) ∧ OwnsInts w' w.heap.size (.slice (some ⟨g, 0, none⟩) (dirs (sfL m f 4)).length cap) (dirs (sfL m f 4)) ∧ _
      have HC := Lib.hid (fun k W (hk : k < 4) => sa_all m (by omega) f k n W HV.out hk hm)
      have HLE := Lib.hid (fun k => sfL_le m f k)
      have HY := Lib.hid (fun k (h : sfF m f k = true) => sfL_yes (n := m) (f := f) (k := k) h)
      have HN := Lib.hid (fun k (h : sfF m f k = false) => sfL_no (n := m) (f := f) (k := k) h)
      clear y1 y2 hm hm8 hV
      go_enter Try.func33, Try.ntmps33
      go_wp2_with ((with_reducible show wpList _ _ _ (Oper.mk _ (Op.load 29 _) _ _ _ _ :: _) _ _); refine loadB (K1) rfl rfl rfl ?_)
      refine (l2Board_yes _ _ HV.out).mono ?_
      rintro e w1 ⟨rfl, hb⟩
      have K1 := K1.below hb K1.lt
      have HO : Hid (OwnsInts w1 w.heap.size (.slice (some ⟨w.heap.size + 1, 0, none⟩) 0 0) []) := owns_below HO.out hb
      have HB : Hid (Below w.heap.size w w1) := HB.out.trans (hb.mono HB.out.size)
      clear hb
      go_wp2_with fail
      refine (l1In_yes _ 1 3 _ n0 n1).mono ?_
      rintro e w2 ⟨rfl, rfl⟩
      go_wp2_with fail
      go_loopg [6, 7] 4 (fun gk s6 s7 wr => ∃ (d : Nat) (v : Value), d + gk = 4 ∧ s7 = .int .i64 d ∧ v = s6 ∧ (∃ gg cap, v = .slice (some ⟨gg, 0, none⟩) (dirs (sfL m f d)).length cap) ∧ Hid (OwnsInts wr w.heap.size v (dirs (sfL m f d))) ∧ Blk wr w.heap.size 16 f 29 ∧ Hid (Below w.heap.size w wr))
      case atStart => exact ⟨0, _, by omega, rfl, rfl, ⟨_, _, rfl⟩, HO, K1, HB⟩
      case round =>
        clear HO K1 HB
        obtain ⟨d, v, hdg, rfl, rfl, hv, HO, K1, HB⟩ := hrel
        cases gk with
        | zero =>
          have hd : ¬ ((d : Int) < 4) := by omega
          obtain rfl : d = 4 := by omega
          clear hdg hd
          obtain ⟨gg, cap, rfl⟩ := hv
          go_wp2_with fail
          go_ret2
          exact ⟨gg, cap, rfl, HO.out, HB.out⟩
        | succ g =>
          have hd4 : (d : Int) < 4 := by omega
          have hd9 : d < 4 := by omega
          have hd0 : (0 : Int) ≤ (d : Int) := by omega
          have hll : (dirs (sfL m f d)).length ≤ 4 := by rw [dirs_len]; have := HLE.out d; omega
          go_wp2_with ((with_reducible show wpList _ _ _ (Oper.mk _ (Op.load 29 _) _ _ _ _ :: _) _ _); refine loadB (K1) rfl rfl rfl ?_)
          refine (HC.out d _ hd9).mono ?_
          rintro e w3 ⟨rfl, hb3⟩
          have K1 := K1.below hb3 K1.lt
          have HO : Hid (OwnsInts w3 w.heap.size v (dirs (sfL m f d))) := owns_below HO.out hb3
          have HB : Hid (Below w.heap.size w w3) := HB.out.trans (hb3.mono HB.out.size)
          clear hb3
          cases hs : sfF m f d with
          | true =>
            have Y := Lib.hid (HY.out d hs)
            have hsz := HB.out.size
            clear hs
            go_wp2_with (at_builtin; refine wpList_append_own _ rfl _ _ 48 rfl w.heap.size 3 i0 (.int .i64 0) 1 8 Try.underlying48 hi hz0 hz1 hz2 rfl (by decide) _ _ _ rfl (World.ownsRow.alloc HO.out _) ⟨w3.heap.size, 0, none⟩ 1 1 [.int .i64 d] rfl rfl ?c1 ?c2 ?c3 ?c4 ?c5 ?_)
            case c1 => exact cell_one_new w3 (.int .i64 d) 3
            case c2 => simp [Value.oneCell']
            case c3 => unfold maxLen; omega
            case c4 => omega
            case c5 => simp; omega
            intro v' w2 hown' hgrow' _
            obtain ⟨g2, cap2, hv'⟩ := ownsRow_succ hown'
            have HV' : Hid (∃ gg cap, v' = .slice (some ⟨gg, 0, none⟩) ((dirs (sfL m f d)).length + 1) cap) := ⟨g2, cap2, hv'⟩
            have hrow := World.ownsRow.alloc HO.out (.cells #[.int .i64 (d : Int)] 3)
            have HB2 : Hid (Below w.heap.size w w2) := (HB.out.alloc hsz _).grown hgrow' (by simp; omega) (fun j hj => (hrow.lt j hj).1)
            have K2 := (K1.alloc (.cells #[.int .i64 (d : Int)] 3)).grown hgrow' (fun e => own_not_blk hrow (K1.alloc _) (by decide) e.symm)
            have HO2 : Hid (OwnsInts w2 w.heap.size v' (dirs (sfL m f d) ++ [(d : Int)])) := by
              show OwnsInts _ _ _ _
              unfold OwnsInts
              rw [List.map_append, List.length_append]
              exact hown'
            clear hown' hgrow' HO hv' K1 HB hrow
            go_wp2_with fail
            go_roundg g
            case rel => exact ⟨d + 1, _, by omega, by go_num, rfl, by rw [Y.out, dirs_snoc, List.length_append]; exact HV'.out, by rw [Y.out, dirs_snoc]; exact HO2, K2, HB2⟩
            case measure => omega
          | false =>
            have Y := Lib.hid (HN.out d hs)
            clear hs
            go_wp2_with fail
            go_roundg g
            case rel => exact ⟨d + 1, _, by omega, by go_num, rfl, by rw [Y.out]; exact hv, by rw [Y.out]; exact HO, K1, HB⟩
            case measure => omega
    · have hno : ¬ SafeOk f n := fun h => hn h.2
      obtain ⟨y1, y2⟩ := sf_no hno
      rw [y1, y2]
      have HN := Lib.hid (show n < 1 ∨ 3 < n by omega)
      clear y1 y2 hno hn hV
      go_enter Try.func33, Try.ntmps33
      go_wp2_with ((with_reducible show wpList _ _ _ (Oper.mk _ (Op.load 29 _) _ _ _ _ :: _) _ _); refine loadB (K1) rfl rfl rfl ?_)
      refine (l2Board_yes _ _ HV.out).mono ?_
      rintro e w1 ⟨rfl, hb⟩
      have HO : Hid (OwnsInts w1 w.heap.size (.slice (some ⟨w.heap.size + 1, 0, none⟩) 0 0) []) := owns_below HO.out hb
      have HB : Hid (Below w.heap.size w w1) := HB.out.trans (hb.mono HB.out.size)
      clear hb
      go_wp2_with fail
      refine (l1In_no _ 1 3 _ HN.out).mono ?_
      rintro e w2 ⟨rfl, rfl⟩
      go_wp2_with fail
      go_ret2
      exact ⟨_, _, rfl, HO.out, HB.out⟩
  · have hno : ¬ SafeOk f n := fun h => hV h.1
    obtain ⟨y1, y2⟩ := sf_no hno
    rw [y1, y2]
    have HV := Lib.hid hV
    clear y1 y2 hno hV
    go_enter Try.func33, Try.ntmps33
    go_wp2_with ((with_reducible show wpList _ _ _ (Oper.mk _ (Op.load 29 _) _ _ _ _ :: _) _ _); refine loadB (K1) rfl rfl rfl ?_)
    refine (l2Board_no _ _ HV.out).mono ?_
    rintro e w1 ⟨rfl, hb⟩
    have HO : Hid (OwnsInts w1 w.heap.size (.slice (some ⟨w.heap.size + 1, 0, none⟩) 0 0) []) := owns_below HO.out hb
    have HB : Hid (Below w.heap.size w w1) := HB.out.trans (hb.mono HB.out.size)
    clear hb
    go_wp2_with fail
    go_ret2
    exact ⟨_, _, rfl, HO.out, HB.out⟩
end Go.Proofs.Ytlboglcpbbnbcaa
