/-
  Several texts in one:
  The contracts of SafeMoves, in the reference and in the program, for every board and number.
  The contracts of the program's AppendSeq over the directions that are safe, and of its SafeMoves, for every board and number.
-/
import Derived.Test.YtlboglcpbbnbcabLastTop
import Derived.Test.YtlboglcpbbnbcabRowsKit
namespace Go.Proofs.Ytlboglcpbbnbcab
open Go.RowKit Go.Shelf Plain
attribute [local go_sem] store_new Oper.semAt_some
set_option linter.unusedVariables false
set_option linter.unusedSimpArgs false
/-- Directions as numbers. -/
def dirs (L : List Nat) : List Int := L.map fun d => ((d : Nat) : Int)
theorem dirs_len (L : List Nat) : (dirs L).length = L.length := by simp [dirs]
theorem dirs_snoc (L : List Nat) (d : Nat) : dirs (L ++ [d]) = dirs L ++ [(d : Int)] := by simp [dirs]
theorem sfR_le (f : Nat → Int) (n : Int) : (sfR f n).length ≤ 4 := by
  unfold sfR; split
  · rw [List.length_map]; exact sfL_le _ _ _
  · simp
set_option maxHeartbeats 1000000 in
set_option maxRecDepth 20000 in
theorem specSafe_any (f : Nat → Int) (n : Int) (w : World) :
    Calls Try.prog 53 #[.agg (mk 16 f), .int .i64 n] w fun e w' => ∃ g cap, e = .returned (.tuple #[.slice (some ⟨g, 0, none⟩) (sfR f n).length cap, .bool (sfO f n)]) ∧
      OwnsInts w' w.heap.size (.slice (some ⟨g, 0, none⟩) (sfR f n).length cap) (sfR f n) ∧ Below w.heap.size w w' := by
  obtain ⟨i0, hi, hz0, hz1, hz2⟩ := info_parts infoInt
  have K1 := (Blk.new w 16 f 29).alloc (.cells #[] 3)
  have HB := Lib.hid (((Below.refl w.heap.size w).alloc (Nat.le_refl _) (.cells (mk 16 f) 29)).alloc (by simp) (.cells #[] 3))
  have HO : Hid (OwnsInts ((w.alloc (.cells (mk 16 f) 29)).alloc (.cells #[] 3)) w.heap.size (.slice (some ⟨w.heap.size + 1, 0, none⟩) 0 0) []) := by
    have := World.ownsRow_made (base := w.heap.size) (e := 3) (size := 1) (w.alloc (.cells (mk 16 f) 29)) #[] 0 (by simp) (by decide) rfl
    simp only [World.size_alloc] at this
    exact this
  by_cases hV : Vd f
  · have HV := Lib.hid hV
    by_cases hn : 1 ≤ n ∧ n ≤ 3
    · obtain ⟨n0, n1⟩ := hn
      obtain ⟨y1, y2⟩ := sf_yes (f := f) (n := n) ⟨hV, n0, n1⟩
      obtain ⟨m, hm⟩ := Int.eq_ofNat_of_zero_le (show 0 ≤ n - 1 by omega)
      have hm8 : n.toNat - 1 = m := by omega
      rw [hm8] at y1
      rw [y1, y2]
      show Calls _ _ _ _ fun e w' => ∃ g cap, e = .returned (.tuple #[.slice (some ⟨g, 0, none⟩) (dirs (sfL m f 4)).length cap, .bool true]) ∧ OwnsInts w' w.heap.size (.slice (some ⟨g, 0, none⟩) (dirs (sfL m f 4)).length cap) (dirs (sfL m f 4)) ∧ _
      have HC := Lib.hid (fun k W (hk : k < 4) => sa_all m (by omega) f k n W HV.out hk hm)
      have HLE := Lib.hid (fun k => sfL_le m f k)
      have HY := Lib.hid (fun k (h : sfF m f k = true) => sfL_yes (n := m) (f := f) (k := k) h)
      have HN := Lib.hid (fun k (h : sfF m f k = false) => sfL_no (n := m) (f := f) (k := k) h)
      clear y1 y2 hm hm8 hV
      go_enter Try.func53, Try.ntmps53
      go_wp2_with ((with_reducible show wpList _ _ _ (Oper.mk _ (Op.load 29 _) _ _ _ _ :: _) _ _); refine loadB (K1) rfl rfl rfl ?_)
      refine (l2Board_yes _ _ HV.out).mono ?_
      rintro e w1 ⟨rfl, hb⟩
      have K1 := K1.below hb K1.lt
      have HO : Hid (OwnsInts w1 w.heap.size (.slice (some ⟨w.heap.size + 1, 0, none⟩) 0 0) []) := owns_below HO.out hb
      have HB : Hid (Below w.heap.size w w1) := HB.out.trans (hb.mono HB.out.size)
      clear hb
      go_wp2_with fail
      refine (l1In_yes _ 1 3 _ n0 n1).mono ?_
      rintro e w2 ⟨rfl, rfl⟩
      go_wp2_with fail
      go_loopg [6, 7] 4 (fun gk s6 s7 wr => ∃ (d : Nat) (v : Value), d + gk = 4 ∧ s7 = .int .i64 d ∧ v = s6 ∧ (∃ gg cap, v = .slice (some ⟨gg, 0, none⟩) (dirs (sfL m f d)).length cap) ∧ Hid (OwnsInts wr w.heap.size v (dirs (sfL m f d))) ∧ Blk wr w.heap.size 16 f 29 ∧ Hid (Below w.heap.size w wr))
      case atStart => exact ⟨0, _, by omega, rfl, rfl, ⟨_, _, rfl⟩, HO, K1, HB⟩
      case round =>
        clear HO K1 HB
        obtain ⟨d, v, hdg, rfl, rfl, hv, HO, K1, HB⟩ := hrel
        cases gk with
        | zero =>
          have hd : ¬ ((d : Int) < 4) := by omega
          obtain rfl : d = 4 := by omega
          clear hdg hd
          obtain ⟨gg, cap, rfl⟩ := hv
          go_wp2_with fail
          go_ret2
          exact ⟨gg, cap, rfl, HO.out, HB.out⟩
        | succ g =>
          have hd4 : (d : Int) < 4 := by omega
          have hd9 : d < 4 := by omega
          have hd0 : (0 : Int) ≤ (d : Int) := by omega
          have hll : (dirs (sfL m f d)).length ≤ 4 := by rw [dirs_len]; have := HLE.out d; omega
          go_wp2_with ((with_reducible show wpList _ _ _ (Oper.mk _ (Op.load 29 _) _ _ _ _ :: _) _ _); refine loadB (K1) rfl rfl rfl ?_)
          refine (HC.out d _ hd9).mono ?_
          rintro e w3 ⟨rfl, hb3⟩
          have K1 := K1.below hb3 K1.lt
          have HO : Hid (OwnsInts w3 w.heap.size v (dirs (sfL m f d))) := owns_below HO.out hb3
          have HB : Hid (Below w.heap.size w w3) := HB.out.trans (hb3.mono HB.out.size)
          clear hb3
          cases hs : sfF m f d with
          | true =>
            have Y := Lib.hid (HY.out d hs)
            have hsz := HB.out.size
            clear hs
            go_wp2_with (at_builtin; refine wpList_append_own _ rfl _ _ 37 rfl w.heap.size 3 i0 (.int .i64 0) 1 8 Try.underlying37 hi hz0 hz1 hz2 rfl (by decide) _ _ _ rfl (World.ownsRow.alloc HO.out _) ⟨w3.heap.size, 0, none⟩ 1 1 [.int .i64 d] rfl rfl ?c1 ?c2 ?c3 ?c4 ?c5 ?_)
            case c1 => exact cell_one_new w3 (.int .i64 d) 3
            case c2 => simp [Value.oneCell']
            case c3 => unfold maxLen; omega
            case c4 => omega
            case c5 => simp; omega
            intro v' w2 hown' hgrow' _
            obtain ⟨g2, cap2, hv'⟩ := ownsRow_succ hown'
            have HV' : Hid (∃ gg cap, v' = .slice (some ⟨gg, 0, none⟩) ((dirs (sfL m f d)).length + 1) cap) := ⟨g2, cap2, hv'⟩
            have hrow := World.ownsRow.alloc HO.out (.cells #[.int .i64 (d : Int)] 3)
            have HB2 : Hid (Below w.heap.size w w2) := (HB.out.alloc hsz _).grown hgrow' (by simp; omega) (fun j hj => (hrow.lt j hj).1)
            have K2 := (K1.alloc (.cells #[.int .i64 (d : Int)] 3)).grown hgrow' (fun e => own_not_blk hrow (K1.alloc _) (by decide) e.symm)
            have HO2 : Hid (OwnsInts w2 w.heap.size v' (dirs (sfL m f d) ++ [(d : Int)])) := by
              show OwnsInts _ _ _ _
              unfold OwnsInts
              rw [List.map_append, List.length_append]
              exact hown'
            clear hown' hgrow' HO hv' K1 HB hrow
            go_wp2_with fail
            go_roundg g
            case rel => exact ⟨d + 1, _, by omega, by go_num, rfl, by rw [Y.out, dirs_snoc, List.length_append]; exact HV'.out, by rw [Y.out, dirs_snoc]; exact HO2, K2, HB2⟩
            case measure => omega
          | false =>
            have Y := Lib.hid (HN.out d hs)
            clear hs
            go_wp2_with fail
            go_roundg g
            case rel => exact ⟨d + 1, _, by omega, by go_num, rfl, by rw [Y.out]; exact hv, by rw [Y.out]; exact HO, K1, HB⟩
            case measure => omega
    · have hno : ¬ SafeOk f n := fun h => hn h.2
      obtain ⟨y1, y2⟩ := sf_no hno
      rw [y1, y2]
      have HN := Lib.hid (show n < 1 ∨ 3 < n by omega)
      clear y1 y2 hno hn hV
      go_enter Try.func53, Try.ntmps53
      go_wp2_with ((with_reducible show wpList _ _ _ (Oper.mk _ (Op.load 29 _) _ _ _ _ :: _) _ _); refine loadB (K1) rfl rfl rfl ?_)
      refine (l2Board_yes _ _ HV.out).mono ?_
      rintro e w1 ⟨rfl, hb⟩
      have HO : Hid (OwnsInts w1 w.heap.size (.slice (some ⟨w.heap.size + 1, 0, none⟩) 0 0) []) := owns_below HO.out hb
      have HB : Hid (Below w.heap.size w w1) := HB.out.trans (hb.mono HB.out.size)
      clear hb
      go_wp2_with fail
      refine (l1In_no _ 1 3 _ HN.out).mono ?_
      rintro e w2 ⟨rfl, rfl⟩
      go_wp2_with fail
      go_ret2
      exact ⟨_, _, rfl, HO.out, HB.out⟩
  · have hno : ¬ SafeOk f n := fun h => hV h.1
    obtain ⟨y1, y2⟩ := sf_no hno
    rw [y1, y2]
    have HV := Lib.hid hV
    clear y1 y2 hno hV
    go_enter Try.func53, Try.ntmps53
    go_wp2_with ((with_reducible show wpList _ _ _ (Oper.mk _ (Op.load 29 _) _ _ _ _ :: _) _ _); refine loadB (K1) rfl rfl rfl ?_)
    refine (l2Board_no _ _ HV.out).mono ?_
    rintro e w1 ⟨rfl, hb⟩
    have HO : Hid (OwnsInts w1 w.heap.size (.slice (some ⟨w.heap.size + 1, 0, none⟩) 0 0) []) := owns_below HO.out hb
    have HB : Hid (Below w.heap.size w w1) := HB.out.trans (hb.mono HB.out.size)
    clear hb
    go_wp2_with fail
    go_ret2
    exact ⟨_, _, rfl, HO.out, HB.out⟩
end Go.Proofs.Ytlboglcpbbnbcab
namespace Go.Proofs.Ytlboglcpbbnbcab
open Go.RowKit Go.Shelf Plain
attribute [local go_sem] store_new Oper.semAt_some
set_option linter.unusedVariables false
set_option linter.unusedSimpArgs false
theorem appInI {F : Fence} {n : Nat} {w : World} {ops : Array Oper} {rest : List Oper} {o : Oper} {a : Act} {Q : Exit → Act → World → Prop} (hgd : o.guard = none) (s x : Operand)
    (ho : o.op = .call { callee := .builtin .append, args := #[s, x], argTypes := #[37, 37] }) (base : Nat)
    {v : Value} {k : Nat} {xs : List Value} (hs : a.eval s = v) (hown : w.ownsRow base 3 1 v k xs) (b : Nat) (z : Int) (hx : a.eval x = .slice (some ⟨b, 0, none⟩) 1 1) (hb : w.cell? ⟨b, 0, none⟩ = some (.int .i64 z))
    (hk : k ≤ 64) (hbase : base ≤ w.heap.size)
    (h : ∀ v' w', w'.ownsRow base 3 1 v' (k + 1) (xs ++ [.int .i64 z]) → w.grownBy w' v.ownBlock → (v'.ownBlock = v.ownBlock ∨ v'.ownBlock = some w.heap.size) → wpListIn F n Try.prog ops Q rest (a.put o.dst v') w') :
    wpListIn F n Try.prog ops Q (o :: rest) a w := by
  obtain ⟨i0, hi, hz0, hz1, hz2⟩ := info_parts infoInt
  exact wpListIn_append_own_at (P := Try.prog) w hgd s x 37 ho base 3 i0 _ 1 8 Try.underlying37 hi hz0 hz1 hz2 rfl (by decide) v k xs hs hown ⟨b, 0, none⟩ 1 1 [.int .i64 z] hx rfl
    (fun j u hj => by
      match j, hj with
      | 0, hj => simp at hj; subst hj; unfold Addr.add; simpa using hb
      | j + 1, hj => simp at hj)
    (fun u hu => by simp at hu; subst hu; rfl) (by unfold maxLen; omega) (by omega) hbase (fun v' w' h1 h2 _ h4 => h v' w' h1 h2 h4)
theorem own_obj {w : World} {base size n : Nat} {e : TypeId} {v : Value} {xs : List Value} (h : w.ownsRow base e size v n xs) {r : Nat} (hr : v.ownBlock = some r) : ∃ cs z, w.heap[r]? = some (.cells cs e z) := by
  rcases h.2 with ⟨rfl, _⟩ | ⟨g, cap, cur, rfl, _, hg, _⟩
  · simp [Value.ownBlock] at hr
  · simp only [Value.ownBlock, Option.some.injEq] at hr
    subst hr
    exact ⟨_, _, hg⟩
theorem own_not_map {w : World} {base size n K : Nat} {e : TypeId} {v : Value} {xs : List Value} (h : w.ownsRow base e size v n xs) (hm : ∃ es c, w.heap[K]? = some (.map es c)) : v.ownBlock ≠ some K := fun hr => by
  obtain ⟨cs, z, q⟩ := own_obj h hr
  obtain ⟨es, c, q2⟩ := hm
  rw [q] at q2; cases q2
/-- The row that AppendSeq fills: a box holds a slice that owns it, in its first block or in a new one. -/
def HoldsD (base Bx q0 n₁ : Nat) (pre : List Nat) (W : World) : Prop :=
  ∃ v, Boxed W Bx 37 v ∧ W.ownsRow base 3 1 v (dirs pre).length ((dirs pre).map (Value.int .i64)) ∧ ∃ g cap, v = .slice (some ⟨g, 0, none⟩) (dirs pre).length cap ∧ (g = q0 ∨ n₁ ≤ g)
theorem holdsD_own (base Bx q0 n₁ : Nat) : Own (HoldsD base Bx q0 n₁) :=
  holdsRow_own base Bx 37 3 1 (fun pre => (dirs pre).length) (fun pre => (dirs pre).map (Value.int .i64)) (fun pre v => ∃ g cap, v = .slice (some ⟨g, 0, none⟩) (dirs pre).length cap ∧ (g = q0 ∨ n₁ ≤ g))
theorem holdsD_via {base Bx q0 n₁ K : Nat} {pre : List Nat} {A B : World} (h : HoldsD base Bx q0 n₁ pre A) (v : Via K A B) : HoldsD base Bx q0 n₁ pre B := by
  obtain ⟨x, h1, h2, h3⟩ := h
  exact ⟨x, v.box h1, World.ownsRow.kept h2 v.1 (Or.inr (own_not_map h2 v.2.1)), h3⟩
set_option maxRecDepth 100000 in
set_option maxHeartbeats 4000000 in
theorem appendSafe_any {m : Nat} (f : Nat → Int) (N : Int) (hN : N - 1 = (m : Int)) (hm : m ≤ 2) (hV : Vd f) (base q0 K B KB NB : Nat) (w : World) (hO : w.ownsRow base 3 1 (.slice (some ⟨q0, 0, none⟩) 0 0) 0 []) (hG : Good w K 0)
    (hB : Blk w B 16 f 29) (hKB : Boxed w KB 122 (.map (some K))) (hNB : Boxed w NB 3 (.int .i64 N)) (hbase : base ≤ K ∧ base ≤ w.heap.size) (hq0 : q0 ≠ B ∧ q0 ≠ KB ∧ q0 ≠ NB) :
    Calls Try.prog 109 #[.slice (some ⟨q0, 0, none⟩) 0 0, .func (.func 151) #[] #[.pointer (some ⟨B, 0, none⟩), .pointer (some ⟨KB, 0, none⟩), .pointer (some ⟨NB, 0, none⟩)]] w fun e w' =>
      ∃ g cap, e = .returned (.slice (some ⟨g, 0, none⟩) (dirs (sfL m f 4)).length cap) ∧ w'.ownsRow base 3 1 (.slice (some ⟨g, 0, none⟩) (dirs (sfL m f 4)).length cap) (dirs (sfL m f 4)).length ((dirs (sfL m f 4)).map (Value.int .i64)) ∧ Below base w w' := by
  refine (callsIn_wide (n := 8)).1 ?_
  have KX := Boxed.new w 37 (.slice (some ⟨q0, 0, none⟩) 0 0)
  have HO1 := Lib.hid (World.ownsRow.alloc hO (.cells #[.slice (some ⟨q0, 0, none⟩) 0 0] 37))
  have HG1 := Lib.hid (hG.alloc (.cells #[.slice (some ⟨q0, 0, none⟩) 0 0] 37))
  have KB1 := hB.alloc (.cells #[.slice (some ⟨q0, 0, none⟩) 0 0] 37)
  have KK1 := hKB.alloc (.cells #[.slice (some ⟨q0, 0, none⟩) 0 0] 37)
  have KN1 := hNB.alloc (.cells #[.slice (some ⟨q0, 0, none⟩) 0 0] 37)
  have HB1 : Hid (Below base w (w.alloc (.cells #[.slice (some ⟨q0, 0, none⟩) 0 0] 37))) := (Below.refl base w).alloc hbase.2 _
  have hlB := hB.lt
  have hlK := hKB.lt
  have hlN := hNB.lt
  have hKl := hG.lt
  obtain ⟨hb1, hb2⟩ := hbase
  obtain ⟨hqB, hqK, hqN⟩ := hq0
  have hsz : (w.alloc (.cells #[.slice (some ⟨q0, 0, none⟩) 0 0] 37)).heap.size = w.heap.size + 1 := World.size_alloc _ _
  have HV := Lib.hid hV
  have HNN := Lib.hid hN
  have hc129 : 128 * cst m ≤ 60000 := by rcases (by omega : m = 0 ∨ m = 1 ∨ m = 2) with rfl | rfl | rfl <;> decide
  clear hO hG hB hKB hNB hV hN
  refine callsIn_of_wp_marks Try.func109 rfl trivial ?_ rfl
  simp only [Try.ntmps109, List.size_toArray, List.length_cons, List.length_nil, Nat.reduceAdd, Nat.reduceSub, Array.replicate_succ, Array.replicate_zero, List.push_toArray, List.append_toArray, List.nil_append, List.cons_append]
  gi_wp2
  generalize w.alloc (.cells #[.slice (some ⟨q0, 0, none⟩) 0 0] 37) = w1 at *
  have HSEQ := Lib.hid (fun (l : Nat) (J Jx : List Nat → World → Prop) (W : World) (hb : Below w1.heap.size w1 W) (hj : ∀ s A X, J s A → Via K A X → J s X) (hjx : ∀ s A X, Jx s A → Via K A X → Jx s X)
    (hjd : ∀ s A D x o, J s A → W.heap.size ≤ D → A.heap[D]? = some (.deferred x) → J s (A.putObj D o)) (hjxd : ∀ s A D x o, Jx s A → W.heap.size ≤ D → A.heap[D]? = some (.deferred x) → Jx s (A.putObj D o)) hY h0 =>
    safe1_in 7 l B KB NB K 0 m w1.heap.size N f (by omega) HV.out (last_all8 m (by omega)) HNN.out hm (by omega) J Jx W hb.size (by omega) (by omega) (by omega) (by omega) hj hjx hjd hjxd hY
      (KB1.below hb KB1.lt) (box_low KK1 hb) (box_low KN1 hb) (HG1.out.low hb) h0)
  refine over_viaA (α := Nat) (K := K) (n := 8) (by omega) rfl safe_enters (encs := fun x => #[.int .i64 (x : Int)]) (Kp := KpS B KB NB K w1.heap.size) (T := fun W => Good W K (0 + 128 * cst m)) (S := fun xs => xs = sfL m f 4) (Sp := fun pre => ∃ M, sfL m f 4 = pre ++ M) (N := 4)
    HSEQ.out (fun h k => h.trans k) (KpS.book (by omega) (by omega) (by omega) (by omega)) (fun x => rfl)
    (fun pre W => HoldsD base w.heap.size q0 w.heap.size pre W ∧ Below base w W) (fun c pre W => False)
    (OwnFrom.and (Own.from (holdsD_own _ _ _ _) _) (fun s X Y row hs hg hr => hs.grown hg (Nat.le_trans hb2 hs.size) (fun j e => by have := (hr j e).1; omega)))
    (fun c s X Y row hs hg hr => hs) (fun s A X h v => ⟨holdsD_via h.1 v, h.2.grown v.1 (Nat.le_trans hb2 h.2.size) (fun j e => by cases e; exact hb1)⟩) (fun c s A X h v => h)
    ⟨⟨_, KX, HO1.out, _, _, rfl, .inl rfl⟩, HB1.out⟩ (fun W l o hl g => g.kept (grownBy_putObj' W l o) (by simp; omega)) ?A ?assign ?body ?done ?stop
  case assign =>
    rintro l pre x Wx C hi hC
    have hq := hC Wx (KeepsFrom.refl _ _) ⟨Nat.le_refl _, rfl, rfl, rfl, fun m g => g, fun D x _ h => h⟩ hi
    clear hC
    gi_wp2
    exact hq
  case body =>
    rintro l pre x Wx hl ⟨⟨v, hv, hrow, g0, cap0, hv0, hgq⟩, hBl⟩ hlt
    subst hv0
    have hWs := hBl.size
    have hk : (dirs pre).length ≤ 64 := by rw [dirs_len]; omega
    have c2 := hv.cell
    have hca := cell_one_new Wx (.int .i64 (x : Int)) 3 0 _ rfl
    have hca2 : (Wx.alloc (.cells #[.int .i64 (x : Int)] 3)).cell? ⟨Wx.heap.size, 0, none⟩ = some (.int .i64 (x : Int)) := by simp
    have HCA := Lib.hid hca2
    clear hca hca2
    gi_wp2_with (first
      | (gi_at_builtin; refine appInI rfl _ _ rfl base rfl (hrow.alloc _) Wx.heap.size (x : Int) rfl HCA.out hk (by simp; omega) ?_; intro v' w2 hown' hgrow hwh; obtain ⟨g', cap', rfl⟩ := ownsRow_succ hown'; obtain ⟨hv2, hv3, hr3, hk3, hb3⟩ := hv.appended (by decide) hrow (by omega) (by omega) hown' hgrow; have hc2 := hv2.cell; have hf2 := hv2.frozen))
    replace hwh : some g' = some g0 ∨ some g' = some (Wx.alloc (.cells #[.int .i64 (x : Int)] 3)).heap.size := hwh
    replace hgrow : (Wx.alloc (.cells #[.int .i64 (x : Int)] 3)).grownBy w2 (some g0) := hgrow
    have hgr2 := grownBy_setCell' w2 w.heap.size (.slice (some ⟨g', 0, none⟩) ((dirs pre).length + 1) cap')
    have hob : ∀ j, j < w.heap.size → j ≠ q0 → (w2.setCell ⟨w.heap.size, 0, none⟩ (.slice (some ⟨g', 0, none⟩) ((dirs pre).length + 1) cap')).heap[j]? = Wx.heap[j]? := fun j hj hjq => by
      refine (Below.heap_setCell w2 _ _ j (by dsimp only; omega)).trans ((hgrow.block j (by simp; omega) (fun e => ?_)).trans (Below.heap_alloc _ _ _ (by omega)))
      have e2 : j = g0 := Option.some.inj e
      rcases hgq with q | q <;> omega
    have hnc : ∀ D x, w1.heap.size ≤ D → Wx.heap[D]? = some (.deferred x) → (w2.setCell ⟨w.heap.size, 0, none⟩ (.slice (some ⟨g', 0, none⟩) ((dirs pre).length + 1) cap')).heap[D]? = some (.deferred x) := fun D x hD hx => hk3.same D _ hx rfl
    have hgd : ∀ mm, Good Wx K mm → Good (w2.setCell ⟨w.heap.size, 0, none⟩ (.slice (some ⟨g', 0, none⟩) ((dirs pre).length + 1) cap')) K mm := fun mm g =>
      (((g.alloc _).kept hgrow (fun e => own_not_map hrow g.map e.symm)).kept hgr2 (by simp; omega))
    refine ⟨hk3.from _, ⟨?_, hob B hlB (fun e => hqB e.symm), hob KB hlK (fun e => hqK e.symm), hob NB hlN (fun e => hqN e.symm), hgd, hnc⟩, ⟨_, hv3, ?_, g', cap', ?_, ?_⟩, hBl.trans (hb3.mono (Nat.le_refl _))⟩
    · exact hb3.size
    · rw [dirs_snoc, List.map_append, List.length_append]; exact hr3
    · rw [dirs_snoc, List.length_append]; rfl
    · rcases hwh with q | q
      · have q := Option.some.inj q; rw [q]; exact hgq
      · have q := Option.some.inj q; rw [World.size_alloc] at q; right; omega
  case done =>
    rintro D xs Wx hD rfl ⟨⟨v, hv, hrow, g0, cap0, hv0, hgq⟩, hBl⟩ hT hK
    subst hv0
    have c2 := hv.cell
    have HRW := Lib.hid (ownsRow_putObj hrow (.deferred none) hK rfl)
    have HBF : Hid (Below base w (Wx.putObj D (.deferred none))) := hBl.grown (grownBy_putObj' Wx D _) (Nat.le_trans hb2 hBl.size) (fun j e => by cases e; omega)
    have HK := Lib.hid hK
    clear hrow hK hT hgq
    gi_wp2
    show LeavesInM _ _ _ _ _ _ _ _ _
    refine ⟨by simp, .inl ⟨D, _, rfl, run_takeDeferred HK.out, ?_⟩⟩
    exact ⟨_, results_tmp rfl _ _ _, _, _, rfl, HRW.out, HBF.out⟩
  case stop =>
    rintro D c pre Wx hD hM h
    exact h.elim
set_option maxHeartbeats 2000000 in
set_option maxRecDepth 20000 in
theorem implSafe_any (f : Nat → Int) (n : Int) (w : World) :
    Calls Try.prog 52 #[.agg (mk 16 f), .int .i64 n] w fun e w' => ∃ g cap, e = .returned (.tuple #[.slice (some ⟨g, 0, none⟩) (sfR f n).length cap, .bool (sfO f n)]) ∧
      OwnsInts w' w.heap.size (.slice (some ⟨g, 0, none⟩) (sfR f n).length cap) (sfR f n) ∧ Below w.heap.size w w' := by
  have hmm := @run_makeMap Try.prog
  have K1 := Blk.new w 16 f 29
  have HB := Lib.hid ((Below.refl w.heap.size w).alloc (Nat.le_refl _) (.cells (mk 16 f) 29))
  by_cases hV : Vd f
  · have HV := Lib.hid hV
    by_cases hn : 1 ≤ n ∧ n ≤ 3
    · obtain ⟨n0, n1⟩ := hn
      obtain ⟨y1, y2⟩ := sf_yes (f := f) (n := n) ⟨hV, n0, n1⟩
      obtain ⟨m, hm⟩ := Int.eq_ofNat_of_zero_le (show 0 ≤ n - 1 by omega)
      have hm8 : n.toNat - 1 = m := by omega
      rw [hm8] at y1
      rw [y1, y2]
      show Calls _ _ _ _ fun e w' => ∃ g cap, e = .returned (.tuple #[.slice (some ⟨g, 0, none⟩) (dirs (sfL m f 4)).length cap, .bool true]) ∧ OwnsInts w' w.heap.size (.slice (some ⟨g, 0, none⟩) (dirs (sfL m f 4)).length cap) (dirs (sfL m f 4)) ∧ _
      have HNM := Lib.hid hm
      have h3 : ¬ n < 1 := by omega
      have h4 : ¬ n > 3 := by omega
      have hm2 : m ≤ 2 := by omega
      clear y1 y2 hm hm8 hV
      go_enter Try.func52, Try.ntmps52
      go_wp2_with ((with_reducible show wpList _ _ _ (Oper.mk _ (Op.load 29 _) _ _ _ _ :: _) _ _); refine loadB (K1) rfl rfl rfl ?_)
      refine (implBoard_yes _ _ HV.out).mono ?_
      rintro e w1 ⟨rfl, hb⟩
      have K1 := K1.below hb K1.lt
      have HB : Hid (Below w.heap.size w w1) := HB.out.trans (hb.mono HB.out.size)
      clear hb
      have K1b := (K1.alloc (.cells #[] 3)).alloc (.map #[] 0)
      have HO : Hid (((w1.alloc (.cells #[] 3)).alloc (.map #[] 0)).ownsRow w.heap.size 3 1 (.slice (some ⟨w1.heap.size, 0, none⟩) 0 0) 0 []) := World.ownsRow.alloc (World.ownsRow_made (base := w.heap.size) (e := 3) (size := 1) w1 #[] 0 HB.out.size (by decide) rfl) _
      have HG : Hid (Good ((w1.alloc (.cells #[] 3)).alloc (.map #[] 0)) (w1.heap.size + 1) 0) := by
        have := Good.made (w1.alloc (.cells #[] 3))
        simp only [World.size_alloc] at this
        exact this
      have HB3 : Hid (Below w.heap.size w ((w1.alloc (.cells #[] 3)).alloc (.map #[] 0))) := (HB.out.alloc HB.out.size _).alloc (by have := HB.out.size; simp; omega) _
      have hs3 : ((w1.alloc (.cells #[] 3)).alloc (.map #[] 0)).heap.size = w1.heap.size + 2 := by simp
      have hws := HB.out.size
      go_wp2_with ((with_reducible show wpList _ _ _ (Oper.mk _ (Op.load 29 _) _ _ _ _ :: _) _ _); refine loadB (K1b) rfl rfl rfl ?_)
      generalize (w1.alloc (.cells #[] 3)).alloc (.map #[] 0) = w3 at *
      refine (safe_in (w1.heap.size + 1) f n w3).mono ?_
      rintro e w4 ⟨rfl, hw4⟩
      rw [hs3]
      have KKB := ((Boxed.new w3 122 (.map (some (w1.heap.size + 1)))).alloc (.cells (mk 16 f) 29)).alloc (.cells #[.int .i64 n] 3)
      have KBB := (Blk.new (w3.alloc (.cells #[.map (some (w1.heap.size + 1))] 122)) 16 f 29).alloc (.cells #[.int .i64 n] 3)
      have KNB := Boxed.new ((w3.alloc (.cells #[.map (some (w1.heap.size + 1))] 122)).alloc (.cells (mk 16 f) 29)) 3 (.int .i64 n)
      simp only [World.size_alloc] at KBB KNB
      rw [hs3] at KKB KBB KNB
      rw [← hw4] at KKB KBB KNB
      have HO4 : Hid (w4.ownsRow w.heap.size 3 1 (.slice (some ⟨w1.heap.size, 0, none⟩) 0 0) 0 []) := by show World.ownsRow _ _ _ _ _ _ _; rw [hw4]; exact World.ownsRow.alloc (World.ownsRow.alloc (World.ownsRow.alloc HO.out _) _) _
      have HG4 : Hid (Good w4 (w1.heap.size + 1) 0) := by show Good _ _ _; rw [hw4]; exact ((HG.out.alloc _).alloc _).alloc _
      have HB4 : Hid (Below w.heap.size w w4) := by show Below _ _ _; rw [hw4]; exact ((HB3.out.alloc HB3.out.size _).alloc (by have := HB3.out.size; simp; omega) _).alloc (by have := HB3.out.size; simp; omega) _
      clear hw4 HO HG HB3 HB K1 K1b
      go_wp2_with fail
      refine (appendSafe_any f n HNM.out hm2 HV.out w.heap.size w1.heap.size (w1.heap.size + 1) _ _ _ w4 HO4.out HG4.out KBB KKB KNB ⟨by omega, HB4.out.size⟩ ⟨by omega, by omega, by omega⟩).mono ?_
      rintro e w5 ⟨g, cap, rfl, ho, hb5⟩
      have HO5 := Lib.hid ho
      have HB5 : Hid (Below w.heap.size w w5) := HB4.out.trans hb5
      clear ho hb5
      go_wp2_with fail
      go_ret2
      exact ⟨g, cap, rfl, HO5.out, HB5.out⟩
    · have hno : ¬ SafeOk f n := fun h => hn h.2
      obtain ⟨y1, y2⟩ := sf_no hno
      rw [y1, y2]
      have HN := Lib.hid (show n < 1 ∨ 3 < n by omega)
      clear y1 y2 hno hn hV
      by_cases hl : n < 1
      · go_enter Try.func52, Try.ntmps52
        go_wp2_with ((with_reducible show wpList _ _ _ (Oper.mk _ (Op.load 29 _) _ _ _ _ :: _) _ _); refine loadB (K1) rfl rfl rfl ?_)
        refine (implBoard_yes _ _ HV.out).mono ?_
        rintro e w1 ⟨rfl, hb⟩
        have HB : Hid (Below w.heap.size w w1) := HB.out.trans (hb.mono HB.out.size)
        clear hb
        have HO : Hid (OwnsInts (w1.alloc (.cells #[] 3)) w.heap.size (.slice (some ⟨w1.heap.size, 0, none⟩) 0 0) []) := World.ownsRow_made (base := w.heap.size) (e := 3) (size := 1) w1 #[] 0 HB.out.size (by decide) rfl
        have HB : Hid (Below w.heap.size w (w1.alloc (.cells #[] 3))) := HB.out.alloc HB.out.size _
        go_wp2_with fail
        go_ret2
        exact ⟨_, _, rfl, HO.out, HB.out⟩
      · have hg : n > 3 := by have := HN.out; omega
        go_enter Try.func52, Try.ntmps52
        go_wp2_with ((with_reducible show wpList _ _ _ (Oper.mk _ (Op.load 29 _) _ _ _ _ :: _) _ _); refine loadB (K1) rfl rfl rfl ?_)
        refine (implBoard_yes _ _ HV.out).mono ?_
        rintro e w1 ⟨rfl, hb⟩
        have HB : Hid (Below w.heap.size w w1) := HB.out.trans (hb.mono HB.out.size)
        clear hb
        have HO : Hid (OwnsInts (w1.alloc (.cells #[] 3)) w.heap.size (.slice (some ⟨w1.heap.size, 0, none⟩) 0 0) []) := World.ownsRow_made (base := w.heap.size) (e := 3) (size := 1) w1 #[] 0 HB.out.size (by decide) rfl
        have HB : Hid (Below w.heap.size w (w1.alloc (.cells #[] 3))) := HB.out.alloc HB.out.size _
        go_wp2_with fail
        go_ret2
        exact ⟨_, _, rfl, HO.out, HB.out⟩
  · have hno : ¬ SafeOk f n := fun h => hV h.1
    obtain ⟨y1, y2⟩ := sf_no hno
    rw [y1, y2]
    have HV := Lib.hid hV
    clear y1 y2 hno hV
    go_enter Try.func52, Try.ntmps52
    go_wp2_with ((with_reducible show wpList _ _ _ (Oper.mk _ (Op.load 29 _) _ _ _ _ :: _) _ _); refine loadB (K1) rfl rfl rfl ?_)
    refine (implBoard_no _ _ HV.out).mono ?_
    rintro e w1 ⟨rfl, hb⟩
    have HB : Hid (Below w.heap.size w w1) := HB.out.trans (hb.mono HB.out.size)
    clear hb
    have HO : Hid (OwnsInts (w1.alloc (.cells #[] 3)) w.heap.size (.slice (some ⟨w1.heap.size, 0, none⟩) 0 0) []) := World.ownsRow_made (base := w.heap.size) (e := 3) (size := 1) w1 #[] 0 HB.out.size (by decide) rfl
    have HB : Hid (Below w.heap.size w (w1.alloc (.cells #[] 3))) := HB.out.alloc HB.out.size _
    go_wp2_with fail
    go_ret2
    exact ⟨_, _, rfl, HO.out, HB.out⟩
end Go.Proofs.Ytlboglcpbbnbcab
