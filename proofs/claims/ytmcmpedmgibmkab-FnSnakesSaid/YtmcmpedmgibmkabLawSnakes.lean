/-
  Proved: for every code, the law FnSnakes returns true, and the code reads as it did. No condition.
-/
import Derived.Test.YtmcmpedmgibmkabDrawSnake
import Derived.Test.YtmcmpedmgibmkabSnakeLaw
import Derived.Test.YtmcmpedmgibmkabBaseA
import Derived.Test.YtmcmpedmgibmkabClosed
import Derived.Deep.CutRange
namespace Go.Proofs.Ytmcmpedmgibmkab.fnSnakes
open Go.ChangeShapes Go.WideShapes Go.ChangeAt Go.RowKit Plain
attribute [local go_sem] store_new
set_option linter.unusedSimpArgs false
set_option linter.unusedVariables false
theorem isRow_kept {k : IntKind} {w w' : World} {a : Option Addr} {len cap : Nat} {z : List Int} (h : IsRow k w a len cap z) (hb : Below w.heap.size w w') : IsRow k w' a len cap z := by
  rcases h with h | ⟨x, h0, h1, h2, h3, h4, h5⟩
  · exact .inl h
  · refine .inr ⟨x, h0, h1, h2, h3, fun i hi => ?_, h5⟩
    have := h4 i hi
    exact (hb.cell (World.block_lt_of_cell? w _ this)).trans this
theorem cat_of {w : World} {g n c : Nat} {h : Nat → Int} (r : IRow w (.slice (some ⟨g, 0, none⟩) n c) n h) : CAt w g n h := by
  obtain ⟨gg, cc, he, h0, h1, h2⟩ := r
  cases he
  exact ⟨h1, h2⟩
theorem cat_grown {w w' : World} {g n : Nat} {h : Nat → Int} {row : Option Nat} (r : CAt w g n h) (hg : w.grownBy w' row) (hne : some g ≠ row) : CAt w' g n h := by
  have hb := hg.block g r.1 hne
  exact ⟨Nat.lt_of_lt_of_le r.1 hg.size, fun j hj => (World.cell?_of_block (w := w) hb).trans (r.2 j hj)⟩
theorem vInts_bS (v u : Value) (n : Nat) (h : Nat → Int) (w : World) (hv : IRow w v n h) (hu : IRow w u n h) (hn : n ≤ 1048576) :
    Calls Try.prog 24 #[v, u] w fun e w' => e = .returned (.bool true) ∧ Below w.heap.size w w' :=
  (vInts_yes v u n h w hv hu hn).mono fun e w' ⟨q1, k, q2⟩ => ⟨q1, by rw [q2]; exact ⟨rfl, rfl, rfl, Nat.le_refl _, fun _ _ => rfl⟩⟩
def vk (n : Nat) (v : Nat → Value) : Array Value := ((List.range n).map v).toArray
theorem vk_size (n : Nat) (v : Nat → Value) : (vk n v).size = n := by simp [vk]
theorem vk_get {n i : Nat} (v : Nat → Value) (h : i < n) : (vk n v)[i]? = some (v i) := by simp [vk, h]
theorem vk_ext {n : Nat} {v : Nat → Value} {cs : Array Value} (hs : cs.size = n) (h : ∀ i, i < n → cs[i]? = some (v i)) : cs = vk n v := by
  apply Array.ext_getElem?
  intro i
  by_cases hi : i < n
  · rw [h i hi, vk_get v hi]
  · rw [Array.getElem?_eq_none (by omega), Array.getElem?_eq_none (by rw [vk_size]; omega)]
theorem loadgN {ops : Array Oper} {rest : List Oper} {o : Oper} {a : Act} {w : World} {Q : Exit → Act → World → Prop} {x : Operand} {b : Nat} {f : Nat → Int} {t : TypeId}
    (hg : Blk w b 18 f t) (hw : Region.wanted o (yielded ops a.tmps) = true) (ho : o.op = .load 51 x) (hx : a.eval x = .pointer (some ⟨b, 0, none⟩))
    (h : wpList Try.prog ops Q rest (a.put o.dst (.agg (mk 18 f))) w) : wpList Try.prog ops Q (o :: rest) a w :=
  wpList_load_guarded hw _ x ho b 18 f t _ hx hg Try.underlying51 rfl sizeN h
/-- The cells that were seen, as a block of Booleans. -/
def boF (k m : Nat) : Nat → Value := fun p => .bool (seF k m p)
theorem bo_set {k m : Nat} {w : World} {b p : Nat} {t : TypeId} (h : Oth w b (vk 16 (boF k m)) t) (hp : p = plP k m) (hl : p < 16) : Oth (w.setCell ⟨b, p, none⟩ (.bool true)) b (vk 16 (boF k (m + 1))) t := by
  have := heap_setCell_same w b p _ t (.bool true) h
  have e : (vk 16 (boF k m)).setIfInBounds p (.bool true) = vk 16 (boF k (m + 1)) := vk_ext (by simp [vk_size]) fun j hj => by
    rw [Array.getElem?_setIfInBounds, vk_size]
    by_cases q : p = j
    · subst q; rw [if_pos rfl, if_pos hl]; unfold boF; show _ = some (Value.bool (if p = plP k m then true else seF k m p)); rw [if_pos hp]
    · rw [if_neg q, vk_get _ hj]; unfold boF; show _ = some (Value.bool (if j = plP k m then true else seF k m j)); rw [if_neg (by omega)]
  rwa [e] at this
theorem bo_free {w : World} {b : Nat} {cs : Array Value} {t : TypeId} (h : Oth w b cs t) (i : Nat) : w.frozen? ⟨b, i, none⟩ = false := frozen_of_row w b i _ t h
theorem grown_rowS {w : World} {b n : Nat} {f : Nat → Int} {t : TypeId} (k : Blk w b n f t) (cs : Array Value) : w.grownBy (w.setRow b cs) (some b) := by
  refine ⟨rfl, rfl, rfl, ?_, fun j hj hne => ?_⟩
  · simp [World.setRow]
  · exact setRow_other w b j cs (fun e => hne (by rw [e]))
set_option maxHeartbeats 16000000 in
set_option maxRecDepth 100000 in
theorem walk (w : World) (_ : w.ShapedOpen Try.prog) (a0 : Option Addr) (len0 cap0 : Nat) (z0 : List Int) (hr : IsRow .u8 w a0 len0 cap0 z0) :
    Calls Try.prog 6 #[.slice a0 len0 cap0] w fun e w' => e = .returned (.bool true) ∧ Below w.heap.size w w' := by
  have z16 := zero16
  have z32 := zero32
  have z18 := zero18
  have HR := Lib.hid hr
  have HB : Hid (Below w.heap.size w w) := Below.refl w.heap.size w
  clear hr
  by_cases hl : len0 ≤ 65536
  · have dl : decide ((65536 : Int) < (len0 : Int)) = false := by simp; omega
    go_enter Try.func6, Try.ntmps6
    go_wp2_with fail
    refine (vBig_any _ _ _ _).mono ?_
    rintro e w' ⟨rfl, rfl⟩
    rw [dl]
    clear dl
    go_wp2_with fail
    refine (drawPath_any a0 len0 cap0 _ hl HR.out.code).mono ?_
    rintro e w1 ⟨k, rfl, hb⟩
    replace HB : Hid (Below w.heap.size w w1) := hb
    clear hb
    have HPF := Lib.hid (@path_facts k)
    have iP := Lib.hid (fun W => implSnake_any k W)
    have sP := Lib.hid (fun W => specSnake_any k W)
    generalize snR k = PR at *
    generalize snO k = PO at *
    go_wp2_with fail
    refine (iP.out _).mono ?_
    rintro e w2 ⟨rfl, hb⟩
    replace HB : Hid (Below w.heap.size w w2) := HB.out.trans (hb.mono HB.out.size)
    clear hb
    have K4 := Blk.new w2 32 PR 23
    replace HB : Hid (Below w.heap.size w (w2.alloc (.cells (mk 32 PR) 23))) := HB.out.alloc HB.out.size _
    go_wp2_with fail
    generalize w2.alloc (.cells (mk 32 PR) 23) = w2a at *
    generalize w2.heap.size = b4 at *
    refine (sP.out _).mono ?_
    rintro e w3 ⟨rfl, hb⟩
    replace K4 := K4.below hb K4.lt
    replace HB : Hid (Below w.heap.size w w3) := HB.out.trans (hb.mono HB.out.size)
    clear hb
    replace K4 := K4.alloc (.cells (mk 32 PR) 23)
    have K6 := Blk.new w3 32 PR 23
    replace HB : Hid (Below w.heap.size w (w3.alloc (.cells (mk 32 PR) 23))) := HB.out.alloc HB.out.size _
    clear iP sP
    go_wp2_with fail
    generalize w3.alloc (.cells (mk 32 PR) 23) = w3a at *
    generalize w3.heap.size = b6 at *
    refine (vCut1_any a0 len0 cap0 z0 _ hl (isRow_kept HR.out HB.out)).mono ?_
    rintro e w4 ⟨g8, m8, c8, rfl, hm8, hcr, hb⟩
    replace K4 := K4.below hb K4.lt
    replace K6 := K6.below hb K6.lt
    replace HB : Hid (Below w.heap.size w w4) := HB.out.trans (hb.mono HB.out.size)
    clear hb
    have HCR := Lib.hid hcr
    clear hcr
    go_wp2_with fail
    refine (drawSnakes_any (some ⟨g8, 0, none⟩) m8 c8 _ hm8 HCR.out).mono ?_
    rintro e w5 ⟨b, rfl, hb⟩
    replace K4 := K4.below hb K4.lt
    replace K6 := K6.below hb K6.lt
    replace HB : Hid (Below w.heap.size w w5) := HB.out.trans (hb.mono HB.out.size)
    clear hb
    clear HCR hm8
    obtain ⟨h, hh⟩ : ∃ h : Nat → Int, h = fun i => (snLR b).getD i 0 := ⟨_, rfl⟩
    have HLF : Hid (vdO b = true → ∀ i, i < (snLR b).length → ∀ W, Calls Try.prog 17 #[.agg (mk 16 b), .int .i64 (h i)] W fun e w' => e = .returned (.tuple #[.agg (mk 16 b), .bool true]) ∧ Below W.heap.size W w') := by
      rw [hh]; exact list_facts
    have iN := Lib.hid (fun W => snakes_row b W)
    have sN := Lib.hid (fun W => snakes_rowS b W)
    have hn8 : (snLR b).length ≤ 8 := snLR_le b
    rw [← hh] at iN sN
    clear hh
    generalize vdO b = V at *
    generalize (snLR b).length = n at *
    replace K4 := K4.alloc (.cells (mk 16 b) 35)
    replace K6 := K6.alloc (.cells (mk 16 b) 35)
    have K8 := Blk.new w5 16 b 35
    replace HB : Hid (Below w.heap.size w (w5.alloc (.cells (mk 16 b) 35))) := HB.out.alloc HB.out.size _
    go_wp2_with ((with_reducible show wpList _ _ _ (Oper.mk _ (Op.load 35 _) _ _ _ _ :: _) _ _); refine loadB (K8) rfl rfl rfl ?_)
    generalize w5.alloc (.cells (mk 16 b) 35) = w5a at *
    generalize w5.heap.size = b8 at *
    refine (iN.out _).mono ?_
    rintro e w6 ⟨g1, c1, rfl, hr1, hb⟩
    replace K4 := K4.below hb K4.lt
    replace K6 := K6.below hb K6.lt
    replace K8 := K8.below hb K8.lt
    replace HB : Hid (Below w.heap.size w w6) := HB.out.trans (hb.mono HB.out.size)
    clear hb
    have R1 := Lib.hid hr1
    clear hr1
    go_wp2_with ((with_reducible show wpList _ _ _ (Oper.mk _ (Op.load 35 _) _ _ _ _ :: _) _ _); refine loadB (K8) rfl rfl rfl ?_)
    refine (sN.out _).mono ?_
    rintro e w7 ⟨g2, c2, rfl, hr2, hb⟩
    replace K4 := K4.below hb K4.lt
    replace K6 := K6.below hb K6.lt
    replace K8 := K8.below hb K8.lt
    replace R1 := Lib.hid (R1.out.below hb)
    replace HB : Hid (Below w.heap.size w w7) := HB.out.trans (hb.mono HB.out.size)
    clear hb
    have R2 := Lib.hid hr2
    clear hr2 iN sN
    go_wp2_with fail
    refine (vCut2_any a0 len0 cap0 z0 _ hl (isRow_kept HR.out HB.out)).mono ?_
    rintro e w8 ⟨g9, m9, c9, rfl, hm9, hcr, hb⟩
    replace K4 := K4.below hb K4.lt
    replace K6 := K6.below hb K6.lt
    replace K8 := K8.below hb K8.lt
    replace R1 := Lib.hid (R1.out.below hb)
    replace R2 := Lib.hid (R2.out.below hb)
    replace HB : Hid (Below w.heap.size w w8) := HB.out.trans (hb.mono HB.out.size)
    clear hb
    have HCR := Lib.hid hcr
    clear hcr
    go_wp2_with fail
    refine (drawSbd_any (some ⟨g9, 0, none⟩) m9 c9 _ hm9 HCR.out).mono ?_
    rintro e w9 ⟨u, m, rfl, hb⟩
    replace K4 := K4.below hb K4.lt
    replace K6 := K6.below hb K6.lt
    replace K8 := K8.below hb K8.lt
    replace R1 := Lib.hid (R1.out.below hb)
    replace R2 := Lib.hid (R2.out.below hb)
    replace HB : Hid (Below w.heap.size w w9) := HB.out.trans (hb.mono HB.out.size)
    clear hb
    clear HCR hm9
    have HSF := Lib.hid (@sbd_facts u m)
    have iB := Lib.hid (fun W => implSbd_any u m W)
    have sB := Lib.hid (fun W => specSbd_any u m W)
    generalize sbdR u m = MD at *
    generalize sbdO u m = MO at *
    replace K4 := K4.alloc (.cells (mk 16 u) 35)
    replace K6 := K6.alloc (.cells (mk 16 u) 35)
    replace K8 := K8.alloc (.cells (mk 16 u) 35)
    replace R1 := Lib.hid (R1.out.below ((Below.refl _ _).alloc (Nat.le_refl _) (.cells (mk 16 u) 35)))
    replace R2 := Lib.hid (R2.out.below ((Below.refl _ _).alloc (Nat.le_refl _) (.cells (mk 16 u) 35)))
    have K13 := Blk.new w9 16 u 35
    replace HB : Hid (Below w.heap.size w (w9.alloc (.cells (mk 16 u) 35))) := HB.out.alloc HB.out.size _
    go_wp2_with ((with_reducible show wpList _ _ _ (Oper.mk _ (Op.load 35 _) _ _ _ _ :: _) _ _); refine loadB (K13) rfl rfl rfl ?_)
    generalize w9.alloc (.cells (mk 16 u) 35) = w9a at *
    generalize w9.heap.size = b13 at *
    refine (iB.out _).mono ?_
    rintro e w10 ⟨rfl, hb⟩
    replace K4 := K4.below hb K4.lt
    replace K6 := K6.below hb K6.lt
    replace K8 := K8.below hb K8.lt
    replace K13 := K13.below hb K13.lt
    replace R1 := Lib.hid (R1.out.below hb)
    replace R2 := Lib.hid (R2.out.below hb)
    replace HB : Hid (Below w.heap.size w w10) := HB.out.trans (hb.mono HB.out.size)
    clear hb
    replace K4 := K4.alloc (.cells (mk 16 MD) 35)
    replace K6 := K6.alloc (.cells (mk 16 MD) 35)
    replace K8 := K8.alloc (.cells (mk 16 MD) 35)
    replace K13 := K13.alloc (.cells (mk 16 MD) 35)
    replace R1 := Lib.hid (R1.out.below ((Below.refl _ _).alloc (Nat.le_refl _) (.cells (mk 16 MD) 35)))
    replace R2 := Lib.hid (R2.out.below ((Below.refl _ _).alloc (Nat.le_refl _) (.cells (mk 16 MD) 35)))
    have K15 := Blk.new w10 16 MD 35
    replace HB : Hid (Below w.heap.size w (w10.alloc (.cells (mk 16 MD) 35))) := HB.out.alloc HB.out.size _
    go_wp2_with ((with_reducible show wpList _ _ _ (Oper.mk _ (Op.load 35 _) _ _ _ _ :: _) _ _); refine loadB (K13) rfl rfl rfl ?_)
    generalize w10.alloc (.cells (mk 16 MD) 35) = w10a at *
    generalize w10.heap.size = b15 at *
    refine (sB.out _).mono ?_
    rintro e w11 ⟨rfl, hb⟩
    replace K4 := K4.below hb K4.lt
    replace K6 := K6.below hb K6.lt
    replace K8 := K8.below hb K8.lt
    replace K13 := K13.below hb K13.lt
    replace K15 := K15.below hb K15.lt
    replace R1 := Lib.hid (R1.out.below hb)
    replace R2 := Lib.hid (R2.out.below hb)
    replace HB : Hid (Below w.heap.size w w11) := HB.out.trans (hb.mono HB.out.size)
    clear hb
    replace K4 := K4.alloc (.cells (mk 16 MD) 35)
    replace K6 := K6.alloc (.cells (mk 16 MD) 35)
    replace K8 := K8.alloc (.cells (mk 16 MD) 35)
    replace K13 := K13.alloc (.cells (mk 16 MD) 35)
    replace K15 := K15.alloc (.cells (mk 16 MD) 35)
    replace R1 := Lib.hid (R1.out.below ((Below.refl _ _).alloc (Nat.le_refl _) (.cells (mk 16 MD) 35)))
    replace R2 := Lib.hid (R2.out.below ((Below.refl _ _).alloc (Nat.le_refl _) (.cells (mk 16 MD) 35)))
    have K17 := Blk.new w11 16 MD 35
    replace HB : Hid (Below w.heap.size w (w11.alloc (.cells (mk 16 MD) 35))) := HB.out.alloc HB.out.size _
    clear iB sB
    have iNB := neqB_selfS
    have iNP := neqP_self
    have iNN := neqN_selfS
    have q1 : ∀ x : Bool, (x != x) = false := by decide
    have q2 : ∀ x : Bool, (x == x) = true := by decide
    have q6 : ∀ x : Bool, decide (x = x) = true := fun x => by simp
    go_wp2_with (first | ((with_reducible show wpList _ _ _ (Oper.mk _ (Op.load 23 _) _ _ _ _ :: _) _ _); refine loadP (K4) rfl rfl rfl ?_) | ((with_reducible show wpList _ _ _ (Oper.mk _ (Op.load 23 _) _ _ _ _ :: _) _ _); refine loadP (K6) rfl rfl rfl ?_))
    generalize w11.alloc (.cells (mk 16 MD) 35) = w11a at *
    generalize w11.heap.size = b17 at *
    refine (vInts_bS _ _ n h _ R1.out R2.out (by omega)).mono ?_
    rintro e w12 ⟨rfl, hb⟩
    replace K4 := K4.below hb K4.lt
    replace K6 := K6.below hb K6.lt
    replace K8 := K8.below hb K8.lt
    replace K13 := K13.below hb K13.lt
    replace K15 := K15.below hb K15.lt
    replace K17 := K17.below hb K17.lt
    replace R1 := Lib.hid (R1.out.below hb)
    replace R2 := Lib.hid (R2.out.below hb)
    replace HB : Hid (Below w.heap.size w w12) := HB.out.trans (hb.mono HB.out.size)
    clear hb
    go_upto_if 110 with (first | ((show wpList _ _ _ (Oper.mk _ (Op.load 35 _) _ _ _ (some _) :: _) _ _); refine loadgB (K15) (by first | rfl | go_simp) rfl rfl ?_) | ((show wpList _ _ _ (Oper.mk _ (Op.load 35 _) _ _ _ (some _) :: _) _ _); refine loadgB (K17) (by first | rfl | go_simp) rfl rfl ?_))
    clear iNB iNP iNN q1 q2 q6
    go_cut [] from 111 to 161 (fun wc => Blk wc b4 32 PR 23 ∧ Blk wc b8 16 b 35 ∧ CAt wc g1 n h ∧ Below w.heap.size w wc)
    case first => as_aux_lemma =>
      cases hO : MO with
      | false =>
        subst hO
        go_wp2_with fail
        go_meet
        case rel => exact ⟨K4, K8, cat_of R1.out, HB.out⟩
      | true =>
        obtain ⟨c, h1, h2, h3, n3, H3, hn3, hh3, h4⟩ := HSF.out hO
        subst hO
        have iC := Lib.hid h1
        have iE := Lib.hid h2
        have iA := Lib.hid h3
        have iS := Lib.hid h4
        have hh3 := Lib.hid hh3
        clear h1 h2 h3 h4
        go_wp2_with ((with_reducible show wpList _ _ _ (Oper.mk _ (Op.load 35 _) _ _ _ _ :: _) _ _); refine loadB (K13) rfl rfl rfl ?_)
        refine (iC.out _).mono ?_
        rintro e v1 ⟨rfl, hb⟩
        replace K4 := K4.below hb K4.lt
        replace K8 := K8.below hb K8.lt
        replace K13 := K13.below hb K13.lt
        replace K15 := K15.below hb K15.lt
        replace R1 := Lib.hid (R1.out.below hb)
        replace HB : Hid (Below w.heap.size w v1) := HB.out.trans (hb.mono HB.out.size)
        clear hb
        replace K4 := K4.alloc (.cells (mk 18 c) 51)
        replace K8 := K8.alloc (.cells (mk 18 c) 51)
        replace K13 := K13.alloc (.cells (mk 18 c) 51)
        replace K15 := K15.alloc (.cells (mk 18 c) 51)
        replace R1 := Lib.hid (R1.out.below ((Below.refl _ _).alloc (Nat.le_refl _) (.cells (mk 18 c) 51)))
        have K19 := Blk.new v1 18 c 51
        replace HB : Hid (Below w.heap.size w (v1.alloc (.cells (mk 18 c) 51))) := HB.out.alloc HB.out.size _
        go_wp2_with ((with_reducible show wpList _ _ _ (Oper.mk _ (Op.load 35 _) _ _ _ _ :: _) _ _); refine loadB (K15) rfl rfl rfl ?_)
        generalize v1.alloc (.cells (mk 18 c) 51) = v1a at *
        generalize v1.heap.size = b19 at *
        refine (iE.out _).mono ?_
        rintro e v2 ⟨rfl, hb⟩
        replace K4 := K4.below hb K4.lt
        replace K8 := K8.below hb K8.lt
        replace K13 := K13.below hb K13.lt
        replace K15 := K15.below hb K15.lt
        replace K19 := K19.below hb K19.lt
        replace R1 := Lib.hid (R1.out.below hb)
        replace HB : Hid (Below w.heap.size w v2) := HB.out.trans (hb.mono HB.out.size)
        clear hb
        replace K4 := K4.alloc (.cells (mk 18 c) 51)
        replace K8 := K8.alloc (.cells (mk 18 c) 51)
        replace K13 := K13.alloc (.cells (mk 18 c) 51)
        replace K15 := K15.alloc (.cells (mk 18 c) 51)
        replace K19 := K19.alloc (.cells (mk 18 c) 51)
        replace R1 := Lib.hid (R1.out.below ((Below.refl _ _).alloc (Nat.le_refl _) (.cells (mk 18 c) 51)))
        have K21 := Blk.new v2 18 c 51
        replace HB : Hid (Below w.heap.size w (v2.alloc (.cells (mk 18 c) 51))) := HB.out.alloc HB.out.size _
        go_wp2_with ((with_reducible show wpList _ _ _ (Oper.mk _ (Op.load 35 _) _ _ _ _ :: _) _ _); refine loadB (K15) rfl rfl rfl ?_)
        generalize v2.alloc (.cells (mk 18 c) 51) = v2a at *
        generalize v2.heap.size = b21 at *
        refine (iS.out _).mono ?_
        rintro e v3 ⟨g3, c3, rfl, hr3, hb⟩
        replace K4 := K4.below hb K4.lt
        replace K8 := K8.below hb K8.lt
        replace K13 := K13.below hb K13.lt
        replace K15 := K15.below hb K15.lt
        replace K19 := K19.below hb K19.lt
        replace K21 := K21.below hb K21.lt
        replace R1 := Lib.hid (R1.out.below hb)
        replace HB : Hid (Below w.heap.size w v3) := HB.out.trans (hb.mono HB.out.size)
        clear hb
        have R3 := Lib.hid hr3
        clear hr3
        go_wp2_with ((with_reducible show wpList _ _ _ (Oper.mk _ (Op.load 35 _) _ _ _ _ :: _) _ _); refine loadB (K15) rfl rfl rfl ?_)
        refine (iA.out _).mono ?_
        rintro e v4 ⟨rfl, hb⟩
        replace K4 := K4.below hb K4.lt
        replace K8 := K8.below hb K8.lt
        replace K13 := K13.below hb K13.lt
        replace K15 := K15.below hb K15.lt
        replace K19 := K19.below hb K19.lt
        replace K21 := K21.below hb K21.lt
        replace R1 := Lib.hid (R1.out.below hb)
        replace R3 := Lib.hid (R3.out.below hb)
        replace HB : Hid (Below w.heap.size w v4) := HB.out.trans (hb.mono HB.out.size)
        clear hb
        replace K4 := K4.alloc (.cells (mk 16 MD) 35)
        replace K8 := K8.alloc (.cells (mk 16 MD) 35)
        replace K13 := K13.alloc (.cells (mk 16 MD) 35)
        replace K15 := K15.alloc (.cells (mk 16 MD) 35)
        replace K19 := K19.alloc (.cells (mk 16 MD) 35)
        replace K21 := K21.alloc (.cells (mk 16 MD) 35)
        replace R1 := Lib.hid (R1.out.below ((Below.refl _ _).alloc (Nat.le_refl _) (.cells (mk 16 MD) 35)))
        replace R3 := Lib.hid (R3.out.below ((Below.refl _ _).alloc (Nat.le_refl _) (.cells (mk 16 MD) 35)))
        have K25 := Blk.new v4 16 MD 35
        replace HB : Hid (Below w.heap.size w (v4.alloc (.cells (mk 16 MD) 35))) := HB.out.alloc HB.out.size _
        have iNB := neqB_selfS
        have iNP := neqP_self
        have iNN := neqN_selfS
        have q1 : ∀ x : Bool, (x != x) = false := by decide
        have q2 : ∀ x : Bool, (x == x) = true := by decide
        have q6 : ∀ x : Bool, decide (x = x) = true := fun x => by simp
        go_wp2_with (first | ((show wpList _ _ _ (Oper.mk _ (Op.load 51 _) _ _ _ (some _) :: _) _ _); refine loadgN (K19) (by first | rfl | go_simp) rfl rfl ?_) | ((show wpList _ _ _ (Oper.mk _ (Op.load 51 _) _ _ _ (some _) :: _) _ _); refine loadgN (K21) (by first | rfl | go_simp) rfl rfl ?_))
        generalize v4.alloc (.cells (mk 16 MD) 35) = v4a at *
        generalize v4.heap.size = b25 at *
        refine (vHas_any _ n3 H3 m _ R3.out (by omega)).mono ?_
        rintro e w' ⟨rfl, rfl⟩
        rw [hh3.out]
        go_wp2_with (first | ((show wpList _ _ _ (Oper.mk _ (Op.load 35 _) _ _ _ (some _) :: _) _ _); refine loadgB (K25) (by first | rfl | go_simp) rfl rfl ?_) | ((show wpList _ _ _ (Oper.mk _ (Op.load 35 _) _ _ _ (some _) :: _) _ _); refine loadgB (K15) (by first | rfl | go_simp) rfl rfl ?_))
        clear iNB iNP iNN q1 q2 q6
        go_meet
        case rel => exact ⟨K4, K8, cat_of R1.out, HB.out⟩
    case rest =>
      clear K4 K6 K8 K13 K15 K17 R1 R2 HB HSF
      obtain ⟨K4, K8, CM, hb0⟩ := hcut
      have HB := Lib.hid hb0
      clear hb0
      cases hV : V with
      | false =>
        subst hV
        go_wp2_with fail
        go_loopg [27] 0 (fun g s27 wr => s27 = .int .i64 0 ∧ Blk wr b4 32 PR 23 ∧ Hid (Below w.heap.size w wr))
        case atStart => exact ⟨rfl, K4, HB⟩
        case round =>
          clear K4 K8 CM HB HLF
          obtain ⟨rfl, K4, HB⟩ := hrel
          cases hPO : PO with
          | false =>
            subst hPO
            go_wp2_with fail
            go_ret
            exact ⟨rfl, HB.out⟩
          | true =>
            obtain ⟨k, hk8, e⟩ := HPF.out hPO
            subst hPO
            subst e
            clear HPF
            have HK := Lib.hid hk8
            clear hk8
            go_wp2_with fail
            have KS : Oth (wr.alloc (.cells (vk 16 (boF k 0)) 56)) wr.heap.size (vk 16 (boF k 0)) 56 := heap_alloc_new wr _
            have H30 : Hid (b4 < wr.heap.size ∧ w.heap.size ≤ wr.heap.size) := ⟨K4.lt, HB.out.size⟩
            replace K4 := K4.alloc (.cells (vk 16 (boF k 0)) 56)
            replace HB : Hid (Below w.heap.size w (wr.alloc (.cells (vk 16 (boF k 0)) 56))) := HB.out.alloc HB.out.size _
            have ev : vk 16 (boF k 0) = #[.bool false, .bool false, .bool false, .bool false, .bool false, .bool false, .bool false, .bool false, .bool false, .bool false, .bool false, .bool false, .bool false, .bool false, .bool false, .bool false] := rfl
            rw [← ev]
            clear ev
            generalize wr.alloc (.cells (vk 16 (boF k 0)) 56) = x1 at *
            generalize wr.heap.size = b30 at *
            go_loopg [31] 16 (fun g s31 wr => ∃ i : Nat, i + g = 16 ∧ s31 = .int .i64 i ∧ Blk wr b4 32 (spF k) 23 ∧ Oth wr b30 (vk 16 (boF k i)) 56 ∧ Hid (Below w.heap.size w wr))
            case atStart => exact ⟨0, by omega, rfl, K4, KS, HB⟩
            case round =>
              clear K4 KS HB
              obtain ⟨i, hig, rfl, K4, KS, HB⟩ := hrel
              cases gk with
              | zero =>
                have hd : ¬ ((i : Int) < 16) := by omega
                clear hig
                go_wp2_with fail
                go_ret
                exact ⟨rfl, HB.out⟩
              | succ g =>
                have hd : (i : Int) < 16 := by omega
                have hi0 : (0 : Int) ≤ (i : Int) := by omega
                have hpl := plP_lt HK.out (show i < 16 by omega)
                obtain ⟨R, hR⟩ : ∃ R, R = plP k i / 4 := ⟨_, rfl⟩
                obtain ⟨C, hC⟩ : ∃ C, C = plP k i % 4 := ⟨_, rfl⟩
                have HRC : Hid (R * 4 + C = plP k i) := by show _ = _; omega
                have hR4 : (R : Int) < 4 := by omega
                have hC4 : (C : Int) < 4 := by omega
                have hR3 : ¬ (3 : Int) < (R : Int) := by omega
                have hC3 : ¬ (3 : Int) < (C : Int) := by omega
                have hRn : ¬ (R : Int) < 0 := by omega
                have hCn : ¬ (C : Int) < 0 := by omega
                have hR0 : (0 : Int) ≤ (R : Int) := by omega
                have hC0 : (0 : Int) ≤ (C : Int) := by omega
                have Q0 : wr.drew.cell? ⟨b4, i * 2, none⟩ = some (.int .i64 (R : Int)) := by rw [hR, ← sp_row]; exact K4.drew.cell (by omega)
                have Q1 : wr.drew.cell? ⟨b4, i * 2 + 1, none⟩ = some (.int .i64 (C : Int)) := by rw [hC, ← sp_col]; exact K4.drew.cell (by omega)
                have Q2 : wr.drew.cell? ⟨b30, R * 4 + C, none⟩ = some (.bool false) := by
                  have h1 := Oth.cell (w := wr.drew) KS (R * 4 + C)
                  rw [vk_get _ (by omega)] at h1
                  rw [h1]
                  unfold boF
                  rw [HRC.out, se_new HK.out i i (Nat.le_refl _) (by omega)]
                have F2 : wr.drew.frozen? ⟨b30, R * 4 + C, none⟩ = false := bo_free (w := wr.drew) KS (R * 4 + C)
                have KS2 := bo_set (w := wr.drew) KS HRC.out (by omega)
                have K42 := K4.drew.setOther ⟨b30, R * 4 + C, none⟩ (.bool true) (by have := H30.out.1; dsimp only; omega)
                have HB2 : Hid (Below w.heap.size w (wr.drew.setCell ⟨b30, R * 4 + C, none⟩ (.bool true))) := HB.out.drew.setCell (p := ⟨b30, R * 4 + C, none⟩) (by have := H30.out.2; dsimp only; omega) (.bool true)
                clear KS K4 HB hpl
                by_cases hi1 : i = 0
                · subst hi1
                  clear hR hC
                  go_wp2_with fail
                  go_region
                  all_goals
                    clear Q0 Q1
                    go_wp2_with fail
                    go_roundg g
                    case rel => exact ⟨1, by omega, by go_num, K42, KS2, HB2⟩
                    case measure => omega
                · obtain ⟨j, rfl⟩ : ∃ j, i = j + 1 := ⟨i - 1, by omega⟩
                  have hip : (0 : Int) < ((j + 1 : Nat) : Int) := by omega
                  have hbs := pl_beside HK.out (show j < 15 by omega)
                  rw [← hR, ← hC] at hbs
                  obtain ⟨R1, hR1⟩ : ∃ R1, R1 = plP k j / 4 := ⟨_, rfl⟩
                  obtain ⟨C1, hC1⟩ : ∃ C1, C1 = plP k j % 4 := ⟨_, rfl⟩
                  have hpl := plP_lt HK.out (show j < 16 by omega)
                  rw [← hR1, ← hC1] at hbs
                  have e1 : IntKind.i64.wrap (((j + 1 : Nat) : Int) - 1) = (j : Int) := by rw [show ((j + 1 : Nat) : Int) - 1 = (j : Int) by omega]; exact IntWalk.i64_in _ (by omega)
                  have hj16 : (j : Int) < 16 := by omega
                  have hj0 : (0 : Int) ≤ (j : Int) := by omega
                  obtain ⟨D, hD⟩ : ∃ D : Int, D = (R : Int) - (R1 : Int) := ⟨_, rfl⟩
                  obtain ⟨E, hE⟩ : ∃ E : Int, E = (C : Int) - (C1 : Int) := ⟨_, rfl⟩
                  have e2 : IntKind.i64.wrap ((R : Int) - (R1 : Int)) = D := by rw [hD]; exact IntWalk.i64_in _ (by omega)
                  have e3 : IntKind.i64.wrap ((C : Int) - (C1 : Int)) = E := by rw [hE]; exact IntWalk.i64_in _ (by omega)
                  rw [← hD, ← hE] at hbs
                  have hD2 : 0 ≤ D * D := by rcases Int.le_total 0 D with q | q; exact Int.mul_nonneg q q; exact Int.mul_nonneg_of_nonpos_of_nonpos q q
                  have hE2 : 0 ≤ E * E := by rcases Int.le_total 0 E with q | q; exact Int.mul_nonneg q q; exact Int.mul_nonneg_of_nonpos_of_nonpos q q
                  obtain ⟨X, hX⟩ : ∃ X, X = D * D := ⟨_, rfl⟩
                  obtain ⟨Y, hY⟩ : ∃ Y, Y = E * E := ⟨_, rfl⟩
                  rw [← hX] at hD2 hbs
                  rw [← hY] at hE2 hbs
                  have e4 : IntKind.i64.wrap (D * D) = X := by rw [← hX]; exact IntWalk.i64_in _ (by omega)
                  have e5 : IntKind.i64.wrap (E * E) = Y := by rw [← hY]; exact IntWalk.i64_in _ (by omega)
                  have e6 : IntKind.i64.wrap (X + Y) = 1 := by rw [hbs]; rfl
                  have e1b : IntKind.i64.wrap (j : Int) = (j : Int) := IntWalk.i64_in _ (by omega)
                  have K43 : Blk (wr.setCell ⟨b30, R * 4 + C, none⟩ (.bool true)).drew.drew b4 32 (spF k) 23 := K42
                  have Q3 : (wr.setCell ⟨b30, R * 4 + C, none⟩ (.bool true)).drew.drew.cell? ⟨b4, j * 2, none⟩ = some (.int .i64 (R1 : Int)) := by rw [hR1, ← sp_row]; exact K43.cell (by omega)
                  have Q4 : (wr.setCell ⟨b30, R * 4 + C, none⟩ (.bool true)).drew.drew.cell? ⟨b4, j * 2 + 1, none⟩ = some (.int .i64 (C1 : Int)) := by rw [hC1, ← sp_col]; exact K43.cell (by omega)
                  have KS3 : Oth (wr.setCell ⟨b30, R * 4 + C, none⟩ (.bool true)).drew.drew b30 (vk 16 (boF k (j + 1 + 1))) 56 := KS2
                  have HB3 : Hid (Below w.heap.size w (wr.setCell ⟨b30, R * 4 + C, none⟩ (.bool true)).drew.drew) := HB2.out.drew
                  clear hR hC hR1 hC1 hpl hD hE hX hY hD2 hE2 hbs hi1
                  go_wp2_with fail
                  go_region
                  all_goals
                    clear Q0 Q1
                    go_wp2_with fail
                    go_region
                    all_goals
                      clear Q3 Q4
                      go_wp2_with fail
                      go_roundg g
                      case rel => exact ⟨j + 1 + 1, by omega, by go_num, K43, KS3, HB3⟩
                      case measure => omega
      | true =>
        have HLG := Lib.hid (HLF.out hV)
        subst hV
        clear HLF
        go_wp2_with fail
        go_loopg [27] n (fun g s27 wr => ∃ i : Nat, i + g = n ∧ s27 = .int .i64 i ∧ Blk wr b4 32 PR 23 ∧ Blk wr b8 16 b 35 ∧ CAt wr g1 n h ∧ Hid (Below w.heap.size w wr))
        case atStart => exact ⟨0, by omega, rfl, K4, K8, CM, HB⟩
        case round =>
          clear K4 K8 CM HB
          obtain ⟨i, hig, rfl, K4, K8, CM, HB⟩ := hrel
          cases gk with
          | zero =>
            have hd : ¬ ((i : Int) < (n : Int)) := by omega
            clear hig
            cases hPO : PO with
            | false =>
              subst hPO
              go_wp2_with fail
              go_ret
              exact ⟨rfl, HB.out⟩
            | true =>
              obtain ⟨k, hk8, e⟩ := HPF.out hPO
              subst hPO
              subst e
              clear HPF
              have HK := Lib.hid hk8
              clear hk8
              go_wp2_with fail
              have KS : Oth (wr.alloc (.cells (vk 16 (boF k 0)) 56)) wr.heap.size (vk 16 (boF k 0)) 56 := heap_alloc_new wr _
              have H30 : Hid (b4 < wr.heap.size ∧ w.heap.size ≤ wr.heap.size) := ⟨K4.lt, HB.out.size⟩
              replace K4 := K4.alloc (.cells (vk 16 (boF k 0)) 56)
              replace HB : Hid (Below w.heap.size w (wr.alloc (.cells (vk 16 (boF k 0)) 56))) := HB.out.alloc HB.out.size _
              have ev : vk 16 (boF k 0) = #[.bool false, .bool false, .bool false, .bool false, .bool false, .bool false, .bool false, .bool false, .bool false, .bool false, .bool false, .bool false, .bool false, .bool false, .bool false, .bool false] := rfl
              rw [← ev]
              clear ev
              generalize wr.alloc (.cells (vk 16 (boF k 0)) 56) = x1 at *
              generalize wr.heap.size = b30 at *
              go_loopg [31] 16 (fun g s31 wr => ∃ i : Nat, i + g = 16 ∧ s31 = .int .i64 i ∧ Blk wr b4 32 (spF k) 23 ∧ Oth wr b30 (vk 16 (boF k i)) 56 ∧ Hid (Below w.heap.size w wr))
              case atStart => exact ⟨0, by omega, rfl, K4, KS, HB⟩
              case round =>
                clear K4 KS HB
                obtain ⟨i, hig, rfl, K4, KS, HB⟩ := hrel
                cases gk with
                | zero =>
                  have hd : ¬ ((i : Int) < 16) := by omega
                  clear hig
                  go_wp2_with fail
                  go_ret
                  exact ⟨rfl, HB.out⟩
                | succ g =>
                  have hd : (i : Int) < 16 := by omega
                  have hi0 : (0 : Int) ≤ (i : Int) := by omega
                  have hpl := plP_lt HK.out (show i < 16 by omega)
                  obtain ⟨R, hR⟩ : ∃ R, R = plP k i / 4 := ⟨_, rfl⟩
                  obtain ⟨C, hC⟩ : ∃ C, C = plP k i % 4 := ⟨_, rfl⟩
                  have HRC : Hid (R * 4 + C = plP k i) := by show _ = _; omega
                  have hR4 : (R : Int) < 4 := by omega
                  have hC4 : (C : Int) < 4 := by omega
                  have hR3 : ¬ (3 : Int) < (R : Int) := by omega
                  have hC3 : ¬ (3 : Int) < (C : Int) := by omega
                  have hRn : ¬ (R : Int) < 0 := by omega
                  have hCn : ¬ (C : Int) < 0 := by omega
                  have hR0 : (0 : Int) ≤ (R : Int) := by omega
                  have hC0 : (0 : Int) ≤ (C : Int) := by omega
                  have Q0 : wr.drew.cell? ⟨b4, i * 2, none⟩ = some (.int .i64 (R : Int)) := by rw [hR, ← sp_row]; exact K4.drew.cell (by omega)
                  have Q1 : wr.drew.cell? ⟨b4, i * 2 + 1, none⟩ = some (.int .i64 (C : Int)) := by rw [hC, ← sp_col]; exact K4.drew.cell (by omega)
                  have Q2 : wr.drew.cell? ⟨b30, R * 4 + C, none⟩ = some (.bool false) := by
                    have h1 := Oth.cell (w := wr.drew) KS (R * 4 + C)
                    rw [vk_get _ (by omega)] at h1
                    rw [h1]
                    unfold boF
                    rw [HRC.out, se_new HK.out i i (Nat.le_refl _) (by omega)]
                  have F2 : wr.drew.frozen? ⟨b30, R * 4 + C, none⟩ = false := bo_free (w := wr.drew) KS (R * 4 + C)
                  have KS2 := bo_set (w := wr.drew) KS HRC.out (by omega)
                  have K42 := K4.drew.setOther ⟨b30, R * 4 + C, none⟩ (.bool true) (by have := H30.out.1; dsimp only; omega)
                  have HB2 : Hid (Below w.heap.size w (wr.drew.setCell ⟨b30, R * 4 + C, none⟩ (.bool true))) := HB.out.drew.setCell (p := ⟨b30, R * 4 + C, none⟩) (by have := H30.out.2; dsimp only; omega) (.bool true)
                  clear KS K4 HB hpl
                  by_cases hi1 : i = 0
                  · subst hi1
                    clear hR hC
                    go_wp2_with fail
                    go_region
                    all_goals
                      clear Q0 Q1
                      go_wp2_with fail
                      go_roundg g
                      case rel => exact ⟨1, by omega, by go_num, K42, KS2, HB2⟩
                      case measure => omega
                  · obtain ⟨j, rfl⟩ : ∃ j, i = j + 1 := ⟨i - 1, by omega⟩
                    have hip : (0 : Int) < ((j + 1 : Nat) : Int) := by omega
                    have hbs := pl_beside HK.out (show j < 15 by omega)
                    rw [← hR, ← hC] at hbs
                    obtain ⟨R1, hR1⟩ : ∃ R1, R1 = plP k j / 4 := ⟨_, rfl⟩
                    obtain ⟨C1, hC1⟩ : ∃ C1, C1 = plP k j % 4 := ⟨_, rfl⟩
                    have hpl := plP_lt HK.out (show j < 16 by omega)
                    rw [← hR1, ← hC1] at hbs
                    have e1 : IntKind.i64.wrap (((j + 1 : Nat) : Int) - 1) = (j : Int) := by rw [show ((j + 1 : Nat) : Int) - 1 = (j : Int) by omega]; exact IntWalk.i64_in _ (by omega)
                    have hj16 : (j : Int) < 16 := by omega
                    have hj0 : (0 : Int) ≤ (j : Int) := by omega
                    obtain ⟨D, hD⟩ : ∃ D : Int, D = (R : Int) - (R1 : Int) := ⟨_, rfl⟩
                    obtain ⟨E, hE⟩ : ∃ E : Int, E = (C : Int) - (C1 : Int) := ⟨_, rfl⟩
                    have e2 : IntKind.i64.wrap ((R : Int) - (R1 : Int)) = D := by rw [hD]; exact IntWalk.i64_in _ (by omega)
                    have e3 : IntKind.i64.wrap ((C : Int) - (C1 : Int)) = E := by rw [hE]; exact IntWalk.i64_in _ (by omega)
                    rw [← hD, ← hE] at hbs
                    have hD2 : 0 ≤ D * D := by rcases Int.le_total 0 D with q | q; exact Int.mul_nonneg q q; exact Int.mul_nonneg_of_nonpos_of_nonpos q q
                    have hE2 : 0 ≤ E * E := by rcases Int.le_total 0 E with q | q; exact Int.mul_nonneg q q; exact Int.mul_nonneg_of_nonpos_of_nonpos q q
                    obtain ⟨X, hX⟩ : ∃ X, X = D * D := ⟨_, rfl⟩
                    obtain ⟨Y, hY⟩ : ∃ Y, Y = E * E := ⟨_, rfl⟩
                    rw [← hX] at hD2 hbs
                    rw [← hY] at hE2 hbs
                    have e4 : IntKind.i64.wrap (D * D) = X := by rw [← hX]; exact IntWalk.i64_in _ (by omega)
                    have e5 : IntKind.i64.wrap (E * E) = Y := by rw [← hY]; exact IntWalk.i64_in _ (by omega)
                    have e6 : IntKind.i64.wrap (X + Y) = 1 := by rw [hbs]; rfl
                    have e1b : IntKind.i64.wrap (j : Int) = (j : Int) := IntWalk.i64_in _ (by omega)
                    have K43 : Blk (wr.setCell ⟨b30, R * 4 + C, none⟩ (.bool true)).drew.drew b4 32 (spF k) 23 := K42
                    have Q3 : (wr.setCell ⟨b30, R * 4 + C, none⟩ (.bool true)).drew.drew.cell? ⟨b4, j * 2, none⟩ = some (.int .i64 (R1 : Int)) := by rw [hR1, ← sp_row]; exact K43.cell (by omega)
                    have Q4 : (wr.setCell ⟨b30, R * 4 + C, none⟩ (.bool true)).drew.drew.cell? ⟨b4, j * 2 + 1, none⟩ = some (.int .i64 (C1 : Int)) := by rw [hC1, ← sp_col]; exact K43.cell (by omega)
                    have KS3 : Oth (wr.setCell ⟨b30, R * 4 + C, none⟩ (.bool true)).drew.drew b30 (vk 16 (boF k (j + 1 + 1))) 56 := KS2
                    have HB3 : Hid (Below w.heap.size w (wr.setCell ⟨b30, R * 4 + C, none⟩ (.bool true)).drew.drew) := HB2.out.drew
                    clear hR hC hR1 hC1 hpl hD hE hX hY hD2 hE2 hbs hi1
                    go_wp2_with fail
                    go_region
                    all_goals
                      clear Q0 Q1
                      go_wp2_with fail
                      go_region
                      all_goals
                        clear Q3 Q4
                        go_wp2_with fail
                        go_roundg g
                        case rel => exact ⟨j + 1 + 1, by omega, by go_num, K43, KS3, HB3⟩
                        case measure => omega
          | succ gi =>
            have hd : (i : Int) < (n : Int) := by omega
            have hi0 : (0 : Int) ≤ (i : Int) := by omega
            have HSB := Lib.hid (HLG.out i (by omega))
            go_wp2_with fail
            refine wp_region_held_drew (S := fun W => Blk W b8 16 b 35 ∧ CAt W g1 n h) (by kernel_rfl) (⟨K8.drew, CM.drew⟩) (fun hHeld => ?_)
            have K4 := K4.drew
            have K8 : Blk wr.drew b8 16 b 35 := K8.drew
            have CM : CAt wr.drew g1 n h := CM.drew
            have HB : Hid (Below w.heap.size w wr.drew) := HB.out.drew
            generalize wr.drew = x0 at *
            refine wpAnyH_take (i := 0) (oi := { dst := some 172, op := _, type := _, pos := _, after := _, guard := _ }) (v := .agg (mk 16 b)) rfl (by kernel_rfl) (by kernel_rfl) (by kernel_rfl) (fun _ _ _ h => h) (Or.inl ⟨by rfl, fun _ q => execB q.1 rfl rfl⟩) (by assumption) ?_
            try simp only [Act.put, List.setIfInBounds_toArray, List.set_cons_zero, List.set_cons_succ]
            refine wpAnyH_take (i := 1) (oi := { dst := some 173, op := _, type := _, pos := _, after := _, guard := _ }) (v := .slice (some ⟨g1, 0, none⟩) n c1) rfl (by kernel_rfl) (by kernel_rfl) (by kernel_rfl) (fun _ _ _ h => h) (Or.inl ⟨by rfl, by intro w hSw; clear hSw; go_simp; (try with_reducible rfl)⟩) (by assumption) ?_
            try simp only [Act.put, List.setIfInBounds_toArray, List.set_cons_zero, List.set_cons_succ]
            refine wpAnyH_take (i := 2) (oi := { dst := some 174, op := _, type := _, pos := _, after := _, guard := _ }) (v := .int .i64 (i : Int)) rfl (by kernel_rfl) (by kernel_rfl) (by kernel_rfl) (fun _ _ _ h => h) (Or.inl ⟨by rfl, by intro w hSw; clear hSw; go_simp; (try with_reducible rfl)⟩) (by assumption) ?_
            try simp only [Act.put, List.setIfInBounds_toArray, List.set_cons_zero, List.set_cons_succ]
            refine wpAnyH_take (i := 3) (oi := { dst := some 175, op := _, type := _, pos := _, after := _, guard := _ }) (v := .pointer (some ⟨g1, i, none⟩)) rfl (by kernel_rfl) (by kernel_rfl) (by kernel_rfl) (fun _ _ _ h => h) (Or.inl ⟨by rfl, by intro w hSw; clear hSw; go_simp; (try with_reducible rfl)⟩) (by assumption) ?_
            try simp only [Act.put, List.setIfInBounds_toArray, List.set_cons_zero, List.set_cons_succ]
            refine wpAnyH_take (i := 4) (oi := { dst := some 176, op := _, type := _, pos := _, after := _, guard := _ }) (v := .int .i64 (h i)) rfl (by kernel_rfl) (by kernel_rfl) (by kernel_rfl) (fun _ _ _ h => h) (Or.inl ⟨by rfl, by intro W hSw; have c1 := hSw.2.2 i (by omega); clear hSw; go_simp⟩) (by assumption) ?_
            try simp only [Act.put, List.setIfInBounds_toArray, List.set_cons_zero, List.set_cons_succ]
            refine wpAnyH_ready (rs := [5, 9]) (by kernel_rfl) (by simp) ?_
            refine AllReadyH.cons rfl (fun K hK => ?_) ?_
            · go_simp
              refine (HSB.out _).mono ?_
              rintro e x1 ⟨rfl, hb⟩
              have K4 := K4.below hb K4.lt
              have K8 := K8.below hb K8.lt
              have CM := CM.below hb
              have HB : Hid (Below w.heap.size w x1) := HB.out.trans (hb.mono HB.out.size)
              clear hb
              clear hHeld
              go_wp2_with fail
              refine hK.out _ _ ⟨K8, CM⟩ (fun hHeld => ?_)
              clear hK K
              try simp only [Act.put, List.setIfInBounds_toArray, List.set_cons_zero, List.set_cons_succ]
              refine wpAnyH_take (i := 6) (oi := { dst := some 171, op := _, type := _, pos := _, after := _, guard := _ }) (v := .tuple #[.agg (mk 16 b), .bool true]) rfl (by kernel_rfl) (by kernel_rfl) (by kernel_rfl) (fun _ _ _ h => h) (Or.inl ⟨by rfl, by intro w hSw; clear hSw; go_simp; (try with_reducible rfl)⟩) (by assumption) ?_
              try simp only [Act.put, List.setIfInBounds_toArray, List.set_cons_zero, List.set_cons_succ]
              refine wpAnyH_take (i := 7) (oi := { dst := some 178, op := _, type := _, pos := _, after := _, guard := _ }) (v := .agg (mk 16 b)) rfl (by kernel_rfl) (by kernel_rfl) (by kernel_rfl) (fun _ _ _ h => h) (Or.inl ⟨by rfl, by intro w hSw; clear hSw; go_simp; (try with_reducible rfl)⟩) (by assumption) ?_
              try simp only [Act.put, List.setIfInBounds_toArray, List.set_cons_zero, List.set_cons_succ]
              refine wpAnyH_take (i := 8) (oi := { dst := some 179, op := _, type := _, pos := _, after := _, guard := _ }) (v := .bool true) rfl (by kernel_rfl) (by kernel_rfl) (by kernel_rfl) (fun _ _ _ h => h) (Or.inl ⟨by rfl, by intro w hSw; clear hSw; go_simp; (try with_reducible rfl)⟩) (by assumption) ?_
              try simp only [Act.put, List.setIfInBounds_toArray, List.set_cons_zero, List.set_cons_succ]
              refine wpAnyH_ready (rs := [9]) (by kernel_rfl) (by simp) ?_
              refine AllReadyH.cons rfl (fun K hK => ?_) AllReadyH.nil
              rw [if_pos (by rfl)]
              refine wp_allocS rfl ?_
              have K28 := Blk.new x1 16 (fun _ => 0) 35
              have H28 : Hid (b4 < x1.heap.size ∧ b8 < x1.heap.size ∧ g1 < x1.heap.size ∧ w.heap.size ≤ x1.heap.size) := ⟨K4.lt, K8.lt, CM.1, HB.out.size⟩
              have K4 := K4.alloc (.cells (mk 16 fun _ => 0) 35)
              have K8 := K8.alloc (.cells (mk 16 fun _ => 0) 35)
              have CM := CM.alloc (.cells (mk 16 fun _ => 0) 35)
              have HB : Hid (Below w.heap.size w (x1.alloc (.cells (mk 16 fun _ => 0) 35))) := HB.out.alloc HB.out.size _
              generalize x1.alloc (.cells (mk 16 fun _ => 0) 35) = x2 at *
              generalize x1.heap.size = b28 at *
              clear hHeld
              refine hK.out _ _ ⟨K8, CM⟩ (fun hHeld => ?_)
              clear hK K
              try simp only [Act.put, List.setIfInBounds_toArray, List.set_cons_zero, List.set_cons_succ]
              refine wpAnyH_ready (rs := [10]) (by kernel_rfl) (by simp) ?_
              refine AllReadyH.cons rfl (fun K hK => ?_) AllReadyH.nil
              have st1 := run_store_blk (P := Try.prog) (g := b) K28
              have ms1 : (mk 16 b).size = 16 := mk_size 16 _
              go_simp
              clear st1 ms1
              have hgr : x2.grownBy (x2.setRow b28 (mk 16 b)) (some b28) := grown_rowS K28 _
              have K4 := K4.rowOther b28 (mk 16 b) (by have := H28.out; omega)
              have K8 := K8.rowOther b28 (mk 16 b) (by have := H28.out; omega)
              have CM := cat_grown CM hgr (fun e => by cases e; exact absurd H28.out.2.2.1 (Nat.lt_irrefl _))
              have HB : Hid (Below w.heap.size w (x2.setRow b28 (mk 16 b))) := below_setRow HB.out H28.out.2.2.2 _
              have K28 := K28.row 16 b
              clear hgr
              generalize x2.setRow b28 (mk 16 b) = y9 at *
              clear hHeld
              refine hK.out _ _ ⟨K8, CM⟩ (fun hHeld => ?_)
              clear hK K
              try simp only [Act.put, List.setIfInBounds_toArray, List.set_cons_zero, List.set_cons_succ]
              refine wpAnyH_take (i := 11) (oi := { dst := some 29, op := _, type := _, pos := _, after := _, guard := _ }) (v := .bool true) rfl (by kernel_rfl) (by kernel_rfl) (by kernel_rfl) (fun _ _ _ h => h) (Or.inl ⟨by rfl, by intro w hSw; clear hSw; go_simp; (try with_reducible rfl)⟩) (by assumption) ?_
              try simp only [Act.put, List.setIfInBounds_toArray, List.set_cons_zero, List.set_cons_succ]
              refine wpAnyH_done (by kernel_rfl) ?_ _
              clear hHeld
              have iNB := neqB_selfS
              have iNP := neqP_self
              have iNN := neqN_selfS
              have q1 : ∀ x : Bool, (x != x) = false := by decide
              have q2 : ∀ x : Bool, (x == x) = true := by decide
              have q6 : ∀ x : Bool, decide (x = x) = true := fun x => by simp
              go_wp2_with (first | ((show wpList _ _ _ (Oper.mk _ (Op.load 35 _) _ _ _ (some _) :: _) _ _); refine loadgB (K28) (by first | rfl | go_simp) rfl rfl ?_) | ((show wpList _ _ _ (Oper.mk _ (Op.load 35 _) _ _ _ (some _) :: _) _ _); refine loadgB (K8) (by first | rfl | go_simp) rfl rfl ?_))
              clear iNB iNP iNN q1 q2 q6
              go_roundg gi
              case rel => exact ⟨i + 1, by omega, by go_num, K4, K8, CM, HB⟩
              case measure => omega
            refine AllReadyH.cons rfl (fun K hK => ?_) AllReadyH.nil
            rw [if_pos (by rfl)]
            refine wp_allocS rfl ?_
            have K28 := Blk.new x0 16 (fun _ => 0) 35
            have H28 : Hid (b4 < x0.heap.size ∧ b8 < x0.heap.size ∧ g1 < x0.heap.size ∧ w.heap.size ≤ x0.heap.size) := ⟨K4.lt, K8.lt, CM.1, HB.out.size⟩
            have K4 := K4.alloc (.cells (mk 16 fun _ => 0) 35)
            have K8 := K8.alloc (.cells (mk 16 fun _ => 0) 35)
            have CM := CM.alloc (.cells (mk 16 fun _ => 0) 35)
            have HB : Hid (Below w.heap.size w (x0.alloc (.cells (mk 16 fun _ => 0) 35))) := HB.out.alloc HB.out.size _
            generalize x0.alloc (.cells (mk 16 fun _ => 0) 35) = x1 at *
            generalize x0.heap.size = b28 at *
            clear hHeld
            refine hK.out _ _ ⟨K8, CM⟩ (fun hHeld => ?_)
            clear hK K
            try simp only [Act.put, List.setIfInBounds_toArray, List.set_cons_zero, List.set_cons_succ]
            refine wpAnyH_ready (rs := [5]) (by kernel_rfl) (by simp) ?_
            refine AllReadyH.cons rfl (fun K hK => ?_) AllReadyH.nil
            go_simp
            refine (HSB.out _).mono ?_
            rintro e x2 ⟨rfl, hb⟩
            have K4 := K4.below hb K4.lt
            have K8 := K8.below hb K8.lt
            have K28 := K28.below hb K28.lt
            have CM := CM.below hb
            have HB : Hid (Below w.heap.size w x2) := HB.out.trans (hb.mono HB.out.size)
            clear hb
            clear hHeld
            go_wp2_with fail
            refine hK.out _ _ ⟨K8, CM⟩ (fun hHeld => ?_)
            clear hK K
            try simp only [Act.put, List.setIfInBounds_toArray, List.set_cons_zero, List.set_cons_succ]
            refine wpAnyH_take (i := 6) (oi := { dst := some 171, op := _, type := _, pos := _, after := _, guard := _ }) (v := .tuple #[.agg (mk 16 b), .bool true]) rfl (by kernel_rfl) (by kernel_rfl) (by kernel_rfl) (fun _ _ _ h => h) (Or.inl ⟨by rfl, by intro w hSw; clear hSw; go_simp; (try with_reducible rfl)⟩) (by assumption) ?_
            try simp only [Act.put, List.setIfInBounds_toArray, List.set_cons_zero, List.set_cons_succ]
            refine wpAnyH_take (i := 7) (oi := { dst := some 178, op := _, type := _, pos := _, after := _, guard := _ }) (v := .agg (mk 16 b)) rfl (by kernel_rfl) (by kernel_rfl) (by kernel_rfl) (fun _ _ _ h => h) (Or.inl ⟨by rfl, by intro w hSw; clear hSw; go_simp; (try with_reducible rfl)⟩) (by assumption) ?_
            try simp only [Act.put, List.setIfInBounds_toArray, List.set_cons_zero, List.set_cons_succ]
            refine wpAnyH_take (i := 8) (oi := { dst := some 179, op := _, type := _, pos := _, after := _, guard := _ }) (v := .bool true) rfl (by kernel_rfl) (by kernel_rfl) (by kernel_rfl) (fun _ _ _ h => h) (Or.inl ⟨by rfl, by intro w hSw; clear hSw; go_simp; (try with_reducible rfl)⟩) (by assumption) ?_
            try simp only [Act.put, List.setIfInBounds_toArray, List.set_cons_zero, List.set_cons_succ]
            refine wpAnyH_ready (rs := [10]) (by kernel_rfl) (by simp) ?_
            refine AllReadyH.cons rfl (fun K hK => ?_) AllReadyH.nil
            have st1 := run_store_blk (P := Try.prog) (g := b) K28
            have ms1 : (mk 16 b).size = 16 := mk_size 16 _
            go_simp
            clear st1 ms1
            have hgr : x2.grownBy (x2.setRow b28 (mk 16 b)) (some b28) := grown_rowS K28 _
            have K4 := K4.rowOther b28 (mk 16 b) (by have := H28.out; omega)
            have K8 := K8.rowOther b28 (mk 16 b) (by have := H28.out; omega)
            have CM := cat_grown CM hgr (fun e => by cases e; exact absurd H28.out.2.2.1 (Nat.lt_irrefl _))
            have HB : Hid (Below w.heap.size w (x2.setRow b28 (mk 16 b))) := below_setRow HB.out H28.out.2.2.2 _
            have K28 := K28.row 16 b
            clear hgr
            generalize x2.setRow b28 (mk 16 b) = y9 at *
            clear hHeld
            refine hK.out _ _ ⟨K8, CM⟩ (fun hHeld => ?_)
            clear hK K
            try simp only [Act.put, List.setIfInBounds_toArray, List.set_cons_zero, List.set_cons_succ]
            refine wpAnyH_take (i := 11) (oi := { dst := some 29, op := _, type := _, pos := _, after := _, guard := _ }) (v := .bool true) rfl (by kernel_rfl) (by kernel_rfl) (by kernel_rfl) (fun _ _ _ h => h) (Or.inl ⟨by rfl, by intro w hSw; clear hSw; go_simp; (try with_reducible rfl)⟩) (by assumption) ?_
            try simp only [Act.put, List.setIfInBounds_toArray, List.set_cons_zero, List.set_cons_succ]
            refine wpAnyH_done (by kernel_rfl) ?_ _
            clear hHeld
            have iNB := neqB_selfS
            have iNP := neqP_self
            have iNN := neqN_selfS
            have q1 : ∀ x : Bool, (x != x) = false := by decide
            have q2 : ∀ x : Bool, (x == x) = true := by decide
            have q6 : ∀ x : Bool, decide (x = x) = true := fun x => by simp
            go_wp2_with (first | ((show wpList _ _ _ (Oper.mk _ (Op.load 35 _) _ _ _ (some _) :: _) _ _); refine loadgB (K28) (by first | rfl | go_simp) rfl rfl ?_) | ((show wpList _ _ _ (Oper.mk _ (Op.load 35 _) _ _ _ (some _) :: _) _ _); refine loadgB (K8) (by first | rfl | go_simp) rfl rfl ?_))
            clear iNB iNP iNN q1 q2 q6
            go_roundg gi
            case rel => exact ⟨i + 1, by omega, by go_num, K4, K8, CM, HB⟩
            case measure => omega
  · have dl : decide ((65536 : Int) < (len0 : Int)) = true := by simp; omega
    go_enter Try.func6, Try.ntmps6
    go_wp2_with fail
    refine (vBig_any _ _ _ _).mono ?_
    rintro e w' ⟨rfl, rfl⟩
    rw [dl]
    go_wp2_with fail
    go_ret
    exact ⟨rfl, Below.refl _ _⟩

noncomputable def laidWorld (os : Os) : World := World.holding Try.prog os ⟨#[], #[], []⟩
theorem laid_met (os : Os) : laidMet Try.prog Rows.fnSnakesRow.laid ((laidWorld os).forCall (fun _ _ => 0) ⟨#[], #[.slice none 0 0], []⟩).memory := laidMet_of_run' 8 (by kernel_rfl) (by kernel_rfl)
theorem reads (os : Os) {H : Type} (enc : TypeId × Value → H) : ∃ places, DataW.whole enc Try.prog ((laidWorld os).forCall (fun _ _ => 0) ⟨#[], #[.slice none 0 0], []⟩).memory Try.f6.params.toList Rows.fnSnakesSpec.vars false #[.slice none 0 0].toList 8 = some ([.nil], [], places) :=
  ⟨[], by kernel_rfl⟩
set_option linter.unusedVariables false in
set_option maxRecDepth 100000 in
theorem lifted (os : Os) (started : os.Started) (H : Type) (enc : TypeId × Value → H) (F : Stop.Interp) :
    ReturnsInHanded {} Try.checked os 6 .any ((OpenSpec.ofChange Rows.fnSnakesSpec).preRow enc Try.prog Try.f6 Rows.fnSnakesRow.domain false Rows.fnSnakesRow.laid) (((OpenSpec.ofChange Rows.fnSnakesSpec).at F).post enc Try.prog Try.f6 false true false false) := by
  obtain ⟨places, hx⟩ := reads os enc
  refine returnsInHanded_of_row (C := Try.checked) (s := (OpenSpec.ofChange Rows.fnSnakesSpec)) own started (by kernel_rfl) Try.func6
    (witness_row_at (enc := enc) (C := Try.checked) false (laidWorld os) #[.slice none 0 0] rfl (by kernel_rfl) (by kernel_rfl) (by kernel_rfl)
      (OpenSpec.preRow_of_cond 8 hx (by kernel_rfl) (fun k hk => by cases hk) (by kernel_rfl) (laid_met os))) ?_
  intro W base args ds gs before hval0 hW _ hcond hsz hL hsh _
  have hval : ∀ (j : Nat) t v, Try.f6.params[j]? = some t → args[j]? = some v → Value.okWide Try.prog W .any base t v := hval0
  have hW' := hW
  obtain ⟨p, q, hA0, hV, rfl, hfz, hnd⟩ := hW
  have hA : DataW.TrodAll enc Try.prog W 0 (fun _ => true) true Try.f6.params.toList args.toList ds p := hA0
  rw [Try.params6] at hA hval
  obtain ⟨v0, vs0, d0, ds0, p0, q0, hargs, rfl, rfl, h0, r0⟩ := trodAll_cons hA
  obtain ⟨rfl, rfl, rfl⟩ := trodAll_nil r0
  obtain rfl : args = #[v0] := by cases args; simp_all
  obtain ⟨rfl, rfl⟩ := trodVars_none hV
  obtain ⟨a0, len0, cap0, rfl⟩ := okWide_slice Try.underlying44 (hval 0 44 v0 rfl rfl)
  have k0 := h0
  have lt0 : ∀ x ∈ p0, x.block < W.heap.size := by obtain ⟨m, hm⟩ := k0; exact DataW.trod_lt m _ _ _ hm
  obtain ⟨z0, w0⟩ : ∃ zs, IsRow .u8 W a0 len0 cap0 zs := by
    obtain ⟨fuel, hf⟩ := h0
    rcases open_ints Try.underlying44 Try.underlying5 (by kernel_rfl) hf with ⟨hcs, _⟩ | ⟨x, l, c, zs, hcs, _, hl, hm, hz, _, hcell, hwz⟩
    · simp [Value.cells] at hcs; obtain ⟨rfl, rfl, rfl⟩ := hcs; exact ⟨[], .inl ⟨rfl, rfl, rfl, rfl⟩⟩
    · simp [Value.cells] at hcs; obtain ⟨rfl, rfl, rfl⟩ := hcs; exact ⟨zs, .inr ⟨_, rfl, hl, hm, by simpa using hz, hcell, hwz⟩⟩
  clear hA0 hval0
  have hwalk : Calls Try.prog 6 #[.slice a0 len0 cap0] W fun e w' => e = .returned (.bool true) ∧ Below W.heap.size W w' := walk W hsh a0 len0 cap0 z0 w0
  refine hwalk.mono fun e W' ⟨he, bel⟩ => ?_
  subst he
  exact ⟨_, rfl, _, _, _, [], _, [], hW', trodAll_mk1 (shut_bool Try.underlying4 _), (trodAll_cons_mk (Below.trod laidOut (by kernel_rfl) (of_decide_eq_true (by kernel_rfl)) k0 bel lt0) trodAll_mk0), rfl, bel.frame _, fun h => by cases h⟩
theorem closed : joinedFacts Try.pinned.checked.prog 6 Try.f6 ((OpenSpec.ofChange Rows.fnSnakesSpec)).bare Rows.fnSnakesRow = true := by
  unfold joinedFacts
  repeat' with_reducible refine and_mk ?_ ?_
  case refine_1.refine_1.refine_1.refine_1.refine_1.refine_1.refine_2 => exact enters
  case refine_1.refine_1.refine_1.refine_1.refine_1.refine_2 => exact (show (Rows.fnSnakesRow.lifted == Try.prog.liftsFinal) = true by rw [final_no]; rfl)
  case refine_1.refine_1.refine_1.refine_1.refine_2 => exact (show (Try.prog.make == some Rows.fnSnakesRow.make) = true by rw [make_cut]; rfl)
  case refine_1.refine_1.refine_1.refine_1.refine_1.refine_1.refine_1.refine_1.refine_1.refine_1.refine_1.refine_1.refine_1.refine_1.refine_1.refine_1.refine_1.refine_1.refine_1.refine_1.refine_1.refine_1.refine_1.refine_1.refine_1.refine_1.refine_1.refine_1.refine_1.refine_1.refine_2 => exact laidOut
  case refine_1.refine_1.refine_1.refine_1.refine_1.refine_1.refine_1.refine_1.refine_1.refine_1.refine_1.refine_1.refine_1.refine_1.refine_1.refine_1.refine_1.refine_1.refine_1.refine_1.refine_1.refine_1.refine_1.refine_1.refine_1.refine_1.refine_1.refine_1.refine_1.refine_2 => exact maps_rowed
  case refine_1.refine_1.refine_1.refine_1.refine_1.refine_1.refine_1.refine_2 => exact stops_heard
  all_goals (as_aux_lemma => kernel_rfl)
theorem proved : Rows.FnSnakesSaid :=
  OpenClaim.holds_of_cond 6 Try.f6 rfl rfl rfl rfl rfl rfl rfl ⟨rfl, rfl, rfl, rfl, rfl⟩ rfl rfl rfl rfl rfl (by kernel_rfl) Try.func6 closed
    (of_decide_eq_true (by kernel_rfl)) (by unfold Func.isWrapper; first | (rw [if_pos (by decide +kernel)]; kernel_rfl) | (rw [if_neg (by decide +kernel)]; exact ⟨rfl, rfl⟩))
    (fun os started H enc _ F => by rw [OpenClaim.pre_eq_preRow]; exact lifted os started H enc F)
#print axioms proved
end Go.Proofs.Ytmcmpedmgibmkab.fnSnakes
