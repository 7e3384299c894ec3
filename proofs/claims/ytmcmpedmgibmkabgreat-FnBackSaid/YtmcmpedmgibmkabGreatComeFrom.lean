/-
  The contract of the program's comeFrom, for every valid row: the lists of tiles of which it can come.
-/
import Derived.Test.YtmcmpedmgibmkabGreatConcat
import Derived.Test.YtmcmpedmgibmkabGreatPlainA
namespace Go.Proofs.YtmcmpedmgibmkabGreat
open Go.RowKit Plain
attribute [local go_sem] store_new
set_option linter.unusedVariables false
set_option linter.unusedSimpArgs false

/-- The slice value v owns a row of slices, each a row of integers that lies elsewhere. -/
def Lists (w : World) (base : Nat) (v : Value) (L : List (List Int)) : Prop :=
  ∃ vals, w.ownsRow base 35 1 v L.length vals ∧ ∀ (i : Nat) (x : List Int), L[i]? = some x → ∃ g c, vals[i]? = some (Value.slice (some ⟨g, 0, none⟩) x.length c) ∧ CAt w g x.length (fn x) ∧ v.ownBlock ≠ some g ∧ base ≤ g
theorem Lists.below {w w' : World} {base : Nat} {v : Value} {L : List (List Int)} (h : Lists w base v L) (hb : Below w.heap.size w w') : Lists w' base v L := by
  obtain ⟨vals, h1, h2⟩ := h
  refine ⟨vals, owns_below h1 hb, fun i x hx => ?_⟩
  obtain ⟨g, c, q1, q2, q3⟩ := h2 i x hx
  exact ⟨g, c, q1, q2.below hb, q3⟩
theorem Lists.alloc {w : World} {base : Nat} {v : Value} {L : List (List Int)} (h : Lists w base v L) (o : Obj) : Lists (w.alloc o) base v L := h.below ((Below.refl _ w).alloc (Nat.le_refl _) o)
theorem Lists.wide {w : World} {base base' : Nat} {v : Value} {L : List (List Int)} (h : Lists w base v L) (hb : base' ≤ base) : Lists w base' v L := by
  obtain ⟨vals, h1, h2⟩ := h
  refine ⟨vals, ownsRow_wide h1 hb, fun i x hx => ?_⟩
  obtain ⟨g, c, q1, q2, q3, q4⟩ := h2 i x hx
  exact ⟨g, c, q1, q2, q3, by omega⟩
/-- An element of such a row. -/
theorem Lists.at {w : World} {base g0 n cap : Nat} {L : List (List Int)} (h : Lists w base (.slice (some ⟨g0, 0, none⟩) n cap) L) (hn : n = L.length) {i : Nat} {x : List Int} (hx : L[i]? = some x) :
    ∃ g c, w.cell? ⟨g0, i, none⟩ = some (.slice (some ⟨g, 0, none⟩) x.length c) ∧ CAt w g x.length (fn x) ∧ base ≤ g := by
  subst hn
  obtain ⟨vals, h1, h2⟩ := h
  obtain ⟨g, c, q1, q2, _, q4⟩ := h2 i x hx
  have hi := (List.getElem?_eq_some_iff.1 hx).1
  exact ⟨g, c, by rw [h1.cellAt i (by omega)]; exact q1, q2, q4⟩
theorem lists_snoc {w1 w2 : World} {base : Nat} {v v' : Value} {L : List (List Int)} {x : List Int} {vals : List Value}
    (hel : ∀ (i : Nat) (y : List Int), L[i]? = some y → ∃ g c, vals[i]? = some (Value.slice (some ⟨g, 0, none⟩) y.length c) ∧ CAt w1 g y.length (fn y) ∧ v.ownBlock ≠ some g ∧ base ≤ g) (hlen : vals.length = L.length) (gx cx : Nat) (hx : CAt w1 gx x.length (fn x)) (hxv : v.ownBlock ≠ some gx) (hgx : base ≤ gx)
    (hg : w1.grownBy w2 v.ownBlock) (hloc : v'.ownBlock = v.ownBlock ∨ v'.ownBlock = some w1.heap.size) (ho : w2.ownsRow base 35 1 v' (L.length + 1) (vals ++ [.slice (some ⟨gx, 0, none⟩) x.length cx])) : Lists w2 base v' (L ++ [x]) := by
  refine ⟨_, by rw [List.length_append]; exact ho, fun i y hy => ?_⟩
  have fin : ∀ g m (f : Nat → Int), CAt w1 g m f → v.ownBlock ≠ some g → CAt w2 g m f ∧ v'.ownBlock ≠ some g := fun g m f hc hne => by
    refine ⟨hc.grown hg (fun e => hne e.symm), fun e => ?_⟩
    rcases hloc with q | q
    · rw [q] at e; exact hne e
    · rw [q] at e; cases e; exact absurd hc.1 (Nat.lt_irrefl _)
  by_cases hi : i < L.length
  · rw [List.getElem?_append_left hi] at hy
    obtain ⟨g, c, q1, q2, q3, q4⟩ := hel i y hy
    obtain ⟨f1, f2⟩ := fin g _ _ q2 q3
    exact ⟨g, c, by rw [List.getElem?_append_left (by omega)]; exact q1, f1, f2, q4⟩
  · have hi2 := (List.getElem?_eq_some_iff.1 hy).1
    rw [List.length_append, List.length_singleton] at hi2
    obtain rfl : i = L.length := by omega
    rw [List.getElem?_append_right (Nat.le_refl _), Nat.sub_self] at hy
    obtain rfl : x = y := by simpa using hy
    obtain ⟨f1, f2⟩ := fin gx _ _ hx hxv
    exact ⟨gx, cx, by rw [← hlen, List.getElem?_append_right (Nat.le_refl _), Nat.sub_self]; rfl, f1, f2, hgx⟩
theorem new_ints (w : World) (xs : List Int) : CAt (w.alloc (.cells (xs.map (Value.int .i64)).toArray 3)) w.heap.size xs.length (fn xs) := by
  have h : (xs.map (Value.int .i64)).toArray = mk xs.length (fn xs) := by
    apply Array.toList_inj.1
    exact ints_mk xs
  rw [h]
  exact (Blk.new _ _ _ _).at
theorem infoSl : (Tryz.prog.info? 35).map (fun i => (i.zero, i.size, i.bytes)) = some (some (.slice none 0 0), 1, 24) := by kernel_rfl
theorem cf_step {r : Nat → Int} {k : Nat} (h : r k ≠ 0) : cfL r (k + 1) = (cfL r k).flatMap fun l => two1 l (r k) := by rw [cfL, if_neg h]

set_option maxHeartbeats 8000000 in
set_option maxRecDepth 100000 in
theorem comeFrom_any (r : Nat → Int) (w : World) (hV : VdRow r) :
    Calls Tryz.prog 77 #[.agg (mk 4 r)] w fun e w' => ∃ g cap, e = .returned (.slice (some ⟨g, 0, none⟩) (cfL r 4).length cap) ∧
      Lists w' w.heap.size (.slice (some ⟨g, 0, none⟩) (cfL r 4).length cap) (cfL r 4) ∧ Below w.heap.size w w' := by
  obtain ⟨j0, hj, hy0, hy1, hy2⟩ := info_parts infoSl
  have iR := idxR
  have K1 := ((Blk.new w 4 r 24).alloc (.cells #[] 3)).alloc (.cells #[.slice (some ⟨w.heap.size + 1, 0, none⟩) 0 0] 35)
  have HB := Lib.hid ((((Below.refl w.heap.size w).alloc (Nat.le_refl _) (.cells (mk 4 r) 24)).alloc (by simp) (.cells #[] 3)).alloc (by simp; omega) (.cells #[.slice (some ⟨w.heap.size + 1, 0, none⟩) 0 0] 35))
  have h2 : ((w.alloc (.cells (mk 4 r) 24)).alloc (.cells #[] 3)).heap.size = w.heap.size + 1 + 1 := by simp
  have HLS : Hid (Lists (((w.alloc (.cells (mk 4 r) 24)).alloc (.cells #[] 3)).alloc (.cells #[.slice (some ⟨w.heap.size + 1, 0, none⟩) 0 0] 35)) w.heap.size (.slice (some ⟨w.heap.size + 1 + 1, 0, none⟩) 1 1) [[]]) := by
    refine ⟨[.slice (some ⟨w.heap.size + 1, 0, none⟩) 0 0], ⟨rfl, .inr ⟨w.heap.size + 1 + 1, 1, #[.slice (some ⟨w.heap.size + 1, 0, none⟩) 0 0], rfl, by omega, by rw [← h2]; exact heap_alloc_new _ _, Nat.le_refl _, by decide, rfl, rfl⟩⟩, fun i x hx => ?_⟩
    obtain rfl : i = 0 := by
      have := (List.getElem?_eq_some_iff.1 hx).1
      simpa using this
    obtain rfl : [] = x := by simpa using hx
    exact ⟨w.heap.size + 1, 0, rfl, ⟨by simp, fun j hj => by simp at hj⟩, by simp [Value.ownBlock], by omega⟩
  have HV := Lib.hid hV
  clear hV
  go_enter Tryz.func77, Tryz.ntmps77
  go_wp2_with ((with_reducible show wpList _ _ _ (Oper.mk _ (Op.load 24 _) _ _ _ _ :: _) _ _); refine loadR (K1) rfl rfl rfl ?_)
  generalize ((w.alloc (.cells (mk 4 r) 24)).alloc (.cells #[] 3)).alloc (.cells #[.slice (some ⟨w.heap.size + 1, 0, none⟩) 0 0] 35) = w1 at *
  clear h2
  go_loopg [3, 12] 4 (fun gk s3 s12 wr => ∃ (k : Nat) (v : Value), k + gk = 4 ∧ s12 = .int .i64 k ∧ v = s3 ∧ (∃ gl cl0, v = .slice (some ⟨gl, 0, none⟩) (cfL r k).length cl0) ∧ Hid (Lists wr w.heap.size v (cfL r k)) ∧ Hid (Below w.heap.size w wr))
  case atStart => exact ⟨0, _, by omega, rfl, rfl, ⟨_, _, rfl⟩, HLS, HB⟩
  case round =>
    clear HLS HB K1
    obtain ⟨k, v, hkg, rfl, rfl, ⟨gl, cl0, hv⟩, HLS, HB⟩ := hrel
    subst hv
    cases gk with
    | zero =>
      have hk : ¬ ((k : Int) < 4) := by omega
      obtain rfl : k = 4 := by omega
      go_wp2_with fail
      go_ret
      exact ⟨gl, cl0, rfl, HLS.out, HB.out⟩
    | succ gk2 =>
      have hk4 : (k : Int) < 4 := by omega
      have hk5 : k < 4 := by omega
      obtain ⟨x0, x17⟩ := HV.out k hk5
      have iX : ∀ W, (Instr.index 24 (.agg (mk 4 r)) (.int .i64 (k : Int))).run Tryz.prog W = .ok (.int .i64 (r k)) W := fun W => iR r k hk5 W
      clear iR
      by_cases hz : r k = 0
      · have Y : Hid (cfL r (k + 1) = cfL r k) := by show _ = _; rw [cfL, if_pos hz]
        rw [hz] at iX
        clear hz x0 x17
        go_wp2_with fail
        go_roundg gk2
        case rel => exact ⟨k + 1, _, by omega, by go_num, rfl, ⟨gl, cl0, by rw [Y.out]⟩, by rw [Y.out]; exact HLS, HB⟩
        case measure => omega
      · have Y := Lib.hid (cf_step hz)
        have HLE : Hid (∀ l, l ∈ cfL r k → l.length ≤ 2 * k) := (cf_len r k).2
        have hnl := (cf_len r k).1
        have hn8 : (cfL r k).length ≤ 8 := by
          have : 2 ^ k ≤ 8 := Nat.le_trans (Nat.pow_le_pow_right (n := 2) (by omega) (show k ≤ 3 by omega)) (by decide)
          omega
        clear hnl
        generalize hx : r k = x at *
        have q0 : (x == 0) = false := by simpa using hz
        clear hx
        -- the lists so far, from here on read alone
        have HLO := HLS
        clear HLS
        have hbw := HB.out.size
        generalize hB0 : wr.heap.size = B0 at *
        have HCW : Hid (∀ i l, (cfL r k)[i]? = some l → (∃ g c, wr.cell? ⟨gl, i, none⟩ = some (.slice (some ⟨g, 0, none⟩) l.length c) ∧ CAt wr g l.length (fn l)) ∧ l.length ≤ 6) := fun i l hl => ⟨by obtain ⟨g, c, q1, q2, _⟩ := HLO.out.at rfl hl; exact ⟨g, c, q1, q2⟩, by have := HLE.out l (List.mem_of_getElem? hl); omega⟩
        generalize hCF : cfL r k = CF at *
        generalize hNF : CF.length = nF at *
        have hdef : ∃ LL : Nat → List (List Int), (∀ i, LL i = (CF.take i).flatMap fun l => two1 l x) := ⟨_, fun _ => rfl⟩
        obtain ⟨LL, hLL⟩ := hdef
        have HLL0 : Hid (LL 0 = []) := by show _ = _; rw [hLL]; rfl
        have HLLn : Hid (LL nF = cfL r (k + 1)) := by show _ = _; rw [hLL, ← hNF, List.take_length]; exact Y.out.symm
        have HLLs : Hid (∀ i l, CF[i]? = some l → LL (i + 1) = LL i ++ two1 l x) := fun i l hl => by
          rw [hLL, hLL, List.take_add_one, hl, List.flatMap_append]; simp
        have HLLb : Hid (∀ i, (LL i).length ≤ i * 2) := fun i => by
          rw [hLL, List.length_flatMap]
          have key : ∀ M : List (List Int), (M.map fun l => (two1 l x).length).sum ≤ M.length * 2 := by
            intro M
            induction M with
            | nil => simp
            | cons a M ih =>
              have : (two1 a x).length ≤ 2 := by unfold two1; split <;> simp
              simp only [List.map_cons, List.sum_cons, List.length_cons]; omega
          have := key (CF.take i)
          have h3 := List.length_take_le i CF
          omega
        clear hLL hCF HLO
        have HLS : Hid (Lists (wr.alloc (.cells #[] 35)) B0 (.slice (some ⟨B0, 0, none⟩) 0 0) (LL 0)) := by
          show Lists _ _ _ _
          rw [HLL0.out]
          have := World.ownsRow_made (base := B0) (e := 35) (size := 1) wr #[] 0 (by omega) (by decide) rfl
          rw [hB0] at this
          exact ⟨[], this, fun i x hx => by simp at hx⟩
        have HBw : Hid (Below B0 wr (wr.alloc (.cells #[] 35))) := (Below.refl _ _).alloc (by omega) _
        have HE0 : Hid ((LL 0).length = 0) := by show _ = _; rw [HLL0.out]; rfl
        have hln : Hid (Below w.heap.size w wr) := HB
        clear HB
        go_wp2_with fail
        generalize hwB : wr = wB at *
        generalize wB.alloc (.cells #[] 35) = wy at *
        go_loopg [6, 20] nF (fun gj s6 s20 wr => ∃ (i : Nat) (v : Value), i + gj = nF ∧ s20 = .int .i64 i ∧ v = s6 ∧ (∃ gg cap, v = .slice (some ⟨gg, 0, none⟩) (LL i).length cap) ∧ Hid (Lists wr B0 v (LL i)) ∧ Hid (Below B0 wB wr))
        case atStart => exact ⟨0, _, by omega, rfl, rfl, ⟨B0, 0, by rw [HE0.out]⟩, HLS, HBw⟩
        case round =>
          clear HLS HBw
          obtain ⟨i, v, hig, rfl, rfl, ⟨gg, cap, hv⟩, HLS, HB⟩ := hrel
          subst hv
          cases gk with
          | zero =>
            have hi : ¬ ((i : Int) < (nF : Int)) := by omega
            obtain rfl : i = nF := by omega
            have HB2 : Hid (Below w.heap.size w wr) := hln.out.trans (HB.out.mono hbw)
            have HLN : Hid ((LL i).length = (cfL r (k + 1)).length) := by show _ = _; rw [HLLn.out]
            go_wp2_with fail
            go_roundg gk2
            case rel => exact ⟨k + 1, _, by omega, by go_num, rfl, ⟨gg, cap, by rw [HLN.out]⟩, by rw [← HLLn.out]; exact HLS.out.wide hbw, HB2⟩
            case measure => omega
          | succ gj2 =>
            have hi4 : (i : Int) < (nF : Int) := by omega
            have hi0 : (0 : Int) ≤ (i : Int) := by omega
            obtain ⟨l, hli⟩ : ∃ l, CF[i]? = some l := ⟨CF[i]'(by omega), List.getElem?_eq_getElem _⟩
            obtain ⟨⟨g1, c1, e1, hl1⟩, hl6⟩ := HCW.out i l hli
            have hglt := World.block_lt_of_cell? wB _ e1
            have e1 : wr.cell? ⟨gl, i, none⟩ = some (.slice (some ⟨g1, 0, none⟩) l.length c1) := (HB.out.cell (p := ⟨gl, i, none⟩) (by rw [← hB0]; exact hglt)).trans e1
            have hg1 : g1 < B0 := by have := hl1.1; omega
            have hl1 := hl1.low HB.out hg1
            have HS := Lib.hid (HLLs.out i l hli)
            have hLb := HLLb.out i
            have hL16 : (LL i).length ≤ 16 := by omega
            clear hLb
            clear HCW hli
            have x1 : (1 : Int) ≤ x := by have : x ≠ 0 := hz; omega
            obtain ⟨vals, ho, hel⟩ := HLS.out
            have hvl : vals.length = ((LL i)).length := by have := ho.1; omega
            have hbs := HB.out.size
            have a1 : (wr.alloc (.cells #[.int .i64 x] 3)).heap.size = wr.heap.size + 1 := by simp
            have d2 : ((wr.alloc (.cells #[.int .i64 x] 3)).alloc (.cells #[.slice (some ⟨g1, 0, none⟩) l.length c1, .slice (some ⟨wr.heap.size, 0, none⟩) 1 1] 35)).cell? ⟨wr.heap.size + 1, 0, none⟩ = some (.slice (some ⟨g1, 0, none⟩) l.length c1) := by
              rw [← a1]; exact cell_two_new _ _ _ _ 0 _ rfl
            have d3 : ((wr.alloc (.cells #[.int .i64 x] 3)).alloc (.cells #[.slice (some ⟨g1, 0, none⟩) l.length c1, .slice (some ⟨wr.heap.size, 0, none⟩) 1 1] 35)).cell? ⟨wr.heap.size + 1, 1, none⟩ = some (.slice (some ⟨wr.heap.size, 0, none⟩) [x].length 1) := by
              rw [← a1]; exact cell_two_new _ _ _ _ 1 _ rfl
            have dx : CAt ((wr.alloc (.cells #[.int .i64 x] 3)).alloc (.cells #[.slice (some ⟨g1, 0, none⟩) l.length c1, .slice (some ⟨wr.heap.size, 0, none⟩) 1 1] 35)) g1 l.length (fn l) := (hl1.alloc _).alloc _
            have dy : CAt ((wr.alloc (.cells #[.int .i64 x] 3)).alloc (.cells #[.slice (some ⟨g1, 0, none⟩) l.length c1, .slice (some ⟨wr.heap.size, 0, none⟩) 1 1] 35)) wr.heap.size [x].length (fn [x]) := CAt.alloc (new_ints wr [x]) _
            have hcon := concat_any (wr.heap.size + 1) g1 c1 wr.heap.size 1 l [x] ((wr.alloc (.cells #[.int .i64 x] 3)).alloc (.cells #[.slice (some ⟨g1, 0, none⟩) l.length c1, .slice (some ⟨wr.heap.size, 0, none⟩) 1 1] 35)) d2 d3 dx dy (by omega) (by simp) (by simp)
            have a2 : ((wr.alloc (.cells #[.int .i64 x] 3)).alloc (.cells #[.slice (some ⟨g1, 0, none⟩) l.length c1, .slice (some ⟨wr.heap.size, 0, none⟩) 1 1] 35)).heap.size = wr.heap.size + 1 + 1 := by simp
            have HBa : Hid (Below B0 wB ((wr.alloc (.cells #[.int .i64 x] 3)).alloc (.cells #[.slice (some ⟨g1, 0, none⟩) l.length c1, .slice (some ⟨wr.heap.size, 0, none⟩) 1 1] 35))) := (HB.out.alloc (by omega) _).alloc (by simp; omega) _
            have hoa := (World.ownsRow.alloc ho (.cells #[.int .i64 x] 3)).alloc (.cells #[.slice (some ⟨g1, 0, none⟩) l.length c1, .slice (some ⟨wr.heap.size, 0, none⟩) 1 1] 35)
            have HEL : Hid (∀ (j : Nat) (y : List Int), ((LL i))[j]? = some y → ∃ g c, vals[j]? = some (Value.slice (some ⟨g, 0, none⟩) y.length c) ∧ CAt ((wr.alloc (.cells #[.int .i64 x] 3)).alloc (.cells #[.slice (some ⟨g1, 0, none⟩) l.length c1, .slice (some ⟨wr.heap.size, 0, none⟩) 1 1] 35)) g y.length (fn y) ∧ (Value.slice (some ⟨gg, 0, none⟩) ((LL i)).length cap).ownBlock ≠ some g ∧ B0 ≤ g) := fun j y hy => by
              obtain ⟨g, c, q1, q2, q3⟩ := hel j y hy
              exact ⟨g, c, q1, (q2.alloc _).alloc _, q3⟩
            have hl1 : CAt ((wr.alloc (.cells #[.int .i64 x] 3)).alloc (.cells #[.slice (some ⟨g1, 0, none⟩) l.length c1, .slice (some ⟨wr.heap.size, 0, none⟩) 1 1] 35)) g1 l.length (fn l) := dx
            clear d2 d3 dx dy hel ho
            generalize hAA : (wr.alloc (.cells #[.int .i64 x] 3)).alloc (.cells #[.slice (some ⟨g1, 0, none⟩) l.length c1, .slice (some ⟨wr.heap.size, 0, none⟩) 1 1] 35) = wa at *
            go_wp2_with fail
            try rw [hAA]
            clear hAA a1
            refine hcon.mono ?_
            clear hcon
            rintro e wc ⟨gx, cx, rfl, hox, hb⟩
            have hcx : CAt wc gx (l ++ [x]).length (fn (l ++ [x])) := CAt.of_ints hox
            have hgx := (hox.lt gx rfl).1
            have hgB : B0 ≤ gx := by omega
            have hoc := owns_below hoa hb
            have hgv := (hoa.lt gg rfl).2
            have hl1 := hl1.below hb
            have HEL : Hid (∀ (j : Nat) (y : List Int), ((LL i))[j]? = some y → ∃ g c, vals[j]? = some (Value.slice (some ⟨g, 0, none⟩) y.length c) ∧ CAt (wc.alloc (.cells #[.slice (some ⟨gx, 0, none⟩) (l ++ [x]).length cx] 35)) g y.length (fn y) ∧ (Value.slice (some ⟨gg, 0, none⟩) ((LL i)).length cap).ownBlock ≠ some g ∧ B0 ≤ g) := fun j y hy => by
              obtain ⟨g, c, q1, q2, q3⟩ := HEL.out j y hy
              exact ⟨g, c, q1, (q2.below hb).alloc _, q3⟩
            have HB : Hid (Below B0 wB wc) := HBa.out.trans (hb.mono (by omega))
            have hbs2 := HB.out.size
            have hyl : (l ++ [x]).length = l.length + 1 := by simp
            clear hb hox hoa HBa a2
            rw [hyl] at hcx HEL ⊢
            have ho0 := World.ownsRow.alloc hoc (.cells #[.slice (some ⟨gx, 0, none⟩) (l.length + 1) cx] 35)
            go_wp2_with (first | (at_builtin; refine wpList_append_own_at _ rfl _ _ 107 rfl B0 35 j0 (.slice none 0 0) 1 24 Tryz.underlying107 hj hy0 hy1 hy2 rfl (by decide) (.slice (some ⟨gg, 0, none⟩) ((LL i)).length cap) ((LL i)).length vals rfl ho0 ⟨wc.heap.size, 0, none⟩ 1 1 [.slice (some ⟨gx, 0, none⟩) (l.length + 1) cx] rfl rfl ?d1 ?d2 ?d3 ?d4 ?d5 ?_))
            case d1 =>
              have := cell_one_new wc (.slice (some ⟨gx, 0, none⟩) (l.length + 1) cx) 35
              simpa only [World.size_alloc] using this
            case d2 => simp [Value.oneCell']
            case d3 => unfold maxLen; omega
            case d4 => omega
            case d5 => simp; omega
            intro v1 wd hown' hgr _ hloc
            have HLS : Hid (Lists wd B0 v1 ((LL i) ++ [l ++ [x]])) := lists_snoc HEL.out hvl gx cx (by rw [hyl]; exact hcx.alloc _) (by simp only [Value.ownBlock]; intro e; cases e; omega) hgB hgr (by simpa only [World.size_alloc] using hloc) (by rw [hyl]; exact hown')
            have HB : Hid (Below B0 wB wd) := (HB.out.alloc (by omega) _).grown hgr (by simp; omega) (fun j hj2 => (ho0.lt j hj2).1)
            obtain ⟨g9, c9, hv9⟩ := ownsRow_succ hown'
            have HV9 : Hid (v1 = .slice (some ⟨g9, 0, none⟩) ((LL i) ++ [l ++ [x]]).length c9) := by show _ = _; rw [hv9, List.length_append]; rfl
            have hl1 := (hl1.alloc (.cells #[.slice (some ⟨gx, 0, none⟩) (l.length + 1) cx] 35)).low ((Below.refl B0 _).grown hgr (by simp; omega) (fun j hj2 => (ho0.lt j hj2).1)) hg1
            clear HEL hown' hgr hloc hv9 ho0 hoc hcx hgx hgB hgv hyl hvl hbs2
            have hw1 : IntKind.i64.wrap (x - 1) = x - 1 := IntWalk.i64_in _ (by omega)
            have hL17 : (LL i ++ [l ++ [x]]).length ≤ 17 := by simp; omega
            generalize hM1 : LL i ++ [l ++ [x]] = M1 at *
            have hv8 := HV9.out
            clear HV9
            subst hv8
            have HM1 := Lib.hid hM1
            clear hM1
            by_cases h2 : 2 ≤ x
            · have T : Hid (LL (i + 1) = M1 ++ [l ++ [x - 1, x - 1]]) := by show _ = _; rw [HS.out, two1, if_pos h2, ← HM1.out]; simp
              go_wp2_with fail
              refine (isTile_yes (x - 1) _ (by omega) (by omega)).mono ?_
              rintro e w' ⟨rfl, rfl⟩
              obtain ⟨vals, ho, hel⟩ := HLS.out
              have hvl : vals.length = (M1).length := by have := ho.1; omega
              have hbs := HB.out.size
              have a1 : (wd.alloc (.cells #[.int .i64 (x - 1), .int .i64 (x - 1)] 3)).heap.size = wd.heap.size + 1 := by simp
              have d2 : ((wd.alloc (.cells #[.int .i64 (x - 1), .int .i64 (x - 1)] 3)).alloc (.cells #[.slice (some ⟨g1, 0, none⟩) l.length c1, .slice (some ⟨wd.heap.size, 0, none⟩) 2 2] 35)).cell? ⟨wd.heap.size + 1, 0, none⟩ = some (.slice (some ⟨g1, 0, none⟩) l.length c1) := by
                rw [← a1]; exact cell_two_new _ _ _ _ 0 _ rfl
              have d3 : ((wd.alloc (.cells #[.int .i64 (x - 1), .int .i64 (x - 1)] 3)).alloc (.cells #[.slice (some ⟨g1, 0, none⟩) l.length c1, .slice (some ⟨wd.heap.size, 0, none⟩) 2 2] 35)).cell? ⟨wd.heap.size + 1, 1, none⟩ = some (.slice (some ⟨wd.heap.size, 0, none⟩) [x - 1, x - 1].length 2) := by
                rw [← a1]; exact cell_two_new _ _ _ _ 1 _ rfl
              have dx : CAt ((wd.alloc (.cells #[.int .i64 (x - 1), .int .i64 (x - 1)] 3)).alloc (.cells #[.slice (some ⟨g1, 0, none⟩) l.length c1, .slice (some ⟨wd.heap.size, 0, none⟩) 2 2] 35)) g1 l.length (fn l) := (hl1.alloc _).alloc _
              have dy : CAt ((wd.alloc (.cells #[.int .i64 (x - 1), .int .i64 (x - 1)] 3)).alloc (.cells #[.slice (some ⟨g1, 0, none⟩) l.length c1, .slice (some ⟨wd.heap.size, 0, none⟩) 2 2] 35)) wd.heap.size [x - 1, x - 1].length (fn [x - 1, x - 1]) := CAt.alloc (new_ints wd [x - 1, x - 1]) _
              have hcon := concat_any (wd.heap.size + 1) g1 c1 wd.heap.size 2 l [x - 1, x - 1] ((wd.alloc (.cells #[.int .i64 (x - 1), .int .i64 (x - 1)] 3)).alloc (.cells #[.slice (some ⟨g1, 0, none⟩) l.length c1, .slice (some ⟨wd.heap.size, 0, none⟩) 2 2] 35)) d2 d3 dx dy (by omega) (by simp) (by simp)
              have a2 : ((wd.alloc (.cells #[.int .i64 (x - 1), .int .i64 (x - 1)] 3)).alloc (.cells #[.slice (some ⟨g1, 0, none⟩) l.length c1, .slice (some ⟨wd.heap.size, 0, none⟩) 2 2] 35)).heap.size = wd.heap.size + 1 + 1 := by simp
              have HBa : Hid (Below B0 wB ((wd.alloc (.cells #[.int .i64 (x - 1), .int .i64 (x - 1)] 3)).alloc (.cells #[.slice (some ⟨g1, 0, none⟩) l.length c1, .slice (some ⟨wd.heap.size, 0, none⟩) 2 2] 35))) := (HB.out.alloc (by omega) _).alloc (by simp; omega) _
              have hoa := (World.ownsRow.alloc ho (.cells #[.int .i64 (x - 1), .int .i64 (x - 1)] 3)).alloc (.cells #[.slice (some ⟨g1, 0, none⟩) l.length c1, .slice (some ⟨wd.heap.size, 0, none⟩) 2 2] 35)
              have HEL : Hid (∀ (j : Nat) (y : List Int), (M1)[j]? = some y → ∃ g c, vals[j]? = some (Value.slice (some ⟨g, 0, none⟩) y.length c) ∧ CAt ((wd.alloc (.cells #[.int .i64 (x - 1), .int .i64 (x - 1)] 3)).alloc (.cells #[.slice (some ⟨g1, 0, none⟩) l.length c1, .slice (some ⟨wd.heap.size, 0, none⟩) 2 2] 35)) g y.length (fn y) ∧ (Value.slice (some ⟨g9, 0, none⟩) (M1).length c9).ownBlock ≠ some g ∧ B0 ≤ g) := fun j y hy => by
                obtain ⟨g, c, q1, q2, q3⟩ := hel j y hy
                exact ⟨g, c, q1, (q2.alloc _).alloc _, q3⟩
              have hl1 : CAt ((wd.alloc (.cells #[.int .i64 (x - 1), .int .i64 (x - 1)] 3)).alloc (.cells #[.slice (some ⟨g1, 0, none⟩) l.length c1, .slice (some ⟨wd.heap.size, 0, none⟩) 2 2] 35)) g1 l.length (fn l) := dx
              clear d2 d3 dx dy hel ho
              generalize hAA : (wd.alloc (.cells #[.int .i64 (x - 1), .int .i64 (x - 1)] 3)).alloc (.cells #[.slice (some ⟨g1, 0, none⟩) l.length c1, .slice (some ⟨wd.heap.size, 0, none⟩) 2 2] 35) = wa at *
              go_wp2_with fail
              try rw [hAA]
              clear hAA a1
              refine hcon.mono ?_
              clear hcon
              rintro e wc ⟨gx, cx, rfl, hox, hb⟩
              have hcx : CAt wc gx (l ++ [x - 1, x - 1]).length (fn (l ++ [x - 1, x - 1])) := CAt.of_ints hox
              have hgx := (hox.lt gx rfl).1
              have hgB : B0 ≤ gx := by omega
              have hoc := owns_below hoa hb
              have hgv := (hoa.lt g9 rfl).2
              have hl1 := hl1.below hb
              have HEL : Hid (∀ (j : Nat) (y : List Int), (M1)[j]? = some y → ∃ g c, vals[j]? = some (Value.slice (some ⟨g, 0, none⟩) y.length c) ∧ CAt (wc.alloc (.cells #[.slice (some ⟨gx, 0, none⟩) (l ++ [x - 1, x - 1]).length cx] 35)) g y.length (fn y) ∧ (Value.slice (some ⟨g9, 0, none⟩) (M1).length c9).ownBlock ≠ some g ∧ B0 ≤ g) := fun j y hy => by
                obtain ⟨g, c, q1, q2, q3⟩ := HEL.out j y hy
                exact ⟨g, c, q1, (q2.below hb).alloc _, q3⟩
              have HB : Hid (Below B0 wB wc) := HBa.out.trans (hb.mono (by omega))
              have hbs2 := HB.out.size
              have hyl : (l ++ [x - 1, x - 1]).length = l.length + 2 := by simp
              clear hb hox hoa HBa a2
              rw [hyl] at hcx HEL ⊢
              have ho0 := World.ownsRow.alloc hoc (.cells #[.slice (some ⟨gx, 0, none⟩) (l.length + 2) cx] 35)
              go_wp2_with (first | (at_builtin; refine wpList_append_own_at _ rfl _ _ 107 rfl B0 35 j0 (.slice none 0 0) 1 24 Tryz.underlying107 hj hy0 hy1 hy2 rfl (by decide) (.slice (some ⟨g9, 0, none⟩) (M1).length c9) (M1).length vals rfl ho0 ⟨wc.heap.size, 0, none⟩ 1 1 [.slice (some ⟨gx, 0, none⟩) (l.length + 2) cx] rfl rfl ?d1 ?d2 ?d3 ?d4 ?d5 ?_))
              case d1 =>
                have := cell_one_new wc (.slice (some ⟨gx, 0, none⟩) (l.length + 2) cx) 35
                simpa only [World.size_alloc] using this
              case d2 => simp [Value.oneCell']
              case d3 => unfold maxLen; omega
              case d4 => omega
              case d5 => simp; omega
              intro v2 wd hown' hgr _ hloc
              have HLS : Hid (Lists wd B0 v2 (M1 ++ [l ++ [x - 1, x - 1]])) := lists_snoc HEL.out hvl gx cx (by rw [hyl]; exact hcx.alloc _) (by simp only [Value.ownBlock]; intro e; cases e; omega) hgB hgr (by simpa only [World.size_alloc] using hloc) (by rw [hyl]; exact hown')
              have HB : Hid (Below B0 wB wd) := (HB.out.alloc (by omega) _).grown hgr (by simp; omega) (fun j hj2 => (ho0.lt j hj2).1)
              obtain ⟨g9, c9, hv9⟩ := ownsRow_succ hown'
              have HV9 : Hid (v2 = .slice (some ⟨g9, 0, none⟩) (M1 ++ [l ++ [x - 1, x - 1]]).length c9) := by show _ = _; rw [hv9, List.length_append]; rfl
              have hl1 := (hl1.alloc (.cells #[.slice (some ⟨gx, 0, none⟩) (l.length + 2) cx] 35)).low ((Below.refl B0 _).grown hgr (by simp; omega) (fun j hj2 => (ho0.lt j hj2).1)) hg1
              clear HEL hown' hgr hloc hv9 ho0 hoc hcx hgx hgB hgv hyl hvl hbs2
              go_wp2_with fail
              go_roundg gj2
              case rel => exact ⟨i + 1, _, by omega, by go_num, rfl, ⟨g9, c9, by rw [T.out]; exact HV9.out⟩, by rw [T.out]; exact HLS, HB⟩
              case measure => omega
            · have T : Hid (LL (i + 1) = M1) := by show _ = _; rw [HS.out, two1, if_neg h2]; exact HM1.out
              go_wp2_with fail
              refine (isTile_no (x - 1) _ (by omega)).mono ?_
              rintro e w' ⟨rfl, rfl⟩
              go_wp2_with fail
              go_roundg gj2
              case rel => exact ⟨i + 1, _, by omega, by go_num, rfl, ⟨g9, c9, by rw [T.out]⟩, by rw [T.out]; exact HLS, HB⟩
              case measure => omega
end Go.Proofs.YtmcmpedmgibmkabGreat
