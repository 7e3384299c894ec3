/-
  Several texts in one:
  slices.SortFunc at rows of boards and of rows of four that the caller owns: what they are behind it, told by lists of lists. The condition: all numbers are those of cells.
  The program's comparing function of two rows, and slices.SortFunc at rows of four that the caller owns: what they are behind it. The condition: all numbers are those of cells.
-/
import Derived.Test.YtmcmpedmgibmkabGreatLays
import Derived.Test.YtmcmpedmgibmkabGreatLessDr
import Derived.Test.YtmcmpedmgibmkabGreatRowsKit
import Derived.Shelf.SlSortCmp.NoneTotal
import Derived.Test.YtmcmpedmgibmkabGreatLays3
import Derived.Deep.RegionHeld3
namespace Go.Proofs.YtmcmpedmgibmkabGreat
open Go.RowKit Plain Go.Sort
set_option linter.unusedVariables false

/-- A list of k numbers of cells. -/
structure Bo (k : Nat) : Type where
  val : List Int
  len : val.length = k
  vd : ∀ i, i < k → 0 ≤ fn val i ∧ fn val i ≤ 17
theorem Bo.eq {k : Nat} {x y : Bo k} (h : x.val = y.val) : x = y := by cases x; cases y; simp only at h; subst h; rfl
instance (k : Nat) : Inhabited (Bo k) := ⟨⟨cl k fun _ => 0, cl_len k _, fun i hi => by rw [fn_cl _ i hi]; omega⟩⟩
def encO (k : Nat) (x : Bo k) : List Value := x.1.map (Value.int .i64)
theorem encO_len (k : Nat) (x : Bo k) : (encO k x).length = k := by simp [encO, x.len]
theorem encO_one (k : Nat) (x : Bo k) : ∀ v ∈ encO k x, v.oneCell' = true := fun v hv => by
  obtain ⟨i, _, rfl⟩ := List.mem_map.1 hv; rfl
theorem encO_mk (k : Nat) (x : Bo k) : (encO k x).toArray = mk k (fn x.1) := by
  unfold encO
  conv => lhs; rw [← cl_fn x.len]
  rw [mk_cl]
noncomputable def cfO (k : Nat) (x y : Bo k) : Int := if x.1 = y.1 then 0 else if lt k x.1 y.1 = true then -1 else 1
theorem cfO_lt (k : Nat) (x y : Bo k) : ltOf (cfO k) x y = lt k x.1 y.1 := by
  unfold ltOf cfO
  by_cases h : x.1 = y.1
  · rw [if_pos h, h, lt_irrefl]; rfl
  · rw [if_neg h]
    cases lt k x.1 y.1 <;> rfl
theorem swoO (k : Nat) : SWO (ltOf (cfO k)) where
  irrefl x := by rw [cfO_lt, lt_irrefl]
  trans x y z h1 h2 := by rw [cfO_lt] at *; exact lt_trans h1 h2
  ntrans x y z h1 h2 := by
    rw [cfO_lt] at *
    rcases h : lt k x.1 z.1 with _ | _
    · rfl
    · rcases h3 : lt k y.1 x.1 with _ | _
      · have e := lt_total x.len y.len h1 h3
        rw [e, h2] at h; cases h
      · have := lt_trans h3 h; rw [h2] at this; cases this
theorem totO (k : Nat) (x y : Bo k) (h1 : ltOf (cfO k) x y = false) (h2 : ltOf (cfO k) y x = false) : x = y := by
  rw [cfO_lt] at *; exact Bo.eq (lt_total x.len y.len h1 h2)
/-- The lists in order. -/
noncomputable def srtL (k : Nat) (L : List (List Int)) : List (List Int) := L.mergeSort fun x y => !lt k y x
theorem srt_len (k : Nat) (L : List (List Int)) : (srtL k L).length = L.length := by unfold srtL; exact List.length_mergeSort _
theorem srt_mem (k : Nat) (L : List (List Int)) (x : List Int) : x ∈ srtL k L ↔ x ∈ L := by unfold srtL; exact List.mem_mergeSort
theorem srt_all {k : Nat} {L : List (List Int)} (h : AllL k L) : AllL k (srtL k L) := fun x hx => h x ((srt_mem k L x).1 hx)
/-- All numbers are those of cells. -/
def VdL (k : Nat) (L : List (List Int)) : Prop := ∀ l, l ∈ L → l.length = k ∧ ∀ i, i < k → 0 ≤ fn l i ∧ fn l i ≤ 17
theorem VdL.all {k : Nat} {L : List (List Int)} (h : VdL k L) : AllL k L := fun l hl => (h l hl).1
def toBo {k : Nat} {L : List (List Int)} (h : VdL k L) : List (Bo k) := L.attach.map fun x => Bo.mk x.1 (h x.1 x.2).1 (h x.1 x.2).2
theorem toBo_map {k : Nat} {L : List (List Int)} (h : VdL k L) : (toBo h).map (·.1) = L := by
  unfold toBo; rw [List.map_map]; exact List.attach_map_subtype_val L
theorem toBo_len {k : Nat} {L : List (List Int)} (h : VdL k L) : (toBo h).length = L.length := by simp [toBo, List.length_map]
theorem flatK_list {k : Nat} (d : List (Bo k)) : flatK (encO k) k d.toArray = ((d.map (·.1)).flatten.map (Value.int .i64)).toArray := by
  have ha : AllL k (d.map (·.1)) := fun l hl => by obtain ⟨x, _, rfl⟩ := List.mem_map.1 hl; exact x.len
  refine ext_get! (by rw [size_flatK]; simp only [List.size_toArray, List.length_map]; rw [flat_len ha, List.length_map]) fun t ht => ?_
  have ht' : t < d.length * k := by simpa using ht
  have k0 : 0 < k := by rcases Nat.eq_zero_or_pos k with h | h; · subst h; simp at ht'
                        · exact h
  have hq : t / k < d.length := Nat.div_lt_of_lt_mul (by rw [Nat.mul_comm]; exact ht')
  have hm : t % k < k := Nat.mod_lt _ k0
  rw [get_flatK _ _ _ _ (by simpa using ht')]
  have e1 : (d.map (·.1))[t / k]? = some (d[t / k]).1 := by rw [List.getElem?_map, List.getElem?_eq_getElem hq]; rfl
  have e2 := flat_at ha (t / k) (t % k) _ e1 hm
  rw [show t / k * k + t % k = t by have := Nat.div_add_mod t k; rw [Nat.mul_comm] at this; exact this] at e2
  have hl : (d[t / k]).1.length = k := (d[t / k]).len
  have e3 : (((d.map (·.1)).flatten.map (Value.int .i64)).toArray)[t]? = some (.int .i64 ((d[t / k]).1[t % k]'(by omega))) := by
    rw [List.getElem?_toArray, List.getElem?_map, e2, List.getElem?_eq_getElem (by omega)]; rfl
  have e4 : (encO k (d.toArray[t / k]!))[t % k]? = some (.int .i64 ((d[t / k]).1[t % k]'(by omega))) := by
    have : d.toArray[t / k]! = d[t / k] := by rw [getElem!_pos _ _ (by simpa using hq)]; simp
    rw [this]
    unfold encO
    rw [List.getElem?_map, List.getElem?_eq_getElem (by omega)]; rfl
  have e5 : (encO k (d.toArray[t / k]!))[t % k]! = .int .i64 ((d[t / k]).1[t % k]'(by omega)) := by rw [getElem!_def, e4]
  have e6 : (((d.map (·.1)).flatten.map (Value.int .i64)).toArray)[t]! = .int .i64 ((d[t / k]).1[t % k]'(by omega)) := by rw [getElem!_def, e3]
  rw [e5, e6]
/-- A row that the caller owns, behind a sort of it. -/
theorem sorted_own {k q : Nat} {w : World} {base b n cap : Nat} {e : TypeId} {L L' : List (List Int)} (ha : AllL k L') (hl : L'.length = L.length) (hn : n = L.length) (ho : w.ownsRow base e k (.slice (some ⟨b, 0, none⟩) n cap) n (L.flatten.map (Value.int .i64))) (d' : List (Bo k)) (hd : d'.map (·.1) = L') (os : Array Obj) :
    (sortWorldK (encO k) k w b 0 q d'.toArray os).ownsRow base e k (.slice (some ⟨b, 0, none⟩) n cap) n (L'.flatten.map (Value.int .i64)) ∧ Below base w (sortWorldK (encO k) k w b 0 q d'.toArray os) := by
  obtain ⟨h1, h2⟩ := ho
  have hlen : (L'.flatten.map (Value.int .i64)).length = n * k := by rw [List.length_map, flat_len ha, hl, hn]
  rcases h2 with ⟨h2, _⟩ | ⟨g, cap', cur, h2, hb, hh, h3, h4, h5, h6⟩
  · cases h2
  · cases h2
    have hbl : b < w.heap.size := (Array.getElem?_eq_some_iff.1 hh).1
    have hF := flatK_list d'
    rw [hd] at hF
    have hw : (sortWorldK (encO k) k w b 0 q d'.toArray os) = grow (mapBlock (Sort.ahead w q) b (putCells id 0 (L'.flatten.map (Value.int .i64)).toArray)) os := by
      unfold sortWorldK putRowK putRow; rw [hF]
    have hheap : ∀ j, j < w.heap.size → (sortWorldK (encO k) k w b 0 q d'.toArray os).heap[j]? = if b = j then some (.cells (putCells id 0 (L'.flatten.map (Value.int .i64)).toArray cur) e (0, 0)) else w.heap[j]? := fun j hj => by
      rw [hw]
      have hs : (mapBlock (Sort.ahead w q) b (putCells id 0 (L'.flatten.map (Value.int .i64)).toArray)).heap.size = w.heap.size := by simp [mapBlock, Sort.ahead]
      unfold grow
      simp only
      rw [Array.getElem?_append_left (by rw [hs]; exact hj)]
      simp only [mapBlock, Sort.ahead, Array.getElem?_modify]
      by_cases hbj : b = j
      · subst hbj; rw [if_pos rfl, if_pos rfl, hh]; rfl
      · rw [if_neg hbj, if_neg hbj]
    have hsz : w.heap.size ≤ (sortWorldK (encO k) k w b 0 q d'.toArray os).heap.size := by
      rw [hw]; simp [grow, mapBlock, Sort.ahead]
    refine ⟨⟨hlen, .inr ⟨b, cap, putCells id 0 (L'.flatten.map (Value.int .i64)).toArray cur, rfl, hb, ?_, h3, h4, ?_, ?_⟩⟩, ⟨by rw [hw]; rfl, by rw [hw]; rfl, by rw [hw]; rfl, hsz, fun j hj => ?_⟩⟩
    · rw [hheap b hbl, if_pos rfl]
    · simp [putCells, h5]
    · have hnk : n * k ≤ cur.size := by rw [h5]; exact Nat.mul_le_mul_right k h3
      refine List.ext_getElem? fun i => ?_
      rw [List.getElem?_take, Array.getElem?_toList]
      by_cases hi : i < n * k
      · rw [if_pos hi]
        unfold putCells
        rw [Array.getElem?_mapIdx, Array.getElem?_eq_getElem (by omega)]
        simp only [Option.map_some, Nat.zero_le, Nat.zero_add, List.size_toArray, hlen, hi, true_and, if_true, Nat.sub_zero, id]
        rw [getElem!_pos _ i (by simpa using (by omega : i < (L'.flatten.map (Value.int .i64)).length)), List.getElem?_eq_getElem (by omega)]
        simp
      · rw [if_neg hi, List.getElem?_eq_none (by omega)]
    · by_cases hjw : j < w.heap.size
      · rw [hheap j hjw, if_neg (by omega)]
      · omega

/-- The function that the program hands to a sort of boards. -/
theorem cmpV_cf (x y : Bo 16) : Dr.cmpV (fn x.1) (fn y.1) = cfO 16 x y := by
  unfold Dr.cmpV cfO
  have hs : (sameB (fn x.1) (fn y.1) = true) ↔ x.1 = y.1 := by
    rw [sameB_iff, ← cl_inj (n := 16), cl_fn x.len, cl_fn y.len]
  by_cases h : x.1 = y.1
  · rw [if_pos (hs.2 h), if_pos h]
  · rw [if_neg (fun q => h (hs.1 q)), if_neg h]
    rfl
theorem cmpLaysB (b size : Nat) (w : World) : CmpLays Tryz.prog 33 #[] (encO 16) 16 (cfO 16) b 0 size w := fun m os dk _ x y => by
  have h := Dr.cmpB_any (fn x.1) (fn y.1) (sortWorldK (encO 16) 16 w b 0 m dk os) (fun i hi => x.vd i hi) (fun i hi => y.vd i hi)
  rw [encO_mk, encO_mk, ← cmpV_cf]
  exact h.mono fun e w' ⟨h1, h2⟩ => ⟨h1, h2.grow⟩
theorem sortB_any (base b cap : Nat) (e : TypeId) (L : List (List Int)) (w : World) (hv : VdL 16 L) (hn : L.length ≤ 1048576) (ho : w.ownsRow base e 16 (.slice (some ⟨b, 0, none⟩) L.length cap) L.length (L.flatten.map (Value.int .i64))) :
    Calls Tryz.prog 32 #[.slice (some ⟨b, 0, none⟩) L.length cap, .func (.func 33) #[] #[]] w fun r w' => r = .returned (.tuple #[]) ∧
      w'.ownsRow base e 16 (.slice (some ⟨b, 0, none⟩) L.length cap) L.length ((srtL 16 L).flatten.map (Value.int .i64)) ∧ Below base w w' := by
  have eg : ∀ args w, (callFunc 33 args).run Tryz.prog w = .ok (.enter 33 args) w := enters_of Tryz.func33 (by kernel_rfl) rfl
  have hbl : b < w.heap.size := (ho.lt b rfl).2
  have hlen := flat_len hv.all
  have hH : HoldsK (encO 16) 16 w b 0 (toBo hv).toArray := fun j hj => by
    rw [flatK_list, toBo_map] at hj ⊢
    have hj' : j < L.length * 16 := by rw [List.size_toArray, List.length_map, hlen] at hj; exact hj
    rw [Nat.zero_add]
    refine ⟨?_, ho.frozenAt j⟩
    rw [ho.cellAt j hj', getElem!_pos _ j hj, List.getElem?_eq_getElem (by simpa using hj)]
    simp
  have hcon := AnyQ.slices_SortFunc_total Tryz.sortB 16 Tryz.isAgg27 Tryz.sizeOf27 (encO 16) (encO_len 16) (encO_one 16) (cfO 16) (swoO 16) 33 #[] b 0 cap (toBo hv).toArray w eg (cmpLaysB b _ w) hH hbl (by simp [toBo_len]; omega) (totO 16)
  change Calls Tryz.prog 32 _ _ _ at hcon
  rw [show ((toBo hv).toArray).size = L.length by simp [toBo_len]] at hcon
  refine hcon.mono fun r w' ⟨h1, n, os, h2⟩ => ⟨h1, ?_⟩
  have hd : ((toBo hv).mergeSort fun x y => !(ltOf (cfO 16)) y x).map (·.1) = srtL 16 L := by
    unfold srtL
    rw [List.map_mergeSort (s := fun x y => !lt 16 y x) (fun a _ b _ => by rw [cfO_lt]), toBo_map]
  rw [h2]
  exact sorted_own (srt_all hv.all) (srt_len 16 L) rfl ho _ hd os
end Go.Proofs.YtmcmpedmgibmkabGreat
namespace Go.Proofs.YtmcmpedmgibmkabGreat
open Go.RowKit Plain Go.Sort
attribute [local go_sem] store_new
set_option linter.unusedVariables false

/-- slices.Compare of two rows of four that are the same. -/
theorem compare_eq (b1 o1 b2 o2 p q : Nat) (f : Nat → Int) (w : World)
    (h1 : ∀ j, j < 4 → w.cell? ⟨b1, o1 + j, none⟩ = some (.int .i64 (f j))) (h2 : ∀ j, j < 4 → w.cell? ⟨b2, o2 + j, none⟩ = some (.int .i64 (f j))) :
    Calls Tryz.prog 54 #[.slice (some ⟨b1, o1, none⟩) 4 p, .slice (some ⟨b2, o2, none⟩) 4 q] w fun e w' => e = .returned (.int .i64 0) ∧ w = w' := by
  have H1 := Lib.hid h1
  have H2 := Lib.hid h2
  clear h1 h2
  go_enter Tryz.func54, Tryz.ntmps54
  go_wp2_with fail
  go_loop [11] (fun i => ∃ k : Nat, k ≤ 4 ∧ i = .int .i64 k) (fun i => 4 - (intOf i).toNat)
  case atStart => exact ⟨0, Nat.zero_le _, rfl⟩
  case round =>
    obtain ⟨k, hk, rfl⟩ := hrel
    have hk0 : (0 : Int) ≤ (k : Int) := by omega
    by_cases hlt : k < 4
    · have hk4 : (k : Int) < 4 := by omega
      have c1 := H1.out k hlt
      have c2 := H2.out k hlt
      generalize f k = x at c1 c2
      go_wp2_with fail
      refine (cmp_eq _ _).mono ?_
      rintro e w1 ⟨rfl, rfl⟩
      go_wp2_with fail
      go_round
      case rel => exact ⟨k + 1, by omega, by go_num⟩
      case measure => simp [intOf]; omega
    · obtain rfl : k = 4 := by omega
      go_wp2_with fail
      go_ret
      exact ⟨rfl, rfl⟩
/-- What the program's comparing function of two rows returns. -/
noncomputable def cmpV4 (f g : Nat → Int) : Int := if sameR f g = true then 0 else if lessN 4 f g then -1 else 1
theorem cmpQ_cf (x y : Bo 4) : cmpV4 (fn x.1) (fn y.1) = cfO 4 x y := by
  unfold cmpV4 cfO
  have hs : (sameR (fn x.1) (fn y.1) = true) ↔ x.1 = y.1 := by
    rw [sameR_iff, ← cl_inj (n := 4), cl_fn x.len, cl_fn y.len]
  by_cases h : x.1 = y.1
  · rw [if_pos (hs.2 h), if_pos h]
  · rw [if_neg (fun q => h (hs.1 q)), if_neg h]
    unfold lt
    by_cases hl : lessN 4 (fn x.1) (fn y.1)
    · rw [if_pos hl, if_pos (decide_eq_true hl)]
    · rw [if_neg hl, if_neg (by rw [decide_eq_false hl]; simp)]
set_option maxHeartbeats 1000000 in
theorem cmpQ_any (f g : Nat → Int) (w : World) :
    Calls Tryz.prog 80 #[.agg (mk 4 f), .agg (mk 4 g)] w fun e w' => e = .returned (.int .i64 (cmpV4 f g)) ∧ Dr.Below w.heap.size w w' := by
  have K1 := (Blk.new w 4 f 24).alloc (.cells (mk 4 g) 24)
  have K2 := Blk.new (w.alloc (.cells (mk 4 f) 24)) 4 g 24
  have HB := Lib.hid (((Dr.Below.refl w.heap.size w).alloc (Nat.le_refl _) (.cells (mk 4 f) 24)).alloc (by simp) (.cells (mk 4 g) 24))
  simp only [World.size_alloc] at K2
  cases hs : sameR f g with
  | true =>
    have he := sameR_iff.1 hs
    have K2 := K2.congr (g := f) (fun i hi => (he i hi).symm)
    have HV : Hid (cmpV4 f g = 0) := by show _ = _; simp [cmpV4, hs]
    clear he hs
    go_enter Tryz.func80, Tryz.ntmps80
    go_wp2_with fail
    generalize (w.alloc (.cells (mk 4 f) 24)).alloc (.cells (mk 4 g) 24) = w4 at *
    go_region_held3 (fun w' => Blk w' w.heap.size 4 f 24 ∧ Blk w' (w.heap.size + 1) 4 f 24 ∧ Dr.Below w.heap.size w w') (first | exact ⟨K1.drew, K2.drew, HB.out.drew⟩ | assumption) (first | (go_at_call 54; refine (compare_eq _ 0 _ 0 _ _ f _ (fun j hj => by rw [Nat.zero_add]; exact Blk.cell (And.left (by assumption)) hj) (fun j hj => by rw [Nat.zero_add]; exact Blk.cell (And.left (And.right (by assumption))) hj)).mono ?_; rintro e w6 ⟨rfl, rfl⟩) | fail)
    all_goals
      go_wp2_with fail
      go_ret
      exact ⟨by rw [HV.out]; rfl, And.right (And.right (by assumption))⟩
  | false =>
    obtain ⟨c, hc, hi, hd⟩ := row_first hs
    have hl := lessN_at (n := 4) hc hi hd
    rcases (by omega : f c < g c ∨ g c < f c) with hx | hx
    · have HV : Hid (cmpV4 f g = -1) := by show _ = _; simp [cmpV4, hs, hl.2 hx]
      have HC := Lib.hid hc
      have HI := Lib.hid hi
      have HX := Lib.hid hx
      clear hc hi hx hl hd hs
      go_enter Tryz.func80, Tryz.ntmps80
      go_wp2_with fail
      generalize (w.alloc (.cells (mk 4 f) 24)).alloc (.cells (mk 4 g) 24) = w4 at *
      go_region_held3 (fun w' => Blk w' w.heap.size 4 f 24 ∧ Blk w' (w.heap.size + 1) 4 g 24 ∧ Dr.Below w.heap.size w w') (first | exact ⟨K1.drew, K2.drew, HB.out.drew⟩ | assumption) (first | (go_at_call 54; refine (compare_lt _ 0 _ 0 _ _ f g c _ HC.out HI.out HX.out (fun j hj => by rw [Nat.zero_add]; exact Blk.cell (And.left (by assumption)) hj) (fun j hj => by rw [Nat.zero_add]; exact Blk.cell (And.left (And.right (by assumption))) hj)).mono ?_; rintro e w6 ⟨rfl, rfl⟩) | fail)
      all_goals
        go_wp2_with fail
        go_ret
        exact ⟨by rw [HV.out]; rfl, And.right (And.right (by assumption))⟩
    · have HV : Hid (cmpV4 f g = 1) := by show _ = _; simp [cmpV4, hs, hl, show ¬ f c < g c by omega]
      have HC := Lib.hid hc
      have HI := Lib.hid hi
      have HX := Lib.hid hx
      clear hc hi hx hl hd hs
      go_enter Tryz.func80, Tryz.ntmps80
      go_wp2_with fail
      generalize (w.alloc (.cells (mk 4 f) 24)).alloc (.cells (mk 4 g) 24) = w4 at *
      go_region_held3 (fun w' => Blk w' w.heap.size 4 f 24 ∧ Blk w' (w.heap.size + 1) 4 g 24 ∧ Dr.Below w.heap.size w w') (first | exact ⟨K1.drew, K2.drew, HB.out.drew⟩ | assumption) (first | (go_at_call 54; refine (compare_gt _ 0 _ 0 _ _ f g c _ HC.out HI.out HX.out (fun j hj => by rw [Nat.zero_add]; exact Blk.cell (And.left (by assumption)) hj) (fun j hj => by rw [Nat.zero_add]; exact Blk.cell (And.left (And.right (by assumption))) hj)).mono ?_; rintro e w6 ⟨rfl, rfl⟩) | fail)
      all_goals
        go_wp2_with fail
        go_ret
        exact ⟨by rw [HV.out]; rfl, And.right (And.right (by assumption))⟩
theorem cmpLaysQ (b size : Nat) (w : World) : CmpLays Tryz.prog 80 #[] (encO 4) 4 (cfO 4) b 0 size w := fun m os dk _ x y => by
  have h := cmpQ_any (fn x.1) (fn y.1) (sortWorldK (encO 4) 4 w b 0 m dk os)
  rw [encO_mk, encO_mk, ← cmpQ_cf]
  exact h.mono fun e w' ⟨h1, h2⟩ => ⟨h1, h2.grow⟩
theorem sortQ_any (base b cap : Nat) (e : TypeId) (L : List (List Int)) (w : World) (hv : VdL 4 L) (hn : L.length ≤ 1048576) (ho : w.ownsRow base e 4 (.slice (some ⟨b, 0, none⟩) L.length cap) L.length (L.flatten.map (Value.int .i64))) :
    Calls Tryz.prog 79 #[.slice (some ⟨b, 0, none⟩) L.length cap, .func (.func 80) #[] #[]] w fun r w' => r = .returned (.tuple #[]) ∧
      w'.ownsRow base e 4 (.slice (some ⟨b, 0, none⟩) L.length cap) L.length ((srtL 4 L).flatten.map (Value.int .i64)) ∧ Below base w w' := by
  have eg : ∀ args w, (callFunc 80 args).run Tryz.prog w = .ok (.enter 80 args) w := enters_of Tryz.func80 (by kernel_rfl) rfl
  have hbl : b < w.heap.size := (ho.lt b rfl).2
  have hlen := flat_len hv.all
  have hH : HoldsK (encO 4) 4 w b 0 (toBo hv).toArray := fun j hj => by
    rw [flatK_list, toBo_map] at hj ⊢
    have hj' : j < L.length * 4 := by rw [List.size_toArray, List.length_map, hlen] at hj; exact hj
    rw [Nat.zero_add]
    refine ⟨?_, ho.frozenAt j⟩
    rw [ho.cellAt j hj', getElem!_pos _ j hj, List.getElem?_eq_getElem (by simpa using hj)]
    simp
  have hcon := AnyQ.slices_SortFunc_total Tryz.sortQ 4 Tryz.isAgg24 Tryz.sizeOf24 (encO 4) (encO_len 4) (encO_one 4) (cfO 4) (swoO 4) 80 #[] b 0 cap (toBo hv).toArray w eg (cmpLaysQ b _ w) hH hbl (by simp [toBo_len]; omega) (totO 4)
  change Calls Tryz.prog 79 _ _ _ at hcon
  rw [show ((toBo hv).toArray).size = L.length by simp [toBo_len]] at hcon
  refine hcon.mono fun r w' ⟨h1, n, os, h2⟩ => ⟨h1, ?_⟩
  have hd : ((toBo hv).mergeSort fun x y => !(ltOf (cfO 4)) y x).map (·.1) = srtL 4 L := by
    unfold srtL
    rw [List.map_mergeSort (s := fun x y => !lt 4 y x) (fun a _ b _ => by rw [cfO_lt]), toBo_map]
  rw [h2]
  exact sorted_own (srt_all hv.all) (srt_len 4 L) rfl ho _ hd os
end Go.Proofs.YtmcmpedmgibmkabGreat
