/-
  The contract of fallingCells in the program: the cells of a path, sorted by the falling numbers of a board.
-/
import Derived.Test.YtmcmpedmgibmkabSnakeSort
namespace Go.Proofs.Ytmcmpedmgibmkab
open Go.RowKit Plain
open Go.Sort hiding Below
attribute [local go_sem] store_new
set_option linter.unusedVariables false
set_option linter.unusedSimpArgs false
noncomputable section
/-- The places in order of falling numbers; equal ones as they were. -/
def fsD (f : Nat → Int) (d : Array (Fin 16)) : Array (Fin 16) := Sort.insertionSort (ltOf (cfP f)) d 0 16
end
theorem lt_cf (f : Nat → Int) (x y : Fin 16) : ltOf (cfP f) x y = decide (f y.1 < f x.1) := by
  unfold ltOf cfP cmpI
  by_cases h1 : f y.1 < f x.1
  · rw [if_pos h1, decide_eq_true h1]; rfl
  · rw [if_neg h1, decide_eq_false h1]
    by_cases h2 : f x.1 < f y.1
    · rw [if_pos h2]; rfl
    · rw [if_neg h2]; rfl
theorem swoF (f : Nat → Int) : SWO (ltOf (cfP f)) where
  irrefl x := by rw [lt_cf]; exact decide_eq_false (by omega)
  trans x y z h1 h2 := by
    rw [lt_cf, decide_eq_true_eq] at *
    omega
  ntrans x y z h1 h2 := by
    rw [lt_cf, decide_eq_false_iff_not] at *
    omega
theorem fs_holds (f : Nat → Int) (d : Array (Fin 16)) (hd : d.size = 16) : PermIn 0 16 d (fsD f d) ∧ SortedIn (ltOf (cfP f)) 0 16 (fsD f d) := insertionSort_holds (swoF f) d 0 16 (by omega) (by omega)
theorem fs_size (f : Nat → Int) (d : Array (Fin 16)) (hd : d.size = 16) : (fsD f d).size = 16 := (fs_holds f d hd).1.1.trans hd
theorem ins_any (f F : Nat → Int) (d : Array (Fin 16)) (bb b : Nat) (tb t : TypeId) (w : World) (Kb : Blk w bb 16 f tb) (K : Blk w b 32 (flP d) t) (hd : d.size = 16) (hne : bb ≠ b) :
    Calls Try.prog 75 #[.slice (some ⟨b, 0, none⟩) 16 16, .int .i64 0, .int .i64 16, .func (.func 53) #[] #[.pointer (some ⟨bb, 0, none⟩)]] w fun e w' =>
      e = .returned (.tuple #[]) ∧ Blk w' b 32 (flP (fsD f d)) t ∧ w.grownBy w' (some b) := by
  have eg : ∀ args w, (callFunc 53 args).run Try.prog w = .ok (.enter 53 args) w := enters_of Try.func53 (by kernel_rfl) rfl
  have hcmp : CmpLays Try.prog 53 #[.pointer (some ⟨bb, 0, none⟩)] encP 2 (cfP f) b 0 d.size w := fun m os dk hs x y => by
    obtain ⟨_, h2⟩ := sorted_blk (q := m) os K (show dk.size = 16 by rw [hs, hd])
    have hB : Blk (sortWorldK encP 2 w b 0 m dk os) bb 16 f tb := (h2.block bb Kb.lt (by intro e; cases e; exact hne rfl)).trans Kb
    exact (fallCmp_any f x y bb tb _ hB).mono fun e w' ⟨h1, h3⟩ => ⟨h1, Dr.Below.grow h3⟩
  have hcon := AnyQ.insertionSortCmpFunc Try.insC 2 Try.isAgg22 Try.sizeOf22 encP encP_len encP_one (cfP f) 53 #[.pointer (some ⟨bb, 0, none⟩)] b 0 16 0 16 d w eg hcmp (holds_path K hd) K.lt (by omega) (by omega) (by omega)
  change Calls Try.prog 75 _ _ _ at hcon
  rw [hd] at hcon
  refine hcon.mono fun e w' ⟨h1, n, os, h2⟩ => ?_
  obtain ⟨h3, h4⟩ := sorted_blk (q := n) os K (fs_size f d hd)
  exact ⟨h1, by rw [h2]; exact h3, by rw [h2]; exact h4⟩
set_option maxHeartbeats 1000000 in
theorem stable_any (f F : Nat → Int) (d : Array (Fin 16)) (bb b : Nat) (tb t : TypeId) (w : World) (Kb : Blk w bb 16 f tb) (K : Blk w b 32 (flP d) t) (hd : d.size = 16) (hne : bb ≠ b) :
    Calls Try.prog 64 #[.slice (some ⟨b, 0, none⟩) 16 16, .int .i64 16, .func (.func 53) #[] #[.pointer (some ⟨bb, 0, none⟩)]] w fun e w' =>
      e = .returned (.tuple #[]) ∧ Blk w' b 32 (flP (fsD f d)) t ∧ w.grownBy w' (some b) := by
  have HI := Lib.hid (ins_any f F d bb b tb t w Kb K hd hne)
  go_enter Try.func64, Try.ntmps64
  go_wp2_with fail
  go_loopg [8, 7] 0 (fun g s8 s7 wr => s8 = .int .i64 20 ∧ s7 = .int .i64 0 ∧ wr = w)
  case atStart => exact ⟨rfl, rfl, rfl⟩
  case round =>
    obtain ⟨rfl, rfl, rfl⟩ := hrel
    go_wp2_with fail
    refine HI.out.mono ?_
    rintro e w2 ⟨rfl, h1, h2⟩
    have H1 := Lib.hid h1
    have H2 := Lib.hid h2
    clear h1 h2
    go_wp2_with fail
    go_loopg [6] 0 (fun g s6 wr => s6 = .int .i64 20 ∧ wr = w2)
    case atStart => exact ⟨rfl, rfl⟩
    case round =>
      obtain ⟨rfl, rfl⟩ := hrel
      go_wp2_with fail
      go_end0
      exact ⟨rfl, H1.out, H2.out⟩
theorem sortStable_any (f F : Nat → Int) (d : Array (Fin 16)) (bb b : Nat) (tb t : TypeId) (w : World) (Kb : Blk w bb 16 f tb) (K : Blk w b 32 (flP d) t) (hd : d.size = 16) (hne : bb ≠ b) :
    Calls Try.prog 52 #[.slice (some ⟨b, 0, none⟩) 16 16, .func (.func 53) #[] #[.pointer (some ⟨bb, 0, none⟩)]] w fun e w' =>
      e = .returned (.tuple #[]) ∧ Blk w' b 32 (flP (fsD f d)) t ∧ w.grownBy w' (some b) := by
  have HI := Lib.hid (stable_any f F d bb b tb t w Kb K hd hne)
  go_enter Try.func52, Try.ntmps52
  go_wp2_with fail
  refine HI.out.mono ?_
  rintro e w2 ⟨rfl, h1, h2⟩
  have H1 := Lib.hid h1
  have H2 := Lib.hid h2
  clear h1 h2
  go_wp2_with fail
  go_end0
  exact ⟨rfl, H1.out, H2.out⟩
theorem run_copy_path {w : World} {g a : Nat} {F h : Nat → Int} {t : TypeId} (ty : TypeId) (K : Blk w g 32 F t) (R : CAt w a 32 h) :
    (Builtin.copy_ #[63, 63] ty #[.slice (some ⟨g, 0, none⟩) 16 16, .slice (some ⟨a, 0, none⟩) 16 16]).run Try.prog w = .ok (goInt 16) (w.setRow g (mk 32 h)) := by
  have hsrc : ∀ j v, (mk 32 h).toList[j]? = some v → w.cell? ((⟨a, 0, none⟩ : Addr).add j) = some v := fun j v hj => by
    have hj32 : j < 32 := by
      rcases Nat.lt_or_ge j 32 with q | q
      · exact q
      · rw [Array.getElem?_toList, mk_out h q] at hj; cases hj
    rw [Array.getElem?_toList, mk_get h hj32] at hj
    cases hj
    rw [Addr.add_mid, Nat.zero_add]
    exact R.2 j hj32
  have hl := run_loadCells_list (P := Try.prog) w ⟨a, 0, none⟩ (mk 32 h).toList hsrc
  have hst := run_storeCells_at Try.prog g 0 t (mk 32 h).toList 0 (mk 32 F) w K (by simp [mk_size]) (fun v hv => by
    obtain ⟨i, _, rfl⟩ := mk_mem (by simpa using hv)
    rfl)
  cases hq : Try.prog.info? 22 with
  | none => have := sizeC; simp [hq] at this
  | some i =>
    have hi : i.size = 2 := by have := sizeC; simpa [hq] using this
    have e1 : (List.take (0 + 0) (mk 32 F).toList ++ (mk 32 h).toList ++ List.drop (0 + 0 + (mk 32 h).toList.length) (mk 32 F).toList).toArray = mk 32 h := by
      rw [mk_len, List.drop_eq_nil_of_le (by rw [mk_len]; omega)]
      simp
    rw [e1] at hst
    have hn : (mk 32 h).toList.length = 32 := mk_len 32 h
    rw [hn] at hl
    simp [Builtin.copy_, run_underlying Try.underlying63, Builtin.lenOf, Builtin.firstCells, sizeOf, typeInfo, hq, hi, hl, hst]
set_option maxHeartbeats 4000000 in
set_option maxRecDepth 20000 in
theorem falling_any (f : Nat → Int) (d : Array (Fin 16)) (bp : Nat) (w : World) (R : CAt w bp 32 (flP d)) (hd : d.size = 16) :
    Calls Try.prog 36 #[.agg (mk 16 f), .slice (some ⟨bp, 0, none⟩) 16 16] w fun e w' => e = .returned (.agg (mk 32 (flP (fsD f d)))) ∧ Below w.heap.size w w' := by
  have z32 := zero32
  have z16 := zero16
  have K2 := ((Blk.new w 16 f 35).alloc (.cells (mk 32 fun _ => 0) 23)).alloc (.cells (mk 32 fun _ => 0) 23)
  have K4 := (Blk.new (w.alloc (.cells (mk 16 f) 35)) 32 (fun _ => 0) 23).alloc (.cells (mk 32 fun _ => 0) 23)
  have K5 := Blk.new ((w.alloc (.cells (mk 16 f) 35)).alloc (.cells (mk 32 fun _ => 0) 23)) 32 (fun _ => 0) 23
  have HB := Lib.hid ((((Below.refl w.heap.size w).alloc (Nat.le_refl _) (.cells (mk 16 f) 35)).alloc (by simp) (.cells (mk 32 fun _ => 0) 23)).alloc (by simp; omega) (.cells (mk 32 fun _ => 0) 23))
  simp only [World.size_alloc] at K4 K5
  have KS := K5.row 32 fun _ => 0
  have HB : Hid (Below w.heap.size w ((((w.alloc (.cells (mk 16 f) 35)).alloc (.cells (mk 32 fun _ => 0) 23)).alloc (.cells (mk 32 fun _ => 0) 23)).setRow (w.heap.size + 1 + 1) (mk 32 fun _ => 0))) := below_setRow HB.out (by omega) _
  have R := R.below HB.out
  have hcp := run_copy_path 3 KS R
  have K2s := K2.rowOther (w.heap.size + 1 + 1) (mk 32 fun _ => 0) (by omega)
  have K4s := K4.rowOther (w.heap.size + 1 + 1) (mk 32 fun _ => 0) (by omega)
  go_enter Try.func36, Try.ntmps36
  go_wp2_with ((with_reducible show wpList _ _ _ (Oper.mk _ (Op.store 23 _ _) _ _ _ _ :: _) _ _); refine storeP (K5) rfl rfl rfl rfl ?_)
  have K2 := K2s.rowOther (w.heap.size + 1 + 1) (mk 32 (flP d)) (by omega)
  have K4 := K4s.rowOther (w.heap.size + 1 + 1) (mk 32 (flP d)) (by omega)
  have K5 := KS.row 32 (flP d)
  have HB := below_setRow HB.out (show w.heap.size ≤ w.heap.size + 1 + 1 by omega) (mk 32 (flP d))
  have HB := Lib.hid HB
  clear K2s K4s KS hcp R z16 z32
  generalize ((((w.alloc (.cells (mk 16 f) 35)).alloc (.cells (mk 32 fun _ => 0) 23)).alloc (.cells (mk 32 fun _ => 0) 23)).setRow (w.heap.size + 1 + 1) (mk 32 fun _ => 0)).setRow (w.heap.size + 1 + 1) (mk 32 (flP d)) = w1 at *
  refine (sortStable_any f f d w.heap.size (w.heap.size + 1 + 1) _ _ w1 K2 K5 hd (by omega)).mono ?_
  rintro e w2 ⟨rfl, K5, hg⟩
  have K4 : Blk w2 (w.heap.size + 1) 32 (fun _ => 0) 23 := (hg.block _ K4.lt (by intro e; have := Option.some.inj e; omega)).trans K4
  have HB : Hid (Below w.heap.size w w2) := HB.out.grown hg (by have := HB.out.size; omega) (fun k e => by cases e; omega)
  clear hg K2
  go_wp2_with (first | ((with_reducible show wpList _ _ _ (Oper.mk _ (Op.load 23 _) _ _ _ _ :: _) _ _); refine loadP (K5) rfl rfl rfl ?_) | ((with_reducible show wpList _ _ _ (Oper.mk _ (Op.store 23 _ _) _ _ _ _ :: _) _ _); refine storeP (K4) rfl rfl rfl rfl ?_))
  try simp only [Act.put, List.setIfInBounds_toArray, List.set_cons_zero, List.set_cons_succ]
  try simp only [Exit.inBlock, Exit.then]
  refine retcP (p := 4) (t := 23) (b := w.heap.size + 1) (f := flP (fsD f d)) ?_ ?_ ?_ ?_ ?_
  · exact K4.row 32 (flP (fsD f d))
  · rfl
  · rfl
  · rfl
  · exact ⟨rfl, below_setRow HB.out (by omega) (mk 32 (flP (fsD f d)))⟩
/-- The places of a snake. -/
def dpF (k : Nat) : Array (Fin 16) := (Array.range 16).map fun i => ⟨plP k i % 16, Nat.mod_lt _ (by decide)⟩
theorem dp_size (k : Nat) : (dpF k).size = 16 := by simp [dpF]
theorem dp_at {k i : Nat} (hk : k < 8) (hi : i < 16) : (dpF k)[i]!.1 = plP k i := by
  have h := plP_lt hk hi
  have hs : i < (dpF k).size := by rw [dp_size]; exact hi
  rw [getElem!_pos _ i hs]
  have e : (dpF k)[i] = ⟨plP k i % 16, Nat.mod_lt _ (by decide)⟩ := by simp [dpF]
  rw [e]
  show plP k i % 16 = plP k i
  omega
theorem dp_flat {k : Nat} (hk : k < 8) : ∀ j, j < 32 → flP (dpF k) j = spF k j := fun j hj => by
  unfold flP
  rw [dp_at hk (show j / 2 < 16 by omega)]
  rfl
/-- In order along the snake: the sort leaves the path as it is. -/
theorem fs_same {f : Nat → Int} {d : Array (Fin 16)} (h : ∀ i, 1 ≤ i → i < 16 → ¬ f (d[i - 1]!.1) < f (d[i]!.1)) : fsD f d = d := by
  unfold fsD Sort.insertionSort
  have key : ∀ g i, i + g = 16 → 1 ≤ i → insOuter (ltOf (cfP f)) 0 16 i d = d := by
    intro g
    induction g with
    | zero => intro i hi h1; exact insOuter_stop _ _ _ _ _ (by omega)
    | succ g ih =>
      intro i hi h1
      rw [insOuter_go _ _ _ _ _ (show i < 16 by omega), insInner_stop _ _ _ _ (Or.inr (by rw [lt_cf]; exact decide_eq_false (h i h1 (by omega))))]
      exact ih (i + 1) (by omega) (by omega)
  exact key 15 1 (by omega) (by omega)
theorem fl_inj {d e : Array (Fin 16)} (hd : d.size = 16) (he : e.size = 16) (h : ∀ j, j < 32 → flP d j = flP e j) : d = e := by
  apply Array.ext
  · rw [hd, he]
  · intro i h1 h2
    have hi : i < 16 := by omega
    have a0 := h (i * 2) (by omega)
    have a1 := h (i * 2 + 1) (by omega)
    unfold flP at a0 a1
    rw [if_pos (by omega), if_pos (by omega), show i * 2 / 2 = i by omega] at a0
    rw [if_neg (by omega), if_neg (by omega), show (i * 2 + 1) / 2 = i by omega] at a1
    rw [getElem!_pos _ i h1, getElem!_pos _ i h2] at a0 a1
    apply Fin.ext
    omega
/-- The sorted path is the path just if the board is in order along it. -/
theorem fs_ord {f : Nat → Int} {k : Nat} (hk : k < 8) : (∀ j, j < 32 → flP (fsD f (dpF k)) j = spF k j) ↔ ordF f k = true := by
  constructor
  · intro h
    have e : fsD f (dpF k) = dpF k := fl_inj (fs_size f _ (dp_size k)) (dp_size k) fun j hj => by rw [h j hj, dp_flat hk j hj]
    have hs := (fs_holds f (dpF k) (dp_size k)).2
    rw [e] at hs
    unfold ordF
    have key : ∀ n, n ≤ 15 → ordG (fun i => f (plP k i)) n = true := by
      intro n
      induction n with
      | zero => intro _; rfl
      | succ n ih =>
        intro hn
        refine ordG_yes (ih (by omega)) ?_
        have := hs n (n + 1) (by omega) (by omega) (by omega)
        rw [lt_cf, decide_eq_false_iff_not, dp_at hk (by omega), dp_at hk (by omega)] at this
        show f (plP k (n + 1)) ≤ f (plP k n)
        omega
    exact key 15 (by omega)
  · intro h j hj
    have e : fsD f (dpF k) = dpF k := fs_same fun i h1 h2 => by
      rw [dp_at hk (by omega), dp_at hk h2]
      have := ordG_at (h := fun i => f (plP k i)) h (i - 1) (by omega)
      rw [show i - 1 + 1 = i by omega] at this
      have : f (plP k i) ≤ f (plP k (i - 1)) := this
      omega
    rw [e, dp_flat hk j hj]
end Go.Proofs.Ytmcmpedmgibmkab
