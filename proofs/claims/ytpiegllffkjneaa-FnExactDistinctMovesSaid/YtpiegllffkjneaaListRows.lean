/-
  Rows of boards, and of rows of four numbers, told by lists of lists of numbers; and the contracts of the laws' helpers on them. No condition.
-/
import Derived.Test.YtpiegllffkjneaaOrder
import Derived.Test.YtpiegllffkjneaaMoves
import Derived.Test.YtpiegllffkjneaaEmpty
import Derived.Test.YtpiegllffkjneaaIntRows
import Derived.Test.YtpiegllffkjneaaConv
import Derived.Test.YtpiegllffkjneaaCellRows
import Derived.Deep.RegionHeld3
namespace Go.Proofs.Ytpiegllffkjneaa
open Go.RowKit Plain
attribute [local go_sem] Oper.semAt_some
set_option linter.unusedVariables false
set_option linter.unusedSimpArgs false

/-- All lists are m numbers long. -/
def AllL (m : Nat) (L : List (List Int)) : Prop := ∀ l, l ∈ L → l.length = m
theorem AllL.nil (m : Nat) : AllL m [] := fun _ h => by cases h
theorem AllL.snoc {m : Nat} {L : List (List Int)} (h : AllL m L) {l : List Int} (hl : l.length = m) : AllL m (L ++ [l]) := fun x hx => by
  rcases List.mem_append.1 hx with h1 | h1
  · exact h x h1
  · obtain rfl : x = l := by simpa using h1
    exact hl
theorem AllL.ins {m : Nat} {L : List (List Int)} (h : AllL m L) {l : List Int} (hl : l.length = m) : AllL m (insL (lt m) L l) := fun x hx => by
  rcases (ins_mem _ L l x).1 hx with h1 | rfl
  · exact h x h1
  · exact hl
theorem flat_len {m : Nat} : ∀ {L : List (List Int)}, AllL m L → L.flatten.length = L.length * m
  | [], _ => by simp
  | l :: L, h => by
    rw [List.flatten_cons, List.length_append, h l (by simp), flat_len (L := L) (fun x hx => h x (by simp [hx])), List.length_cons, Nat.add_mul, Nat.one_mul, Nat.add_comm]
theorem flat_at {m : Nat} : ∀ {L : List (List Int)}, AllL m L → ∀ (i c : Nat) (l : List Int), L[i]? = some l → c < m → L.flatten[i * m + c]? = l[c]?
  | [], _, i, c, l, h, _ => by simp at h
  | x :: L, ha, 0, c, l, h, hc => by
    simp at h; subst h
    have := ha x (by simp)
    rw [List.flatten_cons, Nat.zero_mul, Nat.zero_add, List.getElem?_append_left (by omega)]
  | x :: L, ha, i + 1, c, l, h, hc => by
    have h1 := ha x (by simp)
    have h2 := flat_at (L := L) (fun y hy => ha y (by simp [hy])) i c l (by simpa using h) hc
    have e : (i + 1) * m + c = m + (i * m + c) := by rw [Nat.add_mul, Nat.one_mul]; omega
    rw [List.flatten_cons, e, List.getElem?_append_right (by omega), ← h2]
    congr 1; omega
/-- The numbers of a row of lists. -/
def flatF (L : List (List Int)) : Nat → Int := fun j => L.flatten.getD j 0
theorem flatF_at {m : Nat} {L : List (List Int)} (ha : AllL m L) {i : Nat} {l : List Int} (h : L[i]? = some l) {c : Nat} (hc : c < m) : flatF L (i * m + c) = fn l c := by
  unfold flatF fn
  rw [List.getD_eq_getElem?_getD, List.getD_eq_getElem?_getD, flat_at ha i c l h hc]
theorem flatF_mk {m : Nat} {L : List (List Int)} (ha : AllL m L) {i : Nat} {l : List Int} (h : L[i]? = some l) : mk m (fun c => flatF L (i * m + c)) = mk m (fn l) := mk_congr fun c hc => flatF_at ha h hc
theorem flat_mk {m : Nat} {L : List (List Int)} (ha : AllL m L) : L.flatten.map (Value.int .i64) = (mk (L.length * m) (flatF L)).toList := by
  rw [← flat_len ha]; exact ints_mk L.flatten
theorem mk_cl (m : Nat) (f : Nat → Int) : (cl m f).map (Value.int .i64) = (mk m f).toList := by simp [cl, mk]

/-- The slice value v owns a row of lists, in blocks from base on. -/
def OwnsL (t : TypeId) (m : Nat) (w : World) (base : Nat) (v : Value) (L : List (List Int)) : Prop := w.ownsRow base t m v L.length (L.flatten.map (Value.int .i64))
/-- The value v is a slice of n elements of m numbers each, told by a function of their places. -/
def KRow (m : Nat) (w : World) (v : Value) (n : Nat) (h : Nat → Int) : Prop := ∃ g cap, v = .slice (some ⟨g, 0, none⟩) n cap ∧ n ≤ cap ∧ CAt w g (n * m) h
theorem KRow.below {m : Nat} {w w' : World} {v : Value} {n : Nat} {h : Nat → Int} (r : KRow m w v n h) (hb : Below w.heap.size w w') : KRow m w' v n h := by
  obtain ⟨g, cap, rfl, h0, h1⟩ := r
  exact ⟨g, cap, rfl, h0, h1.below hb⟩
theorem KRow.of_own {m : Nat} {w : World} {base g cap n : Nat} {h : Nat → Int} {t : TypeId} (o : w.ownsRow base t m (.slice (some ⟨g, 0, none⟩) n cap) n (mk (n * m) h).toList) : KRow m w (.slice (some ⟨g, 0, none⟩) n cap) n h := by
  have hlt := (o.lt g rfl).2
  have hcap : n ≤ cap := by
    rcases o.2 with ⟨h2, _⟩ | ⟨g', cap', cur, h2, _, _, h3, _⟩
    · cases h2
    · cases h2; exact h3
  refine ⟨g, cap, rfl, hcap, hlt, fun j hj => ?_⟩
  rw [o.cellAt j hj, Array.getElem?_toList]
  exact mk_get h hj
theorem KRow.of_list {m : Nat} {w : World} {base g cap : Nat} {L : List (List Int)} {t : TypeId} (ha : AllL m L) (o : OwnsL t m w base (.slice (some ⟨g, 0, none⟩) L.length cap) L) : KRow m w (.slice (some ⟨g, 0, none⟩) L.length cap) L.length (flatF L) := by
  unfold OwnsL at o
  rw [flat_mk ha] at o
  exact KRow.of_own o

set_option maxHeartbeats 2000000 in
set_option maxRecDepth 20000 in
theorem eqS_yes (v u : Value) (n : Nat) (h : Nat → Int) (w : World) (hv : KRow 16 w v n h) (hu : KRow 16 w u n h) (hn : n ≤ 1048576) :
    Calls Try.prog 77 #[v, u] w fun e w' => e = .returned (.bool true) ∧ Below w.heap.size w w' := by
  obtain ⟨b1, c1, rfl, hc1, k1⟩ := hv
  obtain ⟨b2, c2, rfl, hc2, k2⟩ := hu
  go_enter Try.func77, Try.ntmps77
  go_wp2
  go_loopw [5] (fun i wr => ∃ k : Nat, k ≤ n ∧ i = .int .i64 k ∧ CAt wr b1 (n * 16) h ∧ CAt wr b2 (n * 16) h ∧ Hid (Below w.heap.size w wr)) (fun i _ => n - (intOf i).toNat)
  case atStart => exact ⟨0, Nat.zero_le _, rfl, k1, k2, Lib.hid (Below.refl _ _)⟩
  case round =>
    obtain ⟨k, hk, rfl, k1, k2, hb⟩ := hrel
    by_cases hlt : k < n
    · have hk0 : (0 : Int) ≤ (k : Int) := by omega
      have hl : (k : Int) < (n : Int) := by omega
      have a0 := fun (W : World) (q : CAt W b1 (n * 16) h) => q.2 (k * 16) (by omega)
      have a1 := fun (W : World) (q : CAt W b1 (n * 16) h) => q.2 (k * 16 + 1) (by omega)
      have a2 := fun (W : World) (q : CAt W b1 (n * 16) h) => q.2 (k * 16 + 2) (by omega)
      have a3 := fun (W : World) (q : CAt W b1 (n * 16) h) => q.2 (k * 16 + 3) (by omega)
      have a4 := fun (W : World) (q : CAt W b1 (n * 16) h) => q.2 (k * 16 + 4) (by omega)
      have a5 := fun (W : World) (q : CAt W b1 (n * 16) h) => q.2 (k * 16 + 5) (by omega)
      have a6 := fun (W : World) (q : CAt W b1 (n * 16) h) => q.2 (k * 16 + 6) (by omega)
      have a7 := fun (W : World) (q : CAt W b1 (n * 16) h) => q.2 (k * 16 + 7) (by omega)
      have a8 := fun (W : World) (q : CAt W b1 (n * 16) h) => q.2 (k * 16 + 8) (by omega)
      have a9 := fun (W : World) (q : CAt W b1 (n * 16) h) => q.2 (k * 16 + 9) (by omega)
      have a10 := fun (W : World) (q : CAt W b1 (n * 16) h) => q.2 (k * 16 + 10) (by omega)
      have a11 := fun (W : World) (q : CAt W b1 (n * 16) h) => q.2 (k * 16 + 11) (by omega)
      have a12 := fun (W : World) (q : CAt W b1 (n * 16) h) => q.2 (k * 16 + 12) (by omega)
      have a13 := fun (W : World) (q : CAt W b1 (n * 16) h) => q.2 (k * 16 + 13) (by omega)
      have a14 := fun (W : World) (q : CAt W b1 (n * 16) h) => q.2 (k * 16 + 14) (by omega)
      have a15 := fun (W : World) (q : CAt W b1 (n * 16) h) => q.2 (k * 16 + 15) (by omega)
      have d0 := fun (W : World) (q : CAt W b2 (n * 16) h) => q.2 (k * 16) (by omega)
      have d1 := fun (W : World) (q : CAt W b2 (n * 16) h) => q.2 (k * 16 + 1) (by omega)
      have d2 := fun (W : World) (q : CAt W b2 (n * 16) h) => q.2 (k * 16 + 2) (by omega)
      have d3 := fun (W : World) (q : CAt W b2 (n * 16) h) => q.2 (k * 16 + 3) (by omega)
      have d4 := fun (W : World) (q : CAt W b2 (n * 16) h) => q.2 (k * 16 + 4) (by omega)
      have d5 := fun (W : World) (q : CAt W b2 (n * 16) h) => q.2 (k * 16 + 5) (by omega)
      have d6 := fun (W : World) (q : CAt W b2 (n * 16) h) => q.2 (k * 16 + 6) (by omega)
      have d7 := fun (W : World) (q : CAt W b2 (n * 16) h) => q.2 (k * 16 + 7) (by omega)
      have d8 := fun (W : World) (q : CAt W b2 (n * 16) h) => q.2 (k * 16 + 8) (by omega)
      have d9 := fun (W : World) (q : CAt W b2 (n * 16) h) => q.2 (k * 16 + 9) (by omega)
      have d10 := fun (W : World) (q : CAt W b2 (n * 16) h) => q.2 (k * 16 + 10) (by omega)
      have d11 := fun (W : World) (q : CAt W b2 (n * 16) h) => q.2 (k * 16 + 11) (by omega)
      have d12 := fun (W : World) (q : CAt W b2 (n * 16) h) => q.2 (k * 16 + 12) (by omega)
      have d13 := fun (W : World) (q : CAt W b2 (n * 16) h) => q.2 (k * 16 + 13) (by omega)
      have d14 := fun (W : World) (q : CAt W b2 (n * 16) h) => q.2 (k * 16 + 14) (by omega)
      have d15 := fun (W : World) (q : CAt W b2 (n * 16) h) => q.2 (k * 16 + 15) (by omega)
      have e2 : (#[.int .i64 (h (k * 16)), .int .i64 (h (k * 16 + 1)), .int .i64 (h (k * 16 + 2)), .int .i64 (h (k * 16 + 3)), .int .i64 (h (k * 16 + 4)), .int .i64 (h (k * 16 + 5)), .int .i64 (h (k * 16 + 6)), .int .i64 (h (k * 16 + 7)), .int .i64 (h (k * 16 + 8)), .int .i64 (h (k * 16 + 9)), .int .i64 (h (k * 16 + 10)), .int .i64 (h (k * 16 + 11)), .int .i64 (h (k * 16 + 12)), .int .i64 (h (k * 16 + 13)), .int .i64 (h (k * 16 + 14)), .int .i64 (h (k * 16 + 15))] : Array Value) = mk 16 (fun j => h (k * 16 + j)) := rfl
      go_wp2_with fail
      go_region_held3 (fun w' => CAt w' b1 (n * 16) h ∧ CAt w' b2 (n * 16) h ∧ Below w.heap.size w w') (first | exact ⟨k1, k2, hb.out.drew⟩ | assumption) (first | (go_at_call 146; refine (eqBoard_same _ _).mono ?_; rintro e w6 ⟨rfl, hb6⟩; have J := heldC_step (by assumption) hb6; clear hb6) | fail)
      all_goals
        clear a0 a1 a2 a3 a4 a5 a6 a7 a8 a9 a10 a11 a12 a13 a14 a15 d0 d1 d2 d3 d4 d5 d6 d7 d8 d9 d10 d11 d12 d13 d14 d15 e2
        go_wp2_with fail
        go_roundw
        case rel => exact ⟨k + 1, by omega, by go_num, And.left (by assumption), And.left (And.right (by assumption)), And.right (And.right (by assumption))⟩
        case measure => simp [intOf]; omega
    · go_wp2
      go_ret
      exact ⟨rfl, hb.out⟩

theorem markS_any (g cap n : Nat) (w : World) (hn : n ≤ 1048576) :
    Calls Try.prog 78 #[.slice (some ⟨g, 0, none⟩) n cap, .int .i64 1] w fun e w' => e = .returned (.int .i64 1) ∧ w = w' := by
  go_enter Try.func78, Try.ntmps78
  go_wp2
  go_loop [5] (fun i => ∃ k : Nat, k ≤ n ∧ i = .int .i64 k) (fun i => n - (intOf i).toNat)
  case atStart => exact ⟨0, Nat.zero_le _, rfl⟩
  case round =>
    obtain ⟨k, hk, rfl⟩ := hrel
    by_cases hlt : k < n
    · have hk0 : (0 : Int) ≤ (k : Int) := by omega
      have hl : (k : Int) < (n : Int) := by omega
      go_wp2
      go_round
      case rel => exact ⟨k + 1, by omega, by go_num⟩
      case measure => simp [intOf]; omega
    · obtain rfl : k = n := by omega
      go_wp2
      go_ret
      exact ⟨rfl, rfl⟩

theorem heldS_any (g cap n : Nat) (w : World) (hn : n ≤ 1048576) :
    Calls Try.prog 79 #[.slice (some ⟨g, 0, none⟩) n cap, .int .i64 1] w fun e w' => e = .returned (.int .i64 1) ∧ w = w' := by
  go_enter Try.func79, Try.ntmps79
  go_wp2
  go_loop [5] (fun i => ∃ k : Nat, k ≤ n ∧ i = .int .i64 k) (fun i => n - (intOf i).toNat)
  case atStart => exact ⟨0, Nat.zero_le _, rfl⟩
  case round =>
    obtain ⟨k, hk, rfl⟩ := hrel
    by_cases hlt : k < n
    · have hk0 : (0 : Int) ≤ (k : Int) := by omega
      have hl : (k : Int) < (n : Int) := by omega
      go_wp2
      go_round
      case rel => exact ⟨k + 1, by omega, by go_num⟩
      case measure => simp [intOf]; omega
    · obtain rfl : k = n := by omega
      go_wp2
      go_ret
      exact ⟨rfl, rfl⟩

set_option maxHeartbeats 2000000 in
set_option maxRecDepth 20000 in
theorem eqQ_yes (v u : Value) (n : Nat) (h : Nat → Int) (w : World) (hv : KRow 4 w v n h) (hu : KRow 4 w u n h) (hn : n ≤ 1048576) :
    Calls Try.prog 84 #[v, u] w fun e w' => e = .returned (.bool true) ∧ Below w.heap.size w w' := by
  obtain ⟨b1, c1, rfl, hc1, k1⟩ := hv
  obtain ⟨b2, c2, rfl, hc2, k2⟩ := hu
  go_enter Try.func84, Try.ntmps84
  go_wp2
  go_loopw [5] (fun i wr => ∃ k : Nat, k ≤ n ∧ i = .int .i64 k ∧ CAt wr b1 (n * 4) h ∧ CAt wr b2 (n * 4) h ∧ Hid (Below w.heap.size w wr)) (fun i _ => n - (intOf i).toNat)
  case atStart => exact ⟨0, Nat.zero_le _, rfl, k1, k2, Lib.hid (Below.refl _ _)⟩
  case round =>
    obtain ⟨k, hk, rfl, k1, k2, hb⟩ := hrel
    by_cases hlt : k < n
    · have hk0 : (0 : Int) ≤ (k : Int) := by omega
      have hl : (k : Int) < (n : Int) := by omega
      have a0 := fun (W : World) (q : CAt W b1 (n * 4) h) => q.2 (k * 4) (by omega)
      have a1 := fun (W : World) (q : CAt W b1 (n * 4) h) => q.2 (k * 4 + 1) (by omega)
      have a2 := fun (W : World) (q : CAt W b1 (n * 4) h) => q.2 (k * 4 + 2) (by omega)
      have a3 := fun (W : World) (q : CAt W b1 (n * 4) h) => q.2 (k * 4 + 3) (by omega)
      have d0 := fun (W : World) (q : CAt W b2 (n * 4) h) => q.2 (k * 4) (by omega)
      have d1 := fun (W : World) (q : CAt W b2 (n * 4) h) => q.2 (k * 4 + 1) (by omega)
      have d2 := fun (W : World) (q : CAt W b2 (n * 4) h) => q.2 (k * 4 + 2) (by omega)
      have d3 := fun (W : World) (q : CAt W b2 (n * 4) h) => q.2 (k * 4 + 3) (by omega)
      have e2 : (#[.int .i64 (h (k * 4)), .int .i64 (h (k * 4 + 1)), .int .i64 (h (k * 4 + 2)), .int .i64 (h (k * 4 + 3))] : Array Value) = mk 4 (fun j => h (k * 4 + j)) := rfl
      go_wp2_with fail
      go_region_held3 (fun w' => CAt w' b1 (n * 4) h ∧ CAt w' b2 (n * 4) h ∧ Below w.heap.size w w') (first | exact ⟨k1, k2, hb.out.drew⟩ | assumption) (first | (go_at_call 147; refine (eqIntA4_same _ _).mono ?_; rintro e w6 ⟨rfl, hb6⟩; have J := heldC_step (by assumption) hb6; clear hb6) | fail)
      all_goals
        clear a0 a1 a2 a3 d0 d1 d2 d3 e2
        go_wp2_with fail
        go_roundw
        case rel => exact ⟨k + 1, by omega, by go_num, And.left (by assumption), And.left (And.right (by assumption)), And.right (And.right (by assumption))⟩
        case measure => simp [intOf]; omega
    · go_wp2
      go_ret
      exact ⟨rfl, hb.out⟩

set_option maxHeartbeats 1000000 in
theorem markQ_row (g cap n base : Nat) (h : Nat → Int) (w : World) (ho : w.ownsRow base 24 4 (.slice (some ⟨g, 0, none⟩) n cap) n (mk (n * 4) h).toList) (hn : n ≤ 1048576) :
    Calls Try.prog 85 #[.slice (some ⟨g, 0, none⟩) n cap, .int .i64 1] w fun e w' => e = .returned (.int .i64 (1 + n * 4 : Nat)) ∧
      w'.ownsRow base 24 4 (.slice (some ⟨g, 0, none⟩) n cap) n (mk (n * 4) fun j => ((1 + j : Nat) : Int)).toList ∧ Below base w w' := by
  have hgb : base ≤ g := (ho.lt g rfl).1
  have HO : Hid (w.ownsRow base 24 4 (.slice (some ⟨g, 0, none⟩) n cap) n (mk (n * 4) (mixI h 0)).toList) := by
    show w.ownsRow _ _ _ _ _ _
    rw [mixI_zero]; exact ho
  clear ho
  go_enter Try.func85, Try.ntmps85
  go_wp2
  go_loopw [1, 5] (fun q i wr => ∃ k : Nat, k ≤ n ∧ i = .int .i64 k ∧ q = .int .i64 (1 + k * 4 : Nat) ∧ wr.ownsRow base 24 4 (.slice (some ⟨g, 0, none⟩) n cap) n (mk (n * 4) (mixI h (k * 4))).toList ∧ Below base w wr) (fun _ i _ => n - (intOf i).toNat)
  case atStart => exact ⟨0, Nat.zero_le _, rfl, rfl, HO.out, Below.refl _ _⟩
  case round =>
    obtain ⟨k, hk, rfl, rfl, hown, hbel⟩ := hrel
    have HB := Lib.hid hbel
    have HW := Lib.hid hown
    clear hbel hown
    by_cases hlt : k < n
    · have hk0 : (0 : Int) ≤ (k : Int) := by omega
      have hl : (k : Int) < (n : Int) := by omega
      go_wp2_with fail
      go_loopw [1, 6] (fun q i wx => ∃ j : Nat, j ≤ 4 ∧ i = .int .i64 j ∧ q = .int .i64 (1 + (k * 4 + j) : Nat) ∧ wx.ownsRow base 24 4 (.slice (some ⟨g, 0, none⟩) n cap) n (mk (n * 4) (mixI h (k * 4 + j))).toList ∧ Below base w wx) (fun _ i _ => 4 - (intOf i).toNat)
      case atStart => exact ⟨0, Nat.zero_le _, rfl, rfl, HW.out, HB.out⟩
      case round =>
        obtain ⟨j, hj, rfl, rfl, hown, hbel⟩ := hrel
        have HB := Lib.hid hbel
        clear hbel
        by_cases hj2 : j < 4
        · have hj0 : (0 : Int) ≤ (j : Int) := by omega
          have hjl : (j : Int) < 4 := by omega
          have hd : wr.cell? ⟨g, k * 4 + j, none⟩ = some (.int .i64 (mixI h (k * 4 + j) (k * 4 + j))) := by
            rw [hown.cellAt (k * 4 + j) (by omega), Array.getElem?_toList]; exact mk_get _ (by omega)
          have hf := hown.frozenAt (k * 4 + j)
          have hst := hown.stored (k * 4 + j) (.int .i64 ((1 + (k * 4 + j) : Nat) : Int))
          rw [← Array.toList_setIfInBounds, mk_set _ _ (by omega), mixI_step] at hst
          have HST := Lib.hid hst
          generalize mixI h (k * 4 + j) (k * 4 + j) = u0 at hd
          clear hst hown
          go_wp2
          go_roundw
          case rel => exact ⟨j + 1, by omega, by go_num, by go_num, HST.out.1, HB.out.setCell (p := ⟨g, k * 4 + j, none⟩) hgb _⟩
          case measure => simp [intOf]; omega
        · obtain rfl : j = 4 := by omega
          have HW := Lib.hid hown
          clear hown
          have HE : Hid (k * 4 + 4 = (k + 1) * 4) := by show _ = _; omega
          go_wp2
          go_roundw
          case rel => exact ⟨k + 1, by omega, by go_num, by go_num, by rw [← HE.out]; exact HW.out, HB.out⟩
          case measure => simp [intOf]; omega
    · obtain rfl : k = n := by omega
      go_wp2
      go_ret
      refine ⟨rfl, ?_, HB.out⟩
      have := HW.out
      rw [mixI_end] at this
      exact this

set_option maxHeartbeats 1000000 in
theorem heldQ_row (v : Value) (n : Nat) (w : World) (hv : KRow 4 w v n fun j => ((1 + j : Nat) : Int)) (hn : n ≤ 1048576) :
    Calls Try.prog 86 #[v, .int .i64 1] w fun e w' => e = .returned (.int .i64 (1 + n * 4 : Nat)) ∧ w = w' := by
  obtain ⟨b, c, rfl, _, _, hc⟩ := hv
  have HC := Lib.hid hc
  clear hc
  go_enter Try.func86, Try.ntmps86
  go_wp2
  go_loop [1, 5] (fun q i => ∃ k : Nat, k ≤ n ∧ i = .int .i64 k ∧ q = .int .i64 (1 + k * 4 : Nat)) (fun _ i => n - (intOf i).toNat)
  case atStart => exact ⟨0, Nat.zero_le _, rfl, rfl⟩
  case round =>
    obtain ⟨k, hk, rfl, rfl⟩ := hrel
    by_cases hlt : k < n
    · have hk0 : (0 : Int) ≤ (k : Int) := by omega
      have hl : (k : Int) < (n : Int) := by omega
      go_wp2
      go_loop [1, 6] (fun q i => ∃ j : Nat, j ≤ 4 ∧ i = .int .i64 j ∧ q = .int .i64 (1 + (k * 4 + j) : Nat)) (fun _ i => 4 - (intOf i).toNat)
      case atStart => exact ⟨0, Nat.zero_le _, rfl, rfl⟩
      case round =>
        obtain ⟨j, hj, rfl, rfl⟩ := hrel
        by_cases hj2 : j < 4
        · have hj0 : (0 : Int) ≤ (j : Int) := by omega
          have hjl : (j : Int) < 4 := by omega
          have e1 := HC.out (k * 4 + j) (by omega)
          go_wp2
          go_round
          case rel => exact ⟨j + 1, by omega, by go_num, by go_num⟩
          case measure => simp [intOf]; omega
        · obtain rfl : j = 4 := by omega
          go_wp2
          go_round
          case rel => exact ⟨k + 1, by omega, by go_num, by go_num⟩
          case measure => simp [intOf]; omega
    · obtain rfl : k = n := by omega
      go_wp2
      go_ret
      exact ⟨rfl, rfl⟩
end Go.Proofs.Ytpiegllffkjneaa
