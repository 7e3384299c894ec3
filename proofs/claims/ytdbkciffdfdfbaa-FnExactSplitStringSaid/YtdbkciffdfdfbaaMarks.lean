/-
  The contracts of the marks: markText writes a number; markStringS writes the marks over a row; heldStringS finds them again.
-/
import Derived.Test.YtdbkciffdfdfbaaSplitImpl
import Derived.Test.YtdbkciffdfdfbaaStrs
namespace Go.Proofs.Ytdbkciffdfdfbaa
open Go.RowKit Go.Shelf Plain

attribute [local go_sem] Oper.semAt_some

def dig (j : Nat) : UInt8 := UInt8.ofNat (48 + j % 10)
theorem dig_toNat (j : Nat) : (dig j).toNat = 48 + j % 10 := by
  unfold dig
  rw [UInt8.toNat_ofNat']
  omega
/-- The digits of j before t. -/
def digs (j : Nat) (t : ByteArray) : ByteArray := if _h : j = 0 then t else digs (j / 10) (⟨#[dig j]⟩ ++ t)
termination_by j
decreasing_by omega
theorem digs_zero (t : ByteArray) : digs 0 t = t := by rw [digs]; simp
theorem digs_step (j : Nat) (h : j ≠ 0) (t : ByteArray) : digs j t = digs (j / 10) (⟨#[dig j]⟩ ++ t) := by rw [digs, dif_neg h]
/-- The mark's text. -/
def mt (k : Nat) : ByteArray := ⟨#[109]⟩ ++ digs k ⟨#[]⟩

theorem one_text (w : World) (j : Nat) : (convert 22 9 (.slice (some ⟨w.heap.size, 0, none⟩) 1 1)).run Try.prog (w.alloc (.cells #[.int .u8 ((dig j).toNat : Int)] 5)) = .ok (.string ⟨#[dig j]⟩) (w.alloc (.cells #[.int .u8 ((dig j).toNat : Int)] 5)) :=
  run_convert_bytes_back (P := Try.prog) (w.alloc (.cells #[.int .u8 ((dig j).toNat : Int)] 5)) 22 9 5 ⟨w.heap.size, 0, none⟩ 1 [dig j] Try.underlying22 Try.underlying5 Try.underlying9 (fun i hi => by
    have e : i = 0 := by simp at hi; omega
    subst e
    simp [Addr.add])

set_option maxHeartbeats 1000000 in
theorem mark_text (k : Nat) (hk : k ≤ 2000000) (h0 : 0 < k) (w : World) : Calls Try.prog 35 #[.int .i64 k] w fun e w' => e = .returned (.string (mt k)) ∧ Below w.heap.size w w' := by
  go_enter Try.func35, Try.ntmps35
  go_wp2
  go_loopw [0, 3] (fun kv ov wr => ∃ (j : Nat) (t : ByteArray), kv = .int .i64 j ∧ ov = .string t ∧ digs j t = digs k ⟨#[]⟩ ∧ t.size + j ≤ k ∧ Below w.heap.size w wr)
    (fun kv _ _ => (intOf kv).toNat)
  case atStart => exact ⟨k, _, rfl, rfl, rfl, Nat.le_of_eq (Nat.zero_add k), Below.refl _ _⟩
  case round =>
    obtain ⟨j, t, rfl, rfl, hd, hs, hb⟩ := hrel
    have HD := Lib.hid hd
    have HB := Lib.hid hb
    have hsz := hb.size
    clear hd hb
    by_cases hj : j = 0
    · have e : t = digs k ⟨#[]⟩ := by rw [← HD.out, hj, digs_zero]
      have hz : (digs k ⟨#[]⟩).size ≤ 2000000 := by rw [← e]; omega
      go_wp2
      go_ret
      exact ⟨by rw [mt]; rfl, HB.out⟩
    · have hj1 : (0 : Int) < (j : Int) := by omega
      have hcv := one_text wr j
      have hdn : ((dig j).toNat : Int) = 48 + (j : Int) % 10 := by rw [dig_toNat]; omega
      rw [hdn] at hcv
      go_wp2
      go_roundw
      case rel => exact ⟨j / 10, ⟨#[dig j]⟩ ++ t, by go_num, rfl, by rw [← digs_step j hj]; exact HD.out, by rw [ByteArray.size_append]; show 1 + t.size + j / 10 ≤ k; omega, HB.out.alloc hsz _⟩
      case measure => simp [intOf]; omega

/-- The marks of a row of n elements: from the first number on. -/
def marks (n : Nat) : List ByteArray := (List.range n).map fun i => mt (i + 1)
theorem marks_len (n : Nat) : (marks n).length = n := by simp [marks]
theorem marks_at (n i : Nat) (h : i < (marks n).length) : (marks n)[i] = mt (i + 1) := by simp [marks]

set_option maxHeartbeats 400000 in
theorem mark_row (g cap n base : Nat) (xs : List Value) (w : World) (h : w.ownsRow base 9 1 (.slice (some ⟨g, 0, none⟩) n cap) n xs) (hn : n ≤ 1048577) :
    Calls Try.prog 19 #[.slice (some ⟨g, 0, none⟩) n cap, .int .i64 1] w fun e w' => e = .returned (.int .i64 (1 + n : Nat)) ∧
      w'.ownsRow base 9 1 (.slice (some ⟨g, 0, none⟩) n cap) n ((marks n).map Value.string) ∧ Below base w w' := by
  have hlen : xs.length = n := by have := h.1; omega
  have hgb : base ≤ g := (h.lt g rfl).1
  have hgs : g < w.heap.size := (h.lt g rfl).2
  have ml := marks_len n
  have HM := Lib.hid ml
  clear ml
  have HO : Hid (w.ownsRow base 9 1 (.slice (some ⟨g, 0, none⟩) n cap) n (mix (marks n) xs 0)) := by
    show w.ownsRow _ _ _ _ _ _
    rw [mix_zero]; exact h
  have HX := Lib.hid hlen
  clear h hlen
  go_enter Try.func19, Try.ntmps19
  go_wp2
  go_loopw [1, 5] (fun q i wr => ∃ k : Nat, k ≤ n ∧ i = .int .i64 k ∧ q = .int .i64 (1 + k : Nat) ∧ wr.ownsRow base 9 1 (.slice (some ⟨g, 0, none⟩) n cap) n (mix (marks n) xs k) ∧ Below base w wr) (fun _ i _ => n - (intOf i).toNat)
  case atStart => exact ⟨0, Nat.zero_le _, rfl, rfl, HO.out, Below.refl _ _⟩
  case round =>
    obtain ⟨k, hk, rfl, rfl, hown, hbel⟩ := hrel
    have HW := Lib.hid hown
    have HB := Lib.hid hbel
    have hsz := hbel.size
    clear hown hbel
    by_cases hlt : k < n
    · go_wp2_with fail
      refine (mark_text (1 + k) (by omega) (by omega) _).mono ?_
      rintro e w1 ⟨rfl, hb1⟩
      have hown := row_below HW.out hb1
      have hln := mix_len (marks n) xs k (by rw [HM.out]; exact hk) (by rw [HX.out, HM.out])
      rw [HM.out] at hln
      obtain ⟨u0, hd⟩ : ∃ u0, w1.cell? ⟨g, k, none⟩ = some u0 := ⟨_, by rw [hown.cellAt k (by omega)]; exact List.getElem?_eq_getElem (by omega)⟩
      have hf := hown.frozenAt k
      have hst := hown.stored k (.string (mt (1 + k)))
      have hmk : mt (1 + k) = (marks n)[k]'(by rw [HM.out]; exact hlt) := by rw [marks_at, Nat.add_comm]
      rw [hmk, mix_step (marks n) xs k (by rw [HM.out]; exact hlt) (by rw [HX.out, HM.out]), ← hmk] at hst
      have HST := Lib.hid hst
      have HB1 : Hid (Below base wr w1) := hb1.mono (by omega)
      clear hst hown hln hb1 hmk
      go_wp2
      go_roundw
      case rel => exact ⟨k + 1, by omega, by go_num, by go_num, HST.out.1, (HB.out.trans HB1.out).setCell (p := ⟨g, k, none⟩) hgb _⟩
      case measure => simp [intOf]; omega
    · obtain rfl : k = n := by omega
      go_wp2
      go_ret
      refine ⟨rfl, ?_, HB.out⟩
      have := HW.out
      have e : mix (marks k) xs k = (marks k).map Value.string := by
        have := mix_end (marks k) xs (by rw [HX.out, HM.out])
        rw [HM.out] at this; exact this
      rw [e] at this
      exact this

set_option maxHeartbeats 400000 in
theorem held_row (v : Value) (n : Nat) (w : World) (h : StrRow w v (marks n)) (hn : n ≤ 1048577) (h0 : 0 < n) :
    Calls Try.prog 20 #[v, .int .i64 1] w fun e w' => e = .returned (.int .i64 (1 + n : Nat)) ∧ Below w.heap.size w w' := by
  have ml := marks_len n
  rcases h with ⟨_, _, _, h⟩ | ⟨b, o, c, rfl, _, hbl, hc⟩
  · rw [h] at ml; simp at ml; omega
  rw [ml]
  have HC : Hid (∀ k, k < n → w.cell? ⟨b, o + k, none⟩ = some (.string (mt (1 + k)))) := fun k hk => by
    have := hc k (by rw [ml]; exact hk)
    rw [marks_at, Nat.add_comm k 1] at this
    exact this
  clear hc ml
  refine (callsIn_wide (n := 3)).1 ?_
  have hmx : Try.prog.follows .mixedOrders = true := by kernel_rfl
  refine callsIn_of_wp Try.func20 rfl trivial ?_ rfl
  simp only [Try.ntmps20, List.size_toArray, List.length_cons, List.length_nil, Nat.reduceAdd, Nat.reduceSub, Array.replicate_succ, Array.replicate_zero, List.push_toArray, List.append_toArray, List.nil_append, List.cons_append]
  gi_wp2
  gi_loopw [1, 5] (fun q i wr => ∃ k : Nat, k ≤ n ∧ i = .int .i64 k ∧ q = .int .i64 (1 + k : Nat) ∧ Below w.heap.size w wr) (fun _ i _ => n - (intOf i).toNat)
  case atStart => exact ⟨0, Nat.zero_le _, rfl, rfl, Below.refl _ _⟩
  case round =>
    obtain ⟨k, hk, rfl, rfl, hbel⟩ := hrel
    have HB := Lib.hid hbel
    have hsz := hbel.size
    by_cases hlt : k < n
    · have hcell : wr.cell? ⟨b, o + k, none⟩ = some (.string (mt (1 + k))) := (hbel.cell (p := ⟨b, o + k, none⟩) hbl).trans (HC.out k hlt)
      have hcd : wr.drew.cell? ⟨b, o + k, none⟩ = some (.string (mt (1 + k))) := hcell
      have hbs : b < wr.drew.heap.size := by show b < wr.heap.size; omega
      have hfn : Fence.wide.fn 35 := trivial
      clear hbel
      gi_wp2
      gi_region_with_o (gi_at_call 35; refine (callsIn_wide.2 (mark_text (1 + k) (by omega) (by omega) _)).mono ?_; rintro e w1 ⟨rfl, hb1⟩; have hc1 := (hb1.cell (p := ⟨b, o + k, none⟩) hbs).trans hcd; have HB1 := Lib.hid hb1; clear hb1)
      all_goals gi_wp2
      all_goals go_roundw
      all_goals first
        | exact ⟨k + 1, by omega, by go_num, by go_num, HB.out.drew.trans (HB1.out.mono (show w.heap.size ≤ wr.heap.size from hsz))⟩
        | (simp [intOf]; omega)
    · obtain rfl : k = n := by omega
      gi_wp2
      go_ret
      exact ⟨rfl, HB.out⟩
end Go.Proofs.Ytdbkciffdfdfbaa
