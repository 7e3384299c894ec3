/-
  The contracts of the reference's draws of boards, forms and sides, and of what a law does to its code ahead of them.
-/
import Derived.Test.YtknjmkapabjolaaDrawForm
import Derived.RangeFuncBox
namespace Go.Proofs.Ytknjmkapabjolaa
open Go.RowKit Plain
attribute [local go_sem] store_new
set_option linter.unusedSimpArgs false

theorem IsRow.code {w : World} {a : Option Addr} {len cap : Nat} {z : List Int} (h : IsRow .u8 w a len cap z) : CodeRow w a len w.heap.size := by
  rcases h with ⟨_, h, _, _⟩ | ⟨x, rfl, h1, h2, h3, h4, h5⟩
  · exact .inl h
  · by_cases h0 : len = 0
    · exact .inl h0
    · obtain ⟨b, o, sp⟩ := x
      have hc := h4 0 (by omega)
      have hsp : sp = none := by simpa [Addr.add] using World.cell?_spot hc
      subst hsp
      have hb : b < w.heap.size := by simpa [Addr.add] using World.block_lt_of_cell? w _ hc
      refine .inr ⟨b, o, rfl, hb, fun j hj => ?_⟩
      have := h4 j (by omega)
      have e : (⟨b, o, none⟩ : Addr).add j = ⟨b, o + j, none⟩ := by unfold Addr.add; split <;> simp_all
      rw [e, List.getD_eq_getElem?_getD, List.getElem?_eq_getElem (by omega)] at this
      have hw := h5 z[j] (List.getElem_mem _)
      have e1 : IntKind.u8.min = 0 := rfl
      have e2 : IntKind.u8.max = 255 := rfl
      simp [Lit.wf, e1, e2] at hw
      obtain ⟨n, hn⟩ := Int.eq_ofNat_of_zero_le hw.1
      exact ⟨n, by omega, by rw [this, ← hn]; rfl⟩
theorem vBig_any (a : Option Addr) (len cap : Nat) (w : World) : Calls Try.prog 39 #[.slice a len cap] w fun e w' => e = .returned (.bool (decide ((65536 : Int) < (len : Int)))) ∧ w = w' := by
  go_enter Try.func39, Try.ntmps39
  go_wp2
  go_ret
  exact ⟨rfl, rfl⟩
theorem below_two {w w2 : World} {o : Obj} {p : Obj} {B : Nat} (hB : B = w.heap.size + 1) (h : Turned B ((w.alloc o).alloc p) w2) : Below w.heap.size w w2 :=
  (((Below.refl w.heap.size w).alloc (Nat.le_refl _) o).alloc (by simp) p).trans (h.below (by simp; omega) (by omega))
theorem below_one {w w2 : World} {p : Obj} {B : Nat} (hB : B = w.heap.size) (h : Turned B (w.alloc p) w2) : Below w.heap.size w w2 :=
  ((Below.refl w.heap.size w).alloc (Nat.le_refl _) p).trans (h.below (by simp) (by omega))
/-- A code's bytes, as numbers. -/
theorem CodeRow.fn {w : World} {b o len B : Nat} (h : CodeRow w (some ⟨b, o, none⟩) len B) : ∃ g : Nat → Nat, ∀ j, j < len → g j < 256 ∧ w.cell? ⟨b, o + j, none⟩ = some (.int .u8 (g j : Int)) := by
  rcases h with h | ⟨b', o', ha, _, hc⟩
  · exact ⟨fun _ => 0, fun j hj => by omega⟩
  · cases ha
    refine ⟨fun j => if hj : j < len then Classical.choose (hc j hj) else 0, fun j hj => ?_⟩
    have := Classical.choose_spec (hc j hj)
    simp only [hj, dif_pos]
    exact this
theorem infoU8c : (Try.prog.info? 5).map (fun i => (i.zero, i.size, i.bytes)) = some (some (.int .u8 0), 1, 1) := by kernel_rfl
theorem own_code {w : World} {base g m cap : Nat} {xs : List Value} (h : w.ownsRow base 5 1 (.slice (some ⟨g, 0, none⟩) m cap) m xs) (hl : xs.length = m) (hx : ∀ v ∈ xs, ∃ n : Nat, n < 256 ∧ v = .int .u8 (n : Int)) :
    CodeRow w (some ⟨g, 0, none⟩) m w.heap.size := by
  refine .inr ⟨g, 0, rfl, (h.lt g rfl).2, fun j hj => ?_⟩
  obtain ⟨n, hn, hv⟩ := hx xs[j] (List.getElem_mem _)
  refine ⟨n, hn, ?_⟩
  rw [Nat.zero_add, h.cellAt j (by omega), List.getElem?_eq_getElem (by omega), hv]
/-- How vCut ends. -/
def CutPost (w : World) (e : Ending) (w' : World) : Prop := ∃ g m c, e = .returned (.slice (some ⟨g, 0, none⟩) m c) ∧ m ≤ 65536 ∧ CodeRow w' (some ⟨g, 0, none⟩) m w'.heap.size ∧ Below w.heap.size w w'
set_option maxHeartbeats 2000000 in
set_option maxRecDepth 20000 in
theorem vCut1_ge (b o len cap : Nat) (w : World) (hl : len ≤ 65536) (hn : 1 < len) (hcap : len ≤ cap) (hr : CodeRow w (some ⟨b, o, none⟩) len w.heap.size) :
    Calls Try.prog 42 #[.slice (some ⟨b, o, none⟩) len cap, .int .i64 1] w (CutPost w) := by
  obtain ⟨i0, hi, hz0, hz1, hz2⟩ := info_parts infoU8c
  obtain ⟨h, hh⟩ := (hr.later ((Below.refl _ w).alloc (Nat.le_refl _) (.cells #[] 5))).fn
  have HO : (w.alloc (.cells #[] 5)).ownsRow w.heap.size 5 1 (.slice (some ⟨w.heap.size, 0, none⟩) 0 0) 0 [] :=
    World.ownsRow_made (base := w.heap.size) (e := 5) (size := 1) w #[] 0 (Nat.le_refl _) (by decide) rfl
  clear hr
  have hn2 : (1 : Int) ≤ (len : Int) := by omega
  have hnl : ¬ ((len : Int) < 1) := by omega
  have hlc : (len : Int) ≤ (cap : Int) := by omega
  go_enter Try.func42, Try.ntmps42
  go_wp2_with (at_builtin; refine wpList_append_own _ rfl _ _ 63 rfl w.heap.size 5 i0 (.int .u8 0) 1 1 Try.underlying63 hi hz0 hz1 hz2 rfl (by decide) _ _ _ rfl HO ⟨b, o + 1, none⟩ (len - 1) (cap - 1) ((List.range (len - 1)).map fun j => Value.int .u8 (h (1 + j) : Int)) rfl (by simp) ?c1 ?c2 ?c3 ?c4 ?c5 ?_)
  case c1 => exact (fun j u hj => by obtain ⟨hlt, heq⟩ := List.getElem?_eq_some_iff.1 hj; have hj2 : j < len - 1 := (by simpa using hlt); rw [List.getElem_range] at heq; subst heq; have := (hh (1 + j) (by omega)).2; rw [show o + 1 + j = o + (1 + j) from Nat.add_assoc _ _ _]; simpa using this)
  case c2 => exact (fun _ _ => rfl)
  case c3 => unfold maxLen; omega
  case c4 => omega

  intro v1 w1 hown1 hgrow1 _
  have hb1 : Below w.heap.size w w1 := ((Below.refl w.heap.size w).alloc (Nat.le_refl _) _).grown hgrow1 (by simp) (fun j hj => by have := (HO.lt j hj).1; omega)
  have hs1 := hb1.size
  clear hgrow1
  go_wp2_with (at_builtin; refine wpList_append_own _ rfl _ _ 63 rfl w.heap.size 5 i0 (.int .u8 0) 1 1 Try.underlying63 hi hz0 hz1 hz2 rfl (by decide) _ _ _ rfl (hown1.alloc _) ⟨w1.heap.size, 0, none⟩ 1 1 [.int .u8 1] rfl rfl ?d1 ?d2 ?d3 ?d4 ?d5 ?_)
  case d1 => exact cell_one_new _ _ _
  case d2 => simp [Value.oneCell']
  case d3 => unfold maxLen; omega
  case d4 => omega
  case d5 => simp; omega
  intro v2 w2 hown2 hgrow2 _
  obtain ⟨gg, cap2, hv2⟩ := ownsRow_succ hown2
  subst hv2
  have hb2 : Below w.heap.size w w2 := (hb1.alloc hs1 _).grown hgrow2 (by simp; omega) (fun j hj => by have := (hown1.lt j hj).1; omega)
  have HR := Lib.hid (own_code hown2 (by simp ) (by
    intro v hv
    (simp at hv; rcases hv with ⟨j, hj, rfl⟩ | rfl; exact ⟨_, (hh (1 + j) (by omega)).1, rfl⟩; exact ⟨1, by omega, rfl⟩)))
  have HB := Lib.hid hb2
  clear hown2 hgrow2 hb2 hown1 hb1
  go_wp2_with fail
  go_ret
  exact ⟨gg, _, _, rfl, by omega, HR.out, HB.out⟩
set_option maxHeartbeats 2000000 in
set_option maxRecDepth 20000 in
theorem vCut2_ge (b o len cap : Nat) (w : World) (hl : len ≤ 65536) (hn : 2 < len) (hcap : len ≤ cap) (hr : CodeRow w (some ⟨b, o, none⟩) len w.heap.size) :
    Calls Try.prog 42 #[.slice (some ⟨b, o, none⟩) len cap, .int .i64 2] w (CutPost w) := by
  obtain ⟨i0, hi, hz0, hz1, hz2⟩ := info_parts infoU8c
  obtain ⟨h, hh⟩ := (hr.later ((Below.refl _ w).alloc (Nat.le_refl _) (.cells #[] 5))).fn
  have HO : (w.alloc (.cells #[] 5)).ownsRow w.heap.size 5 1 (.slice (some ⟨w.heap.size, 0, none⟩) 0 0) 0 [] :=
    World.ownsRow_made (base := w.heap.size) (e := 5) (size := 1) w #[] 0 (Nat.le_refl _) (by decide) rfl
  clear hr
  have hn2 : (2 : Int) ≤ (len : Int) := by omega
  have hnl : ¬ ((len : Int) < 2) := by omega
  have hlc : (len : Int) ≤ (cap : Int) := by omega
  go_enter Try.func42, Try.ntmps42
  go_wp2_with (at_builtin; refine wpList_append_own _ rfl _ _ 63 rfl w.heap.size 5 i0 (.int .u8 0) 1 1 Try.underlying63 hi hz0 hz1 hz2 rfl (by decide) _ _ _ rfl HO ⟨b, o + 2, none⟩ (len - 2) (cap - 2) ((List.range (len - 2)).map fun j => Value.int .u8 (h (2 + j) : Int)) rfl (by simp) ?c1 ?c2 ?c3 ?c4 ?c5 ?_)
  case c1 => exact (fun j u hj => by obtain ⟨hlt, heq⟩ := List.getElem?_eq_some_iff.1 hj; have hj2 : j < len - 2 := (by simpa using hlt); rw [List.getElem_range] at heq; subst heq; have := (hh (2 + j) (by omega)).2; rw [show o + 2 + j = o + (2 + j) from Nat.add_assoc _ _ _]; simpa using this)
  case c2 => exact (fun _ _ => rfl)
  case c3 => unfold maxLen; omega
  case c4 => omega

  intro v1 w1 hown1 hgrow1 _
  have hb1 : Below w.heap.size w w1 := ((Below.refl w.heap.size w).alloc (Nat.le_refl _) _).grown hgrow1 (by simp) (fun j hj => by have := (HO.lt j hj).1; omega)
  have hs1 := hb1.size
  clear hgrow1
  go_wp2_with (at_builtin; refine wpList_append_own _ rfl _ _ 63 rfl w.heap.size 5 i0 (.int .u8 0) 1 1 Try.underlying63 hi hz0 hz1 hz2 rfl (by decide) _ _ _ rfl (hown1.alloc _) ⟨w1.heap.size, 0, none⟩ 1 1 [.int .u8 2] rfl rfl ?d1 ?d2 ?d3 ?d4 ?d5 ?_)
  case d1 => exact cell_one_new _ _ _
  case d2 => simp [Value.oneCell']
  case d3 => unfold maxLen; omega
  case d4 => omega
  case d5 => simp; omega
  intro v2 w2 hown2 hgrow2 _
  obtain ⟨gg, cap2, hv2⟩ := ownsRow_succ hown2
  subst hv2
  have hb2 : Below w.heap.size w w2 := (hb1.alloc hs1 _).grown hgrow2 (by simp; omega) (fun j hj => by have := (hown1.lt j hj).1; omega)
  have HR := Lib.hid (own_code hown2 (by simp ) (by
    intro v hv
    (simp at hv; rcases hv with ⟨j, hj, rfl⟩ | rfl; exact ⟨_, (hh (2 + j) (by omega)).1, rfl⟩; exact ⟨2, by omega, rfl⟩)))
  have HB := Lib.hid hb2
  clear hown2 hgrow2 hb2 hown1 hb1
  go_wp2_with fail
  go_ret
  exact ⟨gg, _, _, rfl, by omega, HR.out, HB.out⟩
set_option maxHeartbeats 2000000 in
set_option maxRecDepth 20000 in
theorem vCut1_0e (x : Addr) (w : World) :
    Calls Try.prog 42 #[.slice (some x) 0 0, .int .i64 1] w (CutPost w) := by
  obtain ⟨b, o, sp⟩ := x
  obtain ⟨i0, hi, hz0, hz1, hz2⟩ := info_parts infoU8c
  have HO : (w.alloc (.cells #[] 5)).ownsRow w.heap.size 5 1 (.slice (some ⟨w.heap.size, 0, none⟩) 0 0) 0 [] :=
    World.ownsRow_made (base := w.heap.size) (e := 5) (size := 1) w #[] 0 (Nat.le_refl _) (by decide) rfl
  skip
  go_enter Try.func42, Try.ntmps42
  go_wp2_with (at_builtin; refine wpList_append_own _ rfl _ _ 63 rfl w.heap.size 5 i0 (.int .u8 0) 1 1 Try.underlying63 hi hz0 hz1 hz2 rfl (by decide) _ _ _ rfl HO _ 0 _ [] rfl rfl ?c1 ?c2 ?c3 ?c4 ?c5 ?_)
  case c1 => exact (fun j u hj => by simp at hj)
  case c2 => exact (fun u hu => by simp at hu)
  case c3 => unfold maxLen; omega
  case c4 => omega
  case c5 => simp
  intro v1 w1 hown1 hgrow1 _
  have hb1 : Below w.heap.size w w1 := ((Below.refl w.heap.size w).alloc (Nat.le_refl _) _).grown hgrow1 (by simp) (fun j hj => by have := (HO.lt j hj).1; omega)
  have hs1 := hb1.size
  clear hgrow1
  go_wp2_with (at_builtin; refine wpList_append_own _ rfl _ _ 63 rfl w.heap.size 5 i0 (.int .u8 0) 1 1 Try.underlying63 hi hz0 hz1 hz2 rfl (by decide) _ _ _ rfl (hown1.alloc _) ⟨w1.heap.size, 0, none⟩ 1 1 [.int .u8 0] rfl rfl ?d1 ?d2 ?d3 ?d4 ?d5 ?_)
  case d1 => exact cell_one_new _ _ _
  case d2 => simp [Value.oneCell']
  case d3 => unfold maxLen; omega
  case d4 => omega
  case d5 => simp; omega
  intro v2 w2 hown2 hgrow2 _
  obtain ⟨gg, cap2, hv2⟩ := ownsRow_succ hown2
  subst hv2
  have hb2 : Below w.heap.size w w2 := (hb1.alloc hs1 _).grown hgrow2 (by simp; omega) (fun j hj => by have := (hown1.lt j hj).1; omega)
  have HR := Lib.hid (own_code hown2 (by simp ) (by
    intro v hv
    (simp at hv; subst hv; exact ⟨0, by omega, rfl⟩)))
  have HB := Lib.hid hb2
  clear hown2 hgrow2 hb2 hown1 hb1
  go_wp2_with fail
  go_ret
  exact ⟨gg, _, _, rfl, by omega, HR.out, HB.out⟩
set_option maxHeartbeats 2000000 in
set_option maxRecDepth 20000 in
theorem vCut1_0m (x : Addr) (cap : Nat) (hcap : 0 < cap) (w : World) :
    Calls Try.prog 42 #[.slice (some x) 0 cap, .int .i64 1] w (CutPost w) := by
  obtain ⟨b, o, sp⟩ := x
  obtain ⟨i0, hi, hz0, hz1, hz2⟩ := info_parts infoU8c
  have HO : (w.alloc (.cells #[] 5)).ownsRow w.heap.size 5 1 (.slice (some ⟨w.heap.size, 0, none⟩) 0 0) 0 [] :=
    World.ownsRow_made (base := w.heap.size) (e := 5) (size := 1) w #[] 0 (Nat.le_refl _) (by decide) rfl
  have hcz : ¬ (cap - 0 = 0) := by omega
  go_enter Try.func42, Try.ntmps42
  go_wp2_with (at_builtin; refine wpList_append_own _ rfl _ _ 63 rfl w.heap.size 5 i0 (.int .u8 0) 1 1 Try.underlying63 hi hz0 hz1 hz2 rfl (by decide) _ _ _ rfl HO _ 0 _ [] rfl rfl ?c1 ?c2 ?c3 ?c4 ?c5 ?_)
  case c1 => exact (fun j u hj => by simp at hj)
  case c2 => exact (fun u hu => by simp at hu)
  case c3 => unfold maxLen; omega
  case c4 => omega
  case c5 => simp
  intro v1 w1 hown1 hgrow1 _
  have hb1 : Below w.heap.size w w1 := ((Below.refl w.heap.size w).alloc (Nat.le_refl _) _).grown hgrow1 (by simp) (fun j hj => by have := (HO.lt j hj).1; omega)
  have hs1 := hb1.size
  clear hgrow1
  go_wp2_with (at_builtin; refine wpList_append_own _ rfl _ _ 63 rfl w.heap.size 5 i0 (.int .u8 0) 1 1 Try.underlying63 hi hz0 hz1 hz2 rfl (by decide) _ _ _ rfl (hown1.alloc _) ⟨w1.heap.size, 0, none⟩ 1 1 [.int .u8 0] rfl rfl ?d1 ?d2 ?d3 ?d4 ?d5 ?_)
  case d1 => exact cell_one_new _ _ _
  case d2 => simp [Value.oneCell']
  case d3 => unfold maxLen; omega
  case d4 => omega
  case d5 => simp; omega
  intro v2 w2 hown2 hgrow2 _
  obtain ⟨gg, cap2, hv2⟩ := ownsRow_succ hown2
  subst hv2
  have hb2 : Below w.heap.size w w2 := (hb1.alloc hs1 _).grown hgrow2 (by simp; omega) (fun j hj => by have := (hown1.lt j hj).1; omega)
  have HR := Lib.hid (own_code hown2 (by simp ) (by
    intro v hv
    (simp at hv; subst hv; exact ⟨0, by omega, rfl⟩)))
  have HB := Lib.hid hb2
  clear hown2 hgrow2 hb2 hown1 hb1
  go_wp2_with fail
  go_ret
  exact ⟨gg, _, _, rfl, by omega, HR.out, HB.out⟩
set_option maxHeartbeats 2000000 in
set_option maxRecDepth 20000 in
theorem vCut1_1e (x : Addr) (w : World) :
    Calls Try.prog 42 #[.slice (some x) 1 1, .int .i64 1] w (CutPost w) := by
  obtain ⟨b, o, sp⟩ := x
  obtain ⟨i0, hi, hz0, hz1, hz2⟩ := info_parts infoU8c
  have HO : (w.alloc (.cells #[] 5)).ownsRow w.heap.size 5 1 (.slice (some ⟨w.heap.size, 0, none⟩) 0 0) 0 [] :=
    World.ownsRow_made (base := w.heap.size) (e := 5) (size := 1) w #[] 0 (Nat.le_refl _) (by decide) rfl
  skip
  go_enter Try.func42, Try.ntmps42
  go_wp2_with (at_builtin; refine wpList_append_own _ rfl _ _ 63 rfl w.heap.size 5 i0 (.int .u8 0) 1 1 Try.underlying63 hi hz0 hz1 hz2 rfl (by decide) _ _ _ rfl HO _ 0 _ [] rfl rfl ?c1 ?c2 ?c3 ?c4 ?c5 ?_)
  case c1 => exact (fun j u hj => by simp at hj)
  case c2 => exact (fun u hu => by simp at hu)
  case c3 => unfold maxLen; omega
  case c4 => omega
  case c5 => simp
  intro v1 w1 hown1 hgrow1 _
  have hb1 : Below w.heap.size w w1 := ((Below.refl w.heap.size w).alloc (Nat.le_refl _) _).grown hgrow1 (by simp) (fun j hj => by have := (HO.lt j hj).1; omega)
  have hs1 := hb1.size
  clear hgrow1
  go_wp2_with (at_builtin; refine wpList_append_own _ rfl _ _ 63 rfl w.heap.size 5 i0 (.int .u8 0) 1 1 Try.underlying63 hi hz0 hz1 hz2 rfl (by decide) _ _ _ rfl (hown1.alloc _) ⟨w1.heap.size, 0, none⟩ 1 1 [.int .u8 1] rfl rfl ?d1 ?d2 ?d3 ?d4 ?d5 ?_)
  case d1 => exact cell_one_new _ _ _
  case d2 => simp [Value.oneCell']
  case d3 => unfold maxLen; omega
  case d4 => omega
  case d5 => simp; omega
  intro v2 w2 hown2 hgrow2 _
  obtain ⟨gg, cap2, hv2⟩ := ownsRow_succ hown2
  subst hv2
  have hb2 : Below w.heap.size w w2 := (hb1.alloc hs1 _).grown hgrow2 (by simp; omega) (fun j hj => by have := (hown1.lt j hj).1; omega)
  have HR := Lib.hid (own_code hown2 (by simp ) (by
    intro v hv
    (simp at hv; subst hv; exact ⟨1, by omega, rfl⟩)))
  have HB := Lib.hid hb2
  clear hown2 hgrow2 hb2 hown1 hb1
  go_wp2_with fail
  go_ret
  exact ⟨gg, _, _, rfl, by omega, HR.out, HB.out⟩
set_option maxHeartbeats 2000000 in
set_option maxRecDepth 20000 in
theorem vCut1_1m (x : Addr) (cap : Nat) (hcap : 1 < cap) (w : World) :
    Calls Try.prog 42 #[.slice (some x) 1 cap, .int .i64 1] w (CutPost w) := by
  obtain ⟨b, o, sp⟩ := x
  obtain ⟨i0, hi, hz0, hz1, hz2⟩ := info_parts infoU8c
  have HO : (w.alloc (.cells #[] 5)).ownsRow w.heap.size 5 1 (.slice (some ⟨w.heap.size, 0, none⟩) 0 0) 0 [] :=
    World.ownsRow_made (base := w.heap.size) (e := 5) (size := 1) w #[] 0 (Nat.le_refl _) (by decide) rfl
  have hcz : ¬ (cap - 1 = 0) := by omega
  go_enter Try.func42, Try.ntmps42
  go_wp2_with (at_builtin; refine wpList_append_own _ rfl _ _ 63 rfl w.heap.size 5 i0 (.int .u8 0) 1 1 Try.underlying63 hi hz0 hz1 hz2 rfl (by decide) _ _ _ rfl HO _ 0 _ [] rfl rfl ?c1 ?c2 ?c3 ?c4 ?c5 ?_)
  case c1 => exact (fun j u hj => by simp at hj)
  case c2 => exact (fun u hu => by simp at hu)
  case c3 => unfold maxLen; omega
  case c4 => omega
  case c5 => simp
  intro v1 w1 hown1 hgrow1 _
  have hb1 : Below w.heap.size w w1 := ((Below.refl w.heap.size w).alloc (Nat.le_refl _) _).grown hgrow1 (by simp) (fun j hj => by have := (HO.lt j hj).1; omega)
  have hs1 := hb1.size
  clear hgrow1
  go_wp2_with (at_builtin; refine wpList_append_own _ rfl _ _ 63 rfl w.heap.size 5 i0 (.int .u8 0) 1 1 Try.underlying63 hi hz0 hz1 hz2 rfl (by decide) _ _ _ rfl (hown1.alloc _) ⟨w1.heap.size, 0, none⟩ 1 1 [.int .u8 1] rfl rfl ?d1 ?d2 ?d3 ?d4 ?d5 ?_)
  case d1 => exact cell_one_new _ _ _
  case d2 => simp [Value.oneCell']
  case d3 => unfold maxLen; omega
  case d4 => omega
  case d5 => simp; omega
  intro v2 w2 hown2 hgrow2 _
  obtain ⟨gg, cap2, hv2⟩ := ownsRow_succ hown2
  subst hv2
  have hb2 : Below w.heap.size w w2 := (hb1.alloc hs1 _).grown hgrow2 (by simp; omega) (fun j hj => by have := (hown1.lt j hj).1; omega)
  have HR := Lib.hid (own_code hown2 (by simp ) (by
    intro v hv
    (simp at hv; subst hv; exact ⟨1, by omega, rfl⟩)))
  have HB := Lib.hid hb2
  clear hown2 hgrow2 hb2 hown1 hb1
  go_wp2_with fail
  go_ret
  exact ⟨gg, _, _, rfl, by omega, HR.out, HB.out⟩
set_option maxHeartbeats 2000000 in
set_option maxRecDepth 20000 in
theorem vCut2_0e (x : Addr) (w : World) :
    Calls Try.prog 42 #[.slice (some x) 0 0, .int .i64 2] w (CutPost w) := by
  obtain ⟨b, o, sp⟩ := x
  obtain ⟨i0, hi, hz0, hz1, hz2⟩ := info_parts infoU8c
  have HO : (w.alloc (.cells #[] 5)).ownsRow w.heap.size 5 1 (.slice (some ⟨w.heap.size, 0, none⟩) 0 0) 0 [] :=
    World.ownsRow_made (base := w.heap.size) (e := 5) (size := 1) w #[] 0 (Nat.le_refl _) (by decide) rfl
  skip
  go_enter Try.func42, Try.ntmps42
  go_wp2_with (at_builtin; refine wpList_append_own _ rfl _ _ 63 rfl w.heap.size 5 i0 (.int .u8 0) 1 1 Try.underlying63 hi hz0 hz1 hz2 rfl (by decide) _ _ _ rfl HO _ 0 _ [] rfl rfl ?c1 ?c2 ?c3 ?c4 ?c5 ?_)
  case c1 => exact (fun j u hj => by simp at hj)
  case c2 => exact (fun u hu => by simp at hu)
  case c3 => unfold maxLen; omega
  case c4 => omega
  case c5 => simp
  intro v1 w1 hown1 hgrow1 _
  have hb1 : Below w.heap.size w w1 := ((Below.refl w.heap.size w).alloc (Nat.le_refl _) _).grown hgrow1 (by simp) (fun j hj => by have := (HO.lt j hj).1; omega)
  have hs1 := hb1.size
  clear hgrow1
  go_wp2_with (at_builtin; refine wpList_append_own _ rfl _ _ 63 rfl w.heap.size 5 i0 (.int .u8 0) 1 1 Try.underlying63 hi hz0 hz1 hz2 rfl (by decide) _ _ _ rfl (hown1.alloc _) ⟨w1.heap.size, 0, none⟩ 1 1 [.int .u8 0] rfl rfl ?d1 ?d2 ?d3 ?d4 ?d5 ?_)
  case d1 => exact cell_one_new _ _ _
  case d2 => simp [Value.oneCell']
  case d3 => unfold maxLen; omega
  case d4 => omega
  case d5 => simp; omega
  intro v2 w2 hown2 hgrow2 _
  obtain ⟨gg, cap2, hv2⟩ := ownsRow_succ hown2
  subst hv2
  have hb2 : Below w.heap.size w w2 := (hb1.alloc hs1 _).grown hgrow2 (by simp; omega) (fun j hj => by have := (hown1.lt j hj).1; omega)
  have HR := Lib.hid (own_code hown2 (by simp ) (by
    intro v hv
    (simp at hv; subst hv; exact ⟨0, by omega, rfl⟩)))
  have HB := Lib.hid hb2
  clear hown2 hgrow2 hb2 hown1 hb1
  go_wp2_with fail
  go_ret
  exact ⟨gg, _, _, rfl, by omega, HR.out, HB.out⟩
set_option maxHeartbeats 2000000 in
set_option maxRecDepth 20000 in
theorem vCut2_0m (x : Addr) (cap : Nat) (hcap : 0 < cap) (w : World) :
    Calls Try.prog 42 #[.slice (some x) 0 cap, .int .i64 2] w (CutPost w) := by
  obtain ⟨b, o, sp⟩ := x
  obtain ⟨i0, hi, hz0, hz1, hz2⟩ := info_parts infoU8c
  have HO : (w.alloc (.cells #[] 5)).ownsRow w.heap.size 5 1 (.slice (some ⟨w.heap.size, 0, none⟩) 0 0) 0 [] :=
    World.ownsRow_made (base := w.heap.size) (e := 5) (size := 1) w #[] 0 (Nat.le_refl _) (by decide) rfl
  have hcz : ¬ (cap - 0 = 0) := by omega
  go_enter Try.func42, Try.ntmps42
  go_wp2_with (at_builtin; refine wpList_append_own _ rfl _ _ 63 rfl w.heap.size 5 i0 (.int .u8 0) 1 1 Try.underlying63 hi hz0 hz1 hz2 rfl (by decide) _ _ _ rfl HO _ 0 _ [] rfl rfl ?c1 ?c2 ?c3 ?c4 ?c5 ?_)
  case c1 => exact (fun j u hj => by simp at hj)
  case c2 => exact (fun u hu => by simp at hu)
  case c3 => unfold maxLen; omega
  case c4 => omega
  case c5 => simp
  intro v1 w1 hown1 hgrow1 _
  have hb1 : Below w.heap.size w w1 := ((Below.refl w.heap.size w).alloc (Nat.le_refl _) _).grown hgrow1 (by simp) (fun j hj => by have := (HO.lt j hj).1; omega)
  have hs1 := hb1.size
  clear hgrow1
  go_wp2_with (at_builtin; refine wpList_append_own _ rfl _ _ 63 rfl w.heap.size 5 i0 (.int .u8 0) 1 1 Try.underlying63 hi hz0 hz1 hz2 rfl (by decide) _ _ _ rfl (hown1.alloc _) ⟨w1.heap.size, 0, none⟩ 1 1 [.int .u8 0] rfl rfl ?d1 ?d2 ?d3 ?d4 ?d5 ?_)
  case d1 => exact cell_one_new _ _ _
  case d2 => simp [Value.oneCell']
  case d3 => unfold maxLen; omega
  case d4 => omega
  case d5 => simp; omega
  intro v2 w2 hown2 hgrow2 _
  obtain ⟨gg, cap2, hv2⟩ := ownsRow_succ hown2
  subst hv2
  have hb2 : Below w.heap.size w w2 := (hb1.alloc hs1 _).grown hgrow2 (by simp; omega) (fun j hj => by have := (hown1.lt j hj).1; omega)
  have HR := Lib.hid (own_code hown2 (by simp ) (by
    intro v hv
    (simp at hv; subst hv; exact ⟨0, by omega, rfl⟩)))
  have HB := Lib.hid hb2
  clear hown2 hgrow2 hb2 hown1 hb1
  go_wp2_with fail
  go_ret
  exact ⟨gg, _, _, rfl, by omega, HR.out, HB.out⟩
set_option maxHeartbeats 2000000 in
set_option maxRecDepth 20000 in
theorem vCut2_1e (x : Addr) (w : World) :
    Calls Try.prog 42 #[.slice (some x) 1 1, .int .i64 2] w (CutPost w) := by
  obtain ⟨b, o, sp⟩ := x
  obtain ⟨i0, hi, hz0, hz1, hz2⟩ := info_parts infoU8c
  have HO : (w.alloc (.cells #[] 5)).ownsRow w.heap.size 5 1 (.slice (some ⟨w.heap.size, 0, none⟩) 0 0) 0 [] :=
    World.ownsRow_made (base := w.heap.size) (e := 5) (size := 1) w #[] 0 (Nat.le_refl _) (by decide) rfl
  skip
  go_enter Try.func42, Try.ntmps42
  go_wp2_with (at_builtin; refine wpList_append_own _ rfl _ _ 63 rfl w.heap.size 5 i0 (.int .u8 0) 1 1 Try.underlying63 hi hz0 hz1 hz2 rfl (by decide) _ _ _ rfl HO _ 0 _ [] rfl rfl ?c1 ?c2 ?c3 ?c4 ?c5 ?_)
  case c1 => exact (fun j u hj => by simp at hj)
  case c2 => exact (fun u hu => by simp at hu)
  case c3 => unfold maxLen; omega
  case c4 => omega
  case c5 => simp
  intro v1 w1 hown1 hgrow1 _
  have hb1 : Below w.heap.size w w1 := ((Below.refl w.heap.size w).alloc (Nat.le_refl _) _).grown hgrow1 (by simp) (fun j hj => by have := (HO.lt j hj).1; omega)
  have hs1 := hb1.size
  clear hgrow1
  go_wp2_with (at_builtin; refine wpList_append_own _ rfl _ _ 63 rfl w.heap.size 5 i0 (.int .u8 0) 1 1 Try.underlying63 hi hz0 hz1 hz2 rfl (by decide) _ _ _ rfl (hown1.alloc _) ⟨w1.heap.size, 0, none⟩ 1 1 [.int .u8 1] rfl rfl ?d1 ?d2 ?d3 ?d4 ?d5 ?_)
  case d1 => exact cell_one_new _ _ _
  case d2 => simp [Value.oneCell']
  case d3 => unfold maxLen; omega
  case d4 => omega
  case d5 => simp; omega
  intro v2 w2 hown2 hgrow2 _
  obtain ⟨gg, cap2, hv2⟩ := ownsRow_succ hown2
  subst hv2
  have hb2 : Below w.heap.size w w2 := (hb1.alloc hs1 _).grown hgrow2 (by simp; omega) (fun j hj => by have := (hown1.lt j hj).1; omega)
  have HR := Lib.hid (own_code hown2 (by simp ) (by
    intro v hv
    (simp at hv; subst hv; exact ⟨1, by omega, rfl⟩)))
  have HB := Lib.hid hb2
  clear hown2 hgrow2 hb2 hown1 hb1
  go_wp2_with fail
  go_ret
  exact ⟨gg, _, _, rfl, by omega, HR.out, HB.out⟩
set_option maxHeartbeats 2000000 in
set_option maxRecDepth 20000 in
theorem vCut2_1m (x : Addr) (cap : Nat) (hcap : 1 < cap) (w : World) :
    Calls Try.prog 42 #[.slice (some x) 1 cap, .int .i64 2] w (CutPost w) := by
  obtain ⟨b, o, sp⟩ := x
  obtain ⟨i0, hi, hz0, hz1, hz2⟩ := info_parts infoU8c
  have HO : (w.alloc (.cells #[] 5)).ownsRow w.heap.size 5 1 (.slice (some ⟨w.heap.size, 0, none⟩) 0 0) 0 [] :=
    World.ownsRow_made (base := w.heap.size) (e := 5) (size := 1) w #[] 0 (Nat.le_refl _) (by decide) rfl
  have hcz : ¬ (cap - 1 = 0) := by omega
  go_enter Try.func42, Try.ntmps42
  go_wp2_with (at_builtin; refine wpList_append_own _ rfl _ _ 63 rfl w.heap.size 5 i0 (.int .u8 0) 1 1 Try.underlying63 hi hz0 hz1 hz2 rfl (by decide) _ _ _ rfl HO _ 0 _ [] rfl rfl ?c1 ?c2 ?c3 ?c4 ?c5 ?_)
  case c1 => exact (fun j u hj => by simp at hj)
  case c2 => exact (fun u hu => by simp at hu)
  case c3 => unfold maxLen; omega
  case c4 => omega
  case c5 => simp
  intro v1 w1 hown1 hgrow1 _
  have hb1 : Below w.heap.size w w1 := ((Below.refl w.heap.size w).alloc (Nat.le_refl _) _).grown hgrow1 (by simp) (fun j hj => by have := (HO.lt j hj).1; omega)
  have hs1 := hb1.size
  clear hgrow1
  go_wp2_with (at_builtin; refine wpList_append_own _ rfl _ _ 63 rfl w.heap.size 5 i0 (.int .u8 0) 1 1 Try.underlying63 hi hz0 hz1 hz2 rfl (by decide) _ _ _ rfl (hown1.alloc _) ⟨w1.heap.size, 0, none⟩ 1 1 [.int .u8 1] rfl rfl ?d1 ?d2 ?d3 ?d4 ?d5 ?_)
  case d1 => exact cell_one_new _ _ _
  case d2 => simp [Value.oneCell']
  case d3 => unfold maxLen; omega
  case d4 => omega
  case d5 => simp; omega
  intro v2 w2 hown2 hgrow2 _
  obtain ⟨gg, cap2, hv2⟩ := ownsRow_succ hown2
  subst hv2
  have hb2 : Below w.heap.size w w2 := (hb1.alloc hs1 _).grown hgrow2 (by simp; omega) (fun j hj => by have := (hown1.lt j hj).1; omega)
  have HR := Lib.hid (own_code hown2 (by simp ) (by
    intro v hv
    (simp at hv; subst hv; exact ⟨1, by omega, rfl⟩)))
  have HB := Lib.hid hb2
  clear hown2 hgrow2 hb2 hown1 hb1
  go_wp2_with fail
  go_ret
  exact ⟨gg, _, _, rfl, by omega, HR.out, HB.out⟩
set_option maxHeartbeats 2000000 in
set_option maxRecDepth 20000 in
theorem vCut2_2e (x : Addr) (w : World) :
    Calls Try.prog 42 #[.slice (some x) 2 2, .int .i64 2] w (CutPost w) := by
  obtain ⟨b, o, sp⟩ := x
  obtain ⟨i0, hi, hz0, hz1, hz2⟩ := info_parts infoU8c
  have HO : (w.alloc (.cells #[] 5)).ownsRow w.heap.size 5 1 (.slice (some ⟨w.heap.size, 0, none⟩) 0 0) 0 [] :=
    World.ownsRow_made (base := w.heap.size) (e := 5) (size := 1) w #[] 0 (Nat.le_refl _) (by decide) rfl
  skip
  go_enter Try.func42, Try.ntmps42
  go_wp2_with (at_builtin; refine wpList_append_own _ rfl _ _ 63 rfl w.heap.size 5 i0 (.int .u8 0) 1 1 Try.underlying63 hi hz0 hz1 hz2 rfl (by decide) _ _ _ rfl HO _ 0 _ [] rfl rfl ?c1 ?c2 ?c3 ?c4 ?c5 ?_)
  case c1 => exact (fun j u hj => by simp at hj)
  case c2 => exact (fun u hu => by simp at hu)
  case c3 => unfold maxLen; omega
  case c4 => omega
  case c5 => simp
  intro v1 w1 hown1 hgrow1 _
  have hb1 : Below w.heap.size w w1 := ((Below.refl w.heap.size w).alloc (Nat.le_refl _) _).grown hgrow1 (by simp) (fun j hj => by have := (HO.lt j hj).1; omega)
  have hs1 := hb1.size
  clear hgrow1
  go_wp2_with (at_builtin; refine wpList_append_own _ rfl _ _ 63 rfl w.heap.size 5 i0 (.int .u8 0) 1 1 Try.underlying63 hi hz0 hz1 hz2 rfl (by decide) _ _ _ rfl (hown1.alloc _) ⟨w1.heap.size, 0, none⟩ 1 1 [.int .u8 2] rfl rfl ?d1 ?d2 ?d3 ?d4 ?d5 ?_)
  case d1 => exact cell_one_new _ _ _
  case d2 => simp [Value.oneCell']
  case d3 => unfold maxLen; omega
  case d4 => omega
  case d5 => simp; omega
  intro v2 w2 hown2 hgrow2 _
  obtain ⟨gg, cap2, hv2⟩ := ownsRow_succ hown2
  subst hv2
  have hb2 : Below w.heap.size w w2 := (hb1.alloc hs1 _).grown hgrow2 (by simp; omega) (fun j hj => by have := (hown1.lt j hj).1; omega)
  have HR := Lib.hid (own_code hown2 (by simp ) (by
    intro v hv
    (simp at hv; subst hv; exact ⟨2, by omega, rfl⟩)))
  have HB := Lib.hid hb2
  clear hown2 hgrow2 hb2 hown1 hb1
  go_wp2_with fail
  go_ret
  exact ⟨gg, _, _, rfl, by omega, HR.out, HB.out⟩
set_option maxHeartbeats 2000000 in
set_option maxRecDepth 20000 in
theorem vCut2_2m (x : Addr) (cap : Nat) (hcap : 2 < cap) (w : World) :
    Calls Try.prog 42 #[.slice (some x) 2 cap, .int .i64 2] w (CutPost w) := by
  obtain ⟨b, o, sp⟩ := x
  obtain ⟨i0, hi, hz0, hz1, hz2⟩ := info_parts infoU8c
  have HO : (w.alloc (.cells #[] 5)).ownsRow w.heap.size 5 1 (.slice (some ⟨w.heap.size, 0, none⟩) 0 0) 0 [] :=
    World.ownsRow_made (base := w.heap.size) (e := 5) (size := 1) w #[] 0 (Nat.le_refl _) (by decide) rfl
  have hcz : ¬ (cap - 2 = 0) := by omega
  go_enter Try.func42, Try.ntmps42
  go_wp2_with (at_builtin; refine wpList_append_own _ rfl _ _ 63 rfl w.heap.size 5 i0 (.int .u8 0) 1 1 Try.underlying63 hi hz0 hz1 hz2 rfl (by decide) _ _ _ rfl HO _ 0 _ [] rfl rfl ?c1 ?c2 ?c3 ?c4 ?c5 ?_)
  case c1 => exact (fun j u hj => by simp at hj)
  case c2 => exact (fun u hu => by simp at hu)
  case c3 => unfold maxLen; omega
  case c4 => omega
  case c5 => simp
  intro v1 w1 hown1 hgrow1 _
  have hb1 : Below w.heap.size w w1 := ((Below.refl w.heap.size w).alloc (Nat.le_refl _) _).grown hgrow1 (by simp) (fun j hj => by have := (HO.lt j hj).1; omega)
  have hs1 := hb1.size
  clear hgrow1
  go_wp2_with (at_builtin; refine wpList_append_own _ rfl _ _ 63 rfl w.heap.size 5 i0 (.int .u8 0) 1 1 Try.underlying63 hi hz0 hz1 hz2 rfl (by decide) _ _ _ rfl (hown1.alloc _) ⟨w1.heap.size, 0, none⟩ 1 1 [.int .u8 2] rfl rfl ?d1 ?d2 ?d3 ?d4 ?d5 ?_)
  case d1 => exact cell_one_new _ _ _
  case d2 => simp [Value.oneCell']
  case d3 => unfold maxLen; omega
  case d4 => omega
  case d5 => simp; omega
  intro v2 w2 hown2 hgrow2 _
  obtain ⟨gg, cap2, hv2⟩ := ownsRow_succ hown2
  subst hv2
  have hb2 : Below w.heap.size w w2 := (hb1.alloc hs1 _).grown hgrow2 (by simp; omega) (fun j hj => by have := (hown1.lt j hj).1; omega)
  have HR := Lib.hid (own_code hown2 (by simp ) (by
    intro v hv
    (simp at hv; subst hv; exact ⟨2, by omega, rfl⟩)))
  have HB := Lib.hid hb2
  clear hown2 hgrow2 hb2 hown1 hb1
  go_wp2_with fail
  go_ret
  exact ⟨gg, _, _, rfl, by omega, HR.out, HB.out⟩
set_option maxHeartbeats 2000000 in
set_option maxRecDepth 20000 in
theorem vCut1_nil (w : World) :
    Calls Try.prog 42 #[.slice none 0 0, .int .i64 1] w (CutPost w) := by
  obtain ⟨i0, hi, hz0, hz1, hz2⟩ := info_parts infoU8c
  have hown1 : (w.alloc (.cells #[] 5)).ownsRow w.heap.size 5 1 (.slice (some ⟨w.heap.size, 0, none⟩) 0 0) 0 [] :=
    World.ownsRow_made (base := w.heap.size) (e := 5) (size := 1) w #[] 0 (Nat.le_refl _) (by decide) rfl
  have hb1 : Below w.heap.size w (w.alloc (.cells #[] 5)) := (Below.refl w.heap.size w).alloc (Nat.le_refl _) _
  have hs1 := hb1.size
  go_enter Try.func42, Try.ntmps42
  go_wp2_with (first | (at_builtin; refine wpList_append_own_none rfl _ _ 63 rfl w.heap.size 5 i0 1 Try.underlying63 hi _ 0 [] rfl hown1 rfl ?_) | (at_builtin; refine wpList_append_own _ rfl _ _ 63 rfl w.heap.size 5 i0 (.int .u8 0) 1 1 Try.underlying63 hi hz0 hz1 hz2 rfl (by decide) _ _ _ rfl (hown1.alloc _) ⟨w.heap.size + 1, 0, none⟩ 1 1 [.int .u8 0] rfl rfl ?d1 ?d2 ?d3 ?d4 ?d5 ?_))
  case d1 =>
    have := cell_one_new (w.alloc (.cells #[] 5)) (.int .u8 0) 5
    simpa only [World.size_alloc] using this
  case d2 => simp [Value.oneCell']
  case d3 => unfold maxLen; omega
  case d4 => omega
  case d5 => simp; omega
  intro v2 w2 hown2 hgrow2 _
  obtain ⟨gg, cap2, hv2⟩ := ownsRow_succ hown2
  subst hv2
  have hb2 : Below w.heap.size w w2 := (hb1.alloc hs1 _).grown hgrow2 (by simp; omega) (fun j hj => by have := (hown1.lt j hj).1; omega)
  have HR := Lib.hid (own_code hown2 (by simp) (by
    intro v hv
    simp at hv; subst hv; exact ⟨0, by omega, rfl⟩))
  have HB := Lib.hid hb2
  clear hown2 hgrow2 hb2 hown1 hb1
  go_wp2_with fail
  go_ret
  exact ⟨gg, _, _, rfl, by omega, HR.out, HB.out⟩
set_option maxHeartbeats 2000000 in
set_option maxRecDepth 20000 in
theorem vCut2_nil (w : World) :
    Calls Try.prog 42 #[.slice none 0 0, .int .i64 2] w (CutPost w) := by
  obtain ⟨i0, hi, hz0, hz1, hz2⟩ := info_parts infoU8c
  have hown1 : (w.alloc (.cells #[] 5)).ownsRow w.heap.size 5 1 (.slice (some ⟨w.heap.size, 0, none⟩) 0 0) 0 [] :=
    World.ownsRow_made (base := w.heap.size) (e := 5) (size := 1) w #[] 0 (Nat.le_refl _) (by decide) rfl
  have hb1 : Below w.heap.size w (w.alloc (.cells #[] 5)) := (Below.refl w.heap.size w).alloc (Nat.le_refl _) _
  have hs1 := hb1.size
  go_enter Try.func42, Try.ntmps42
  go_wp2_with (first | (at_builtin; refine wpList_append_own_none rfl _ _ 63 rfl w.heap.size 5 i0 1 Try.underlying63 hi _ 0 [] rfl hown1 rfl ?_) | (at_builtin; refine wpList_append_own _ rfl _ _ 63 rfl w.heap.size 5 i0 (.int .u8 0) 1 1 Try.underlying63 hi hz0 hz1 hz2 rfl (by decide) _ _ _ rfl (hown1.alloc _) ⟨w.heap.size + 1, 0, none⟩ 1 1 [.int .u8 0] rfl rfl ?d1 ?d2 ?d3 ?d4 ?d5 ?_))
  case d1 =>
    have := cell_one_new (w.alloc (.cells #[] 5)) (.int .u8 0) 5
    simpa only [World.size_alloc] using this
  case d2 => simp [Value.oneCell']
  case d3 => unfold maxLen; omega
  case d4 => omega
  case d5 => simp; omega
  intro v2 w2 hown2 hgrow2 _
  obtain ⟨gg, cap2, hv2⟩ := ownsRow_succ hown2
  subst hv2
  have hb2 : Below w.heap.size w w2 := (hb1.alloc hs1 _).grown hgrow2 (by simp; omega) (fun j hj => by have := (hown1.lt j hj).1; omega)
  have HR := Lib.hid (own_code hown2 (by simp) (by
    intro v hv
    simp at hv; subst hv; exact ⟨0, by omega, rfl⟩))
  have HB := Lib.hid hb2
  clear hown2 hgrow2 hb2 hown1 hb1
  go_wp2_with fail
  go_ret
  exact ⟨gg, _, _, rfl, by omega, HR.out, HB.out⟩
theorem vCut1_any (a : Option Addr) (len cap : Nat) (z : List Int) (w : World) (hl : len ≤ 65536) (hr : IsRow .u8 w a len cap z) :
    Calls Try.prog 42 #[.slice a len cap, .int .i64 1] w (CutPost w) := by
  have hcode := hr.code
  rcases hr with ⟨rfl, rfl, rfl, _⟩ | ⟨x, rfl, h1, _⟩
  · exact vCut1_nil w
  · by_cases h : 1 < len
    · rcases hcode with h0 | ⟨b, o, ha, hb, hc⟩
      · omega
      · cases ha
        exact vCut1_ge b o len cap w hl h h1 (.inr ⟨b, o, rfl, hb, hc⟩)
    · rcases (by omega : len = 0 ∨ len = 1) with rfl | rfl
      · by_cases hc : cap = 0
        · subst hc; exact vCut1_0e x w
        · exact vCut1_0m x cap (by omega) w
      · by_cases hc : cap = 1
        · subst hc; exact vCut1_1e x w
        · exact vCut1_1m x cap (by omega) w
theorem vCut2_any (a : Option Addr) (len cap : Nat) (z : List Int) (w : World) (hl : len ≤ 65536) (hr : IsRow .u8 w a len cap z) :
    Calls Try.prog 42 #[.slice a len cap, .int .i64 2] w (CutPost w) := by
  have hcode := hr.code
  rcases hr with ⟨rfl, rfl, rfl, _⟩ | ⟨x, rfl, h1, _⟩
  · exact vCut2_nil w
  · by_cases h : 2 < len
    · rcases hcode with h0 | ⟨b, o, ha, hb, hc⟩
      · omega
      · cases ha
        exact vCut2_ge b o len cap w hl h h1 (.inr ⟨b, o, rfl, hb, hc⟩)
    · rcases (by omega : len = 0 ∨ len = 1 ∨ len = 2) with rfl | rfl | rfl
      · by_cases hc : cap = 0
        · subst hc; exact vCut2_0e x w
        · exact vCut2_0m x cap (by omega) w
      · by_cases hc : cap = 1
        · subst hc; exact vCut2_1e x w
        · exact vCut2_1m x cap (by omega) w
      · by_cases hc : cap = 2
        · subst hc; exact vCut2_2e x w
        · exact vCut2_2m x cap (by omega) w
end Go.Proofs.Ytknjmkapabjolaa
