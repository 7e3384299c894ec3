/-
  A slice of integers that came in, and the laws' copy of it. No condition.
-/
import Derived.Test.YtblcojacmjbjcaaRowsKit
import Derived.Test.YtblcojacmjbjcaaBaseA
namespace Go.Proofs.Ytblcojacmjbjcaa
open Go.RowKit Plain

/-- The value v is a slice that reads as these numbers. -/
def ZRow (w : World) (v : Value) (zs : List Int) : Prop :=
  (∃ a cap, v = .slice a 0 cap ∧ zs = []) ∨
  ∃ b o cap, v = .slice (some ⟨b, o, none⟩) zs.length cap ∧ zs.length ≤ cap ∧ b < w.heap.size ∧ ∀ j (h : j < zs.length), w.cell? ⟨b, o + j, none⟩ = some (.int .i64 zs[j])
theorem ZRow.below {w w' : World} {v : Value} {zs : List Int} (h : ZRow w v zs) (hb : Below w.heap.size w w') : ZRow w' v zs := by
  rcases h with h | ⟨b, o, cap, rfl, h0, h1, h2⟩
  · exact .inl h
  · exact .inr ⟨b, o, cap, rfl, h0, Nat.lt_of_lt_of_le h1 hb.size, fun j hj => (hb.cell (p := ⟨b, o + j, none⟩) h1).trans (h2 j hj)⟩
theorem IsRow.zrow {w : World} {a : Option Addr} {len cap : Nat} {z : List Int} (h : IsRow .i64 w a len cap z) : ∃ zs, ZRow w (.slice a len cap) zs ∧ zs.length = len := by
  rcases h with ⟨rfl, rfl, rfl, rfl⟩ | ⟨x, rfl, h1, h2, h3, h4, h5⟩
  · exact ⟨[], .inl ⟨_, _, rfl, rfl⟩, rfl⟩
  · by_cases h0 : len = 0
    · subst h0
      exact ⟨[], .inl ⟨_, _, rfl, rfl⟩, rfl⟩
    · obtain ⟨b, o, sp⟩ := x
      have hc := h4 0 (by omega)
      have hsp : sp = none := by simpa [Addr.add] using World.cell?_spot hc
      subst hsp
      have hb : b < w.heap.size := by simpa [Addr.add] using World.block_lt_of_cell? w _ hc
      have hl : (z.take len).length = len := by simp; omega
      refine ⟨z.take len, .inr ⟨b, o, cap, by rw [hl], by omega, hb, fun j hj => ?_⟩, hl⟩
      have := h4 j (by omega)
      have e : (⟨b, o, none⟩ : Addr).add j = ⟨b, o + j, none⟩ := by unfold Addr.add; split <;> simp_all
      rw [e] at this
      rw [this, List.getElem_take, List.getD_eq_getElem?_getD, List.getElem?_eq_getElem (by omega)]
      rfl
/-- What stands in the copy behind k rounds. -/
def mixZ (zs : List Int) (M : List Value) (k : Nat) : List Value := (zs.take k).map (Value.int .i64) ++ M.drop k
theorem mixZ_zero (zs : List Int) (M : List Value) : mixZ zs M 0 = M := by simp [mixZ]
theorem take_snocZ (zs : List Int) (k : Nat) (h : k < zs.length) : zs.take (k + 1) = zs.take k ++ [zs[k]] := by
  rw [List.take_add_one, List.getElem?_eq_getElem h]; rfl
theorem mixZ_step (zs : List Int) (M : List Value) (k : Nat) (h : k < zs.length) (hm : M.length = zs.length) : (mixZ zs M k).set k (.int .i64 zs[k]) = mixZ zs M (k + 1) := by
  unfold mixZ
  have hl : ((zs.take k).map (Value.int .i64)).length = k := by simp; omega
  rw [List.set_append_right _ _ (by omega), hl, Nat.sub_self, take_snocZ zs k h, List.map_append, List.append_assoc]
  have hd : M.drop k = M[k]'(by omega) :: M.drop (k + 1) := (List.getElem_cons_drop (by omega)).symm
  rw [hd]
  rfl
theorem mixZ_end (zs : List Int) (M : List Value) (hm : M.length = zs.length) : mixZ zs M zs.length = zs.map (Value.int .i64) := by
  unfold mixZ
  rw [List.take_length, List.drop_eq_nil_of_le (by omega), List.append_nil]
theorem mixZ_len (zs : List Int) (M : List Value) (k : Nat) (h : k ≤ zs.length) (hm : M.length = zs.length) : (mixZ zs M k).length = zs.length := by
  unfold mixZ; simp; omega
set_option maxHeartbeats 400000 in
theorem toInts_any (v : Value) (ss : List Int) (w : World) (hr : ZRow w v ss) (hn : ss.length ≤ 1048576) :
    Calls Try.prog 46 #[v] w fun e w' => ∃ g, e = .returned (.slice (some ⟨g, 0, none⟩) ss.length ss.length) ∧
      OwnsInts w' w.heap.size (.slice (some ⟨g, 0, none⟩) ss.length ss.length) ss ∧ Below w.heap.size w w' := by
  unfold OwnsInts
  obtain ⟨i0, hi, hz0, hz1, hz2⟩ := info_parts infoInt
  have hbytes : i0.bytes * ss.length ≤ 281474976710656 := by rw [hz2]; omega
  have hB := Lib.hid hbytes
  clear hbytes
  rcases hr with ⟨a, cap, rfl, rfl⟩ | ⟨b, o, cap, rfl, _, hbl, hcell⟩
  · go_enter Try.func46, Try.ntmps46
    go_wp2_with (at_make; refine wpList_make_full _ rfl _ _ 43 rfl w.heap.size 3 i0 (.int .i64 0) 1 Try.underlying43 hi hz0 hz1 .i64 .i64 0 0 0 rfl rfl rfl rfl hB.out (by decide) (Nat.le_refl _) ?_; intro w1 hown hgrow)
    have HO := Lib.hid hown
    have HB1 : Hid (Below w.heap.size w w1) := (Below.refl _ _).grown hgrow (Nat.le_refl _) (fun _ h => by cases h)
    clear hown hgrow
    go_loop [4] (fun i => i = .int .i64 0) (fun i => 1 - (intOf i).toNat)
    case atStart => exact rfl
    case round =>
      obtain rfl := hrel
      go_wp2
      go_ret
      refine ⟨_, rfl, ?_, HB1.out⟩
      have := HO.out
      have e : (madeCells (Value.int .i64 0).cells (0 * 1)).toList = [] := List.eq_nil_of_length_eq_zero (by simpa using this.1)
      rw [e] at this
      exact this
  · have HC := Lib.hid hcell
    clear hcell
    go_enter Try.func46, Try.ntmps46
    go_wp2_with (at_make; refine wpList_make_full _ rfl _ _ 43 rfl w.heap.size 3 i0 (.int .i64 0) 1 Try.underlying43 hi hz0 hz1 .i64 .i64 ss.length ss.length ss.length rfl rfl rfl rfl hB.out (by unfold maxLen; omega) (Nat.le_refl _) ?_; intro w1 hown hgrow)
    have HB1 : Hid (Below w.heap.size w w1) := (Below.refl _ _).grown hgrow (Nat.le_refl _) (fun _ h => by cases h)
    obtain ⟨M, hM⟩ : ∃ M, M = (madeCells (Value.int .i64 0).cells (ss.length * 1)).toList := ⟨_, rfl⟩
    rw [← hM] at hown
    clear hM
    have hml : M.length = ss.length := by have := hown.1; omega
    have HML := Lib.hid hml
    have HO := Lib.hid hown
    clear hown hgrow hml
    generalize hg : w.heap.size = g at *
    have HG := Lib.hid hg
    clear hg
    go_loopw [4] (fun i wr => ∃ k : Nat, k ≤ ss.length ∧ i = .int .i64 k ∧ wr.ownsRow g 3 1 (.slice (some ⟨g, 0, none⟩) ss.length ss.length) ss.length (mixZ ss M k) ∧ Below g w wr) (fun i _ => ss.length - (intOf i).toNat)
    case atStart => exact ⟨0, Nat.zero_le _, rfl, by rw [mixZ_zero]; exact HO.out, HB1.out⟩
    case round =>
      obtain ⟨k, hk, rfl, hown, hbel⟩ := hrel
      by_cases hlt : k < ss.length
      · have hc : wr.cell? ⟨b, o + k, none⟩ = some (.int .i64 ss[k]) := (hbel.cell (p := ⟨b, o + k, none⟩) hbl).trans (HC.out k hlt)
        have hln := mixZ_len ss M k hk HML.out
        obtain ⟨u0, hd⟩ : ∃ u0, wr.cell? ⟨g, k, none⟩ = some u0 := ⟨_, by rw [hown.cellAt k (by omega)]; exact List.getElem?_eq_getElem (by omega)⟩
        have hf := hown.frozenAt k
        have hst := hown.stored k (.int .i64 ss[k])
        rw [mixZ_step ss M k hlt HML.out] at hst
        have HST := Lib.hid hst
        have HB := Lib.hid hbel
        clear hst hown hbel hln
        generalize ss[k] = t at *
        go_wp2
        go_roundw
        case rel => exact ⟨k + 1, by omega, by go_num, HST.out.1, HB.out.setCell (p := ⟨g, k, none⟩) (Nat.le_refl _) _⟩
        case measure => simp [intOf]; omega
      · have HOO := Lib.hid hown
        have HB := Lib.hid hbel
        clear hown hbel
        go_wp2
        go_ret
        have hG := HG.out
        subst hG
        refine ⟨_, rfl, ?_, HB.out⟩
        have := HOO.out
        rw [show k = ss.length by omega, mixZ_end ss M HML.out] at this
        exact this
end Go.Proofs.Ytblcojacmjbjcaa
