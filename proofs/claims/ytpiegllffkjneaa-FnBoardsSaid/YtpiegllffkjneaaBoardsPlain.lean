/-
  Plain facts on boards: what is counted, the highest tile stands where it is told, put and taken tiles, one of two boards comes first; and == of arrays of eighteen numbers.
-/
import Derived.Test.YtpiegllffkjneaaCellsOf
import Derived.Test.YtpiegllffkjneaaFirstPlain
import Derived.Test.YtpiegllffkjneaaCellHelp
namespace Go.Proofs.Ytpiegllffkjneaa.Plain
theorem cnt_emp (f : Nat → Int) : ∀ k, cntF f k 0 = (empN f k : Int)
  | 0 => rfl
  | k + 1 => by
    have ih := cnt_emp f k
    show cntF f k 0 + (if f k = ((0 : Nat) : Int) then 1 else 0) = _
    unfold empN
    by_cases h : f k = 0
    · rw [if_pos (by rw [h]; rfl), if_pos h, ih]; omega
    · rw [if_neg (fun e => h (by rw [e]; rfl)), if_neg h, ih]; omega
theorem cnt_pos (f : Nat → Int) (v j : Nat) (hv : f j = (v : Int)) : ∀ k, j < k → 1 ≤ cntF f k v
  | 0, h => by omega
  | k + 1, h => by
    have h0 := (cntF_bd f k v).1
    show 1 ≤ cntF f k v + (if f k = (v : Int) then 1 else 0)
    rcases (by omega : j < k ∨ j = k) with q | rfl
    · have := cnt_pos f v j hv k q; split <;> omega
    · rw [if_pos hv]; omega
theorem hiF_at (f : Nat → Int) : ∀ k, 0 < (hiF f k).1 → (hiF f k).2 < k ∧ f (hiF f k).2 = (hiF f k).1
  | 0, h => by simp [hiF] at h
  | k + 1, h => by
    by_cases e : (hiF f k).1 < f k
    · rw [hiF_yes e]; exact ⟨Nat.lt_succ_self k, rfl⟩
    · rw [hiF_no e] at h ⊢
      have := hiF_at f k h
      exact ⟨by omega, this.2⟩
theorem place_lt {g : Nat → Int} (h : CellIn g) : placeAt g < 16 := by obtain ⟨r, c, hr, hc, _, _, e⟩ := cell_nat h; rw [e]; omega
theorem take_put {f g : Nat → Int} {t : Int} (h : PutOk f g t) : takeO (putB f g t) g = true ∧ sameB (takeB (putB f g t) g) f = true ∧ takeT (putB f g t) g = t := by
  obtain ⟨hV, hg, ht, h0⟩ := h
  have e := (put_yes ⟨hV, hg, ht, h0⟩).2
  rw [e]
  have hk : TakeOk (upd f (placeAt g) t) g := ⟨fun j hj => by
    unfold upd; split
    · omega
    · exact hV j hj, hg, by rw [upd_same]; omega⟩
  obtain ⟨y1, y2, y3⟩ := take_yes hk
  rw [y1, y2, y3]
  refine ⟨rfl, sameB_iff.2 fun j hj => ?_, upd_same _ _ _⟩
  unfold upd
  by_cases e : j = placeAt g
  · subst e; simp [h0]
  · simp [e]
theorem put_take {f g : Nat → Int} (h : TakeOk f g) : putO (takeB f g) g (takeT f g) = true ∧ sameB (putB (takeB f g) g (takeT f g)) f = true := by
  obtain ⟨hV, hg, h0⟩ := h
  obtain ⟨_, y2, y3⟩ := take_yes ⟨hV, hg, h0⟩
  have hp := hV _ (place_lt hg)
  have hk : PutOk (upd f (placeAt g) 0) g (f (placeAt g)) := ⟨fun j hj => by
    unfold upd; split
    · omega
    · exact hV j hj, hg, by omega, upd_same _ _ _⟩
  rw [y2, y3]
  obtain ⟨z1, z2⟩ := put_yes hk
  rw [z1, z2]
  refine ⟨rfl, sameB_iff.2 fun j hj => ?_⟩
  unfold upd
  by_cases e : j = placeAt g
  · subst e; simp
  · simp [e]
theorem less_three (f g : Nat → Int) : (sameB f g = true ∧ lessB f g = false ∧ lessB g f = false) ∨ (sameB f g = false ∧ lessB f g = true ∧ lessB g f = false) ∨ (sameB f g = false ∧ lessB f g = false ∧ lessB g f = true) := by
  have key : ∀ a b : Nat → Int, lessB a b = true → sameB a b = false ∧ sameB b a = false ∧ lessB b a = false := fun a b h => by
    refine ⟨?_, ?_, ?_⟩
    · cases hs : sameB a b with
      | false => rfl
      | true => have := lessB_congr (f := a) (g := b) (f' := b) (g' := b) (sameB_iff.1 hs) (fun _ _ => rfl); rw [h, lessB_irrefl] at this; cases this
    · cases hs : sameB b a with
      | false => rfl
      | true => have := lessB_congr (f := a) (g := b) (f' := a) (g' := a) (fun _ _ => rfl) (sameB_iff.1 hs); rw [h, lessB_irrefl] at this; cases this
    · cases hb : lessB b a with
      | false => rfl
      | true => have := lessB_trans h hb; rw [lessB_irrefl] at this; cases this
  rcases lessB_tot f g with h | h | h
  · exact Or.inl ⟨sameB_iff.2 h, lessB_none h, lessB_none fun i hi => (h i hi).symm⟩
  · obtain ⟨a, _, c⟩ := key f g h; exact Or.inr (Or.inl ⟨a, h, c⟩)
  · obtain ⟨_, b, c⟩ := key g f h; exact Or.inr (Or.inr ⟨b, c, h⟩)
end Go.Proofs.Ytpiegllffkjneaa.Plain
namespace Go.Proofs.Ytpiegllffkjneaa
open Go.RowKit Plain
theorem eqN18 (d : Nat) (f g : Nat → Int) (w : World) : (Op.equalIn (d + 2) 60 (.agg (mk 18 f)) (.agg (mk 18 g))).run Try.prog w = .ok ((List.range 18).all fun c => f c == g c) w := by
  cases hq : Try.prog.info? 3 with
  | none => have := size1; simp [hq] at this
  | some i =>
    rw [run_equalIn_array w (d + 1) (mk 18 f) (mk 18 g) Try.underlying60 hq, cells1]
    exact items_all _ _ _ _ _ _ (fun c => .int .i64 (f c)) (fun c => .int .i64 (g c)) (fun c => f c == g c) _ fun c hc => by
      have hc4 : c < 18 := List.mem_range.1 hc
      exact ⟨part_int Try.underlying3 f hc4 w, part_int Try.underlying3 g hc4 w, run_equalIn_int w d _ _ _ _ _ Try.underlying3⟩
theorem neqN_self (f : Nat → Int) (w : World) : (binOp .neq 60 (.agg (mk 18 f)) (.agg (mk 18 f))).run Try.prog w = .ok (.bool false) w := by
  rw [run_neq_struct, eqN18 9998]
  simp
theorem eqN_self (f : Nat → Int) (w : World) : (Op.equalIn 10000 60 (.agg (mk 18 f)) (.agg (mk 18 f))).run Try.prog w = .ok true w := by
  rw [eqN18 9998]; simp
end Go.Proofs.Ytpiegllffkjneaa
