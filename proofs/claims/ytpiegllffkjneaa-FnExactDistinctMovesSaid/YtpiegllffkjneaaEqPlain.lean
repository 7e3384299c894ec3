/-
  Plain facts on boards that are equal, and on moves. No program stands in this text.
-/
import Derived.Test.YtpiegllffkjneaaSlidePlain
namespace Go.Proofs.Ytpiegllffkjneaa.Plain
/-- Four numbers, and sixteen, are the same. -/
def sameR (f g : Nat → Int) : Bool := (List.range 4).all fun c => f c == g c
def sameB (f g : Nat → Int) : Bool := (List.range 4).all fun r => sameR (fun c => f (r * 4 + c)) (fun c => g (r * 4 + c))
theorem sameR_iff {f g : Nat → Int} : sameR f g = true ↔ ∀ c, c < 4 → f c = g c := by simp [sameR]
theorem sameB_iff {f g : Nat → Int} : sameB f g = true ↔ ∀ j, j < 16 → f j = g j := by
  simp only [sameB, List.all_eq_true, List.mem_range, sameR_iff]
  constructor
  · intro h j hj
    have := h (j / 4) (by omega) (j % 4) (by omega)
    rwa [show j / 4 * 4 + j % 4 = j by omega] at this
  · intro h r hr c hc; exact h _ (by omega)
/-- The slide to the side d is a move. -/
def isMv (f : Nat → Int) (d : Nat) : Bool := !sameB (slideB f d) f
def movL (f : Nat → Int) : Nat → List Int
  | 0 => []
  | k + 1 => if isMv f k = true then movL f k ++ [(k : Int)] else movL f k
theorem mov_yes {f : Nat → Int} {k : Nat} (h : isMv f k = true) : movL f (k + 1) = movL f k ++ [(k : Int)] := by simp [movL, h]
theorem mov_no {f : Nat → Int} {k : Nat} (h : isMv f k = false) : movL f (k + 1) = movL f k := by simp [movL, h]
theorem movL_le (f : Nat → Int) : ∀ k, (movL f k).length ≤ k
  | 0 => Nat.le_refl _
  | k + 1 => by
    have := movL_le f k
    unfold movL
    split <;> simp <;> omega
/-- What MovesOf and IsOver return. -/
def movR (f : Nat → Int) : List Int := if Vd f then movL f 4 else []
theorem movR_yes {f : Nat → Int} (h : Vd f) : movR f = movL f 4 := by simp [movR, h]
theorem movR_no {f : Nat → Int} (h : ¬ Vd f) : movR f = [] := by simp [movR, h]
def overR (f : Nat → Int) : Bool := decide (Vd f ∧ (movL f 4).length = 0)
theorem over_yes {f : Nat → Int} (h : Vd f) (h0 : (movL f 4).length = 0) : overR f = true := by simp only [overR, h, h0, and_self, decide_true]
theorem over_not {f : Nat → Int} (h0 : (movL f 4).length ≠ 0) : overR f = false := by simp only [overR, h0, and_false, decide_false]
theorem over_no {f : Nat → Int} (h : ¬ Vd f) : overR f = false := by simp only [overR, h, false_and, decide_false]
end Go.Proofs.Ytpiegllffkjneaa.Plain
