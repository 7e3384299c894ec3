/-
  The contracts of the reference's l5All, StepsOf, CountNext and IsTrapped.
-/
import Derived.Test.YtkocfpldgjfpeaaSpecSteps
import Derived.Test.YtkocfpldgjfpeaaSpecDo
import Derived.Test.YtkocfpldgjfpeaaSpecAdd
import Derived.Test.YtkocfpldgjfpeaaOver
import Derived.Test.YtkocfpldgjfpeaaNextPlain
namespace Go.Proofs.Ytkocfpldgjfpeaa
open Go.RowKit Plain
attribute [local go_sem] store_new
set_option linter.unusedVariables false
set_option linter.unusedSimpArgs false

theorem app_flat {m : Nat} {L M : List (List Int)} (h : AllL m M) : L.flatten.map (Value.int .i64) ++ (mk (M.length * m) fun j => flatF M (0 + j)).toList = (L ++ M).flatten.map (Value.int .i64) := by
  rw [List.flatten_append, List.map_append, flat_mk h]
  congr 2
  exact mk_congr fun j _ => by rw [Nat.zero_add]
theorem app_walk {m : Nat} {L M : List (List Int)} (h : AllL m M) : (List.map (List.map (Value.int .i64)) L).flatten ++ (mk (M.length * m) fun j => flatF M j).toList = (L ++ M).flatten.map (Value.int .i64) := by
  rw [List.flatten_append, List.map_append, flat_mk h, List.map_flatten]
theorem step_all (f : Nat → Int) (d : Nat) (hd : d < 4) : AllL 4 (stepL f d) := fun l hl => (step_fn hd hl).1
theorem all_all (f : Nat → Int) {k : Nat} (hk : k ≤ 4) : AllL 4 (allL f k) := fun l hl => (all_fn hk hl).1
end Go.Proofs.Ytkocfpldgjfpeaa
