/-
  What the rows of this seat list of the library's variables: a world in which they read so (for the witness), and what the walks take from the list: the table of the powers of ten, and that two error variables hold errors.
-/
import Derived.Test.YtdbkciffdfdfbaaDoorKit
import Derived.Lib.LaidTab
import Derived.Stop.LaidErr
import Derived.WalkSmall
import Derived.Lib.ItoaNum
import Derived.Sort.Grow
namespace Go.Proofs.YtdbkciffdfdfbaaDoor
open Go.RowKit Go.Lib

/-- The values of a datum that is an array of integers. -/
def valsOf : DataW Unit → Array Value
  | .agg ds => (ds.map fun d => match d with | .lit (.int k z) => Value.int k z | _ => Value.nilIface).toArray
  | _ => #[]
def synS : ByteArray := { data := #[105, 110, 118, 97, 108, 105, 100, 32, 115, 121, 110, 116, 97, 120] }
def rngS : ByteArray := { data := #[118, 97, 108, 117, 101, 32, 111, 117, 116, 32, 111, 102, 32, 114, 97, 110, 103, 101] }
noncomputable def low : Nat := (World.holding Tryd.prog default ⟨#[], #[], []⟩).heap.size
/-- A variable's block is given these cells. -/
def setBlk (h : Array Obj) (b : Nat) (vs : Array Value) : Array Obj := h.modify b fun o => match o with | .cells _ t frozen => .cells vs t frozen | o => o
noncomputable def laidWorld (os : Os) : World :=
  let w0 := World.holding Tryd.prog os ⟨#[.cells #[.string synS] 88, .cells #[.string rngS] 88], #[], []⟩
  { w0 with heap := setBlk (setBlk (setBlk (setBlk (setBlk w0.heap 0 #[.iface 86 (.pointer (some ⟨low, 0, none⟩))]) 1 #[.iface 86 (.pointer (some ⟨low + 1, 0, none⟩))])
      3 (valsOf Rows.laid_internal_strconv_uint64pow10)) 4 (valsOf Rows.laid_math_bits_deBruijn32tab)) 5 (valsOf Rows.laid_math_bits_deBruijn64tab) }

theorem gTab : Tryd.prog.globalNamed "internal/strconv.uint64pow10" = some 3 := by kernel_rfl
theorem gTabType : (Tryd.prog.globals[3]?).map (·.type) = some 81 := by kernel_rfl
theorem cellsTab : Tryd.prog.cellsOf 81 = 20 := by kernel_rfl
theorem cellsU64 : Tryd.prog.cellsOf 35 = 1 := by kernel_rfl
theorem tabEq : (Rows.laid_internal_strconv_uint64pow10 : DataW Unit) = tabData .u64 pow10Tab := by kernel_rfl

/-- The table, where the list holds it third. -/
theorem tab_of {rest : List (String × DataW Unit)} {W : World}
    (h : laidMet Tryd.prog (("math/bits.deBruijn32tab", Rows.laid_math_bits_deBruijn32tab) :: ("math/bits.deBruijn64tab", Rows.laid_math_bits_deBruijn64tab) :: ("internal/strconv.uint64pow10", Rows.laid_internal_strconv_uint64pow10) :: rest) W) :
    Lib.TabIs Tryd.prog W "internal/strconv.uint64pow10" .u64 Lib.pow10Tab := by
  have h3 := h.tail.tail
  rw [tabEq] at h3
  exact Lib.tabIs_of_head gTab gTabType Tryd.underlying81 Tryd.underlying35 cellsU64 cellsTab h3

/-- The table's block was there. -/
theorem tab_old {W : World} (h : Lib.TabIs Tryd.prog W "internal/strconv.uint64pow10" .u64 Lib.pow10Tab) : 3 < W.heap.size := by
  unfold Lib.TabIs World.var? at h
  rw [gTab] at h
  simp only [Option.bind_some] at h
  by_cases hl : 3 < W.heap.size
  · exact hl
  · rw [Array.getElem?_eq_none (by omega)] at h
    cases h
/-- It reads on so in every later world. -/
theorem tab_below {W W' : World} (h : Lib.TabIs Tryd.prog W "internal/strconv.uint64pow10" .u64 Lib.pow10Tab) (hb : Below W.heap.size W W') :
    Lib.TabIs Tryd.prog W' "internal/strconv.uint64pow10" .u64 Lib.pow10Tab := var?_below hb gTab (tab_old h) h

/-! The two errors -/
theorem gES : Tryd.prog.globalNamed "strconv.ErrSyntax" = some 0 := by kernel_rfl
theorem gESType : (Tryd.prog.globals[0]?).map (·.type) = some 46 := by kernel_rfl
theorem gER : Tryd.prog.globalNamed "strconv.ErrRange" = some 1 := by kernel_rfl
theorem gERType : (Tryd.prog.globals[1]?).map (·.type) = some 46 := by kernel_rfl
theorem cellsES : Tryd.prog.cellsOf 88 = 1 := by kernel_rfl
theorem cellsStr : Tryd.prog.cellsOf 9 = 1 := by kernel_rfl
theorem starName : "*" ++ "errors.errorString" = "*errors.errorString" := by decide
theorem rowES (u : TypeId) (h : Tryd.prog.typeName? 3 u = some "*errors.errorString") : u = 86 :=
  typeName_ptr_named (nm := "errors.errorString") (by rw [starName]; kernel_rfl) (by kernel_rfl) (by decide) u (by rw [starName]; exact h)
/-- What a walk needs of the two: each holds an error. -/
def ErrVars (W : World) : Prop := (∃ p, W.var? Tryd.prog "strconv.ErrSyntax" = some #[.iface 86 p]) ∧ (∃ p, W.var? Tryd.prog "strconv.ErrRange" = some #[.iface 86 p])
theorem errs_of {W : World}
    (h : laidMet Tryd.prog [("math/bits.deBruijn32tab", Rows.laid_math_bits_deBruijn32tab), ("math/bits.deBruijn64tab", Rows.laid_math_bits_deBruijn64tab), ("internal/strconv.uint64pow10", Rows.laid_internal_strconv_uint64pow10), ("strconv.ErrRange", Rows.laid_strconv_ErrRange), ("strconv.ErrSyntax", Rows.laid_strconv_ErrSyntax)] W) : ErrVars W := by
  obtain ⟨a0, s0, hv0, -, -, -⟩ := laid_sentinel h.tail.tail.tail gER gERType Tryd.underlying46 rowES Tryd.underlying86 Tryd.underlying88 rfl rfl Tryd.underlying9 cellsES cellsStr
  obtain ⟨a1, s1, hv1, -, -, -⟩ := laid_sentinel h.tail.tail.tail.tail gES gESType Tryd.underlying46 rowES Tryd.underlying86 Tryd.underlying88 rfl rfl Tryd.underlying9 cellsES cellsStr
  exact ⟨⟨_, hv1⟩, ⟨_, hv0⟩⟩
theorem var_old {W : World} {n : String} {g : Nat} {cs : Array Value} (hg : Tryd.prog.globalNamed n = some g) (h : W.var? Tryd.prog n = some cs) : g < W.heap.size := by
  unfold World.var? at h
  rw [hg] at h
  simp only [Option.bind_some] at h
  by_cases hl : g < W.heap.size
  · exact hl
  · rw [Array.getElem?_eq_none (by omega)] at h
    cases h
theorem errs_below {W W' : World} (h : ErrVars W) (hb : Below W.heap.size W W') : ErrVars W' := by
  obtain ⟨⟨p, hp⟩, ⟨q, hq⟩⟩ := h
  exact ⟨⟨p, var?_below hb gES (var_old gES hp) hp⟩, ⟨q, var?_below hb gER (var_old gER hq) hq⟩⟩

theorem below_draws {B : Nat} {W w : World} (h : Below B W w) (k : Nat) : Below B W (w.drewN k) := ⟨h.os, h.tape, h.output, h.size, h.block⟩
theorem below_grow {B : Nat} {w : World} (hB : B ≤ w.heap.size) (k : Nat) (os : Array Obj) : Below B w (Sort.grow (w.drewN k) os) :=
  ⟨rfl, rfl, rfl, by simp [Sort.grow], fun j hj => by simp only [Sort.grow, World.heap_drewN]; rw [Array.getElem?_append_left (by omega)]⟩
end Go.Proofs.YtdbkciffdfdfbaaDoor
