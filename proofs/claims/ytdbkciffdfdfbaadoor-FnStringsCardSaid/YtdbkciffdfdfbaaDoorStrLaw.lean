/-
  What FnStrings calls, each with its one result; the bytes of a text in memory, and one of them changed.
-/
import Derived.Test.YtdbkciffdfdfbaaDoorVerify
import Derived.Test.YtdbkciffdfdfbaaDoorAtoi
import Derived.Test.YtdbkciffdfdfbaaDoorRead
import Derived.Test.YtdbkciffdfdfbaaDoorDrawStr
import Derived.Test.YtdbkciffdfdfbaaDoorDetectPlain
import Derived.Lib.ConvBytes
import Derived.Laws.BitsAllLaws
namespace Go.Proofs.YtdbkciffdfdfbaaDoor
open Go.RowKit Plain Go.Lib

theorem IsRow.code {w : World} {a : Option Addr} {len cap : Nat} {z : List Int} (h : IsRow .u8 w a len cap z) : CodeRow w a len w.heap.size := by
  rcases h with ⟨_, h, _, _⟩ | ⟨x, rfl, h1, h2, h3, h4, h5⟩
  · exact .inl h
  · by_cases h0 : len = 0
    · exact .inl h0
    · obtain ⟨b, o, sp⟩ := x
      have hc := h4 0 (by omega)
      have hsp : sp = none := by simpa [Addr.add] using World.cell?_spot hc
      subst hsp
      have hb : b < w.heap.size := by simpa [Addr.add] using World.block_lt_of_cell? w _ hc
      refine .inr ⟨b, o, rfl, hb, fun j hj => ?_⟩
      have := h4 j (by omega)
      have e : (⟨b, o, none⟩ : Addr).add j = ⟨b, o + j, none⟩ := by unfold Addr.add; split <;> simp_all
      rw [e, List.getD_eq_getElem?_getD, List.getElem?_eq_getElem (by omega)] at this
      have hw := h5 z[j] (List.getElem_mem _)
      have e1 : IntKind.u8.min = 0 := rfl
      have e2 : IntKind.u8.max = 255 := rfl
      simp [Lit.wf, e1, e2] at hw
      obtain ⟨n, hn⟩ := Int.eq_ofNat_of_zero_le hw.1
      exact ⟨n, by omega, by rw [this, ← hn]; rfl⟩
theorem IsRow.len_le {k : IntKind} {w : World} {a : Option Addr} {len cap : Nat} {z : List Int} (h : IsRow k w a len cap z) : len ≤ maxLen := by
  rcases h with ⟨_, rfl, _, _⟩ | ⟨x, rfl, h1, h2, _⟩
  · exact Nat.zero_le _
  · omega

/-! The results as functions. -/
def fmtR (n : Int) : ByteArray × Bool := if -999999 ≤ n ∧ n ≤ 999999 then (num n, true) else (ByteArray.empty, false)
open Classical in
noncomputable def prsR (t : ByteArray) : Int × Bool := if h : ∃ v : Int, -999999 ≤ v ∧ v ≤ 999999 ∧ num v = t then (Classical.choose h, true) else (0, false)
open Classical in
noncomputable def appR (t : ByteArray) : ByteArray × Bool := if AppOk t then (sealT t, true) else (ByteArray.empty, false)

theorem prsR_yes {t : ByteArray} {v : Int} (h0 : -999999 ≤ v) (h1 : v ≤ 999999) (h : num v = t) : prsR t = (v, true) := by
  have hx : ∃ v : Int, -999999 ≤ v ∧ v ≤ 999999 ∧ num v = t := ⟨v, h0, h1, h⟩
  unfold prsR
  rw [dif_pos hx]
  obtain ⟨k0, k1, k2⟩ := Classical.choose_spec hx
  rw [num_inj _ v k0 k1 h0 h1 (k2.trans h.symm)]
theorem prsR_no {t : ByteArray} (h : noNum t) : prsR t = (0, false) := by
  unfold prsR
  rw [dif_neg]
  rintro ⟨v, h0, h1, h2⟩
  exact h v h0 h1 h2
theorem num_or (t : ByteArray) : (∃ v : Int, -999999 ≤ v ∧ v ≤ 999999 ∧ num v = t) ∨ noNum t := by
  by_cases h : ∃ v : Int, -999999 ≤ v ∧ v ≤ 999999 ∧ num v = t
  · exact .inl h
  · exact .inr fun v h0 h1 e => h ⟨v, h0, h1, e⟩

def Gives (v : Value) (w : World) (e : Ending) (w' : World) : Prop := e = .returned v ∧ Below w.heap.size w w'

theorem specFmt_R (n : Int) (w : World) : Calls Tryd.prog 11 #[.int .i64 n] w (Gives (.tuple #[.string (fmtR n).1, .bool (fmtR n).2]) w) := by
  unfold fmtR
  by_cases h : -999999 ≤ n ∧ n ≤ 999999
  · rw [if_pos h]; exact specFmt_yes n w h.1 h.2
  · rw [if_neg h]; exact specFmt_no n w (by omega)
theorem implFmt_R (n : Int) (w : World) (ht : Lib.TabIs Tryd.prog w "internal/strconv.uint64pow10" .u64 Lib.pow10Tab) : Calls Tryd.prog 10 #[.int .i64 n] w (Gives (.tuple #[.string (fmtR n).1, .bool (fmtR n).2]) w) := by
  unfold fmtR
  by_cases h : -999999 ≤ n ∧ n ≤ 999999
  · rw [if_pos h]; exact implFmt_yes n w h.1 h.2 ht
  · rw [if_neg h]; exact implFmt_no n w (by omega)
theorem specPrs_R (t : ByteArray) (w : World) (hs : t.size ≤ maxLen) : Calls Tryd.prog 14 #[.string t] w (Gives (.tuple #[.int .i64 (prsR t).1, .bool (prsR t).2]) w) := by
  refine (specParse_any t w hs).mono ?_
  rintro e w' (⟨v, h0, h1, hv, he, hk⟩ | ⟨hn, he, hk⟩)
  · rw [prsR_yes h0 h1 hv]; exact ⟨he, draws_below hk⟩
  · rw [prsR_no hn]; exact ⟨he, draws_below hk⟩
theorem implPrs_R (t : ByteArray) (w : World) (hs : t.size ≤ 281474976710656) (ht : Lib.TabIs Tryd.prog w "internal/strconv.uint64pow10" .u64 Lib.pow10Tab) (hE : ErrVars w) : Calls Tryd.prog 13 #[.string t] w (Gives (.tuple #[.int .i64 (prsR t).1, .bool (prsR t).2]) w) := by
  rcases num_or t with ⟨v, h0, h1, hv⟩ | hn
  · rw [prsR_yes h0 h1 hv]; exact implParse_yes t v w hs ht h0 h1 hv
  · rw [prsR_no hn]; exact implParse_no t w hs ht hE hn
theorem specApp_R (t : ByteArray) (w : World) (hm : t.size ≤ maxLen) : Calls Tryd.prog 17 #[.string t] w (Gives (.tuple #[.string (appR t).1, .bool (appR t).2]) w) := by
  unfold appR
  by_cases h : AppOk t
  · rw [if_pos h]; exact specApp_yes t w h
  · rw [if_neg h]; exact specApp_no t w hm h
theorem implApp_R (t : ByteArray) (w : World) (hm : t.size ≤ maxLen) (ht : Lib.TabIs Tryd.prog w "internal/strconv.uint64pow10" .u64 Lib.pow10Tab) : Calls Tryd.prog 16 #[.string t] w (Gives (.tuple #[.string (appR t).1, .bool (appR t).2]) w) := by
  unfold appR
  by_cases h : AppOk t
  · rw [if_pos h]; exact implApp_yes t w ht h
  · rw [if_neg h]; exact implApp_no t w hm ht h

/-- What comes back of a formatted number: what went in, where there is a text. -/
theorem back_fmt (n : Int) : ((fmtR n).2 = true → prsR (fmtR n).1 = (n, true)) ∧ (fmtR n).1.size ≤ 10 := by
  unfold fmtR
  by_cases h : -999999 ≤ n ∧ n ≤ 999999
  · rw [if_pos h]; exact ⟨fun _ => prsR_yes h.1 h.2 rfl, by have := num_size n (by omega) (by omega); show (num n).size ≤ 10; omega⟩
  · rw [if_neg h]; exact ⟨fun e => (by cases e), by decide⟩
theorem appR_yes (t : ByteArray) (h : (appR t).2 = true) : AppOk t ∧ (appR t).1 = sealT t := by
  unfold appR at h ⊢
  by_cases ha : AppOk t
  · rw [if_pos ha]; exact ⟨ha, rfl⟩
  · rw [if_neg ha] at h; cases h
theorem appR_no (t : ByteArray) (h : (appR t).2 = false) : (appR t).1 = ByteArray.empty := by
  unfold appR at h ⊢
  by_cases ha : AppOk t
  · rw [if_pos ha] at h; cases h
  · rw [if_neg ha]

/-- vBig and vAt. -/
theorem big_any (a : Option Addr) (len cap : Nat) (w : World) : Calls Tryd.prog 8 #[.slice a len cap] w fun e w' => e = .returned (.bool (decide ((65536 : Int) < (len : Int)))) ∧ w = w' := by
  go_enter Tryd.func8, Tryd.ntmps8
  go_wp2
  go_ret
  exact ⟨rfl, rfl⟩
theorem at_val (a : Option Addr) (len cap : Nat) (w : World) (B i : Nat) (hr : CodeRow w a len B) (hl : len ≤ 65536) (hi : i ≤ 1000000) :
    ∃ n : Nat, n < 256 ∧ Calls Tryd.prog 19 #[.slice a len cap, .int .i64 i] w fun e w' => e = .returned (.int .i64 n) ∧ w' = w := by
  by_cases h : i < len
  · rcases hr with hr | ⟨b, o, rfl, _, hc⟩
    · omega
    · obtain ⟨n, hn, hx⟩ := hc i h
      clear hc
      refine ⟨n, hn, ?_⟩
      go_enter Tryd.func19, Tryd.ntmps19
      go_wp2
      go_ret
      exact ⟨rfl, rfl⟩
  · have h2 : decide (i < len) = false := by simp; omega
    have h3 : (len : Int) ≤ (i : Int) := by omega
    clear hr
    obtain ⟨n, hn⟩ := Int.eq_ofNat_of_zero_le (Int.emod_nonneg ((i : Int) * 7 + len) (by decide : (256 : Int) ≠ 0))
    have HN := Lib.hid hn
    refine ⟨n, by have := Int.emod_lt_of_pos ((i : Int) * 7 + len) (by decide : (0 : Int) < 256); omega, ?_⟩
    clear hn
    go_enter Tryd.func19, Tryd.ntmps19
    go_wp2
    go_ret
    exact ⟨by rw [← HN.out]; rfl, rfl⟩

/-- The bytes of a text in memory: in block g. -/
def BytesAt (w : World) (g : Nat) (l : List UInt8) : Prop := ∀ j (h : j < l.length), w.cell? ⟨g, j, none⟩ = some (.int .u8 (l[j].toNat : Int)) ∧ w.frozen? ⟨g, j, none⟩ = false
theorem bytes_new (w : World) (s : ByteArray) : BytesAt (Lib.bytesWorld w 5 s) w.heap.size s.data.toList := by
  intro j hj
  have hj2 : j < s.size := by simpa using hj
  refine ⟨?_, ?_⟩
  · rw [Lib.bytesWorld_cell w 5 s j hj2, List.getD_eq_getElem?_getD, List.getElem?_eq_getElem hj]
    rfl
  · have hn := Lib.bytesWorld_at_new w 5 s
    have hc : s.size ≤ (Lib.bytesCells w 5 s).size := by unfold Lib.bytesCells; simp
    simp [World.frozen?, hn]
    omega
/-- One byte is stored. -/
theorem bytes_set {w : World} {g : Nat} {l : List UInt8} (h : BytesAt w g l) (k : Nat) (hk : k < l.length) (c : UInt8) (v : Int) (hv : v = c.toNat) : BytesAt (w.setCell ⟨g, k, none⟩ (.int .u8 v)) g (l.set k c) := by
  intro j hj
  have hj2 : j < l.length := by simpa using hj
  refine ⟨?_, by rw [World.frozen?_setCell]; exact (h j hj2).2⟩
  by_cases e : j = k
  · subst e
    rw [World.cell?_setCell_same' _ _ _ (by rw [(h j hj2).1]; rfl), List.getElem_set_self, hv]
  · rw [World.cell?_setCell_other _ _ _ _ (by intro e2; injection e2 with _ e2 _; exact e e2.symm), List.getElem_set_ne (fun x => e x.symm)]
    exact (h j hj2).1
theorem bytes_text {w : World} {g cap n : Nat} {l : List UInt8} (h : BytesAt w g l) (hn : l.length = n) : (convert 22 9 (.slice (some ⟨g, 0, none⟩) n cap)).run Tryd.prog w = .ok (.string ⟨l.toArray⟩) w := by
  subst hn
  exact run_convert_bytes_back (P := Tryd.prog) w 22 9 5 ⟨g, 0, none⟩ cap l Tryd.underlying22 Tryd.underlying5 Tryd.underlying9 (fun j hj => by
    have ea : (⟨g, 0, none⟩ : Addr).add j = ⟨g, j, none⟩ := by unfold Addr.add; split <;> simp_all
    rw [ea]; exact (h j hj).1)
theorem xor_ne (c : UInt8) (d : Nat) (h1 : 0 < d) (h2 : d < 256) : ∃ c' : UInt8, bits .xor .u8 (c.toNat : Int) (d : Int) = c'.toNat ∧ c ≠ c' := by
  have hc := c.toNat_lt
  have h := u8_xor_nat c.toNat d (by omega) h2
  have hx : c.toNat ^^^ d < 2 ^ 8 := Nat.xor_lt_two_pow (by omega) (by omega)
  refine ⟨UInt8.ofNat (c.toNat ^^^ d), ?_, ?_⟩
  · rw [h, UInt8.toNat_ofNat', Nat.mod_eq_of_lt hx]
  · intro e
    have e2 : c.toNat = c.toNat ^^^ d := by
      have := congrArg UInt8.toNat e
      rw [UInt8.toNat_ofNat', Nat.mod_eq_of_lt hx] at this
      exact this
    have e3 : c.toNat ^^^ c.toNat = c.toNat ^^^ (c.toNat ^^^ d) := congrArg (fun x => c.toNat ^^^ x) e2
    rw [← Nat.xor_assoc, Nat.xor_self, Nat.zero_xor] at e3
    omega
end Go.Proofs.YtdbkciffdfdfbaaDoor
