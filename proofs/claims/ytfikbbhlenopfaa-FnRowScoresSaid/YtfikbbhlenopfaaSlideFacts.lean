/-
  Plain facts on slides: what a line keeps, mergers from either side, a second slide, and when no slide is a move. No program stands in this text.
-/
import Derived.Test.YtfikbbhlenopfaaFormSlide
import Derived.Test.YtfikbbhlenopfaaMergersPlain
namespace Go.Proofs.Ytfikbbhlenopfaa.Plain
set_option linter.unusedSimpArgs false
/-- Two numbers merge. -/
def mrgB (t op : Int) : Bool := decide (t = op ∧ t < 17)
theorem mrgB_comm (a b : Int) : mrgB a b = mrgB b a := by
  unfold mrgB
  by_cases h : a = b
  · subst h; rfl
  · rw [decide_eq_false (fun e => h e.1), decide_eq_false (fun e => h e.1.symm)]
theorem mrgB_zero {t : Int} (h : t ≠ 0) : mrgB t 0 = false := by
  unfold mrgB
  rw [decide_eq_false (fun e => h e.1)]
theorem step_eq (s : Slid) (t : Int) : slidStep s t = if t = 0 then s else if mrgB t s.op = true then ⟨upd s.row (s.n - 1) (t + 1), s.n, s.sc + worth (t + 1), s.mg + 1, 0⟩ else ⟨upd s.row s.n t, s.n + 1, s.sc, s.mg, t⟩ := by
  unfold slidStep mrgB
  simp only [decide_eq_true_eq]
/-- Four numbers of a line. -/
def qd (a b c d : Int) : Nat → Int := fun i => if i = 0 then a else if i = 1 then b else if i = 2 then c else d
theorem qd_line (f : Nat → Int) : ∀ i, i < 4 → f i = qd (f 0) (f 1) (f 2) (f 3) i := by
  intro i hi
  rcases (by omega : i = 0 ∨ i = 1 ∨ i = 2 ∨ i = 3) with rfl | rfl | rfl | rfl <;> rfl
set_option maxHeartbeats 4000000 in
theorem mg_turn (a b c d : Int) : (slid (qd a b c d) 4).mg = (slid (qd d c b a) 4).mg := by
  by_cases za : a = 0
  · by_cases zb : b = 0
    · by_cases zc : c = 0
      · by_cases zd : d = 0
        · simp [slid, step_eq, slid0, qd, upd, mrgB_zero, za, zb, zc, zd]
        · simp [slid, step_eq, slid0, qd, upd, mrgB_zero, za, zb, zc, zd]
      · by_cases zd : d = 0
        · simp [slid, step_eq, slid0, qd, upd, mrgB_zero, za, zb, zc, zd]
        · by_cases pcd : mrgB d c = true
          · have pcd' : mrgB c d = true := by rw [mrgB_comm]; exact pcd
            simp [slid, step_eq, slid0, qd, upd, mrgB_zero, za, zb, zc, zd, pcd, pcd']
          · have pcd : mrgB d c = false := by simpa using pcd
            have pcd' : mrgB c d = false := by rw [mrgB_comm]; exact pcd
            simp [slid, step_eq, slid0, qd, upd, mrgB_zero, za, zb, zc, zd, pcd, pcd']
    · by_cases zc : c = 0
      · by_cases zd : d = 0
        · simp [slid, step_eq, slid0, qd, upd, mrgB_zero, za, zb, zc, zd]
        · by_cases pbd : mrgB d b = true
          · have pbd' : mrgB b d = true := by rw [mrgB_comm]; exact pbd
            simp [slid, step_eq, slid0, qd, upd, mrgB_zero, za, zb, zc, zd, pbd, pbd']
          · have pbd : mrgB d b = false := by simpa using pbd
            have pbd' : mrgB b d = false := by rw [mrgB_comm]; exact pbd
            simp [slid, step_eq, slid0, qd, upd, mrgB_zero, za, zb, zc, zd, pbd, pbd']
      · by_cases zd : d = 0
        · by_cases pbc : mrgB c b = true
          · have pbc' : mrgB b c = true := by rw [mrgB_comm]; exact pbc
            simp [slid, step_eq, slid0, qd, upd, mrgB_zero, za, zb, zc, zd, pbc, pbc']
          · have pbc : mrgB c b = false := by simpa using pbc
            have pbc' : mrgB b c = false := by rw [mrgB_comm]; exact pbc
            simp [slid, step_eq, slid0, qd, upd, mrgB_zero, za, zb, zc, zd, pbc, pbc']
        · by_cases pbc : mrgB c b = true
          · have pbc' : mrgB b c = true := by rw [mrgB_comm]; exact pbc
            by_cases pcd : mrgB d c = true
            · have pcd' : mrgB c d = true := by rw [mrgB_comm]; exact pcd
              simp [slid, step_eq, slid0, qd, upd, mrgB_zero, za, zb, zc, zd, pbc, pbc', pcd, pcd']
            · have pcd : mrgB d c = false := by simpa using pcd
              have pcd' : mrgB c d = false := by rw [mrgB_comm]; exact pcd
              simp [slid, step_eq, slid0, qd, upd, mrgB_zero, za, zb, zc, zd, pbc, pbc', pcd, pcd']
          · have pbc : mrgB c b = false := by simpa using pbc
            have pbc' : mrgB b c = false := by rw [mrgB_comm]; exact pbc
            by_cases pcd : mrgB d c = true
            · have pcd' : mrgB c d = true := by rw [mrgB_comm]; exact pcd
              simp [slid, step_eq, slid0, qd, upd, mrgB_zero, za, zb, zc, zd, pbc, pbc', pcd, pcd']
            · have pcd : mrgB d c = false := by simpa using pcd
              have pcd' : mrgB c d = false := by rw [mrgB_comm]; exact pcd
              simp [slid, step_eq, slid0, qd, upd, mrgB_zero, za, zb, zc, zd, pbc, pbc', pcd, pcd']
  · by_cases zb : b = 0
    · by_cases zc : c = 0
      · by_cases zd : d = 0
        · simp [slid, step_eq, slid0, qd, upd, mrgB_zero, za, zb, zc, zd]
        · by_cases pad : mrgB d a = true
          · have pad' : mrgB a d = true := by rw [mrgB_comm]; exact pad
            simp [slid, step_eq, slid0, qd, upd, mrgB_zero, za, zb, zc, zd, pad, pad']
          · have pad : mrgB d a = false := by simpa using pad
            have pad' : mrgB a d = false := by rw [mrgB_comm]; exact pad
            simp [slid, step_eq, slid0, qd, upd, mrgB_zero, za, zb, zc, zd, pad, pad']
      · by_cases zd : d = 0
        · by_cases pac : mrgB c a = true
          · have pac' : mrgB a c = true := by rw [mrgB_comm]; exact pac
            simp [slid, step_eq, slid0, qd, upd, mrgB_zero, za, zb, zc, zd, pac, pac']
          · have pac : mrgB c a = false := by simpa using pac
            have pac' : mrgB a c = false := by rw [mrgB_comm]; exact pac
            simp [slid, step_eq, slid0, qd, upd, mrgB_zero, za, zb, zc, zd, pac, pac']
        · by_cases pac : mrgB c a = true
          · have pac' : mrgB a c = true := by rw [mrgB_comm]; exact pac
            by_cases pcd : mrgB d c = true
            · have pcd' : mrgB c d = true := by rw [mrgB_comm]; exact pcd
              simp [slid, step_eq, slid0, qd, upd, mrgB_zero, za, zb, zc, zd, pac, pac', pcd, pcd']
            · have pcd : mrgB d c = false := by simpa using pcd
              have pcd' : mrgB c d = false := by rw [mrgB_comm]; exact pcd
              simp [slid, step_eq, slid0, qd, upd, mrgB_zero, za, zb, zc, zd, pac, pac', pcd, pcd']
          · have pac : mrgB c a = false := by simpa using pac
            have pac' : mrgB a c = false := by rw [mrgB_comm]; exact pac
            by_cases pcd : mrgB d c = true
            · have pcd' : mrgB c d = true := by rw [mrgB_comm]; exact pcd
              simp [slid, step_eq, slid0, qd, upd, mrgB_zero, za, zb, zc, zd, pac, pac', pcd, pcd']
            · have pcd : mrgB d c = false := by simpa using pcd
              have pcd' : mrgB c d = false := by rw [mrgB_comm]; exact pcd
              simp [slid, step_eq, slid0, qd, upd, mrgB_zero, za, zb, zc, zd, pac, pac', pcd, pcd']
    · by_cases zc : c = 0
      · by_cases zd : d = 0
        · by_cases pab : mrgB b a = true
          · have pab' : mrgB a b = true := by rw [mrgB_comm]; exact pab
            simp [slid, step_eq, slid0, qd, upd, mrgB_zero, za, zb, zc, zd, pab, pab']
          · have pab : mrgB b a = false := by simpa using pab
            have pab' : mrgB a b = false := by rw [mrgB_comm]; exact pab
            simp [slid, step_eq, slid0, qd, upd, mrgB_zero, za, zb, zc, zd, pab, pab']
        · by_cases pab : mrgB b a = true
          · have pab' : mrgB a b = true := by rw [mrgB_comm]; exact pab
            by_cases pbd : mrgB d b = true
            · have pbd' : mrgB b d = true := by rw [mrgB_comm]; exact pbd
              simp [slid, step_eq, slid0, qd, upd, mrgB_zero, za, zb, zc, zd, pab, pab', pbd, pbd']
            · have pbd : mrgB d b = false := by simpa using pbd
              have pbd' : mrgB b d = false := by rw [mrgB_comm]; exact pbd
              simp [slid, step_eq, slid0, qd, upd, mrgB_zero, za, zb, zc, zd, pab, pab', pbd, pbd']
          · have pab : mrgB b a = false := by simpa using pab
            have pab' : mrgB a b = false := by rw [mrgB_comm]; exact pab
            by_cases pbd : mrgB d b = true
            · have pbd' : mrgB b d = true := by rw [mrgB_comm]; exact pbd
              simp [slid, step_eq, slid0, qd, upd, mrgB_zero, za, zb, zc, zd, pab, pab', pbd, pbd']
            · have pbd : mrgB d b = false := by simpa using pbd
              have pbd' : mrgB b d = false := by rw [mrgB_comm]; exact pbd
              simp [slid, step_eq, slid0, qd, upd, mrgB_zero, za, zb, zc, zd, pab, pab', pbd, pbd']
      · by_cases zd : d = 0
        · by_cases pab : mrgB b a = true
          · have pab' : mrgB a b = true := by rw [mrgB_comm]; exact pab
            by_cases pbc : mrgB c b = true
            · have pbc' : mrgB b c = true := by rw [mrgB_comm]; exact pbc
              simp [slid, step_eq, slid0, qd, upd, mrgB_zero, za, zb, zc, zd, pab, pab', pbc, pbc']
            · have pbc : mrgB c b = false := by simpa using pbc
              have pbc' : mrgB b c = false := by rw [mrgB_comm]; exact pbc
              simp [slid, step_eq, slid0, qd, upd, mrgB_zero, za, zb, zc, zd, pab, pab', pbc, pbc']
          · have pab : mrgB b a = false := by simpa using pab
            have pab' : mrgB a b = false := by rw [mrgB_comm]; exact pab
            by_cases pbc : mrgB c b = true
            · have pbc' : mrgB b c = true := by rw [mrgB_comm]; exact pbc
              simp [slid, step_eq, slid0, qd, upd, mrgB_zero, za, zb, zc, zd, pab, pab', pbc, pbc']
            · have pbc : mrgB c b = false := by simpa using pbc
              have pbc' : mrgB b c = false := by rw [mrgB_comm]; exact pbc
              simp [slid, step_eq, slid0, qd, upd, mrgB_zero, za, zb, zc, zd, pab, pab', pbc, pbc']
        · by_cases pab : mrgB b a = true
          · have pab' : mrgB a b = true := by rw [mrgB_comm]; exact pab
            by_cases pbc : mrgB c b = true
            · have pbc' : mrgB b c = true := by rw [mrgB_comm]; exact pbc
              by_cases pcd : mrgB d c = true
              · have pcd' : mrgB c d = true := by rw [mrgB_comm]; exact pcd
                simp [slid, step_eq, slid0, qd, upd, mrgB_zero, za, zb, zc, zd, pab, pab', pbc, pbc', pcd, pcd']
              · have pcd : mrgB d c = false := by simpa using pcd
                have pcd' : mrgB c d = false := by rw [mrgB_comm]; exact pcd
                simp [slid, step_eq, slid0, qd, upd, mrgB_zero, za, zb, zc, zd, pab, pab', pbc, pbc', pcd, pcd']
            · have pbc : mrgB c b = false := by simpa using pbc
              have pbc' : mrgB b c = false := by rw [mrgB_comm]; exact pbc
              by_cases pcd : mrgB d c = true
              · have pcd' : mrgB c d = true := by rw [mrgB_comm]; exact pcd
                simp [slid, step_eq, slid0, qd, upd, mrgB_zero, za, zb, zc, zd, pab, pab', pbc, pbc', pcd, pcd']
              · have pcd : mrgB d c = false := by simpa using pcd
                have pcd' : mrgB c d = false := by rw [mrgB_comm]; exact pcd
                simp [slid, step_eq, slid0, qd, upd, mrgB_zero, za, zb, zc, zd, pab, pab', pbc, pbc', pcd, pcd']
          · have pab : mrgB b a = false := by simpa using pab
            have pab' : mrgB a b = false := by rw [mrgB_comm]; exact pab
            by_cases pbc : mrgB c b = true
            · have pbc' : mrgB b c = true := by rw [mrgB_comm]; exact pbc
              by_cases pcd : mrgB d c = true
              · have pcd' : mrgB c d = true := by rw [mrgB_comm]; exact pcd
                simp [slid, step_eq, slid0, qd, upd, mrgB_zero, za, zb, zc, zd, pab, pab', pbc, pbc', pcd, pcd']
              · have pcd : mrgB d c = false := by simpa using pcd
                have pcd' : mrgB c d = false := by rw [mrgB_comm]; exact pcd
                simp [slid, step_eq, slid0, qd, upd, mrgB_zero, za, zb, zc, zd, pab, pab', pbc, pbc', pcd, pcd']
            · have pbc : mrgB c b = false := by simpa using pbc
              have pbc' : mrgB b c = false := by rw [mrgB_comm]; exact pbc
              by_cases pcd : mrgB d c = true
              · have pcd' : mrgB c d = true := by rw [mrgB_comm]; exact pcd
                simp [slid, step_eq, slid0, qd, upd, mrgB_zero, za, zb, zc, zd, pab, pab', pbc, pbc', pcd, pcd']
              · have pcd : mrgB d c = false := by simpa using pcd
                have pcd' : mrgB c d = false := by rw [mrgB_comm]; exact pcd
                simp [slid, step_eq, slid0, qd, upd, mrgB_zero, za, zb, zc, zd, pab, pab', pbc, pbc', pcd, pcd']
set_option maxHeartbeats 4000000 in
theorem line_twice (a b c d : Int) : (slid (qd a b c d) 4).mg = 0 → (slid (slid (qd a b c d) 4).row 4).sc = 0 ∧ (slid (slid (qd a b c d) 4).row 4).row 0 = (slid (qd a b c d) 4).row 0 ∧ (slid (slid (qd a b c d) 4).row 4).row 1 = (slid (qd a b c d) 4).row 1 ∧ (slid (slid (qd a b c d) 4).row 4).row 2 = (slid (qd a b c d) 4).row 2 ∧ (slid (slid (qd a b c d) 4).row 4).row 3 = (slid (qd a b c d) 4).row 3 := by
  by_cases za : a = 0
  · by_cases zb : b = 0
    · by_cases zc : c = 0
      · by_cases zd : d = 0
        · simp [slid, step_eq, slid0, qd, upd, mrgB_zero, za, zb, zc, zd]
        · simp [slid, step_eq, slid0, qd, upd, mrgB_zero, za, zb, zc, zd]
      · by_cases zd : d = 0
        · simp [slid, step_eq, slid0, qd, upd, mrgB_zero, za, zb, zc, zd]
        · by_cases pcd : mrgB d c = true
          · have pcd' : mrgB c d = true := by rw [mrgB_comm]; exact pcd
            simp [slid, step_eq, slid0, qd, upd, mrgB_zero, za, zb, zc, zd, pcd, pcd']
          · have pcd : mrgB d c = false := by simpa using pcd
            have pcd' : mrgB c d = false := by rw [mrgB_comm]; exact pcd
            simp [slid, step_eq, slid0, qd, upd, mrgB_zero, za, zb, zc, zd, pcd, pcd']
    · by_cases zc : c = 0
      · by_cases zd : d = 0
        · simp [slid, step_eq, slid0, qd, upd, mrgB_zero, za, zb, zc, zd]
        · by_cases pbd : mrgB d b = true
          · have pbd' : mrgB b d = true := by rw [mrgB_comm]; exact pbd
            simp [slid, step_eq, slid0, qd, upd, mrgB_zero, za, zb, zc, zd, pbd, pbd']
          · have pbd : mrgB d b = false := by simpa using pbd
            have pbd' : mrgB b d = false := by rw [mrgB_comm]; exact pbd
            simp [slid, step_eq, slid0, qd, upd, mrgB_zero, za, zb, zc, zd, pbd, pbd']
      · by_cases zd : d = 0
        · by_cases pbc : mrgB c b = true
          · have pbc' : mrgB b c = true := by rw [mrgB_comm]; exact pbc
            simp [slid, step_eq, slid0, qd, upd, mrgB_zero, za, zb, zc, zd, pbc, pbc']
          · have pbc : mrgB c b = false := by simpa using pbc
            have pbc' : mrgB b c = false := by rw [mrgB_comm]; exact pbc
            simp [slid, step_eq, slid0, qd, upd, mrgB_zero, za, zb, zc, zd, pbc, pbc']
        · by_cases pbc : mrgB c b = true
          · have pbc' : mrgB b c = true := by rw [mrgB_comm]; exact pbc
            by_cases pcd : mrgB d c = true
            · have pcd' : mrgB c d = true := by rw [mrgB_comm]; exact pcd
              simp [slid, step_eq, slid0, qd, upd, mrgB_zero, za, zb, zc, zd, pbc, pbc', pcd, pcd']
            · have pcd : mrgB d c = false := by simpa using pcd
              have pcd' : mrgB c d = false := by rw [mrgB_comm]; exact pcd
              simp [slid, step_eq, slid0, qd, upd, mrgB_zero, za, zb, zc, zd, pbc, pbc', pcd, pcd']
          · have pbc : mrgB c b = false := by simpa using pbc
            have pbc' : mrgB b c = false := by rw [mrgB_comm]; exact pbc
            by_cases pcd : mrgB d c = true
            · have pcd' : mrgB c d = true := by rw [mrgB_comm]; exact pcd
              simp [slid, step_eq, slid0, qd, upd, mrgB_zero, za, zb, zc, zd, pbc, pbc', pcd, pcd']
            · have pcd : mrgB d c = false := by simpa using pcd
              have pcd' : mrgB c d = false := by rw [mrgB_comm]; exact pcd
              simp [slid, step_eq, slid0, qd, upd, mrgB_zero, za, zb, zc, zd, pbc, pbc', pcd, pcd']
  · by_cases zb : b = 0
    · by_cases zc : c = 0
      · by_cases zd : d = 0
        · simp [slid, step_eq, slid0, qd, upd, mrgB_zero, za, zb, zc, zd]
        · by_cases pad : mrgB d a = true
          · have pad' : mrgB a d = true := by rw [mrgB_comm]; exact pad
            simp [slid, step_eq, slid0, qd, upd, mrgB_zero, za, zb, zc, zd, pad, pad']
          · have pad : mrgB d a = false := by simpa using pad
            have pad' : mrgB a d = false := by rw [mrgB_comm]; exact pad
            simp [slid, step_eq, slid0, qd, upd, mrgB_zero, za, zb, zc, zd, pad, pad']
      · by_cases zd : d = 0
        · by_cases pac : mrgB c a = true
          · have pac' : mrgB a c = true := by rw [mrgB_comm]; exact pac
            simp [slid, step_eq, slid0, qd, upd, mrgB_zero, za, zb, zc, zd, pac, pac']
          · have pac : mrgB c a = false := by simpa using pac
            have pac' : mrgB a c = false := by rw [mrgB_comm]; exact pac
            simp [slid, step_eq, slid0, qd, upd, mrgB_zero, za, zb, zc, zd, pac, pac']
        · by_cases pac : mrgB c a = true
          · have pac' : mrgB a c = true := by rw [mrgB_comm]; exact pac
            by_cases pcd : mrgB d c = true
            · have pcd' : mrgB c d = true := by rw [mrgB_comm]; exact pcd
              simp [slid, step_eq, slid0, qd, upd, mrgB_zero, za, zb, zc, zd, pac, pac', pcd, pcd']
            · have pcd : mrgB d c = false := by simpa using pcd
              have pcd' : mrgB c d = false := by rw [mrgB_comm]; exact pcd
              simp [slid, step_eq, slid0, qd, upd, mrgB_zero, za, zb, zc, zd, pac, pac', pcd, pcd']
          · have pac : mrgB c a = false := by simpa using pac
            have pac' : mrgB a c = false := by rw [mrgB_comm]; exact pac
            by_cases pcd : mrgB d c = true
            · have pcd' : mrgB c d = true := by rw [mrgB_comm]; exact pcd
              simp [slid, step_eq, slid0, qd, upd, mrgB_zero, za, zb, zc, zd, pac, pac', pcd, pcd']
            · have pcd : mrgB d c = false := by simpa using pcd
              have pcd' : mrgB c d = false := by rw [mrgB_comm]; exact pcd
              simp [slid, step_eq, slid0, qd, upd, mrgB_zero, za, zb, zc, zd, pac, pac', pcd, pcd']
    · by_cases zc : c = 0
      · by_cases zd : d = 0
        · by_cases pab : mrgB b a = true
          · have pab' : mrgB a b = true := by rw [mrgB_comm]; exact pab
            simp [slid, step_eq, slid0, qd, upd, mrgB_zero, za, zb, zc, zd, pab, pab']
          · have pab : mrgB b a = false := by simpa using pab
            have pab' : mrgB a b = false := by rw [mrgB_comm]; exact pab
            simp [slid, step_eq, slid0, qd, upd, mrgB_zero, za, zb, zc, zd, pab, pab']
        · by_cases pab : mrgB b a = true
          · have pab' : mrgB a b = true := by rw [mrgB_comm]; exact pab
            by_cases pbd : mrgB d b = true
            · have pbd' : mrgB b d = true := by rw [mrgB_comm]; exact pbd
              simp [slid, step_eq, slid0, qd, upd, mrgB_zero, za, zb, zc, zd, pab, pab', pbd, pbd']
            · have pbd : mrgB d b = false := by simpa using pbd
              have pbd' : mrgB b d = false := by rw [mrgB_comm]; exact pbd
              simp [slid, step_eq, slid0, qd, upd, mrgB_zero, za, zb, zc, zd, pab, pab', pbd, pbd']
          · have pab : mrgB b a = false := by simpa using pab
            have pab' : mrgB a b = false := by rw [mrgB_comm]; exact pab
            by_cases pbd : mrgB d b = true
            · have pbd' : mrgB b d = true := by rw [mrgB_comm]; exact pbd
              simp [slid, step_eq, slid0, qd, upd, mrgB_zero, za, zb, zc, zd, pab, pab', pbd, pbd']
            · have pbd : mrgB d b = false := by simpa using pbd
              have pbd' : mrgB b d = false := by rw [mrgB_comm]; exact pbd
              simp [slid, step_eq, slid0, qd, upd, mrgB_zero, za, zb, zc, zd, pab, pab', pbd, pbd']
      · by_cases zd : d = 0
        · by_cases pab : mrgB b a = true
          · have pab' : mrgB a b = true := by rw [mrgB_comm]; exact pab
            by_cases pbc : mrgB c b = true
            · have pbc' : mrgB b c = true := by rw [mrgB_comm]; exact pbc
              simp [slid, step_eq, slid0, qd, upd, mrgB_zero, za, zb, zc, zd, pab, pab', pbc, pbc']
            · have pbc : mrgB c b = false := by simpa using pbc
              have pbc' : mrgB b c = false := by rw [mrgB_comm]; exact pbc
              simp [slid, step_eq, slid0, qd, upd, mrgB_zero, za, zb, zc, zd, pab, pab', pbc, pbc']
          · have pab : mrgB b a = false := by simpa using pab
            have pab' : mrgB a b = false := by rw [mrgB_comm]; exact pab
            by_cases pbc : mrgB c b = true
            · have pbc' : mrgB b c = true := by rw [mrgB_comm]; exact pbc
              simp [slid, step_eq, slid0, qd, upd, mrgB_zero, za, zb, zc, zd, pab, pab', pbc, pbc']
            · have pbc : mrgB c b = false := by simpa using pbc
              have pbc' : mrgB b c = false := by rw [mrgB_comm]; exact pbc
              simp [slid, step_eq, slid0, qd, upd, mrgB_zero, za, zb, zc, zd, pab, pab', pbc, pbc']
        · by_cases pab : mrgB b a = true
          · have pab' : mrgB a b = true := by rw [mrgB_comm]; exact pab
            by_cases pbc : mrgB c b = true
            · have pbc' : mrgB b c = true := by rw [mrgB_comm]; exact pbc
              by_cases pcd : mrgB d c = true
              · have pcd' : mrgB c d = true := by rw [mrgB_comm]; exact pcd
                simp [slid, step_eq, slid0, qd, upd, mrgB_zero, za, zb, zc, zd, pab, pab', pbc, pbc', pcd, pcd']
              · have pcd : mrgB d c = false := by simpa using pcd
                have pcd' : mrgB c d = false := by rw [mrgB_comm]; exact pcd
                simp [slid, step_eq, slid0, qd, upd, mrgB_zero, za, zb, zc, zd, pab, pab', pbc, pbc', pcd, pcd']
            · have pbc : mrgB c b = false := by simpa using pbc
              have pbc' : mrgB b c = false := by rw [mrgB_comm]; exact pbc
              by_cases pcd : mrgB d c = true
              · have pcd' : mrgB c d = true := by rw [mrgB_comm]; exact pcd
                simp [slid, step_eq, slid0, qd, upd, mrgB_zero, za, zb, zc, zd, pab, pab', pbc, pbc', pcd, pcd']
              · have pcd : mrgB d c = false := by simpa using pcd
                have pcd' : mrgB c d = false := by rw [mrgB_comm]; exact pcd
                simp [slid, step_eq, slid0, qd, upd, mrgB_zero, za, zb, zc, zd, pab, pab', pbc, pbc', pcd, pcd']
          · have pab : mrgB b a = false := by simpa using pab
            have pab' : mrgB a b = false := by rw [mrgB_comm]; exact pab
            by_cases pbc : mrgB c b = true
            · have pbc' : mrgB b c = true := by rw [mrgB_comm]; exact pbc
              by_cases pcd : mrgB d c = true
              · have pcd' : mrgB c d = true := by rw [mrgB_comm]; exact pcd
                simp [slid, step_eq, slid0, qd, upd, mrgB_zero, za, zb, zc, zd, pab, pab', pbc, pbc', pcd, pcd']
              · have pcd : mrgB d c = false := by simpa using pcd
                have pcd' : mrgB c d = false := by rw [mrgB_comm]; exact pcd
                simp [slid, step_eq, slid0, qd, upd, mrgB_zero, za, zb, zc, zd, pab, pab', pbc, pbc', pcd, pcd']
            · have pbc : mrgB c b = false := by simpa using pbc
              have pbc' : mrgB b c = false := by rw [mrgB_comm]; exact pbc
              by_cases pcd : mrgB d c = true
              · have pcd' : mrgB c d = true := by rw [mrgB_comm]; exact pcd
                simp [slid, step_eq, slid0, qd, upd, mrgB_zero, za, zb, zc, zd, pab, pab', pbc, pbc', pcd, pcd']
              · have pcd : mrgB d c = false := by simpa using pcd
                have pcd' : mrgB c d = false := by rw [mrgB_comm]; exact pcd
                simp [slid, step_eq, slid0, qd, upd, mrgB_zero, za, zb, zc, zd, pab, pab', pbc, pbc', pcd, pcd']
/-- The worths of four numbers. -/
def rs (r : Nat → Int) : Int := worthZ (r 0) + worthZ (r 1) + worthZ (r 2) + worthZ (r 3)
theorem rs_upd (r : Nat → Int) {i : Nat} (hi : i < 4) (v : Int) : rs (upd r i v) = rs r - worthZ (r i) + worthZ v := by
  rcases (by omega : i = 0 ∨ i = 1 ∨ i = 2 ∨ i = 3) with rfl | rfl | rfl | rfl <;> (simp [rs, upd] <;> omega)
theorem rs_congr {r s : Nat → Int} (h : ∀ i, i < 4 → r i = s i) : rs r = rs s := by
  unfold rs; rw [h 0 (by omega), h 1 (by omega), h 2 (by omega), h 3 (by omega)]
def sumk (f : Nat → Int) : Nat → Int
  | 0 => 0
  | k + 1 => sumk f k + worthZ (f k)
theorem worth_two {t : Int} (h0 : 0 ≤ t) (h1 : t ≤ 17) : worth (t + 1) = worth t + worth t := by
  rcases (by omega : t = 0 ∨ t = 1 ∨ t = 2 ∨ t = 3 ∨ t = 4 ∨ t = 5 ∨ t = 6 ∨ t = 7 ∨ t = 8 ∨ t = 9 ∨ t = 10 ∨ t = 11 ∨ t = 12 ∨ t = 13 ∨ t = 14 ∨ t = 15 ∨ t = 16 ∨ t = 17) with rfl | rfl | rfl | rfl | rfl | rfl | rfl | rfl | rfl | rfl | rfl | rfl | rfl | rfl | rfl | rfl | rfl | rfl <;> decide
theorem slid_sum {f : Nat → Int} (hf : VdRow f) : ∀ k, k ≤ 4 → rs (slid f k).row = sumk f k
  | 0, _ => by simp [slid, slid0, rs, sumk, worthZ]
  | k + 1, hk => by
    have ih := slid_sum hf k (by omega)
    have ho := slid_ok hf k (by omega)
    have ht := hf k (by omega)
    have hn := ho.n_le
    show rs (slidStep (slid f k) (f k)).row = sumk f k + worthZ (f k)
    rw [← ih]
    unfold slidStep
    by_cases h0 : f k = 0
    · rw [if_pos h0, h0]; simp [worthZ]
    · rw [if_neg h0]
      by_cases hm : f k = (slid f k).op ∧ f k < 17
      · rw [if_pos hm]
        obtain ⟨l1, l2⟩ := ho.last (by rw [← hm.1]; exact h0)
        show rs (upd (slid f k).row ((slid f k).n - 1) (f k + 1)) = _
        rw [rs_upd _ (by omega), l2, ← hm.1]
        have hw := worth_two ht.1 ht.2
        unfold worthZ
        rw [if_pos (by omega), if_pos (by omega), hw]
        omega
      · rw [if_neg hm]
        show rs (upd (slid f k).row (slid f k).n (f k)) = _
        rw [rs_upd _ (by omega), ho.rest _ (Nat.le_refl _)]
        have : worthZ 0 = 0 := rfl
        omega
theorem sumk_rs (f : Nat → Int) : sumk f 4 = rs f := by simp [sumk, rs]
theorem sum_lines (g : Nat → Int) {d : Nat} (hd : d < 4) : sumF g 16 = rs (lineF g d 0) + rs (lineF g d 1) + rs (lineF g d 2) + rs (lineF g d 3) := by
  rcases (by omega : d = 0 ∨ d = 1 ∨ d = 2 ∨ d = 3) with rfl | rfl | rfl | rfl <;> (simp [sumF, rs, lineF, pos] <;> omega)
theorem slideB_at (f : Nat → Int) (d : Nat) {i k : Nat} (hi : i < 4) (hk : k < 4) : lineF (slideB f d) d i k = (slid (lineF f d i) 4).row k := by
  show (slid (lineF f d (lineOf d (pos d i k))) 4).row (placeOf d (pos d i k)) = _
  rw [lineOf_pos hi hk, placeOf_pos hi hk]
theorem rs_slide {f : Nat → Int} (hf : Vd f) (d : Nat) {i : Nat} (hi : i < 4) : rs (lineF (slideB f d) d i) = rs (lineF f d i) := by
  rw [rs_congr (fun k hk => slideB_at f d hi hk), slid_sum (lineF_vd hf d hi) 4 (Nat.le_refl _), sumk_rs]
theorem sum_slide {f : Nat → Int} (hf : Vd f) {d : Nat} (hd : d < 4) : sumF (slideB f d) 16 = sumF f 16 := by
  rw [sum_lines _ hd, sum_lines f hd, rs_slide hf d (by omega), rs_slide hf d (by omega), rs_slide hf d (by omega), rs_slide hf d (by omega)]
theorem slid_qd (f : Nat → Int) : slid f 4 = slid (qd (f 0) (f 1) (f 2) (f 3)) 4 := slid_congr 4 (qd_line f)
theorem pos_opp : ∀ d, d < 4 → ∀ i, i < 4 → ∀ k, k < 4 → pos ((d + 2) % 4) i k = pos d i (3 - k) := by decide
theorem mg_opp (f : Nat → Int) {d : Nat} (hd : d < 4) {i : Nat} (hi : i < 4) : (slid (lineF f ((d + 2) % 4) i) 4).mg = (slid (lineF f d i) 4).mg := by
  rw [slid_qd (lineF f ((d + 2) % 4) i), slid_qd (lineF f d i)]
  have e : ∀ k, k < 4 → lineF f ((d + 2) % 4) i k = lineF f d i (3 - k) := fun k hk => by
    show f (pos ((d + 2) % 4) i k) = f (pos d i (3 - k))
    rw [pos_opp d hd i hi k hk]
  rw [e 0 (by omega), e 1 (by omega), e 2 (by omega), e 3 (by omega)]
  exact (mg_turn _ _ _ _).symm
theorem merg_opp (f : Nat → Int) {d : Nat} (hd : d < 4) : slideM f ((d + 2) % 4) 4 = slideM f d 4 := by
  simp only [slideM, mg_opp f hd (show 0 < 4 by omega), mg_opp f hd (show 1 < 4 by omega), mg_opp f hd (show 2 < 4 by omega), mg_opp f hd (show 3 < 4 by omega)]
theorem lines_mg {f : Nat → Int} (hf : Vd f) {d : Nat} (h : slideM f d 4 = 0) : ∀ i, i < 4 → (slid (lineF f d i) 4).mg = 0 := by
  have a0 := (slid_ok (lineF_vd hf d (i := 0) (by omega)) 4 (Nat.le_refl _)).mg0
  have a1 := (slid_ok (lineF_vd hf d (i := 1) (by omega)) 4 (Nat.le_refl _)).mg0
  have a2 := (slid_ok (lineF_vd hf d (i := 2) (by omega)) 4 (Nat.le_refl _)).mg0
  have a3 := (slid_ok (lineF_vd hf d (i := 3) (by omega)) 4 (Nat.le_refl _)).mg0
  have e : slideM f d 4 = 0 + (slid (lineF f d 0) 4).mg + (slid (lineF f d 1) 4).mg + (slid (lineF f d 2) 4).mg + (slid (lineF f d 3) 4).mg := rfl
  intro i hi
  rcases (by omega : i = 0 ∨ i = 1 ∨ i = 2 ∨ i = 3) with rfl | rfl | rfl | rfl <;> omega
theorem line_again {f : Nat → Int} (h : (slid f 4).mg = 0) : (slid (slid f 4).row 4).sc = 0 ∧ ∀ k, k < 4 → (slid (slid f 4).row 4).row k = (slid f 4).row k := by
  rw [slid_qd f] at h ⊢
  obtain ⟨h1, r0, r1, r2, r3⟩ := line_twice _ _ _ _ h
  refine ⟨h1, fun k hk => ?_⟩
  rcases (by omega : k = 0 ∨ k = 1 ∨ k = 2 ∨ k = 3) with rfl | rfl | rfl | rfl
  · exact r0
  · exact r1
  · exact r2
  · exact r3
theorem slid_again (f : Nat → Int) (d : Nat) {i : Nat} (hi : i < 4) : slid (lineF (slideB f d) d i) 4 = slid (slid (lineF f d i) 4).row 4 := slid_congr 4 fun _ hk => slideB_at f d hi hk
/-- A second slide moves only what has merged. -/
theorem slide_again {f : Nat → Int} (hf : Vd f) {d : Nat} (h : slideM f d 4 = 0) : (∀ j, j < 16 → slideB (slideB f d) d j = slideB f d j) ∧ slideS (slideB f d) d 4 = 0 := by
  have hl := lines_mg hf h
  constructor
  · intro j hj
    show (slid (lineF (slideB f d) d (lineOf d j)) 4).row (placeOf d j) = (slid (lineF f d (lineOf d j)) 4).row (placeOf d j)
    rw [slid_again f d (lineOf_lt hj)]
    exact (line_again (hl _ (lineOf_lt hj))).2 _ (placeOf_lt hj)
  · simp only [slideS, slid_again f d (show 0 < 4 by omega), slid_again f d (show 1 < 4 by omega), slid_again f d (show 2 < 4 by omega), slid_again f d (show 3 < 4 by omega)]
    rw [(line_again (hl 0 (by omega))).1, (line_again (hl 1 (by omega))).1, (line_again (hl 2 (by omega))).1, (line_again (hl 3 (by omega))).1]
    rfl
theorem sc_mg {f : Nat → Int} (hf : VdRow f) : ∀ k, k ≤ 4 → (0 < (slid f k).sc ↔ 0 < (slid f k).mg)
  | 0, _ => by simp [slid, slid0]
  | k + 1, hk => by
    have ih := sc_mg hf k (by omega)
    have ho := slid_ok hf k (by omega)
    have ht := hf k (by omega)
    have h1 := ho.sc0
    have h2 := ho.mg0
    show 0 < (slidStep (slid f k) (f k)).sc ↔ 0 < (slidStep (slid f k) (f k)).mg
    unfold slidStep
    by_cases h0 : f k = 0
    · simp only [if_pos h0]; exact ih
    · simp only [if_neg h0]
      by_cases hm : f k = (slid f k).op ∧ f k < 17
      · simp only [if_pos hm]
        have := worth_bd (t := f k + 1) (by omega) (by omega)
        omega
      · simp only [if_neg hm]; exact ih
theorem score_mg {f : Nat → Int} (hf : Vd f) (d : Nat) : 0 < slideS f d 4 ↔ 0 < slideM f d 4 := by
  have b := fun i (hi : i < 4) => sc_mg (lineF_vd hf d hi) 4 (Nat.le_refl _)
  have c := fun i (hi : i < 4) => slid_ok (lineF_vd hf d hi) 4 (Nat.le_refl _)
  have b0 := b 0 (by omega); have b1 := b 1 (by omega); have b2 := b 2 (by omega); have b3 := b 3 (by omega)
  have s0 := (c 0 (by omega)).sc0; have s1 := (c 1 (by omega)).sc0; have s2 := (c 2 (by omega)).sc0; have s3 := (c 3 (by omega)).sc0
  have m0 := (c 0 (by omega)).mg0; have m1 := (c 1 (by omega)).mg0; have m2 := (c 2 (by omega)).mg0; have m3 := (c 3 (by omega)).mg0
  have e1 : slideM f d 4 = 0 + (slid (lineF f d 0) 4).mg + (slid (lineF f d 1) 4).mg + (slid (lineF f d 2) 4).mg + (slid (lineF f d 3) 4).mg := rfl
  have e2 : slideS f d 4 = 0 + (slid (lineF f d 0) 4).sc + (slid (lineF f d 1) 4).sc + (slid (lineF f d 2) 4).sc + (slid (lineF f d 3) 4).sc := rfl
  rw [e1, e2]
  omega
/-- No slide is a move. -/
def NoMv (f : Nat → Int) : Prop := ∀ d, d < 4 → ∀ j, j < 16 → slideB f d j = f j
theorem fix_row {f : Nat → Int} (h : NoMv f) {d : Nat} (hd : d < 4) {i k : Nat} (hi : i < 4) (hk : k < 4) : (slid (lineF f d i) 4).row k = lineF f d i k := by
  rw [← slideB_at f d hi hk]
  exact h d hd _ (pos_lt hi hk)
theorem fix_zero {f : Nat → Int} (hf : Vd f) (h : NoMv f) {d : Nat} (hd : d < 4) {i k l : Nat} (hi : i < 4) (hk : k ≤ l) (hl : l < 4) (h0 : lineF f d i k = 0) : lineF f d i l = 0 := by
  have ho := slid_ok (lineF_vd hf d hi) 4 (Nat.le_refl _)
  by_cases hn : k < (slid (lineF f d i) 4).n
  · exact absurd ((fix_row h hd hi (by omega)).trans h0) (ho.full k hn)
  · rw [← fix_row h hd hi hl]; exact ho.rest l (by omega)
theorem row_all {f : Nat → Int} (hf : Vd f) (h : NoMv f) {r c c2 : Nat} (hr : r < 4) (hc : c < 4) (hc2 : c2 < 4) (h0 : f (r * 4 + c) = 0) : f (r * 4 + c2) = 0 := by
  by_cases l : c ≤ c2
  · exact fix_zero hf h (d := 0) (by omega) hr l hc2 h0
  · have := fix_zero hf h (d := 2) (i := r) (k := 3 - c) (l := 3 - c2) (by omega) hr (by omega) (by omega) (by
      show f (r * 4 + (3 - (3 - c))) = 0
      rw [show 3 - (3 - c) = c by omega]; exact h0)
    have e : lineF f 2 r (3 - c2) = f (r * 4 + (3 - (3 - c2))) := rfl
    rw [e, show 3 - (3 - c2) = c2 by omega] at this
    exact this
theorem col_all {f : Nat → Int} (hf : Vd f) (h : NoMv f) {r r2 c : Nat} (hr : r < 4) (hr2 : r2 < 4) (hc : c < 4) (h0 : f (r * 4 + c) = 0) : f (r2 * 4 + c) = 0 := by
  by_cases l : r ≤ r2
  · exact fix_zero hf h (d := 1) (by omega) hc l hr2 h0
  · have := fix_zero hf h (d := 3) (i := c) (k := 3 - r) (l := 3 - r2) (by omega) hc (by omega) (by omega) (by
      show f ((3 - (3 - r)) * 4 + c) = 0
      rw [show 3 - (3 - r) = r by omega]; exact h0)
    have e : lineF f 3 c (3 - r2) = f ((3 - (3 - r2)) * 4 + c) := rfl
    rw [e, show 3 - (3 - r2) = r2 by omega] at this
    exact this
theorem zero_all {f : Nat → Int} (hf : Vd f) (h : NoMv f) {j : Nat} (hj : j < 16) (h0 : f j = 0) : ∀ l, l < 16 → f l = 0 := by
  intro l hl
  have h1 := row_all hf h (r := j / 4) (c := j % 4) (c2 := l % 4) (by omega) (by omega) (by omega) (by rw [show j / 4 * 4 + j % 4 = j by omega]; exact h0)
  have h2 := col_all hf h (r := j / 4) (r2 := l / 4) (c := l % 4) (by omega) (by omega) (by omega) h1
  rw [show l / 4 * 4 + l % 4 = l by omega] at h2
  exact h2
theorem empN_all {f : Nat → Int} : ∀ k, (∀ j, j < k → f j = 0) → empN f k = k
  | 0, _ => rfl
  | k + 1, h => by rw [empN_step, empN_all k (fun j hj => h j (by omega)), if_pos (h k (by omega))]
theorem empN_none {f : Nat → Int} : ∀ k, (∀ j, j < k → f j ≠ 0) → empN f k = 0
  | 0, _ => rfl
  | k + 1, h => by rw [empN_step, empN_none k (fun j hj => h j (by omega)), if_neg (h k (by omega))]
theorem empN_full {f : Nat → Int} : ∀ k, empN f k = k → ∀ j, j < k → f j = 0
  | 0, _, j, hj => by omega
  | k + 1, h, j, hj => by
    rw [empN_step] at h
    have hl := empN_le f k
    by_cases h0 : f k = 0
    · rw [if_pos h0] at h
      by_cases e : j = k
      · subst e; exact h0
      · exact empN_full k (by omega) j (by omega)
    · rw [if_neg h0] at h; omega
theorem empN_nil {f : Nat → Int} : ∀ k, empN f k = 0 → ∀ j, j < k → f j ≠ 0
  | 0, _, j, hj => by omega
  | k + 1, h, j, hj => by
    rw [empN_step] at h
    by_cases h0 : f k = 0
    · rw [if_pos h0] at h; omega
    · by_cases e : j = k
      · subst e; exact h0
      · exact empN_nil k (by omega) j (by omega)
theorem pr_mrg {a b : Int} (h : mrgB b a = false) : pr a b = 0 := by
  unfold pr
  rw [if_neg]
  rintro ⟨e, _, l⟩
  unfold mrgB at h
  have := of_decide_eq_false h
  exact this ⟨e, by omega⟩
theorem mrg_pr {a b : Int} (hb0 : b ≠ 0) (hb : 0 ≤ b) (h : pr a b = 0) : mrgB b a = false := by
  unfold mrgB
  apply decide_eq_false
  rintro ⟨e, l⟩
  unfold pr at h
  rw [if_pos ⟨e, by omega, by omega⟩] at h
  omega
theorem pr_nn (a b : Int) : 0 ≤ pr a b := by unfold pr; split <;> omega
theorem full_mg (a b c d : Int) (za : a ≠ 0) (zb : b ≠ 0) (zc : c ≠ 0) (zd : d ≠ 0) : (slid (qd a b c d) 4).mg = 0 → mrgB b a = false ∧ mrgB c b = false ∧ mrgB d c = false := by
  by_cases p1 : mrgB b a = true
  · by_cases p3 : mrgB d c = true
    · simp [slid, step_eq, slid0, qd, mrgB_zero, za, zb, zc, zd, p1, p3]
    · have p3 : mrgB d c = false := by simpa using p3
      simp [slid, step_eq, slid0, qd, mrgB_zero, za, zb, zc, zd, p1, p3]
  · have p1 : mrgB b a = false := by simpa using p1
    by_cases p2 : mrgB c b = true
    · simp [slid, step_eq, slid0, qd, mrgB_zero, za, zb, zc, zd, p1, p2]
    · have p2 : mrgB c b = false := by simpa using p2
      by_cases p3 : mrgB d c = true
      · simp [slid, step_eq, slid0, qd, mrgB_zero, za, zb, zc, zd, p1, p2, p3]
      · have p3 : mrgB d c = false := by simpa using p3
        simp [slid, step_eq, slid0, qd, mrgB_zero, za, zb, zc, zd, p1, p2, p3]
theorem full_fix (a b c d : Int) (za : a ≠ 0) (zb : b ≠ 0) (zc : c ≠ 0) (zd : d ≠ 0) (p1 : mrgB b a = false) (p2 : mrgB c b = false) (p3 : mrgB d c = false) : ∀ k, k < 4 → (slid (qd a b c d) 4).row k = qd a b c d k := by
  intro k hk
  rcases (by omega : k = 0 ∨ k = 1 ∨ k = 2 ∨ k = 3) with rfl | rfl | rfl | rfl <;> simp [slid, step_eq, slid0, qd, upd, mrgB_zero, za, zb, zc, zd, p1, p2, p3]
theorem no_mg {f : Nat → Int} (hf : Vd f) (h : NoMv f) {d : Nat} (hd : d < 4) : slideM f d 4 = 0 := by
  have := emp_slide hf hd
  rw [empN_congr (h d hd)] at this
  omega
theorem lines_free {f : Nat → Int} (hf : Vd f) (h : NoMv f) (hz : ∀ j, j < 16 → f j ≠ 0) {d : Nat} (hd : d < 4) {i : Nat} (hi : i < 4) : ∀ k, k < 3 → pr (lineF f d i k) (lineF f d i (k + 1)) = 0 := by
  have hm := lines_mg hf (no_mg hf h hd) i hi
  rw [slid_qd] at hm
  obtain ⟨p1, p2, p3⟩ := full_mg _ _ _ _ (hz _ (pos_lt hi (by omega))) (hz _ (pos_lt hi (by omega))) (hz _ (pos_lt hi (by omega))) (hz _ (pos_lt hi (by omega))) hm
  intro k hk
  rcases (by omega : k = 0 ∨ k = 1 ∨ k = 2) with rfl | rfl | rfl
  · exact pr_mrg p1
  · exact pr_mrg p2
  · exact pr_mrg p3
theorem plines_lines (f : Nat → Int) : plines f 4 = (pr (lineF f 0 0 0) (lineF f 0 0 1) + pr (lineF f 0 0 1) (lineF f 0 0 2) + pr (lineF f 0 0 2) (lineF f 0 0 3)) + (pr (lineF f 0 1 0) (lineF f 0 1 1) + pr (lineF f 0 1 1) (lineF f 0 1 2) + pr (lineF f 0 1 2) (lineF f 0 1 3)) + (pr (lineF f 0 2 0) (lineF f 0 2 1) + pr (lineF f 0 2 1) (lineF f 0 2 2) + pr (lineF f 0 2 2) (lineF f 0 2 3)) + (pr (lineF f 0 3 0) (lineF f 0 3 1) + pr (lineF f 0 3 1) (lineF f 0 3 2) + pr (lineF f 0 3 2) (lineF f 0 3 3)) + (pr (lineF f 1 0 0) (lineF f 1 0 1) + pr (lineF f 1 0 1) (lineF f 1 0 2) + pr (lineF f 1 0 2) (lineF f 1 0 3)) + (pr (lineF f 1 1 0) (lineF f 1 1 1) + pr (lineF f 1 1 1) (lineF f 1 1 2) + pr (lineF f 1 1 2) (lineF f 1 1 3)) + (pr (lineF f 1 2 0) (lineF f 1 2 1) + pr (lineF f 1 2 1) (lineF f 1 2 2) + pr (lineF f 1 2 2) (lineF f 1 2 3)) + (pr (lineF f 1 3 0) (lineF f 1 3 1) + pr (lineF f 1 3 1) (lineF f 1 3 2) + pr (lineF f 1 3 2) (lineF f 1 3 3)) := by
  simp only [plines, prow_three]
  omega
theorem pairs_none {f : Nat → Int} (h : plines f 4 = 0) : ∀ d, d < 2 → ∀ i, i < 4 → ∀ k, k < 3 → pr (lineF f d i k) (lineF f d i (k + 1)) = 0 := by
  rw [plines_lines] at h
  have nn := fun d i k => pr_nn (lineF f d i k) (lineF f d i (k + 1))
  have n0 := nn 0 0 0
  have n1 := nn 0 0 1
  have n2 := nn 0 0 2
  have n3 := nn 0 1 0
  have n4 := nn 0 1 1
  have n5 := nn 0 1 2
  have n6 := nn 0 2 0
  have n7 := nn 0 2 1
  have n8 := nn 0 2 2
  have n9 := nn 0 3 0
  have n10 := nn 0 3 1
  have n11 := nn 0 3 2
  have n12 := nn 1 0 0
  have n13 := nn 1 0 1
  have n14 := nn 1 0 2
  have n15 := nn 1 1 0
  have n16 := nn 1 1 1
  have n17 := nn 1 1 2
  have n18 := nn 1 2 0
  have n19 := nn 1 2 1
  have n20 := nn 1 2 2
  have n21 := nn 1 3 0
  have n22 := nn 1 3 1
  have n23 := nn 1 3 2
  intro d hd i hi k hk
  rcases (by omega : d = 0 ∨ d = 1) with rfl | rfl <;> rcases (by omega : i = 0 ∨ i = 1 ∨ i = 2 ∨ i = 3) with rfl | rfl | rfl | rfl <;> rcases (by omega : k = 0 ∨ k = 1 ∨ k = 2) with rfl | rfl | rfl <;> (simp only [Nat.zero_add, Nat.reduceAdd] at *; omega)
theorem pairs_any {f : Nat → Int} (h : plines f 4 = 0) : ∀ d, d < 4 → ∀ i, i < 4 → ∀ k, k < 3 → pr (lineF f d i k) (lineF f d i (k + 1)) = 0 := by
  intro d hd i hi k hk
  by_cases h2 : d < 2
  · exact pairs_none h d h2 i hi k hk
  · have e : ∀ k, k < 4 → lineF f d i k = lineF f (d - 2) i (3 - k) := fun k hk => by
      show f (pos d i k) = f (pos (d - 2) i (3 - k))
      have := pos_opp (d - 2) (by omega) i hi k hk
      rw [show (d - 2 + 2) % 4 = d by omega] at this
      rw [this]
    rw [e k (by omega), e (k + 1) (by omega), pr_comm]
    have := pairs_none h (d - 2) (by omega) i hi (3 - (k + 1)) (by omega)
    rw [show 3 - (k + 1) + 1 = 3 - k by omega] at this
    exact this
/-- A board is over exactly if it is empty, or full without equal neighbors. -/
theorem over_iff {f : Nat → Int} (hf : Vd f) : NoMv f ↔ empN f 16 = 16 ∨ (empN f 16 = 0 ∧ plines f 4 = 0) := by
  constructor
  · intro h
    by_cases hz : ∃ j, j < 16 ∧ f j = 0
    · obtain ⟨j, hj, h0⟩ := hz
      exact .inl (empN_all 16 (zero_all hf h hj h0))
    · have hz2 : ∀ j, j < 16 → f j ≠ 0 := fun j hj h0 => hz ⟨j, hj, h0⟩
      refine .inr ⟨empN_none 16 hz2, ?_⟩
      have hl := fun d (hd : d < 4) i (hi : i < 4) k (hk : k < 3) => lines_free hf h hz2 hd hi k hk
      rw [plines_lines]
      have q := fun d (hd : d < 4) i (hi : i < 4) => (hl d hd i hi 0 (by omega))
      have q1 := fun d (hd : d < 4) i (hi : i < 4) => (hl d hd i hi 1 (by omega))
      have q2 := fun d (hd : d < 4) i (hi : i < 4) => (hl d hd i hi 2 (by omega))
      simp only [Nat.zero_add, Nat.reduceAdd] at q q1 q2
      simp only [q 0 (by omega) 0 (by omega), q 0 (by omega) 1 (by omega), q 0 (by omega) 2 (by omega), q 0 (by omega) 3 (by omega), q 1 (by omega) 0 (by omega), q 1 (by omega) 1 (by omega), q 1 (by omega) 2 (by omega), q 1 (by omega) 3 (by omega), q1 0 (by omega) 0 (by omega), q1 0 (by omega) 1 (by omega), q1 0 (by omega) 2 (by omega), q1 0 (by omega) 3 (by omega), q1 1 (by omega) 0 (by omega), q1 1 (by omega) 1 (by omega), q1 1 (by omega) 2 (by omega), q1 1 (by omega) 3 (by omega), q2 0 (by omega) 0 (by omega), q2 0 (by omega) 1 (by omega), q2 0 (by omega) 2 (by omega), q2 0 (by omega) 3 (by omega), q2 1 (by omega) 0 (by omega), q2 1 (by omega) 1 (by omega), q2 1 (by omega) 2 (by omega), q2 1 (by omega) 3 (by omega)]
      rfl
  · rintro (h | ⟨h, hp⟩)
    · have hz := empN_full 16 h
      intro d hd j hj
      show (slid (lineF f d (lineOf d j)) 4).row (placeOf d j) = f j
      have : slid (lineF f d (lineOf d j)) 4 = slid (fun _ => 0) 4 := slid_congr 4 fun k hk => hz _ (pos_lt (lineOf_lt hj) hk)
      rw [this, hz j hj]
      rfl
    · have hz := empN_nil 16 h
      intro d hd j hj
      have hi := lineOf_lt (d := d) hj
      have hpr := pairs_any hp d hd _ hi
      have hv := lineF_vd hf d hi
      have hn := fun k (hk : k < 4) => hz _ (pos_lt (d := d) hi hk)
      have key := full_fix (lineF f d (lineOf d j) 0) (lineF f d (lineOf d j) 1) (lineF f d (lineOf d j) 2) (lineF f d (lineOf d j) 3) (hn 0 (by omega)) (hn 1 (by omega)) (hn 2 (by omega)) (hn 3 (by omega))
        (mrg_pr (hn 1 (by omega)) (hv 1 (by omega)).1 (hpr 0 (by omega))) (mrg_pr (hn 2 (by omega)) (hv 2 (by omega)).1 (hpr 1 (by omega))) (mrg_pr (hn 3 (by omega)) (hv 3 (by omega)).1 (hpr 2 (by omega))) (placeOf d j) (placeOf_lt hj)
      show (slid (lineF f d (lineOf d j)) 4).row (placeOf d j) = f j
      rw [slid_qd, key, ← qd_line _ _ (placeOf_lt hj)]
      show f (pos d (lineOf d j) (placeOf d j)) = f j
      rw [pos_of hj]
end Go.Proofs.Ytfikbbhlenopfaa.Plain
