/-
  Replays whose steps one call owns: a row of steps, or none; compared, marked and looked at. No condition.
-/
import Derived.Test.YtfjpdopljmilpaaRepLaw
import Derived.Test.YtfjpdopljmilpaaRepSpec
namespace Go.Proofs.Ytfjpdopljmilpaa
open Go.RowKit Plain
attribute [local go_sem] store_new
set_option linter.unusedVariables false
set_option linter.unusedSimpArgs false
/-- The value v is a slice of m steps that this call owns. -/
def OwnT (w : World) (base : Nat) (v : Value) (m : Nat) (H : Nat → Int) : Prop := w.ownsRow base 52 4 v m (mk (m * 4) H).toList
theorem OwnT.below {w w' : World} {base m : Nat} {v : Value} {H : Nat → Int} (h : OwnT w base v m H) (hb : Below w.heap.size w w') : OwnT w' base v m H := owns_below h hb
theorem OwnT.alloc {w : World} {base m : Nat} {v : Value} {H : Nat → Int} (h : OwnT w base v m H) (o : Obj) : OwnT (w.alloc o) base v m H := World.ownsRow.alloc h o
theorem OwnT.drew {w : World} {base m : Nat} {v : Value} {H : Nat → Int} (h : OwnT w base v m H) : OwnT w.drew base v m H := h
theorem OwnT.wide {w : World} {base b' m : Nat} {v : Value} {H : Nat → Int} (h : OwnT w base v m H) (hb : b' ≤ base) : OwnT w b' v m H := ownsRow_wide h hb
theorem OwnT.kept {w w' : World} {base m : Nat} {v : Value} {H : Nat → Int} {b : Nat} (h : OwnT w base v m H) (hg : w.grownBy w' (some b)) (hne : v.ownBlock ≠ some b) : OwnT w' base v m H := World.ownsRow.kept h hg (Or.inr hne)
theorem OwnT.form {w : World} {base m : Nat} {v : Value} {H : Nat → Int} (h : OwnT w base v m H) : ∃ a c, v = .slice a m c := by
  rcases h.2 with ⟨rfl, rfl⟩ | ⟨g, cap, cur, rfl, _⟩
  · exact ⟨_, _, rfl⟩
  · exact ⟨_, _, rfl⟩
theorem OwnT.of_blk {w : World} {b n base : Nat} {h : Nat → Int} (k : Blk w b (n * 4) h 52) (hb : base ≤ b) (hn : n ≤ maxLen) : OwnT w base (.slice (some ⟨b, 0, none⟩) n n) n h := own_blk4 base k hb hn
theorem OwnT.congr {w : World} {base m : Nat} {v : Value} {H G : Nat → Int} (h : OwnT w base v m H) (e : ∀ j, j < m * 4 → H j = G j) : OwnT w base v m G := by
  unfold OwnT at *; rwa [mk_congr e] at h
theorem OwnT.zero {w : World} {base : Nat} {v : Value} {H : Nat → Int} (h : OwnT w base v 0 H) : ∃ a c, v = .slice a 0 c := h.form
theorem OwnT.krow {w : World} {base m : Nat} {v : Value} {H : Nat → Int} (h : OwnT w base v (m + 1) H) : KRow 4 w v (m + 1) H := by
  obtain ⟨g, cap, rfl⟩ := ownsRow_succ h
  exact KRow.of_own h
theorem OwnT.none (w : World) (base : Nat) (H : Nat → Int) : OwnT w base (.slice none 0 0) 0 H := ⟨by simp [mk], .inl ⟨rfl, rfl⟩⟩
set_option maxHeartbeats 400000 in
theorem eqT_zero (a b : Option Addr) (c d : Nat) (w : World) :
    Calls Try.prog 153 #[.slice a 0 c, .slice b 0 d] w fun e w' => e = .returned (.bool true) ∧ Below w.heap.size w w' := by
  have HB := Lib.hid (Below.refl w.heap.size w)
  go_enter Try.func153, Try.ntmps153
  go_wp2
  go_loop [5] (fun i => i = .int .i64 0) (fun _ => 0)
  case atStart => exact rfl
  case round =>
    obtain rfl := hrel
    go_wp2
    go_ret
    exact ⟨rfl, HB.out⟩
set_option maxHeartbeats 400000 in
theorem markT_zero (a : Option Addr) (c : Nat) (w : World) :
    Calls Try.prog 154 #[.slice a 0 c, .int .i64 1] w fun e w' => e = .returned (.int .i64 1) ∧ w = w' := by
  go_enter Try.func154, Try.ntmps154
  go_wp2
  go_loop [1, 5] (fun q i => q = .int .i64 1 ∧ i = .int .i64 0) (fun _ _ => 0)
  case atStart => exact ⟨rfl, rfl⟩
  case round =>
    obtain ⟨rfl, rfl⟩ := hrel
    go_wp2
    go_ret
    exact ⟨rfl, rfl⟩
set_option maxHeartbeats 400000 in
theorem heldT_zero (a : Option Addr) (c : Nat) (w : World) :
    Calls Try.prog 155 #[.slice a 0 c, .int .i64 1] w fun e w' => e = .returned (.int .i64 1) ∧ w = w' := by
  go_enter Try.func155, Try.ntmps155
  go_wp2
  go_loop [1, 5] (fun q i => q = .int .i64 1 ∧ i = .int .i64 0) (fun _ _ => 0)
  case atStart => exact ⟨rfl, rfl⟩
  case round =>
    obtain ⟨rfl, rfl⟩ := hrel
    go_wp2
    go_ret
    exact ⟨rfl, rfl⟩
theorem eqT_own {v u : Value} {m b1 b2 : Nat} {H : Nat → Int} (w : World) (hv : OwnT w b1 v m H) (hu : OwnT w b2 u m H) (hn : m ≤ 1048576) :
    Calls Try.prog 153 #[v, u] w fun e w' => e = .returned (.bool true) ∧ Below w.heap.size w w' := by
  cases m with
  | zero =>
    obtain ⟨a, c, rfl⟩ := hv.zero
    obtain ⟨b, d, rfl⟩ := hu.zero
    exact eqT_zero a b c d w
  | succ m => exact eqT_yes v u (m + 1) H w hv.krow hu.krow hn
theorem heldT_own {v : Value} {m b : Nat} (w : World) (hv : OwnT w b v m fun j => ((1 + j : Nat) : Int)) (hn : m ≤ 1048576) :
    Calls Try.prog 155 #[v, .int .i64 1] w fun e w' => e = .returned (.int .i64 (1 + m * 4 : Nat)) ∧ w = w' := by
  cases m with
  | zero =>
    obtain ⟨a, c, rfl⟩ := hv.zero
    exact heldT_zero a c w
  | succ m => exact heldT_row v (m + 1) w hv.krow hn
set_option maxHeartbeats 1000000 in
theorem markT_away (g cap n base : Nat) (h : Nat → Int) (w : World) (ho : w.ownsRow base 52 4 (.slice (some ⟨g, 0, none⟩) n cap) n (mk (n * 4) h).toList) (hn : n ≤ 1048576) :
    Calls Try.prog 154 #[.slice (some ⟨g, 0, none⟩) n cap, .int .i64 1] w fun e w' => e = .returned (.int .i64 (1 + n * 4 : Nat)) ∧
      w'.ownsRow base 52 4 (.slice (some ⟨g, 0, none⟩) n cap) n (mk (n * 4) fun j => ((1 + j : Nat) : Int)).toList ∧ w.grownBy w' (some g) := by
  have hgb : base ≤ g := (ho.lt g rfl).1
  have HO : Hid (w.ownsRow base 52 4 (.slice (some ⟨g, 0, none⟩) n cap) n (mk (n * 4) (mixI h 0)).toList) := by
    show w.ownsRow _ _ _ _ _ _
    rw [mixI_zero]; exact ho
  clear ho
  go_enter Try.func154, Try.ntmps154
  go_wp2
  go_loopw [1, 5] (fun q i wr => ∃ k : Nat, k ≤ n ∧ i = .int .i64 k ∧ q = .int .i64 (1 + k * 4 : Nat) ∧ wr.ownsRow base 52 4 (.slice (some ⟨g, 0, none⟩) n cap) n (mk (n * 4) (mixI h (k * 4))).toList ∧ w.grownBy wr (some g)) (fun _ i _ => n - (intOf i).toNat)
  case atStart => exact ⟨0, Nat.zero_le _, rfl, rfl, HO.out, rfl, rfl, rfl, Nat.le_refl _, fun _ _ _ => rfl⟩
  case round =>
    obtain ⟨k, hk, rfl, rfl, hown, hbel⟩ := hrel
    have HB := Lib.hid hbel
    clear hbel
    by_cases hlt : k < n
    · have hk0 : (0 : Int) ≤ (k : Int) := by omega
      have hl : (k : Int) < (n : Int) := by omega
      have hd : wr.cell? ⟨g, k * 4, none⟩ = some (.int .i64 (mixI h (k * 4) (k * 4))) := by
        rw [hown.cellAt (k * 4) (by omega), Array.getElem?_toList]; exact mk_get _ (by omega)
      have hf := hown.frozenAt (k * 4)
      have hst := hown.stored (k * 4) (.int .i64 ((1 + (k * 4) : Nat) : Int))
      rw [← Array.toList_setIfInBounds, mk_set _ _ (by omega), mixI_step] at hst
      have HST := Lib.hid hst
      generalize mixI h (k * 4) (k * 4) = u0 at hd
      clear hst hown
      go_wp2
      clear hd hf
      have HO1 := Lib.hid HST.out.1
      have HB1 : Hid (w.grownBy (wr.setCell ⟨g, k * 4, none⟩ (.int .i64 ((1 + k * 4 : Nat) : Int))) (some g)) := World.grownBy.trans HB.out HST.out.2
      clear HST HB
      go_loopw [1, 6] (fun q i wx => ∃ j : Nat, j ≤ 2 ∧ i = .int .i64 j ∧ q = .int .i64 (1 + (k * 4 + 1 + j) : Nat) ∧ wx.ownsRow base 52 4 (.slice (some ⟨g, 0, none⟩) n cap) n (mk (n * 4) (mixI h (k * 4 + 1 + j))).toList ∧ w.grownBy wx (some g)) (fun _ i _ => 2 - (intOf i).toNat)
      case atStart => exact ⟨0, Nat.zero_le _, rfl, by go_num, HO1.out, HB1.out⟩
      case round =>
        obtain ⟨j, hj, rfl, rfl, hown, hbel⟩ := hrel
        have HB := Lib.hid hbel
        clear hbel
        by_cases hj2 : j < 2
        · have hj0 : (0 : Int) ≤ (j : Int) := by omega
          have hjl : (j : Int) < 2 := by omega
          have hd : wr.cell? ⟨g, k * 4 + 1 + j, none⟩ = some (.int .i64 (mixI h (k * 4 + 1 + j) (k * 4 + 1 + j))) := by
            rw [hown.cellAt (k * 4 + 1 + j) (by omega), Array.getElem?_toList]; exact mk_get _ (by omega)
          have hf := hown.frozenAt (k * 4 + 1 + j)
          have hst := hown.stored (k * 4 + 1 + j) (.int .i64 ((1 + (k * 4 + 1 + j) : Nat) : Int))
          rw [← Array.toList_setIfInBounds, mk_set _ _ (by omega), mixI_step] at hst
          have HST := Lib.hid hst
          generalize mixI h (k * 4 + 1 + j) (k * 4 + 1 + j) = u0 at hd
          clear hst hown
          go_wp2
          go_roundw
          case rel => exact ⟨j + 1, by omega, by go_num, by go_num, HST.out.1, World.grownBy.trans HB.out HST.out.2⟩
          case measure => simp [intOf]; omega
        · obtain rfl : j = 2 := by omega
          have hown : wr.ownsRow base 52 4 (.slice (some ⟨g, 0, none⟩) n cap) n (mk (n * 4) (mixI h (k * 4 + 3))).toList := hown
          have hd : wr.cell? ⟨g, k * 4 + 3, none⟩ = some (.int .i64 (mixI h (k * 4 + 3) (k * 4 + 3))) := by
            rw [hown.cellAt (k * 4 + 3) (by omega), Array.getElem?_toList]; exact mk_get _ (by omega)
          have hf := hown.frozenAt (k * 4 + 3)
          have hst := hown.stored (k * 4 + 3) (.int .i64 ((1 + (k * 4 + 3) : Nat) : Int))
          rw [← Array.toList_setIfInBounds, mk_set _ _ (by omega), mixI_step] at hst
          have HST := Lib.hid hst
          generalize mixI h (k * 4 + 3) (k * 4 + 3) = u0 at hd
          clear hst hown
          have HE : Hid (k * 4 + 3 + 1 = (k + 1) * 4) := by show _ = _; omega
          go_wp2
          go_roundw
          case rel => exact ⟨k + 1, by omega, by go_num, by go_num, by rw [← HE.out]; exact HST.out.1, World.grownBy.trans HB.out HST.out.2⟩
          case measure => simp [intOf]; omega
    · obtain rfl : k = n := by omega
      have HW := Lib.hid hown
      clear hown
      go_wp2
      go_ret
      refine ⟨rfl, ?_, HB.out⟩
      have := HW.out
      rw [mixI_end] at this
      exact this

theorem markT_own {v : Value} {m b : Nat} {H : Nat → Int} (w : World) (hv : OwnT w b v m H) (hn : m ≤ 1048576) :
    Calls Try.prog 154 #[v, .int .i64 1] w fun e w' => e = .returned (.int .i64 (1 + m * 4 : Nat)) ∧ OwnT w' b v m (fun j => ((1 + j : Nat) : Int)) ∧ w.grownBy w' v.ownBlock := by
  cases m with
  | zero =>
    obtain ⟨a, c, rfl⟩ := hv.zero
    refine (markT_zero a c w).mono fun e w' h => ?_
    obtain ⟨rfl, rfl⟩ := h
    exact ⟨rfl, hv.congr fun j hj => absurd hj (by omega), rfl, rfl, rfl, Nat.le_refl _, fun _ _ _ => rfl⟩
  | succ m =>
    obtain ⟨g, cap, rfl⟩ := ownsRow_succ hv
    exact markT_away g cap (m + 1) b H w hv hn
theorem grown_alloc (w : World) (o : Obj) (b : Option Nat) : w.grownBy (w.alloc o) b := ⟨rfl, rfl, rfl, by simp, fun j hj _ => heap_alloc_old w o hj⟩
set_option maxHeartbeats 1000000 in
theorem eqReplay_own (f : Nat → Int) {v u : Value} {m b1 b2 : Nat} {H : Nat → Int} (w : World) (hv : OwnT w b1 v m H) (hu : OwnT w b2 u m H) (hn : m ≤ 1048576) :
    Calls Try.prog 18 #[.agg (rpl f v), .agg (rpl f u)] w fun e w' => e = .returned (.bool true) ∧ Below w.heap.size w w' := by
  obtain ⟨a1, c1, rfl⟩ := hv.form
  obtain ⟨a2, c2, rfl⟩ := hu.form
  have hb0 := ((Below.refl w.heap.size w).alloc (Nat.le_refl _) (.cells (rpl f (.slice a1 m c1)) 29)).alloc (by simp) (.cells (rpl f (.slice a2 m c2)) 29)
  have K1 := (Rp.new w f (.slice a1 m c1) 29).alloc (.cells (rpl f (.slice a2 m c2)) 29)
  have K2 := Rp.new (w.alloc (.cells (rpl f (.slice a1 m c1)) 29)) f (.slice a2 m c2) 29
  have HV := Lib.hid (hv.below hb0)
  have HU := Lib.hid (hu.below hb0)
  have HB0 := Lib.hid hb0
  simp only [World.size_alloc] at K2
  clear hv hu hb0
  go_enter Try.func18, Try.ntmps18
  go_wp2_with (first | ((with_reducible show wpList _ _ _ (Oper.mk _ (Op.load 26 _) _ _ _ _ :: _) _ _); refine loadRB (K1) rfl rfl rfl ?_) | ((with_reducible show wpList _ _ _ (Oper.mk _ (Op.load 26 _) _ _ _ _ :: _) _ _); refine loadRB (K2) rfl rfl rfl ?_))
  refine (eqBoard_same _ _).mono ?_
  rintro e w1 ⟨rfl, hb⟩
  have K1 := K1.below hb K1.lt
  have K2 := K2.below hb K2.lt
  have c16 := K1.last
  have d16 := K2.last
  have HV := Lib.hid (HV.out.below hb)
  have HU := Lib.hid (HU.out.below hb)
  have HB := Lib.hid (HB0.out.trans (hb.mono HB0.out.size))
  clear hb HB0
  go_wp2_with fail
  refine (eqT_own _ HV.out HU.out hn).mono ?_
  rintro e w2 ⟨rfl, hb⟩
  have HB : Hid (Below w.heap.size w w2) := HB.out.trans (hb.mono HB.out.size)
  clear hb
  go_wp2_with fail
  go_ret
  exact ⟨rfl, HB.out⟩
set_option maxHeartbeats 1000000 in
theorem markReplay_own (f : Nat → Int) {v : Value} {m b : Nat} {H : Nat → Int} (w : World) (hv : OwnT w b v m H) (hn : m ≤ 1048576) :
    Calls Try.prog 19 #[.agg (rpl f v), .int .i64 1] w fun e w' => e = .returned (.int .i64 (1 + m * 4 : Nat)) ∧ OwnT w' b v m (fun j => ((1 + j : Nat) : Int)) ∧ w.grownBy w' v.ownBlock := by
  obtain ⟨a1, c1, rfl⟩ := hv.form
  have K1 := Rp.new w f (.slice a1 m c1) 29
  have HO := Lib.hid (hv.alloc (.cells (rpl f (.slice a1 m c1)) 29))
  have HG := Lib.hid (grown_alloc w (.cells (rpl f (.slice a1 m c1)) 29) (Value.slice a1 m c1).ownBlock)
  have c16 := K1.last
  clear hv
  go_enter Try.func19, Try.ntmps19
  go_wp2_with fail
  refine (markT_own _ HO.out hn).mono ?_
  rintro e w1 ⟨rfl, r, hg⟩
  have HR := Lib.hid r
  have HG : Hid (w.grownBy w1 (Value.slice a1 m c1).ownBlock) := World.grownBy.trans HG.out hg
  clear hg r HO
  go_wp2_with fail
  go_ret
  exact ⟨rfl, HR.out, HG.out⟩
set_option maxHeartbeats 1000000 in
theorem heldReplay_own (f : Nat → Int) {v : Value} {m b : Nat} (w : World) (hv : OwnT w b v m fun j => ((1 + j : Nat) : Int)) (hn : m ≤ 1048576) :
    Calls Try.prog 20 #[.agg (rpl f v), .int .i64 1] w fun e w' => e = .returned (.int .i64 (1 + m * 4 : Nat)) ∧ Below w.heap.size w w' := by
  obtain ⟨a1, c1, rfl⟩ := hv.form
  have K1 := Rp.new w f (.slice a1 m c1) 29
  have hb0 := (Below.refl w.heap.size w).alloc (Nat.le_refl _) (.cells (rpl f (.slice a1 m c1)) 29)
  have HV := Lib.hid (hv.below hb0)
  have HB0 := Lib.hid hb0
  have c16 := K1.last
  clear hv hb0
  have n0 : ¬ (((1 + m * 4 : Nat) : Int) < 0) := by omega
  go_enter Try.func20, Try.ntmps20
  go_wp2_with fail
  refine (heldT_own _ HV.out hn).mono ?_
  rintro e w1 ⟨rfl, rfl⟩
  go_wp2_with fail
  go_ret
  exact ⟨rfl, HB0.out⟩
/-- A replay of its parts. -/
theorem run_buildRp (f : Nat → Int) (a : Option Addr) (n c : Nat) (w : World) : (Instr.build 29 #[(0, .agg (mk 16 f)), (1, .slice a n c)]).run Try.prog w = .ok (.agg (rpl f (.slice a n c))) w := by kernel_rfl
theorem exec_buildRp {o : Oper} {ev : Operand → Value} {w : World} (x y : Operand) (ho : o.op = .build 29 #[(0, x), (1, y)]) {f : Nat → Int} {a : Option Addr} {n c : Nat}
    (hx : ev x = .agg (mk 16 f)) (hy : ev y = .slice a n c) : (execOp ev o).run Try.prog w = .ok (.value (.agg (rpl f (.slice a n c)))) w := by
  unfold execOp
  simp only [ho, Sem.run_bind, List.map_toArray, List.map_cons, List.map_nil, hx, hy, run_buildRp, Result.andThen_ok, Sem.run_pure]
theorem run_store_rp {w : World} {b : Nat} {f g : Nat → Int} {u : Value} {a : Option Addr} {n c : Nat} {t : TypeId} (hg : Rp w b f u t) :
    (storeCells ⟨b, 0, none⟩ (rpl g (.slice a n c)).toList).run Try.prog w = .ok () (w.setRow b (rpl g (.slice a n c))) := by
  have := run_storeCells_from (P := Try.prog) b t (rpl g (.slice a n c)).toList 0 _ _ hg (by simp [rpl_size]) (fun v hv => (Array.all_eq_true_iff_forall_mem.1 (rpl_one g (v := .slice a n c) rfl)) v (by simpa using hv))
  rw [this]
  simp [rpl_size]
theorem grown_rp {w : World} {b : Nat} {f : Nat → Int} {v : Value} {t : TypeId} (k : Rp w b f v t) (cs : Array Value) : w.grownBy (w.setRow b cs) (some b) := by
  refine ⟨rfl, rfl, rfl, ?_, fun j hj hne => ?_⟩
  · simp [World.setRow]
  · exact setRow_other w b j cs (fun e => hne (by rw [e]))
end Go.Proofs.Ytfjpdopljmilpaa
