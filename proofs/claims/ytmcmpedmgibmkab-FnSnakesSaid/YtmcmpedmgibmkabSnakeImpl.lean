/-
  The contracts of the cells of a snake in the program: slices.Reverse over four cells of a path, snakePath and SnakePath.
-/
import Derived.Test.YtmcmpedmgibmkabImplSnake
import Derived.Test.YtmcmpedmgibmkabDrawsA
namespace Go.Proofs.Ytmcmpedmgibmkab
open Go.RowKit Plain
attribute [local go_sem] store_new
set_option linter.unusedVariables false
set_option linter.unusedSimpArgs false
theorem turned_row {w x : World} {b n : Nat} {f : Nat → Int} {t : TypeId} (h : Turned b w x) (k : Blk x b n f t) (cs : Array Value) : Turned b w (x.setRow b cs) :=
  ⟨h.os, h.tape, h.output, by simpa [World.setRow] using h.size, fun j hj hne => (setRow_other x b j cs (fun e => hne (congrArg some e))).trans (h.block j hj hne)⟩
theorem patch_one (f : Nat → Int) (o : Nat) (h : Nat → Int) (j : Nat) : patch f o 2 h j = lay2 f o (h 0) (h 1) j := by
  unfold patch lay2
  by_cases e : o ≤ j ∧ j < o + 2
  · rw [if_pos e]
    rcases (by omega : j = o ∨ j = o + 1) with q | q
    · subst q; rw [if_pos rfl, Nat.sub_self]
    · subst q; rw [if_neg (by omega), if_pos rfl, Nat.add_sub_cancel_left]
  · rw [if_neg e, if_neg (by omega), if_neg (by omega)]
theorem patch_two (f : Nat → Int) (o p : Nat) (g h : Nat → Int) (j : Nat) : patch (patch f o 2 g) p 2 h j = lay2 (lay2 f o (g 0) (g 1)) p (h 0) (h 1) j := by
  rw [patch_one]
  have e : patch f o 2 g = lay2 f o (g 0) (g 1) := funext fun j => patch_one f o g j
  rw [e]
set_option maxHeartbeats 4000000 in
set_option maxRecDepth 20000 in
theorem rev_any (b o : Nat) (f : Nat → Int) (w : World) (hK : Blk w b 32 f 23) (ho : o + 8 ≤ 32) :
    Calls Try.prog 47 #[.slice (some ⟨b, o, none⟩) 4 4] w fun e w' => e = .returned (.tuple #[]) ∧ Blk w' b 32 (rvF f o 2) 23 ∧ Turned b w w' := by
  have HT : Hid (Turned b w w) := Turned.refl b w
  go_enter Try.func47, Try.ntmps47
  go_wp2_with fail
  go_loopg [2, 3] 2 (fun g s2 s3 wr => ∃ t : Nat, t + g = 2 ∧ s2 = .int .i64 t ∧ s3 = .int .i64 ((3 - t : Nat) : Int) ∧ Blk wr b 32 (rvF f o t) 23 ∧ Hid (Turned b w wr))
  case atStart => exact ⟨0, by omega, rfl, rfl, hK, HT⟩
  case round =>
    clear HT
    obtain ⟨t, htg, rfl, rfl, K, HT⟩ := hrel
    obtain ⟨E, hE⟩ : ∃ E, E = 3 - t := ⟨_, rfl⟩
    rw [← hE]
    cases gk with
    | zero =>
      obtain rfl : t = 2 := by omega
      have hd : ¬ (((2 : Nat) : Int) < (E : Int)) := by omega
      have hE1 : (E : Int) = 1 := by omega
      clear htg hE
      go_wp2_with fail
      go_end0
      exact ⟨rfl, K, HT.out⟩
    | succ g =>
      have hd : (t : Int) < (E : Int) := by omega
      have ht1 : t ≤ 1 := by omega
      have hE4 : (E : Int) < 4 := by omega
      have ht4 : (t : Int) < 4 := by omega
      have hE0 : (0 : Int) ≤ (E : Int) := by omega
      have ht0 : (0 : Int) ≤ (t : Int) := by omega
      have hE4n : E < 4 := by omega
      have HE3 : Hid (((3 - (t + 1) : Nat) : Int) = (E : Int) - 1) := by show _ = _; omega
      have HRV : Hid (rvF f o (t + 1) = lay2 (lay2 (rvF f o t) (o + t * 2) (rvF f o t (o + E * 2)) (rvF f o t (o + E * 2 + 1))) (o + E * 2) (rvF f o t (o + t * 2)) (rvF f o t (o + t * 2 + 1))) := by rw [hE]; rfl
      clear hE
      generalize hF : rvF f o t = F at *
      clear hF
      go_wp2_with fail
      refine wp_region_held_drew (S := fun W => True) (by kernel_rfl) (trivial) (fun hHeld => ?_)
      have K : Blk wr.drew b 32 F 23 := K.drew
      have HT : Hid (Turned b w wr.drew) := HT.out.draws 1
      generalize wr.drew = x0 at *
      refine wpAnyH_take (i := 0) (oi := { dst := some 14, op := _, type := _, pos := _, after := _, guard := _ }) (v := .slice (some ⟨b, o, none⟩) 4 4) rfl (by kernel_rfl) (by kernel_rfl) (by kernel_rfl) (fun _ _ _ h => h) (Or.inl ⟨by rfl, by intro w hSw; clear hSw; go_simp; (try with_reducible rfl)⟩) (by assumption) ?_
      try simp only [Act.put, List.setIfInBounds_toArray, List.set_cons_zero, List.set_cons_succ]
      refine wpAnyH_take (i := 1) (oi := { dst := some 15, op := _, type := _, pos := _, after := _, guard := _ }) (v := .int .i64 (t : Int)) rfl (by kernel_rfl) (by kernel_rfl) (by kernel_rfl) (fun _ _ _ h => h) (Or.inl ⟨by rfl, by intro w hSw; clear hSw; go_simp; (try with_reducible rfl)⟩) (by assumption) ?_
      try simp only [Act.put, List.setIfInBounds_toArray, List.set_cons_zero, List.set_cons_succ]
      refine wpAnyH_take (i := 2) (oi := { dst := some 16, op := _, type := _, pos := _, after := _, guard := _ }) (v := .slice (some ⟨b, o, none⟩) 4 4) rfl (by kernel_rfl) (by kernel_rfl) (by kernel_rfl) (fun _ _ _ h => h) (Or.inl ⟨by rfl, by intro w hSw; clear hSw; go_simp; (try with_reducible rfl)⟩) (by assumption) ?_
      try simp only [Act.put, List.setIfInBounds_toArray, List.set_cons_zero, List.set_cons_succ]
      refine wpAnyH_take (i := 3) (oi := { dst := some 17, op := _, type := _, pos := _, after := _, guard := _ }) (v := .int .i64 (E : Int)) rfl (by kernel_rfl) (by kernel_rfl) (by kernel_rfl) (fun _ _ _ h => h) (Or.inl ⟨by rfl, by intro w hSw; clear hSw; go_simp; (try with_reducible rfl)⟩) (by assumption) ?_
      try simp only [Act.put, List.setIfInBounds_toArray, List.set_cons_zero, List.set_cons_succ]
      refine wpAnyH_take (i := 4) (oi := { dst := some 18, op := _, type := _, pos := _, after := _, guard := _ }) (v := .slice (some ⟨b, o, none⟩) 4 4) rfl (by kernel_rfl) (by kernel_rfl) (by kernel_rfl) (fun _ _ _ h => h) (Or.inl ⟨by rfl, by intro w hSw; clear hSw; go_simp; (try with_reducible rfl)⟩) (by assumption) ?_
      try simp only [Act.put, List.setIfInBounds_toArray, List.set_cons_zero, List.set_cons_succ]
      refine wpAnyH_take (i := 5) (oi := { dst := some 19, op := _, type := _, pos := _, after := _, guard := _ }) (v := .int .i64 (E : Int)) rfl (by kernel_rfl) (by kernel_rfl) (by kernel_rfl) (fun _ _ _ h => h) (Or.inl ⟨by rfl, by intro w hSw; clear hSw; go_simp; (try with_reducible rfl)⟩) (by assumption) ?_
      try simp only [Act.put, List.setIfInBounds_toArray, List.set_cons_zero, List.set_cons_succ]
      refine wpAnyH_take (i := 6) (oi := { dst := some 20, op := _, type := _, pos := _, after := _, guard := _ }) (v := .pointer (some ⟨b, o + E * 2, none⟩)) rfl (by kernel_rfl) (by kernel_rfl) (by kernel_rfl) (fun _ _ _ h => h) (Or.inl ⟨by rfl, by intro w hSw; clear hSw; go_simp; (try with_reducible rfl)⟩) (by assumption) ?_
      try simp only [Act.put, List.setIfInBounds_toArray, List.set_cons_zero, List.set_cons_succ]
      refine wpAnyH_take (i := 8) (oi := { dst := some 22, op := _, type := _, pos := _, after := _, guard := _ }) (v := .slice (some ⟨b, o, none⟩) 4 4) rfl (by kernel_rfl) (by kernel_rfl) (by kernel_rfl) (fun _ _ _ h => h) (Or.inl ⟨by rfl, by intro w hSw; clear hSw; go_simp; (try with_reducible rfl)⟩) (by assumption) ?_
      try simp only [Act.put, List.setIfInBounds_toArray, List.set_cons_zero, List.set_cons_succ]
      refine wpAnyH_take (i := 9) (oi := { dst := some 23, op := _, type := _, pos := _, after := _, guard := _ }) (v := .int .i64 (t : Int)) rfl (by kernel_rfl) (by kernel_rfl) (by kernel_rfl) (fun _ _ _ h => h) (Or.inl ⟨by rfl, by intro w hSw; clear hSw; go_simp; (try with_reducible rfl)⟩) (by assumption) ?_
      try simp only [Act.put, List.setIfInBounds_toArray, List.set_cons_zero, List.set_cons_succ]
      refine wpAnyH_take (i := 10) (oi := { dst := some 24, op := _, type := _, pos := _, after := _, guard := _ }) (v := .pointer (some ⟨b, o + t * 2, none⟩)) rfl (by kernel_rfl) (by kernel_rfl) (by kernel_rfl) (fun _ _ _ h => h) (Or.inl ⟨by rfl, by intro w hSw; clear hSw; go_simp; (try with_reducible rfl)⟩) (by assumption) ?_
      try simp only [Act.put, List.setIfInBounds_toArray, List.set_cons_zero, List.set_cons_succ]
      refine wpAnyH_ready (rs := [7, 11]) (by kernel_rfl) (by simp) ?_
      refine AllReadyH.cons rfl (fun KK hKK => ?_) ?_
      · rw [if_pos (by rfl)]
        refine wp_ldC2 (off := o + E * 2) K (by omega) rfl rfl ?_
        clear hHeld
        refine hKK.out _ _ trivial (fun hHeld => ?_)
        clear hKK KK
        try simp only [Act.put, List.setIfInBounds_toArray, List.set_cons_zero, List.set_cons_succ]
        refine wpAnyH_ready (rs := [11]) (by kernel_rfl) (by simp) ?_
        refine AllReadyH.cons rfl (fun KK hKK => ?_) AllReadyH.nil
        rw [if_pos (by rfl)]
        refine wp_ldC2 (off := o + t * 2) K (by omega) rfl rfl ?_
        clear hHeld
        refine hKK.out _ _ trivial (fun hHeld => ?_)
        clear hKK KK
        try simp only [Act.put, List.setIfInBounds_toArray, List.set_cons_zero, List.set_cons_succ]
        refine wpAnyH_take (i := 12) (oi := { dst := some 26, op := _, type := _, pos := _, after := _, guard := _ }) (v := .pointer (some ⟨b, o + t * 2, none⟩)) rfl (by kernel_rfl) (by kernel_rfl) (by kernel_rfl) (fun _ _ _ h => h) (Or.inl ⟨by rfl, by intro w hSw; clear hSw; go_simp; (try with_reducible rfl)⟩) (by assumption) ?_
        try simp only [Act.put, List.setIfInBounds_toArray, List.set_cons_zero, List.set_cons_succ]
        refine wpAnyH_ready (rs := [13]) (by kernel_rfl) (by simp) ?_
        refine AllReadyH.cons rfl (fun KK hKK => ?_) AllReadyH.nil
        rw [if_pos (by rfl)]
        refine wp_stC2 (off := o + t * 2) (g := (fun i => F (o + E * 2 + i))) K (by omega) rfl rfl rfl ?_
        have HT : Hid (Turned b w (x0.setRow b (mk 32 (patch F (o + t * 2) 2 (fun i => F (o + E * 2 + i)))))) := turned_row HT.out K _
        have K := K.row 32 (patch F (o + t * 2) 2 (fun i => F (o + E * 2 + i)))
        generalize x0.setRow b (mk 32 (patch F (o + t * 2) 2 (fun i => F (o + E * 2 + i)))) = x1 at *
        clear hHeld
        refine hKK.out _ _ trivial (fun hHeld => ?_)
        clear hKK KK
        try simp only [Act.put, List.setIfInBounds_toArray, List.set_cons_zero, List.set_cons_succ]
        refine wpAnyH_take (i := 14) (oi := { dst := some 27, op := _, type := _, pos := _, after := _, guard := _ }) (v := .pointer (some ⟨b, o + E * 2, none⟩)) rfl (by kernel_rfl) (by kernel_rfl) (by kernel_rfl) (fun _ _ _ h => h) (Or.inl ⟨by rfl, by intro w hSw; clear hSw; go_simp; (try with_reducible rfl)⟩) (by assumption) ?_
        try simp only [Act.put, List.setIfInBounds_toArray, List.set_cons_zero, List.set_cons_succ]
        refine wpAnyH_ready (rs := [15]) (by kernel_rfl) (by simp) ?_
        refine AllReadyH.cons rfl (fun KK hKK => ?_) AllReadyH.nil
        rw [if_pos (by rfl)]
        refine wp_stC2 (off := o + E * 2) (g := (fun i => F (o + t * 2 + i))) K (by omega) rfl rfl rfl ?_
        have HT : Hid (Turned b w (x1.setRow b (mk 32 (patch (patch F (o + t * 2) 2 (fun i => F (o + E * 2 + i))) (o + E * 2) 2 (fun i => F (o + t * 2 + i)))))) := turned_row HT.out K _
        have K := K.row 32 (patch (patch F (o + t * 2) 2 (fun i => F (o + E * 2 + i))) (o + E * 2) 2 (fun i => F (o + t * 2 + i)))
        generalize x1.setRow b (mk 32 (patch (patch F (o + t * 2) 2 (fun i => F (o + E * 2 + i))) (o + E * 2) 2 (fun i => F (o + t * 2 + i)))) = x2 at *
        clear hHeld
        refine hKK.out _ _ trivial (fun hHeld => ?_)
        clear hKK KK
        try simp only [Act.put, List.setIfInBounds_toArray, List.set_cons_zero, List.set_cons_succ]
        refine wpAnyH_done (by kernel_rfl) ?_ _
        clear hHeld
        go_wp2_with fail
        go_roundg g
        case rel => exact ⟨t + 1, by omega, by go_num, by rw [HE3.out], K.congr (fun j _ => by rw [HRV.out]; exact patch_two F _ _ _ _ j), HT⟩
        case measure => omega
      refine AllReadyH.cons rfl (fun KK hKK => ?_) AllReadyH.nil
      rw [if_pos (by rfl)]
      refine wp_ldC2 (off := o + t * 2) K (by omega) rfl rfl ?_
      clear hHeld
      refine hKK.out _ _ trivial (fun hHeld => ?_)
      clear hKK KK
      try simp only [Act.put, List.setIfInBounds_toArray, List.set_cons_zero, List.set_cons_succ]
      refine wpAnyH_ready (rs := [7]) (by kernel_rfl) (by simp) ?_
      refine AllReadyH.cons rfl (fun KK hKK => ?_) AllReadyH.nil
      rw [if_pos (by rfl)]
      refine wp_ldC2 (off := o + E * 2) K (by omega) rfl rfl ?_
      clear hHeld
      refine hKK.out _ _ trivial (fun hHeld => ?_)
      clear hKK KK
      try simp only [Act.put, List.setIfInBounds_toArray, List.set_cons_zero, List.set_cons_succ]
      refine wpAnyH_take (i := 12) (oi := { dst := some 26, op := _, type := _, pos := _, after := _, guard := _ }) (v := .pointer (some ⟨b, o + t * 2, none⟩)) rfl (by kernel_rfl) (by kernel_rfl) (by kernel_rfl) (fun _ _ _ h => h) (Or.inl ⟨by rfl, by intro w hSw; clear hSw; go_simp; (try with_reducible rfl)⟩) (by assumption) ?_
      try simp only [Act.put, List.setIfInBounds_toArray, List.set_cons_zero, List.set_cons_succ]
      refine wpAnyH_ready (rs := [13]) (by kernel_rfl) (by simp) ?_
      refine AllReadyH.cons rfl (fun KK hKK => ?_) AllReadyH.nil
      rw [if_pos (by rfl)]
      refine wp_stC2 (off := o + t * 2) (g := (fun i => F (o + E * 2 + i))) K (by omega) rfl rfl rfl ?_
      have HT : Hid (Turned b w (x0.setRow b (mk 32 (patch F (o + t * 2) 2 (fun i => F (o + E * 2 + i)))))) := turned_row HT.out K _
      have K := K.row 32 (patch F (o + t * 2) 2 (fun i => F (o + E * 2 + i)))
      generalize x0.setRow b (mk 32 (patch F (o + t * 2) 2 (fun i => F (o + E * 2 + i)))) = x1 at *
      clear hHeld
      refine hKK.out _ _ trivial (fun hHeld => ?_)
      clear hKK KK
      try simp only [Act.put, List.setIfInBounds_toArray, List.set_cons_zero, List.set_cons_succ]
      refine wpAnyH_take (i := 14) (oi := { dst := some 27, op := _, type := _, pos := _, after := _, guard := _ }) (v := .pointer (some ⟨b, o + E * 2, none⟩)) rfl (by kernel_rfl) (by kernel_rfl) (by kernel_rfl) (fun _ _ _ h => h) (Or.inl ⟨by rfl, by intro w hSw; clear hSw; go_simp; (try with_reducible rfl)⟩) (by assumption) ?_
      try simp only [Act.put, List.setIfInBounds_toArray, List.set_cons_zero, List.set_cons_succ]
      refine wpAnyH_ready (rs := [15]) (by kernel_rfl) (by simp) ?_
      refine AllReadyH.cons rfl (fun KK hKK => ?_) AllReadyH.nil
      rw [if_pos (by rfl)]
      refine wp_stC2 (off := o + E * 2) (g := (fun i => F (o + t * 2 + i))) K (by omega) rfl rfl rfl ?_
      have HT : Hid (Turned b w (x1.setRow b (mk 32 (patch (patch F (o + t * 2) 2 (fun i => F (o + E * 2 + i))) (o + E * 2) 2 (fun i => F (o + t * 2 + i)))))) := turned_row HT.out K _
      have K := K.row 32 (patch (patch F (o + t * 2) 2 (fun i => F (o + E * 2 + i))) (o + E * 2) 2 (fun i => F (o + t * 2 + i)))
      generalize x1.setRow b (mk 32 (patch (patch F (o + t * 2) 2 (fun i => F (o + E * 2 + i))) (o + E * 2) 2 (fun i => F (o + t * 2 + i)))) = x2 at *
      clear hHeld
      refine hKK.out _ _ trivial (fun hHeld => ?_)
      clear hKK KK
      try simp only [Act.put, List.setIfInBounds_toArray, List.set_cons_zero, List.set_cons_succ]
      refine wpAnyH_done (by kernel_rfl) ?_ _
      clear hHeld
      go_wp2_with fail
      go_roundg g
      case rel => exact ⟨t + 1, by omega, by go_num, by rw [HE3.out], K.congr (fun j _ => by rw [HRV.out]; exact patch_two F _ _ _ _ j), HT⟩
      case measure => omega
namespace Plain
/-- The path while its rows are turned. -/
def pvF : Nat → Nat → Int
  | 0 => pathF
  | m + 1 => rvF (pvF m) (m * 16 + 8) 2
def okV : Bool := (List.range 32).all fun j => pvF 2 j == svF j
theorem okV_all : okV = true := by decide +kernel
theorem pv_all {j : Nat} (hj : j < 32) : pvF 2 j = svF j := by
  have := all_at (P := fun j => pvF 2 j == svF j) okV_all hj
  simpa using this
/-- The path while its cells are moved. -/
def mxS (k i : Nat) : Nat → Int := fun j => if j < i * 2 then spF k j else svF j
end Plain
theorem formCell_any (R C k : Nat) (hR : R < 4) (hC : C < 4) (hk : k < 8) (w : World) :
    Calls Try.prog 48 #[.agg (mk 2 (two (R : Int) (C : Int))), .int .i64 (k : Int)] w fun e w' => e = .returned (.agg (mk 2 (cellF (fcP (R * 4 + C) k)))) ∧ Below w.heap.size w w' := by
  rcases (by omega : k = 0 ∨ k = 1 ∨ k = 2 ∨ k = 3 ∨ k = 4 ∨ k = 5 ∨ k = 6 ∨ k = 7) with rfl | rfl | rfl | rfl | rfl | rfl | rfl | rfl
  · exact formCell0_any R C hR hC w
  · exact formCell1_any R C hR hC w
  · exact formCell2_any R C hR hC w
  · exact formCell3_any R C hR hC w
  · exact formCell4_any R C hR hC w
  · exact formCell5_any R C hR hC w
  · exact formCell6_any R C hR hC w
  · exact formCell7_any R C hR hC w
theorem idxP (f : Nat → Int) (k : Nat) (hk : k < 16) (w : World) : (Instr.index 23 (.agg (mk 32 f)) (.int .i64 (k : Int))).run Try.prog w = .ok (.agg (mk 2 (fun c => f (k * 2 + c)))) w := 
  run_index_row Try.underlying23 Try.underlying22 rfl sizeC f hk (by omega) w
set_option maxHeartbeats 4000000 in
set_option maxRecDepth 20000 in
theorem snakePath_any (k : Nat) (w : World) (hk : k < 8) :
    Calls Try.prog 30 #[.int .i64 (k : Int)] w fun e w' => e = .returned (.agg (mk 32 (spF k))) ∧ Below w.heap.size w w' := by
  have z32 := zero32
  have z2 := zero2
  have HFC := Lib.hid (fun R C hR hC w => formCell_any R C k hR hC hk w)
  have HFL := Lib.hid (fun p (hp : p < 16) => (fc_lt hp hk).1)
  clear hk
  have K2 := Blk.new w 32 (fun _ => 0) 23
  have HB := Lib.hid ((Below.refl w.heap.size w).alloc (Nat.le_refl _) (.cells (mk 32 fun _ => 0) 23))
  go_enter Try.func30, Try.ntmps30
  go_wp2_with fail
  refine (cellPath_any _).mono ?_
  rintro e w1 ⟨rfl, hb⟩
  have K2 := (K2.below hb K2.lt)
  have HN : Hid (w.heap.size < w1.heap.size) := K2.lt
  have K2 := K2.alloc (.cells (mk 32 pathF) 23)
  have HB := HB.out.trans (hb.mono HB.out.size)
  have HB : Hid (Below w.heap.size w (w1.alloc (.cells (mk 32 pathF) 23))) := HB.alloc HB.size _
  have K3 := Blk.new w1 32 pathF 23
  clear hb
  go_wp2_with fail
  generalize w1.alloc (.cells (mk 32 pathF) 23) = w2 at *
  generalize w1.heap.size = b3 at *
  go_loopg [4] 2 (fun g s4 wr => ∃ m : Nat, m + g = 2 ∧ s4 = .int .i64 ((2 * m + 1 : Nat) : Int) ∧ Blk wr b3 32 (pvF m) 23 ∧ Blk wr w.heap.size 32 (fun _ => 0) 23 ∧ Hid (Below w.heap.size w wr))
  case atStart => exact ⟨0, by omega, rfl, K3, K2, HB⟩
  case round =>
    clear K2 K3 HB
    obtain ⟨m, hmg, rfl, K3, K2, HB⟩ := hrel
    cases gk with
    | zero =>
      obtain rfl : m = 2 := by omega
      have K3 := K3.congr (fun j hj => pv_all hj)
      clear hmg
      go_wp2_with ((with_reducible show wpList _ _ _ (Oper.mk _ (Op.load 23 _) _ _ _ _ :: _) _ _); refine loadP (K3) rfl rfl rfl ?_)
      go_loopg [25] 16 (fun g s25 wr => ∃ i : Nat, i + g = 16 ∧ s25 = .int .i64 i ∧ Blk wr b3 32 (mxS k i) 23 ∧ Blk wr w.heap.size 32 (fun _ => 0) 23 ∧ Hid (Below w.heap.size w wr))
      case atStart => exact ⟨0, by omega, rfl, K3.congr (fun j _ => by simp [mxS]), K2, HB⟩
      case round =>
        clear K2 K3 HB
        obtain ⟨i, hig, rfl, K3, K2, HB⟩ := hrel
        cases gk with
        | zero =>
          have hd : ¬ ((i : Int) < 16) := by omega
          obtain rfl : i = 16 := by omega
          have K3 := K3.congr (g := spF k) (fun j hj => by simp [mxS]; omega)
          clear hig
          go_wp2_with (first | ((with_reducible show wpList _ _ _ (Oper.mk _ (Op.load 23 _) _ _ _ _ :: _) _ _); refine loadP (K3) rfl rfl rfl ?_) | ((with_reducible show wpList _ _ _ (Oper.mk _ (Op.store 23 _ _) _ _ _ _ :: _) _ _); refine storeP (K2) rfl rfl rfl rfl ?_))
          try simp only [Act.put, List.setIfInBounds_toArray, List.set_cons_zero, List.set_cons_succ]
          try simp only [Exit.inBlock, Exit.then]
          refine retcP (p := 2) (t := 23) (b := w.heap.size) (f := spF k) ?_ ?_ ?_ ?_ ?_
          · exact K2.row 32 (spF k)
          · rfl
          · rfl
          · rfl
          · exact ⟨rfl, below_setRow HB.out (Nat.le_refl _) (mk 32 (spF k))⟩
        | succ g =>
          have hd : (i : Int) < 16 := by omega
          have hi0 : (0 : Int) ≤ (i : Int) := by omega
          have hcl := snC_lt (i := i) (by omega)
          have hfl := HFL.out (snC i) hcl
          obtain ⟨R, hR⟩ : ∃ R, R = snC i / 4 := ⟨_, rfl⟩
          obtain ⟨C, hC⟩ : ∃ C, C = snC i % 4 := ⟨_, rfl⟩
          have iX : ∀ W, (Instr.index 23 (.agg (mk 32 svF)) (.int .i64 (i : Int))).run Try.prog W = .ok (.agg (mk 2 (two (R : Int) (C : Int)))) W := fun W => by
            rw [idxP svF i (by omega) W]
            congr 2
            exact mk_congr fun c hc => by
              rcases (by omega : c = 0 ∨ c = 1) with rfl | rfl
              · show svF (i * 2) = (R : Int)
                unfold svF; rw [if_pos (by omega), show i * 2 / 2 = i by omega, hR]
              · show svF (i * 2 + 1) = (C : Int)
                unfold svF; rw [if_neg (by omega), show (i * 2 + 1) / 2 = i by omega, hC]
          have HC := Lib.hid (HFC.out R C (by omega) (by omega))
          rw [show R * 4 + C = snC i by omega] at HC
          have HU : Hid (mk 32 (patch (mxS k i) (i * 2) 2 (cellF (fcP (snC i) k))) = mk 32 (mxS k (i + 1))) := mk_congr fun j _ => by
            unfold patch mxS
            by_cases h : i * 2 ≤ j ∧ j < i * 2 + 2
            · rw [if_pos h, if_pos (by omega)]
              unfold cellF spF
              rcases (by omega : j = i * 2 ∨ j = i * 2 + 1) with q | q
              · subst q; rw [if_pos (by omega), if_pos (by omega), show i * 2 / 2 = i by omega]
              · subst q; rw [if_neg (by omega), if_neg (by omega), show (i * 2 + 1) / 2 = i by omega]
            · rw [if_neg h]
              by_cases q : j < i * 2
              · rw [if_pos q, if_pos (by omega)]
              · rw [if_neg q, if_neg (by omega)]
          clear hR hC hcl hfl
          generalize cellF (fcP (snC i) k) = CC at *
          have K8 := Blk.new wr 2 (fun _ => 0) 22
          have H8 : Hid (b3 < wr.heap.size ∧ w.heap.size < wr.heap.size) := ⟨K3.lt, K2.lt⟩
          have K8s := K8.row 2 (two (R : Int) (C : Int))
          go_wp2_with (first | ((with_reducible show wpList _ _ _ (Oper.mk _ (Op.store 22 _ _) _ _ _ _ :: _) _ _); refine storeC (K8) rfl rfl rfl rfl ?_) | ((with_reducible show wpList _ _ _ (Oper.mk _ (Op.load 22 _) _ _ _ _ :: _) _ _); refine loadC (K8s) rfl rfl rfl ?_))
          have K2 := (K2.alloc (.cells (mk 2 fun _ => 0) 22)).rowOther wr.heap.size (mk 2 (two (R : Int) (C : Int))) (by have := H8.out; omega)
          have K3 := (K3.alloc (.cells (mk 2 fun _ => 0) 22)).rowOther wr.heap.size (mk 2 (two (R : Int) (C : Int))) (by have := H8.out; omega)
          have HB : Hid (Below w.heap.size w ((wr.alloc (.cells (mk 2 fun _ => 0) 22)).setRow wr.heap.size (mk 2 (two (R : Int) (C : Int))))) := below_setRow (HB.out.alloc HB.out.size _) HB.out.size _
          clear K8 K8s iX
          generalize (wr.alloc (.cells (mk 2 fun _ => 0) 22)).setRow wr.heap.size (mk 2 (two (R : Int) (C : Int))) = x1 at *
          refine (HC.out _).mono ?_
          rintro e x2 ⟨rfl, hb⟩
          have K2 := K2.below hb K2.lt
          have K3 := K3.below hb K3.lt
          have HB : Hid (Below w.heap.size w x2) := HB.out.trans (hb.mono HB.out.size)
          clear hb HC
          go_wp2_with ((with_reducible show wpList _ _ _ (Oper.mk _ (Op.store 22 _ _) _ _ _ _ :: _) _ _); refine storePC (K3) (by omega) rfl rfl rfl rfl ?_)
          rw [HU.out]
          have K2 := K2.rowOther b3 (mk 32 (mxS k (i + 1))) (by have := HN.out; omega)
          have K3 := K3.row 32 (mxS k (i + 1))
          go_roundg g
          case rel => exact ⟨i + 1, by omega, by go_num, K3, K2, below_setRow HB.out (by have := HN.out; omega) _⟩
          case measure => omega
    | succ g =>
      rcases (by omega : m = 0 ∧ g = 1 ∨ m = 1 ∧ g = 0) with ⟨rfl, rfl⟩ | ⟨rfl, rfl⟩
      · skip
        have K3 := K3
        have hof : 8 + 8 ≤ 32 := by omega
        go_wp2_with fail
        refine (rev_any b3 8 _ _ K3 hof).mono ?_
        rintro e w4 ⟨rfl, K3, ht⟩
        have K2 := K2.turned ht (by have := HN.out; omega)
        have HB : Hid (Below w.heap.size w w4) := HB.out.trans (ht.below HB.out.size (by have := HN.out; omega))
        clear ht
        go_wp2_with fail
        go_roundg 1
        case rel => exact ⟨0 + 1, by omega, by go_num, K3, K2, HB⟩
        case measure => omega
      · skip
        have K3 := K3
        have hof : 24 + 8 ≤ 32 := by omega
        go_wp2_with fail
        refine (rev_any b3 24 _ _ K3 hof).mono ?_
        rintro e w4 ⟨rfl, K3, ht⟩
        have K2 := K2.turned ht (by have := HN.out; omega)
        have HB : Hid (Below w.heap.size w w4) := HB.out.trans (ht.below HB.out.size (by have := HN.out; omega))
        clear ht
        go_wp2_with fail
        go_roundg 0
        case rel => exact ⟨1 + 1, by omega, by go_num, K3, K2, HB⟩
        case measure => omega
theorem isFormS_yes (x : Int) (w : World) (h0 : 0 ≤ x) (h1 : x ≤ 7) :
    Calls Try.prog 29 #[.int .i64 x] w fun e w' => e = .returned (.bool true) ∧ w = w' := by
  have d0 : decide (0 ≤ x) = true := by simpa using h0
  have d1 : decide (x < 8) = true := by simp; omega
  clear h0 h1
  go_enter Try.func29, Try.ntmps29
  go_wp2
  go_ret
  exact ⟨rfl, rfl⟩
theorem isFormS_no (x : Int) (w : World) (h : x < 0 ∨ 7 < x) :
    Calls Try.prog 29 #[.int .i64 x] w fun e w' => e = .returned (.bool false) ∧ w = w' := by
  by_cases h0 : 0 ≤ x
  · have d0 : decide (0 ≤ x) = true := by simpa using h0
    have d1 : decide (x < 8) = false := by simp; omega
    clear h h0
    go_enter Try.func29, Try.ntmps29
    go_wp2
    go_ret
    exact ⟨rfl, rfl⟩
  · have d0 : decide (0 ≤ x) = false := by simp; omega
    clear h h0
    go_enter Try.func29, Try.ntmps29
    go_wp2
    go_ret
    exact ⟨rfl, rfl⟩
set_option maxHeartbeats 1000000 in
theorem implSnake_any (k : Int) (w : World) :
    Calls Try.prog 8 #[.int .i64 k] w fun e w' => e = .returned (.tuple #[.agg (mk 32 (snR k)), .bool (snO k)]) ∧ Below w.heap.size w w' := by
  have z32 := zero32
  have K2 := Blk.new w 32 (fun _ => 0) 23
  have HB := Lib.hid ((Below.refl w.heap.size w).alloc (Nat.le_refl _) (.cells (mk 32 fun _ => 0) 23))
  by_cases hk : 0 ≤ k ∧ k ≤ 7
  · rw [(sn_yes hk).1, (sn_yes hk).2]
    obtain ⟨n, rfl⟩ := Int.eq_ofNat_of_zero_le hk.1
    have HF := Lib.hid (fun w => isFormS_yes (n : Int) w hk.1 hk.2)
    have HS := Lib.hid (fun w => snakePath_any n w (by omega))
    rw [Int.toNat_natCast]
    clear hk
    generalize spF n = F at *
    go_enter Try.func8, Try.ntmps8
    go_wp2_with fail
    refine (HF.out _).mono ?_
    rintro e w' ⟨rfl, rfl⟩
    go_wp2_with fail
    refine (HS.out _).mono ?_
    rintro e w2 ⟨rfl, hb⟩
    have K2 := K2.below hb K2.lt
    have HB : Hid (Below w.heap.size w w2) := HB.out.trans (hb.mono HB.out.size)
    clear hb
    go_wp2_with ((with_reducible show wpList _ _ _ (Oper.mk _ (Op.store 23 _ _) _ _ _ _ :: _) _ _); refine storeP (K2) rfl rfl rfl rfl ?_)
    try simp only [Exit.inBlock, Exit.then]
    exact retctP (K2.row 32 _) rfl rfl rfl ⟨rfl, below_setRow HB.out (Nat.le_refl _) _⟩
  · rw [(sn_no hk).1, (sn_no hk).2]
    have HF := Lib.hid (fun w => isFormS_no k w (by omega))
    clear hk
    go_enter Try.func8, Try.ntmps8
    go_wp2_with fail
    refine (HF.out _).mono ?_
    rintro e w' ⟨rfl, rfl⟩
    go_wp2_with ((with_reducible show wpList _ _ _ (Oper.mk _ (Op.store 23 _ _) _ _ _ _ :: _) _ _); refine storeP (K2) rfl rfl rfl rfl ?_)
    try simp only [Exit.inBlock, Exit.then]
    exact retctP (K2.row 32 _) rfl rfl rfl ⟨rfl, below_setRow HB.out (Nat.le_refl _) _⟩
end Go.Proofs.Ytmcmpedmgibmkab
