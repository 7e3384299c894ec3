/-
  The contract of PlaySeed in the reference.
-/
import Derived.Test.YtfjpdopljmilpaaSeedImpl
import Derived.Test.YtfjpdopljmilpaaAddKit
import Derived.Deep.Cut
namespace Go.Proofs.Ytfjpdopljmilpaa
open Go.RowKit Plain
attribute [local go_sem] store_new store_newR
set_option linter.unusedVariables false
set_option linter.unusedSimpArgs false
theorem run_buildT1 (d : Int) (w : World) : (Instr.build 52 #[(0, .int .i64 d)]).run Try.prog w = .ok (.agg (mk 4 (stepF d (fun _ => 0) 0))) w := by kernel_rfl
theorem psA_now {f o : Nat → Int} {s : Int} {k n : Nat} (hO : OrdOk o) (hk : k ≤ n) (h : k = n ∨ (movL (psA f o s k).1 4).length = 0) : psA f o s n = psA f o s k := by
  rcases h with rfl | h
  · rfl
  · exact psA_over ((fm_over hO).2 h) n hk
theorem ints_cat {w : World} {b g c n : Nat} {L : List Int} (h : OwnsInts w b (.slice (some ⟨g, 0, none⟩) n c) L) (hn : L.length = n) : CAt w g n fun i => L.getD i 0 := by
  subst hn
  unfold OwnsInts at h
  rw [ints_mk] at h
  obtain ⟨g', c', e, _, h1, h2⟩ := IRow.of_own h
  cases e
  exact ⟨h1, h2⟩
theorem OwnsL.kept11 {t : TypeId} {m b c : Nat} {w w' : World} {v : Value} {L : List (List Int)} (h : OwnsL t m w b v L) (hg : w.grownBy w' (some c)) (hne : v.ownBlock = some c → False) : OwnsL t m w' b v L := World.ownsRow.kept h hg (Or.inr hne)
set_option maxHeartbeats 8000000 in
set_option maxRecDepth 20000 in
theorem specPlayS_any (f o : Nat → Int) (s n : Int) (w : World) :
    Calls Try.prog 14 #[.agg (mk 16 f), .agg (mk 4 o), .int .i64 s, .int .i64 n] w fun e w' => ∃ a c, e = .returned (.tuple #[.agg (rpl (psB f o s n) (.slice a (psL f o s n).length c)), .int .i64 (psS f o s n), .bool (psO f o s n)]) ∧
      OwnsL 52 4 w' w.heap.size (.slice a (psL f o s n).length c) (psL f o s n) ∧ Below w.heap.size w w' := by
  have z17 := zeroRp
  have z16 := zero16
  have z4 := zero4
  have z2 := zero2
  obtain ⟨i0, hi, hz0, hz1, hz2⟩ := info_parts infoT
  have K4 := ((Blk.new w 16 f 26).alloc (.cells (mk 4 o) 22)).alloc (.cells (rpl (fun _ => 0) (.slice none 0 0)) 29)
  have K5 := (Blk.new (w.alloc (.cells (mk 16 f) 26)) 4 o 22).alloc (.cells (rpl (fun _ => 0) (.slice none 0 0)) 29)
  have K8 := Rp.new ((w.alloc (.cells (mk 16 f) 26)).alloc (.cells (mk 4 o) 22)) (fun _ => 0) (.slice none 0 0) 29
  have HB := Lib.hid ((((Below.refl w.heap.size w).alloc (Nat.le_refl _) (.cells (mk 16 f) 26)).alloc (by simp) (.cells (mk 4 o) 22)).alloc (by simp; omega) (.cells (rpl (fun _ => 0) (.slice none 0 0)) 29))
  simp only [World.size_alloc] at K5 K8
  by_cases hV : Vd f
  · by_cases hO : OrdOk o
    · by_cases hs : SeedOk s
      · by_cases hn : 0 ≤ n ∧ n ≤ 40
        · obtain ⟨y1, y2, y3, y4⟩ := ps_yes (f := f) (o := o) (s := s) (n := n) ⟨hV, hO, hs, hn⟩
          obtain ⟨N, rfl⟩ := Int.eq_ofNat_of_zero_le hn.1
          rw [Int.toNat_natCast] at y2 y3
          have HY := Lib.hid (show psB f o s (N : Int) = f ∧ psL f o s (N : Int) = (psA f o s N).2.2 ∧ psS f o s (N : Int) = (psA f o s N).2.1 ∧ psO f o s (N : Int) = true from ⟨y1, y2, y3, y4⟩)
          obtain ⟨RB, hRB⟩ : ∃ x, x = psB f o s (N : Int) := ⟨_, rfl⟩
          obtain ⟨RL, hRL⟩ : ∃ x, x = psL f o s (N : Int) := ⟨_, rfl⟩
          obtain ⟨RS, hRS⟩ : ∃ x, x = psS f o s (N : Int) := ⟨_, rfl⟩
          obtain ⟨RO, hRO⟩ : ∃ x, x = psO f o s (N : Int) := ⟨_, rfl⟩
          rw [← hRB, ← hRL, ← hRS, ← hRO]
          rw [← hRB, ← hRL, ← hRS, ← hRO] at HY
          have HV := Lib.hid hV
          have HOr := Lib.hid hO
          have HS := Lib.hid hs
          have hN40 : N ≤ 40 := by omega
          have hn1 : (0 : Int) ≤ (N : Int) := by omega
          have hn2 : (N : Int) ≤ 40 := by omega
          have HA := Lib.hid (fun k => psA_vd (o := o) hV hs k)
          have hdo : decide (OrdOk o) = true := decide_eq_true hO
          clear hV hO hs hn y1 y2 y3 y4 hRB hRL hRS hRO
          go_enter Try.func14, Try.ntmps14
          go_wp2_with ((with_reducible show wpList _ _ _ (Oper.mk _ (Op.load 26 _) _ _ _ _ :: _) _ _); refine loadB (K4) rfl rfl rfl ?_)
          refine (l2Board_yes _ _ HV.out).mono ?_
          rintro e w1 ⟨rfl, hb⟩
          have K4 := K4.below hb K4.lt
          have K5 := K5.below hb K5.lt
          have K8 := K8.below hb K8.lt
          have HB : Hid (Below w.heap.size w w1) := HB.out.trans (hb.mono HB.out.size)
          clear hb
          go_wp2_with ((with_reducible show wpList _ _ _ (Oper.mk _ (Op.load 22 _) _ _ _ (some _) :: _) _ _); refine loadgR (K5) rfl rfl rfl ?_)
          have hc := l11Order_any o w1
          rw [hdo] at hc
          refine hc.mono ?_
          clear hc
          rintro e w2 ⟨rfl, hb⟩
          have K4 := K4.below hb K4.lt
          have K5 := K5.below hb K5.lt
          have K8 := K8.below hb K8.lt
          have HB : Hid (Below w.heap.size w w2) := HB.out.trans (hb.mono HB.out.size)
          clear hb
          go_wp2_with fail
          refine (l11Seed_yes s _ HS.out.1 HS.out.2).mono ?_
          rintro e w' ⟨rfl, rfl⟩
          clear hdo
          go_wp2_with fail
          refine (l1In_yes (N : Int) 0 40 _ hn1 hn2).mono ?_
          rintro e w' ⟨rfl, rfl⟩
          go_upto_region 3 with (fail)
          go_cut [11, 12] from 36 (fun s11 s12 wc => ∃ (b11 b12 gs : Nat), s11 = .pointer (some ⟨b11, 0, none⟩) ∧ s12 = .pointer (some ⟨b12, 0, none⟩) ∧ b11 ≠ b12 ∧ gs ≠ b11 ∧ gs ≠ b12 ∧ w.heap.size + 1 + 1 < b11 ∧ w.heap.size + 1 + 1 < b12 ∧ Blk wc w.heap.size 16 f 26 ∧ Blk wc (w.heap.size + 1) 4 o 22 ∧ Rp wc (w.heap.size + 1 + 1) (fun _ => 0) (.slice none 0 0) 29 ∧ Rp wc b11 f (.slice (some ⟨gs, 0, none⟩) 0 0) 29 ∧ Blk wc b12 16 f 26 ∧ OwnsL 52 4 wc (w.heap.size + 1 + 1 + 1) (.slice (some ⟨gs, 0, none⟩) 0 0) [] ∧ Below w.heap.size w wc)
          case first =>
            generalize w2 = wr at *
            refine wp_region_held_drew (S := fun W => Blk W w.heap.size 16 f 26) (by kernel_rfl) (K4.drew) (fun hHeld => ?_)
            have K4 : Blk wr.drew w.heap.size 16 f 26 := K4.drew
            have K5 : Blk wr.drew (w.heap.size + 1) 4 o 22 := K5.drew
            have K8 : Rp wr.drew (w.heap.size + 1 + 1) (fun _ => 0) (.slice none 0 0) 29 := K8.drew
            have HB : Hid (Below w.heap.size w wr.drew) := HB.out.drew
            generalize wr.drew = x0 at *
            refine wpAnyH_take (i := 0) (oi := { dst := some 36, op := _, type := _, pos := _, after := _, guard := _ }) (v := .agg (mk 16 f)) rfl (by kernel_rfl) (by kernel_rfl) (by kernel_rfl) (fun _ _ _ h => h) (Or.inl ⟨by rfl, fun _ q => execB q rfl rfl⟩) (by assumption) ?_
            try simp only [Act.put, List.setIfInBounds_toArray, List.set_cons_zero, List.set_cons_succ]
            refine wpAnyH_take (i := 3) (oi := { dst := some 39, op := _, type := _, pos := _, after := _, guard := _ }) (v := .agg (mk 16 f)) rfl (by kernel_rfl) (by kernel_rfl) (by kernel_rfl) (fun _ _ _ h => h) (Or.inl ⟨by rfl, fun _ q => execB q rfl rfl⟩) (by assumption) ?_
            try simp only [Act.put, List.setIfInBounds_toArray, List.set_cons_zero, List.set_cons_succ]
            refine wpAnyH_ready (rs := [1, 4, 5]) (by kernel_rfl) (by simp) ?_
            refine AllReadyH.cons rfl (fun K hK => ?_) ?_
            · go_simp
              have hgs : x0.heap.size = x0.heap.size := rfl
              have HO : OwnsL 52 4 (x0.alloc (.cells #[] 52)) (w.heap.size + 1 + 1 + 1) (.slice (some ⟨x0.heap.size, 0, none⟩) 0 0) [] := OwnsL.made x0 (by have := K8.lt; omega)
              clear hgs
              have hltgs : w.heap.size + 1 + 1 < x0.heap.size := K8.lt
              have K4 := K4.alloc (.cells #[] 52)
              have K5 := K5.alloc (.cells #[] 52)
              have K8 := K8.alloc (.cells #[] 52)
              have HB : Hid (Below w.heap.size w (x0.alloc (.cells #[] 52))) := HB.out.alloc HB.out.size _
              clear hHeld
              generalize x0.alloc (.cells #[] 52) = x1 at *
              generalize x0.heap.size = gs at *
              refine hK.out _ _ K4 (fun hHeld => ?_)
              clear hK K
              try simp only [Act.put, List.setIfInBounds_toArray, List.set_cons_zero, List.set_cons_succ]
              refine wpAnyH_take (i := 2) (oi := { dst := some 38, op := _, type := _, pos := _, after := _, guard := _ }) (v := .agg (rpl f (.slice (some ⟨gs, 0, none⟩) 0 0))) rfl (by kernel_rfl) (by kernel_rfl) (by kernel_rfl) (fun _ _ _ h => h) (Or.inl ⟨by rfl, fun _ _ => exec_buildRp _ _ rfl rfl rfl⟩) (by assumption) ?_
              try simp only [Act.put, List.setIfInBounds_toArray, List.set_cons_zero, List.set_cons_succ]
              refine wpAnyH_ready (rs := [4, 5]) (by kernel_rfl) (by simp) ?_
              refine AllReadyH.cons rfl (fun K hK => ?_) ?_
              · rw [if_pos (by rfl)]
                refine wp_allocRp rfl ?_
                have K11 := Rp.new x1 (fun _ => 0) (.slice none 0 0) 29
                have hltb11 : w.heap.size + 1 + 1 < x1.heap.size := K8.lt
                have hneb11HO : gs < x1.heap.size := (HO.lt _ rfl).2
                have K4 := K4.alloc (.cells (rpl (fun _ => 0) (.slice none 0 0)) 29)
                have K5 := K5.alloc (.cells (rpl (fun _ => 0) (.slice none 0 0)) 29)
                have K8 := K8.alloc (.cells (rpl (fun _ => 0) (.slice none 0 0)) 29)
                have HO := HO.alloc (.cells (rpl (fun _ => 0) (.slice none 0 0)) 29)
                have HB : Hid (Below w.heap.size w (x1.alloc (.cells (rpl (fun _ => 0) (.slice none 0 0)) 29))) := HB.out.alloc HB.out.size _
                clear hHeld
                generalize x1.alloc (.cells (rpl (fun _ => 0) (.slice none 0 0)) 29) = x2 at *
                generalize x1.heap.size = b11 at *
                refine hK.out _ _ K4 (fun hHeld => ?_)
                clear hK K
                try simp only [Act.put, List.setIfInBounds_toArray, List.set_cons_zero, List.set_cons_succ]
                refine wpAnyH_ready (rs := [5]) (by kernel_rfl) (by simp) ?_
                refine AllReadyH.cons rfl (fun K hK => ?_) AllReadyH.nil
                rw [if_pos (by rfl)]
                refine wp_allocX rfl ?_
                have K12 := Blk.new x2 16 (fun _ => 0) 26
                have hltb12 : w.heap.size + 1 + 1 < x2.heap.size := K8.lt
                have hneb12HO : gs < x2.heap.size := (HO.lt _ rfl).2
                have hneb12K11 := K11.lt
                have K4 := K4.alloc (.cells (mk 16 fun _ => 0) 26)
                have K5 := K5.alloc (.cells (mk 16 fun _ => 0) 26)
                have K8 := K8.alloc (.cells (mk 16 fun _ => 0) 26)
                have HO := HO.alloc (.cells (mk 16 fun _ => 0) 26)
                have K11 := K11.alloc (.cells (mk 16 fun _ => 0) 26)
                have HB : Hid (Below w.heap.size w (x2.alloc (.cells (mk 16 fun _ => 0) 26))) := HB.out.alloc HB.out.size _
                clear hHeld
                generalize x2.alloc (.cells (mk 16 fun _ => 0) 26) = x3 at *
                generalize x2.heap.size = b12 at *
                refine hK.out _ _ K4 (fun hHeld => ?_)
                clear hK K
                try simp only [Act.put, List.setIfInBounds_toArray, List.set_cons_zero, List.set_cons_succ]
                refine wpAnyH_ready (rs := [6]) (by kernel_rfl) (by simp) ?_
                refine AllReadyH.cons rfl (fun K hK => ?_) AllReadyH.nil
                have st1 := run_store_rp (g := f) (a := some ⟨gs, 0, none⟩) (n := 0) (c := 0) K11
                have ms1 : (rpl f (.slice (some ⟨gs, 0, none⟩) 0 0)).size = 17 := rpl_size _ _
                go_simp
                clear st1 ms1
                have hg8 := grown_rp K11 (rpl f (.slice (some ⟨gs, 0, none⟩) 0 0))
                have HO := OwnsL.kept11 HO hg8 (fun e => by have e : gs = b11 := Option.some.inj e; omega)
                have K4 := K4.rowOther b11 (rpl f (.slice (some ⟨gs, 0, none⟩) 0 0)) (by omega)
                have K5 := K5.rowOther b11 (rpl f (.slice (some ⟨gs, 0, none⟩) 0 0)) (by omega)
                have K8 := K8.rowOther b11 (rpl f (.slice (some ⟨gs, 0, none⟩) 0 0)) (by omega)
                have K12 := K12.rowOther b11 (rpl f (.slice (some ⟨gs, 0, none⟩) 0 0)) (by omega)
                have HB : Hid (Below w.heap.size w (x3.setRow b11 (rpl f (.slice (some ⟨gs, 0, none⟩) 0 0)))) := below_setRow HB.out (by omega) _
                have K11 := K11.row f (.slice (some ⟨gs, 0, none⟩) 0 0)
                clear hHeld hg8
                generalize x3.setRow b11 (rpl f (.slice (some ⟨gs, 0, none⟩) 0 0)) = x4 at *
                refine hK.out _ _ K4 (fun hHeld => ?_)
                clear hK K
                try simp only [Act.put, List.setIfInBounds_toArray, List.set_cons_zero, List.set_cons_succ]
                refine wpAnyH_ready (rs := [7]) (by kernel_rfl) (by simp) ?_
                refine AllReadyH.cons rfl (fun K hK => ?_) AllReadyH.nil
                have st1 := run_store_blk (P := Try.prog) (g := f) K12
                have ms1 : (mk 16 f).size = 16 := mk_size 16 _
                go_simp
                clear st1 ms1
                have hg8 := grown_row K12 (mk 16 f)
                have HO := OwnsL.kept11 HO hg8 (fun e => by have e : gs = b12 := Option.some.inj e; omega)
                have K4 := K4.rowOther b12 (mk 16 f) (by omega)
                have K5 := K5.rowOther b12 (mk 16 f) (by omega)
                have K8 := K8.rowOther b12 (mk 16 f) (by omega)
                have K11 := K11.rowOther b12 (mk 16 f) (by omega)
                have HB : Hid (Below w.heap.size w (x4.setRow b12 (mk 16 f))) := below_setRow HB.out (by omega) _
                have K12 := K12.row 16 f
                clear hHeld hg8
                generalize x4.setRow b12 (mk 16 f) = x5 at *
                refine hK.out _ _ K4 (fun hHeld => ?_)
                clear hK K
                try simp only [Act.put, List.setIfInBounds_toArray, List.set_cons_zero, List.set_cons_succ]
                refine wpAnyH_done (by kernel_rfl) ?_ _
                clear hHeld
                go_wp2_with fail
                go_meet
                case rel => exact ⟨b11, b12, gs, rfl, rfl, by omega, by omega, by omega, by omega, by omega, K4, K5, K8, K11, K12, HO, HB.out⟩
              refine AllReadyH.cons rfl (fun K hK => ?_) AllReadyH.nil
              rw [if_pos (by rfl)]
              refine wp_allocX rfl ?_
              have K12 := Blk.new x1 16 (fun _ => 0) 26
              have hltb12 : w.heap.size + 1 + 1 < x1.heap.size := K8.lt
              have hneb12HO : gs < x1.heap.size := (HO.lt _ rfl).2
              have K4 := K4.alloc (.cells (mk 16 fun _ => 0) 26)
              have K5 := K5.alloc (.cells (mk 16 fun _ => 0) 26)
              have K8 := K8.alloc (.cells (mk 16 fun _ => 0) 26)
              have HO := HO.alloc (.cells (mk 16 fun _ => 0) 26)
              have HB : Hid (Below w.heap.size w (x1.alloc (.cells (mk 16 fun _ => 0) 26))) := HB.out.alloc HB.out.size _
              clear hHeld
              generalize x1.alloc (.cells (mk 16 fun _ => 0) 26) = x2 at *
              generalize x1.heap.size = b12 at *
              refine hK.out _ _ K4 (fun hHeld => ?_)
              clear hK K
              try simp only [Act.put, List.setIfInBounds_toArray, List.set_cons_zero, List.set_cons_succ]
              refine wpAnyH_ready (rs := [4]) (by kernel_rfl) (by simp) ?_
              refine AllReadyH.cons rfl (fun K hK => ?_) AllReadyH.nil
              rw [if_pos (by rfl)]
              refine wp_allocRp rfl ?_
              have K11 := Rp.new x2 (fun _ => 0) (.slice none 0 0) 29
              have hltb11 : w.heap.size + 1 + 1 < x2.heap.size := K8.lt
              have hneb11HO : gs < x2.heap.size := (HO.lt _ rfl).2
              have hneb11K12 := K12.lt
              have K4 := K4.alloc (.cells (rpl (fun _ => 0) (.slice none 0 0)) 29)
              have K5 := K5.alloc (.cells (rpl (fun _ => 0) (.slice none 0 0)) 29)
              have K8 := K8.alloc (.cells (rpl (fun _ => 0) (.slice none 0 0)) 29)
              have HO := HO.alloc (.cells (rpl (fun _ => 0) (.slice none 0 0)) 29)
              have K12 := K12.alloc (.cells (rpl (fun _ => 0) (.slice none 0 0)) 29)
              have HB : Hid (Below w.heap.size w (x2.alloc (.cells (rpl (fun _ => 0) (.slice none 0 0)) 29))) := HB.out.alloc HB.out.size _
              clear hHeld
              generalize x2.alloc (.cells (rpl (fun _ => 0) (.slice none 0 0)) 29) = x3 at *
              generalize x2.heap.size = b11 at *
              refine hK.out _ _ K4 (fun hHeld => ?_)
              clear hK K
              try simp only [Act.put, List.setIfInBounds_toArray, List.set_cons_zero, List.set_cons_succ]
              refine wpAnyH_ready (rs := [6]) (by kernel_rfl) (by simp) ?_
              refine AllReadyH.cons rfl (fun K hK => ?_) AllReadyH.nil
              have st1 := run_store_rp (g := f) (a := some ⟨gs, 0, none⟩) (n := 0) (c := 0) K11
              have ms1 : (rpl f (.slice (some ⟨gs, 0, none⟩) 0 0)).size = 17 := rpl_size _ _
              go_simp
              clear st1 ms1
              have hg8 := grown_rp K11 (rpl f (.slice (some ⟨gs, 0, none⟩) 0 0))
              have HO := OwnsL.kept11 HO hg8 (fun e => by have e : gs = b11 := Option.some.inj e; omega)
              have K4 := K4.rowOther b11 (rpl f (.slice (some ⟨gs, 0, none⟩) 0 0)) (by omega)
              have K5 := K5.rowOther b11 (rpl f (.slice (some ⟨gs, 0, none⟩) 0 0)) (by omega)
              have K8 := K8.rowOther b11 (rpl f (.slice (some ⟨gs, 0, none⟩) 0 0)) (by omega)
              have K12 := K12.rowOther b11 (rpl f (.slice (some ⟨gs, 0, none⟩) 0 0)) (by omega)
              have HB : Hid (Below w.heap.size w (x3.setRow b11 (rpl f (.slice (some ⟨gs, 0, none⟩) 0 0)))) := below_setRow HB.out (by omega) _
              have K11 := K11.row f (.slice (some ⟨gs, 0, none⟩) 0 0)
              clear hHeld hg8
              generalize x3.setRow b11 (rpl f (.slice (some ⟨gs, 0, none⟩) 0 0)) = x4 at *
              refine hK.out _ _ K4 (fun hHeld => ?_)
              clear hK K
              try simp only [Act.put, List.setIfInBounds_toArray, List.set_cons_zero, List.set_cons_succ]
              refine wpAnyH_ready (rs := [7]) (by kernel_rfl) (by simp) ?_
              refine AllReadyH.cons rfl (fun K hK => ?_) AllReadyH.nil
              have st1 := run_store_blk (P := Try.prog) (g := f) K12
              have ms1 : (mk 16 f).size = 16 := mk_size 16 _
              go_simp
              clear st1 ms1
              have hg8 := grown_row K12 (mk 16 f)
              have HO := OwnsL.kept11 HO hg8 (fun e => by have e : gs = b12 := Option.some.inj e; omega)
              have K4 := K4.rowOther b12 (mk 16 f) (by omega)
              have K5 := K5.rowOther b12 (mk 16 f) (by omega)
              have K8 := K8.rowOther b12 (mk 16 f) (by omega)
              have K11 := K11.rowOther b12 (mk 16 f) (by omega)
              have HB : Hid (Below w.heap.size w (x4.setRow b12 (mk 16 f))) := below_setRow HB.out (by omega) _
              have K12 := K12.row 16 f
              clear hHeld hg8
              generalize x4.setRow b12 (mk 16 f) = x5 at *
              refine hK.out _ _ K4 (fun hHeld => ?_)
              clear hK K
              try simp only [Act.put, List.setIfInBounds_toArray, List.set_cons_zero, List.set_cons_succ]
              refine wpAnyH_done (by kernel_rfl) ?_ _
              clear hHeld
              go_wp2_with fail
              go_meet
              case rel => exact ⟨b11, b12, gs, rfl, rfl, by omega, by omega, by omega, by omega, by omega, K4, K5, K8, K11, K12, HO, HB.out⟩
            refine AllReadyH.cons rfl (fun K hK => ?_) ?_
            · rw [if_pos (by rfl)]
              refine wp_allocRp rfl ?_
              have K11 := Rp.new x0 (fun _ => 0) (.slice none 0 0) 29
              have hltb11 : w.heap.size + 1 + 1 < x0.heap.size := K8.lt
              have K4 := K4.alloc (.cells (rpl (fun _ => 0) (.slice none 0 0)) 29)
              have K5 := K5.alloc (.cells (rpl (fun _ => 0) (.slice none 0 0)) 29)
              have K8 := K8.alloc (.cells (rpl (fun _ => 0) (.slice none 0 0)) 29)
              have HB : Hid (Below w.heap.size w (x0.alloc (.cells (rpl (fun _ => 0) (.slice none 0 0)) 29))) := HB.out.alloc HB.out.size _
              clear hHeld
              generalize x0.alloc (.cells (rpl (fun _ => 0) (.slice none 0 0)) 29) = x1 at *
              generalize x0.heap.size = b11 at *
              refine hK.out _ _ K4 (fun hHeld => ?_)
              clear hK K
              try simp only [Act.put, List.setIfInBounds_toArray, List.set_cons_zero, List.set_cons_succ]
              refine wpAnyH_ready (rs := [1, 5]) (by kernel_rfl) (by simp) ?_
              refine AllReadyH.cons rfl (fun K hK => ?_) ?_
              · go_simp
                have hgs : x1.heap.size = x1.heap.size := rfl
                have HO : OwnsL 52 4 (x1.alloc (.cells #[] 52)) (w.heap.size + 1 + 1 + 1) (.slice (some ⟨x1.heap.size, 0, none⟩) 0 0) [] := OwnsL.made x1 (by have := K8.lt; omega)
                clear hgs
                have hltgs : w.heap.size + 1 + 1 < x1.heap.size := K8.lt
                have hnegsK11 := K11.lt
                have K4 := K4.alloc (.cells #[] 52)
                have K5 := K5.alloc (.cells #[] 52)
                have K8 := K8.alloc (.cells #[] 52)
                have K11 := K11.alloc (.cells #[] 52)
                have HB : Hid (Below w.heap.size w (x1.alloc (.cells #[] 52))) := HB.out.alloc HB.out.size _
                clear hHeld
                generalize x1.alloc (.cells #[] 52) = x2 at *
                generalize x1.heap.size = gs at *
                refine hK.out _ _ K4 (fun hHeld => ?_)
                clear hK K
                try simp only [Act.put, List.setIfInBounds_toArray, List.set_cons_zero, List.set_cons_succ]
                refine wpAnyH_take (i := 2) (oi := { dst := some 38, op := _, type := _, pos := _, after := _, guard := _ }) (v := .agg (rpl f (.slice (some ⟨gs, 0, none⟩) 0 0))) rfl (by kernel_rfl) (by kernel_rfl) (by kernel_rfl) (fun _ _ _ h => h) (Or.inl ⟨by rfl, fun _ _ => exec_buildRp _ _ rfl rfl rfl⟩) (by assumption) ?_
                try simp only [Act.put, List.setIfInBounds_toArray, List.set_cons_zero, List.set_cons_succ]
                refine wpAnyH_ready (rs := [5]) (by kernel_rfl) (by simp) ?_
                refine AllReadyH.cons rfl (fun K hK => ?_) AllReadyH.nil
                rw [if_pos (by rfl)]
                refine wp_allocX rfl ?_
                have K12 := Blk.new x2 16 (fun _ => 0) 26
                have hltb12 : w.heap.size + 1 + 1 < x2.heap.size := K8.lt
                have hneb12K11 := K11.lt
                have hneb12HO : gs < x2.heap.size := (HO.lt _ rfl).2
                have K4 := K4.alloc (.cells (mk 16 fun _ => 0) 26)
                have K5 := K5.alloc (.cells (mk 16 fun _ => 0) 26)
                have K8 := K8.alloc (.cells (mk 16 fun _ => 0) 26)
                have K11 := K11.alloc (.cells (mk 16 fun _ => 0) 26)
                have HO := HO.alloc (.cells (mk 16 fun _ => 0) 26)
                have HB : Hid (Below w.heap.size w (x2.alloc (.cells (mk 16 fun _ => 0) 26))) := HB.out.alloc HB.out.size _
                clear hHeld
                generalize x2.alloc (.cells (mk 16 fun _ => 0) 26) = x3 at *
                generalize x2.heap.size = b12 at *
                refine hK.out _ _ K4 (fun hHeld => ?_)
                clear hK K
                try simp only [Act.put, List.setIfInBounds_toArray, List.set_cons_zero, List.set_cons_succ]
                refine wpAnyH_ready (rs := [6]) (by kernel_rfl) (by simp) ?_
                refine AllReadyH.cons rfl (fun K hK => ?_) AllReadyH.nil
                have st1 := run_store_rp (g := f) (a := some ⟨gs, 0, none⟩) (n := 0) (c := 0) K11
                have ms1 : (rpl f (.slice (some ⟨gs, 0, none⟩) 0 0)).size = 17 := rpl_size _ _
                go_simp
                clear st1 ms1
                have hg8 := grown_rp K11 (rpl f (.slice (some ⟨gs, 0, none⟩) 0 0))
                have HO := OwnsL.kept11 HO hg8 (fun e => by have e : gs = b11 := Option.some.inj e; omega)
                have K4 := K4.rowOther b11 (rpl f (.slice (some ⟨gs, 0, none⟩) 0 0)) (by omega)
                have K5 := K5.rowOther b11 (rpl f (.slice (some ⟨gs, 0, none⟩) 0 0)) (by omega)
                have K8 := K8.rowOther b11 (rpl f (.slice (some ⟨gs, 0, none⟩) 0 0)) (by omega)
                have K12 := K12.rowOther b11 (rpl f (.slice (some ⟨gs, 0, none⟩) 0 0)) (by omega)
                have HB : Hid (Below w.heap.size w (x3.setRow b11 (rpl f (.slice (some ⟨gs, 0, none⟩) 0 0)))) := below_setRow HB.out (by omega) _
                have K11 := K11.row f (.slice (some ⟨gs, 0, none⟩) 0 0)
                clear hHeld hg8
                generalize x3.setRow b11 (rpl f (.slice (some ⟨gs, 0, none⟩) 0 0)) = x4 at *
                refine hK.out _ _ K4 (fun hHeld => ?_)
                clear hK K
                try simp only [Act.put, List.setIfInBounds_toArray, List.set_cons_zero, List.set_cons_succ]
                refine wpAnyH_ready (rs := [7]) (by kernel_rfl) (by simp) ?_
                refine AllReadyH.cons rfl (fun K hK => ?_) AllReadyH.nil
                have st1 := run_store_blk (P := Try.prog) (g := f) K12
                have ms1 : (mk 16 f).size = 16 := mk_size 16 _
                go_simp
                clear st1 ms1
                have hg8 := grown_row K12 (mk 16 f)
                have HO := OwnsL.kept11 HO hg8 (fun e => by have e : gs = b12 := Option.some.inj e; omega)
                have K4 := K4.rowOther b12 (mk 16 f) (by omega)
                have K5 := K5.rowOther b12 (mk 16 f) (by omega)
                have K8 := K8.rowOther b12 (mk 16 f) (by omega)
                have K11 := K11.rowOther b12 (mk 16 f) (by omega)
                have HB : Hid (Below w.heap.size w (x4.setRow b12 (mk 16 f))) := below_setRow HB.out (by omega) _
                have K12 := K12.row 16 f
                clear hHeld hg8
                generalize x4.setRow b12 (mk 16 f) = x5 at *
                refine hK.out _ _ K4 (fun hHeld => ?_)
                clear hK K
                try simp only [Act.put, List.setIfInBounds_toArray, List.set_cons_zero, List.set_cons_succ]
                refine wpAnyH_done (by kernel_rfl) ?_ _
                clear hHeld
                go_wp2_with fail
                go_meet
                case rel => exact ⟨b11, b12, gs, rfl, rfl, by omega, by omega, by omega, by omega, by omega, K4, K5, K8, K11, K12, HO, HB.out⟩
              refine AllReadyH.cons rfl (fun K hK => ?_) AllReadyH.nil
              rw [if_pos (by rfl)]
              refine wp_allocX rfl ?_
              have K12 := Blk.new x1 16 (fun _ => 0) 26
              have hltb12 : w.heap.size + 1 + 1 < x1.heap.size := K8.lt
              have hneb12K11 := K11.lt
              have K4 := K4.alloc (.cells (mk 16 fun _ => 0) 26)
              have K5 := K5.alloc (.cells (mk 16 fun _ => 0) 26)
              have K8 := K8.alloc (.cells (mk 16 fun _ => 0) 26)
              have K11 := K11.alloc (.cells (mk 16 fun _ => 0) 26)
              have HB : Hid (Below w.heap.size w (x1.alloc (.cells (mk 16 fun _ => 0) 26))) := HB.out.alloc HB.out.size _
              clear hHeld
              generalize x1.alloc (.cells (mk 16 fun _ => 0) 26) = x2 at *
              generalize x1.heap.size = b12 at *
              refine hK.out _ _ K4 (fun hHeld => ?_)
              clear hK K
              try simp only [Act.put, List.setIfInBounds_toArray, List.set_cons_zero, List.set_cons_succ]
              refine wpAnyH_ready (rs := [1]) (by kernel_rfl) (by simp) ?_
              refine AllReadyH.cons rfl (fun K hK => ?_) AllReadyH.nil
              go_simp
              have hgs : x2.heap.size = x2.heap.size := rfl
              have HO : OwnsL 52 4 (x2.alloc (.cells #[] 52)) (w.heap.size + 1 + 1 + 1) (.slice (some ⟨x2.heap.size, 0, none⟩) 0 0) [] := OwnsL.made x2 (by have := K8.lt; omega)
              clear hgs
              have hltgs : w.heap.size + 1 + 1 < x2.heap.size := K8.lt
              have hnegsK11 := K11.lt
              have hnegsK12 := K12.lt
              have K4 := K4.alloc (.cells #[] 52)
              have K5 := K5.alloc (.cells #[] 52)
              have K8 := K8.alloc (.cells #[] 52)
              have K11 := K11.alloc (.cells #[] 52)
              have K12 := K12.alloc (.cells #[] 52)
              have HB : Hid (Below w.heap.size w (x2.alloc (.cells #[] 52))) := HB.out.alloc HB.out.size _
              clear hHeld
              generalize x2.alloc (.cells #[] 52) = x3 at *
              generalize x2.heap.size = gs at *
              refine hK.out _ _ K4 (fun hHeld => ?_)
              clear hK K
              try simp only [Act.put, List.setIfInBounds_toArray, List.set_cons_zero, List.set_cons_succ]
              refine wpAnyH_take (i := 2) (oi := { dst := some 38, op := _, type := _, pos := _, after := _, guard := _ }) (v := .agg (rpl f (.slice (some ⟨gs, 0, none⟩) 0 0))) rfl (by kernel_rfl) (by kernel_rfl) (by kernel_rfl) (fun _ _ _ h => h) (Or.inl ⟨by rfl, fun _ _ => exec_buildRp _ _ rfl rfl rfl⟩) (by assumption) ?_
              try simp only [Act.put, List.setIfInBounds_toArray, List.set_cons_zero, List.set_cons_succ]
              refine wpAnyH_ready (rs := [6]) (by kernel_rfl) (by simp) ?_
              refine AllReadyH.cons rfl (fun K hK => ?_) AllReadyH.nil
              have st1 := run_store_rp (g := f) (a := some ⟨gs, 0, none⟩) (n := 0) (c := 0) K11
              have ms1 : (rpl f (.slice (some ⟨gs, 0, none⟩) 0 0)).size = 17 := rpl_size _ _
              go_simp
              clear st1 ms1
              have hg8 := grown_rp K11 (rpl f (.slice (some ⟨gs, 0, none⟩) 0 0))
              have HO := OwnsL.kept11 HO hg8 (fun e => by have e : gs = b11 := Option.some.inj e; omega)
              have K4 := K4.rowOther b11 (rpl f (.slice (some ⟨gs, 0, none⟩) 0 0)) (by omega)
              have K5 := K5.rowOther b11 (rpl f (.slice (some ⟨gs, 0, none⟩) 0 0)) (by omega)
              have K8 := K8.rowOther b11 (rpl f (.slice (some ⟨gs, 0, none⟩) 0 0)) (by omega)
              have K12 := K12.rowOther b11 (rpl f (.slice (some ⟨gs, 0, none⟩) 0 0)) (by omega)
              have HB : Hid (Below w.heap.size w (x3.setRow b11 (rpl f (.slice (some ⟨gs, 0, none⟩) 0 0)))) := below_setRow HB.out (by omega) _
              have K11 := K11.row f (.slice (some ⟨gs, 0, none⟩) 0 0)
              clear hHeld hg8
              generalize x3.setRow b11 (rpl f (.slice (some ⟨gs, 0, none⟩) 0 0)) = x4 at *
              refine hK.out _ _ K4 (fun hHeld => ?_)
              clear hK K
              try simp only [Act.put, List.setIfInBounds_toArray, List.set_cons_zero, List.set_cons_succ]
              refine wpAnyH_ready (rs := [7]) (by kernel_rfl) (by simp) ?_
              refine AllReadyH.cons rfl (fun K hK => ?_) AllReadyH.nil
              have st1 := run_store_blk (P := Try.prog) (g := f) K12
              have ms1 : (mk 16 f).size = 16 := mk_size 16 _
              go_simp
              clear st1 ms1
              have hg8 := grown_row K12 (mk 16 f)
              have HO := OwnsL.kept11 HO hg8 (fun e => by have e : gs = b12 := Option.some.inj e; omega)
              have K4 := K4.rowOther b12 (mk 16 f) (by omega)
              have K5 := K5.rowOther b12 (mk 16 f) (by omega)
              have K8 := K8.rowOther b12 (mk 16 f) (by omega)
              have K11 := K11.rowOther b12 (mk 16 f) (by omega)
              have HB : Hid (Below w.heap.size w (x4.setRow b12 (mk 16 f))) := below_setRow HB.out (by omega) _
              have K12 := K12.row 16 f
              clear hHeld hg8
              generalize x4.setRow b12 (mk 16 f) = x5 at *
              refine hK.out _ _ K4 (fun hHeld => ?_)
              clear hK K
              try simp only [Act.put, List.setIfInBounds_toArray, List.set_cons_zero, List.set_cons_succ]
              refine wpAnyH_done (by kernel_rfl) ?_ _
              clear hHeld
              go_wp2_with fail
              go_meet
              case rel => exact ⟨b11, b12, gs, rfl, rfl, by omega, by omega, by omega, by omega, by omega, K4, K5, K8, K11, K12, HO, HB.out⟩
            refine AllReadyH.cons rfl (fun K hK => ?_) AllReadyH.nil
            rw [if_pos (by rfl)]
            refine wp_allocX rfl ?_
            have K12 := Blk.new x0 16 (fun _ => 0) 26
            have hltb12 : w.heap.size + 1 + 1 < x0.heap.size := K8.lt
            have K4 := K4.alloc (.cells (mk 16 fun _ => 0) 26)
            have K5 := K5.alloc (.cells (mk 16 fun _ => 0) 26)
            have K8 := K8.alloc (.cells (mk 16 fun _ => 0) 26)
            have HB : Hid (Below w.heap.size w (x0.alloc (.cells (mk 16 fun _ => 0) 26))) := HB.out.alloc HB.out.size _
            clear hHeld
            generalize x0.alloc (.cells (mk 16 fun _ => 0) 26) = x1 at *
            generalize x0.heap.size = b12 at *
            refine hK.out _ _ K4 (fun hHeld => ?_)
            clear hK K
            try simp only [Act.put, List.setIfInBounds_toArray, List.set_cons_zero, List.set_cons_succ]
            refine wpAnyH_ready (rs := [1, 4]) (by kernel_rfl) (by simp) ?_
            refine AllReadyH.cons rfl (fun K hK => ?_) ?_
            · go_simp
              have hgs : x1.heap.size = x1.heap.size := rfl
              have HO : OwnsL 52 4 (x1.alloc (.cells #[] 52)) (w.heap.size + 1 + 1 + 1) (.slice (some ⟨x1.heap.size, 0, none⟩) 0 0) [] := OwnsL.made x1 (by have := K8.lt; omega)
              clear hgs
              have hltgs : w.heap.size + 1 + 1 < x1.heap.size := K8.lt
              have hnegsK12 := K12.lt
              have K4 := K4.alloc (.cells #[] 52)
              have K5 := K5.alloc (.cells #[] 52)
              have K8 := K8.alloc (.cells #[] 52)
              have K12 := K12.alloc (.cells #[] 52)
              have HB : Hid (Below w.heap.size w (x1.alloc (.cells #[] 52))) := HB.out.alloc HB.out.size _
              clear hHeld
              generalize x1.alloc (.cells #[] 52) = x2 at *
              generalize x1.heap.size = gs at *
              refine hK.out _ _ K4 (fun hHeld => ?_)
              clear hK K
              try simp only [Act.put, List.setIfInBounds_toArray, List.set_cons_zero, List.set_cons_succ]
              refine wpAnyH_take (i := 2) (oi := { dst := some 38, op := _, type := _, pos := _, after := _, guard := _ }) (v := .agg (rpl f (.slice (some ⟨gs, 0, none⟩) 0 0))) rfl (by kernel_rfl) (by kernel_rfl) (by kernel_rfl) (fun _ _ _ h => h) (Or.inl ⟨by rfl, fun _ _ => exec_buildRp _ _ rfl rfl rfl⟩) (by assumption) ?_
              try simp only [Act.put, List.setIfInBounds_toArray, List.set_cons_zero, List.set_cons_succ]
              refine wpAnyH_ready (rs := [4]) (by kernel_rfl) (by simp) ?_
              refine AllReadyH.cons rfl (fun K hK => ?_) AllReadyH.nil
              rw [if_pos (by rfl)]
              refine wp_allocRp rfl ?_
              have K11 := Rp.new x2 (fun _ => 0) (.slice none 0 0) 29
              have hltb11 : w.heap.size + 1 + 1 < x2.heap.size := K8.lt
              have hneb11K12 := K12.lt
              have hneb11HO : gs < x2.heap.size := (HO.lt _ rfl).2
              have K4 := K4.alloc (.cells (rpl (fun _ => 0) (.slice none 0 0)) 29)
              have K5 := K5.alloc (.cells (rpl (fun _ => 0) (.slice none 0 0)) 29)
              have K8 := K8.alloc (.cells (rpl (fun _ => 0) (.slice none 0 0)) 29)
              have K12 := K12.alloc (.cells (rpl (fun _ => 0) (.slice none 0 0)) 29)
              have HO := HO.alloc (.cells (rpl (fun _ => 0) (.slice none 0 0)) 29)
              have HB : Hid (Below w.heap.size w (x2.alloc (.cells (rpl (fun _ => 0) (.slice none 0 0)) 29))) := HB.out.alloc HB.out.size _
              clear hHeld
              generalize x2.alloc (.cells (rpl (fun _ => 0) (.slice none 0 0)) 29) = x3 at *
              generalize x2.heap.size = b11 at *
              refine hK.out _ _ K4 (fun hHeld => ?_)
              clear hK K
              try simp only [Act.put, List.setIfInBounds_toArray, List.set_cons_zero, List.set_cons_succ]
              refine wpAnyH_ready (rs := [6]) (by kernel_rfl) (by simp) ?_
              refine AllReadyH.cons rfl (fun K hK => ?_) AllReadyH.nil
              have st1 := run_store_rp (g := f) (a := some ⟨gs, 0, none⟩) (n := 0) (c := 0) K11
              have ms1 : (rpl f (.slice (some ⟨gs, 0, none⟩) 0 0)).size = 17 := rpl_size _ _
              go_simp
              clear st1 ms1
              have hg8 := grown_rp K11 (rpl f (.slice (some ⟨gs, 0, none⟩) 0 0))
              have HO := OwnsL.kept11 HO hg8 (fun e => by have e : gs = b11 := Option.some.inj e; omega)
              have K4 := K4.rowOther b11 (rpl f (.slice (some ⟨gs, 0, none⟩) 0 0)) (by omega)
              have K5 := K5.rowOther b11 (rpl f (.slice (some ⟨gs, 0, none⟩) 0 0)) (by omega)
              have K8 := K8.rowOther b11 (rpl f (.slice (some ⟨gs, 0, none⟩) 0 0)) (by omega)
              have K12 := K12.rowOther b11 (rpl f (.slice (some ⟨gs, 0, none⟩) 0 0)) (by omega)
              have HB : Hid (Below w.heap.size w (x3.setRow b11 (rpl f (.slice (some ⟨gs, 0, none⟩) 0 0)))) := below_setRow HB.out (by omega) _
              have K11 := K11.row f (.slice (some ⟨gs, 0, none⟩) 0 0)
              clear hHeld hg8
              generalize x3.setRow b11 (rpl f (.slice (some ⟨gs, 0, none⟩) 0 0)) = x4 at *
              refine hK.out _ _ K4 (fun hHeld => ?_)
              clear hK K
              try simp only [Act.put, List.setIfInBounds_toArray, List.set_cons_zero, List.set_cons_succ]
              refine wpAnyH_ready (rs := [7]) (by kernel_rfl) (by simp) ?_
              refine AllReadyH.cons rfl (fun K hK => ?_) AllReadyH.nil
              have st1 := run_store_blk (P := Try.prog) (g := f) K12
              have ms1 : (mk 16 f).size = 16 := mk_size 16 _
              go_simp
              clear st1 ms1
              have hg8 := grown_row K12 (mk 16 f)
              have HO := OwnsL.kept11 HO hg8 (fun e => by have e : gs = b12 := Option.some.inj e; omega)
              have K4 := K4.rowOther b12 (mk 16 f) (by omega)
              have K5 := K5.rowOther b12 (mk 16 f) (by omega)
              have K8 := K8.rowOther b12 (mk 16 f) (by omega)
              have K11 := K11.rowOther b12 (mk 16 f) (by omega)
              have HB : Hid (Below w.heap.size w (x4.setRow b12 (mk 16 f))) := below_setRow HB.out (by omega) _
              have K12 := K12.row 16 f
              clear hHeld hg8
              generalize x4.setRow b12 (mk 16 f) = x5 at *
              refine hK.out _ _ K4 (fun hHeld => ?_)
              clear hK K
              try simp only [Act.put, List.setIfInBounds_toArray, List.set_cons_zero, List.set_cons_succ]
              refine wpAnyH_done (by kernel_rfl) ?_ _
              clear hHeld
              go_wp2_with fail
              go_meet
              case rel => exact ⟨b11, b12, gs, rfl, rfl, by omega, by omega, by omega, by omega, by omega, K4, K5, K8, K11, K12, HO, HB.out⟩
            refine AllReadyH.cons rfl (fun K hK => ?_) AllReadyH.nil
            rw [if_pos (by rfl)]
            refine wp_allocRp rfl ?_
            have K11 := Rp.new x1 (fun _ => 0) (.slice none 0 0) 29
            have hltb11 : w.heap.size + 1 + 1 < x1.heap.size := K8.lt
            have hneb11K12 := K12.lt
            have K4 := K4.alloc (.cells (rpl (fun _ => 0) (.slice none 0 0)) 29)
            have K5 := K5.alloc (.cells (rpl (fun _ => 0) (.slice none 0 0)) 29)
            have K8 := K8.alloc (.cells (rpl (fun _ => 0) (.slice none 0 0)) 29)
            have K12 := K12.alloc (.cells (rpl (fun _ => 0) (.slice none 0 0)) 29)
            have HB : Hid (Below w.heap.size w (x1.alloc (.cells (rpl (fun _ => 0) (.slice none 0 0)) 29))) := HB.out.alloc HB.out.size _
            clear hHeld
            generalize x1.alloc (.cells (rpl (fun _ => 0) (.slice none 0 0)) 29) = x2 at *
            generalize x1.heap.size = b11 at *
            refine hK.out _ _ K4 (fun hHeld => ?_)
            clear hK K
            try simp only [Act.put, List.setIfInBounds_toArray, List.set_cons_zero, List.set_cons_succ]
            refine wpAnyH_ready (rs := [1]) (by kernel_rfl) (by simp) ?_
            refine AllReadyH.cons rfl (fun K hK => ?_) AllReadyH.nil
            go_simp
            have hgs : x2.heap.size = x2.heap.size := rfl
            have HO : OwnsL 52 4 (x2.alloc (.cells #[] 52)) (w.heap.size + 1 + 1 + 1) (.slice (some ⟨x2.heap.size, 0, none⟩) 0 0) [] := OwnsL.made x2 (by have := K8.lt; omega)
            clear hgs
            have hltgs : w.heap.size + 1 + 1 < x2.heap.size := K8.lt
            have hnegsK12 := K12.lt
            have hnegsK11 := K11.lt
            have K4 := K4.alloc (.cells #[] 52)
            have K5 := K5.alloc (.cells #[] 52)
            have K8 := K8.alloc (.cells #[] 52)
            have K12 := K12.alloc (.cells #[] 52)
            have K11 := K11.alloc (.cells #[] 52)
            have HB : Hid (Below w.heap.size w (x2.alloc (.cells #[] 52))) := HB.out.alloc HB.out.size _
            clear hHeld
            generalize x2.alloc (.cells #[] 52) = x3 at *
            generalize x2.heap.size = gs at *
            refine hK.out _ _ K4 (fun hHeld => ?_)
            clear hK K
            try simp only [Act.put, List.setIfInBounds_toArray, List.set_cons_zero, List.set_cons_succ]
            refine wpAnyH_take (i := 2) (oi := { dst := some 38, op := _, type := _, pos := _, after := _, guard := _ }) (v := .agg (rpl f (.slice (some ⟨gs, 0, none⟩) 0 0))) rfl (by kernel_rfl) (by kernel_rfl) (by kernel_rfl) (fun _ _ _ h => h) (Or.inl ⟨by rfl, fun _ _ => exec_buildRp _ _ rfl rfl rfl⟩) (by assumption) ?_
            try simp only [Act.put, List.setIfInBounds_toArray, List.set_cons_zero, List.set_cons_succ]
            refine wpAnyH_ready (rs := [6]) (by kernel_rfl) (by simp) ?_
            refine AllReadyH.cons rfl (fun K hK => ?_) AllReadyH.nil
            have st1 := run_store_rp (g := f) (a := some ⟨gs, 0, none⟩) (n := 0) (c := 0) K11
            have ms1 : (rpl f (.slice (some ⟨gs, 0, none⟩) 0 0)).size = 17 := rpl_size _ _
            go_simp
            clear st1 ms1
            have hg8 := grown_rp K11 (rpl f (.slice (some ⟨gs, 0, none⟩) 0 0))
            have HO := OwnsL.kept11 HO hg8 (fun e => by have e : gs = b11 := Option.some.inj e; omega)
            have K4 := K4.rowOther b11 (rpl f (.slice (some ⟨gs, 0, none⟩) 0 0)) (by omega)
            have K5 := K5.rowOther b11 (rpl f (.slice (some ⟨gs, 0, none⟩) 0 0)) (by omega)
            have K8 := K8.rowOther b11 (rpl f (.slice (some ⟨gs, 0, none⟩) 0 0)) (by omega)
            have K12 := K12.rowOther b11 (rpl f (.slice (some ⟨gs, 0, none⟩) 0 0)) (by omega)
            have HB : Hid (Below w.heap.size w (x3.setRow b11 (rpl f (.slice (some ⟨gs, 0, none⟩) 0 0)))) := below_setRow HB.out (by omega) _
            have K11 := K11.row f (.slice (some ⟨gs, 0, none⟩) 0 0)
            clear hHeld hg8
            generalize x3.setRow b11 (rpl f (.slice (some ⟨gs, 0, none⟩) 0 0)) = x4 at *
            refine hK.out _ _ K4 (fun hHeld => ?_)
            clear hK K
            try simp only [Act.put, List.setIfInBounds_toArray, List.set_cons_zero, List.set_cons_succ]
            refine wpAnyH_ready (rs := [7]) (by kernel_rfl) (by simp) ?_
            refine AllReadyH.cons rfl (fun K hK => ?_) AllReadyH.nil
            have st1 := run_store_blk (P := Try.prog) (g := f) K12
            have ms1 : (mk 16 f).size = 16 := mk_size 16 _
            go_simp
            clear st1 ms1
            have hg8 := grown_row K12 (mk 16 f)
            have HO := OwnsL.kept11 HO hg8 (fun e => by have e : gs = b12 := Option.some.inj e; omega)
            have K4 := K4.rowOther b12 (mk 16 f) (by omega)
            have K5 := K5.rowOther b12 (mk 16 f) (by omega)
            have K8 := K8.rowOther b12 (mk 16 f) (by omega)
            have K11 := K11.rowOther b12 (mk 16 f) (by omega)
            have HB : Hid (Below w.heap.size w (x4.setRow b12 (mk 16 f))) := below_setRow HB.out (by omega) _
            have K12 := K12.row 16 f
            clear hHeld hg8
            generalize x4.setRow b12 (mk 16 f) = x5 at *
            refine hK.out _ _ K4 (fun hHeld => ?_)
            clear hK K
            try simp only [Act.put, List.setIfInBounds_toArray, List.set_cons_zero, List.set_cons_succ]
            refine wpAnyH_done (by kernel_rfl) ?_ _
            clear hHeld
            go_wp2_with fail
            go_meet
            case rel => exact ⟨b11, b12, gs, rfl, rfl, by omega, by omega, by omega, by omega, by omega, K4, K5, K8, K11, K12, HO, HB.out⟩
          case rest =>
            obtain ⟨b11, b12, gs, rfl, rfl, h1, h2, h3, h4, h5, K4, K5, K8, K11, K12, HO, hb9⟩ := hcut
            have HB := Lib.hid hb9
            clear hb9
            have HOO := Lib.hid (show ∀ j, (Value.slice (some ⟨gs, 0, none⟩) 0 0).ownBlock = some j → j ≠ b11 ∧ j ≠ b12 from fun j e => by
              have e : gs = j := Option.some.inj e
              omega)
            go_wp2_with ((with_reducible show wpList _ _ _ (Oper.mk _ (Op.load 26 _) _ _ _ _ :: _) _ _); refine loadB (K12) rfl rfl rfl ?_)
            refine (l2Moves_any f _ HV.out).mono ?_
            rintro e w3 ⟨gm, cm, rfl, ho, hb⟩
            have K4 := K4.below hb K4.lt
            have K5 := K5.below hb K5.lt
            have K8 := K8.below hb K8.lt
            have K11 := K11.below hb K11.lt
            have K12 := K12.below hb K12.lt
            have HO := Lib.hid (OwnsL.below HO hb)
            have HB : Hid (Below w.heap.size w w3) := HB.out.trans (hb.mono HB.out.size)
            have CM0 := ints_cat ho rfl
            obtain ⟨M, hM⟩ : ∃ x, x = movL f 4 := ⟨_, rfl⟩
            rw [← hM] at CM0
            rw [← hM]
            have HM := Lib.hid hM
            have H12 := Lib.hid h1
            clear hb ho hM h1 h2 h3
            go_wp2_with fail
            go_loopg [2, 13] N (fun gk s2 s13 wr => ∃ (k : Nat) (a : Option Addr) (c gm cm nM : Nat) (F : Nat → Int) (L : List (List Int)) (q : Int) (M : List Int), k + gk = N ∧ Hid (psA f o s k = (F, q, L)) ∧ Hid (L.length = k) ∧ Hid (M = movL F 4) ∧ M.length = nM ∧ s2 = .int .i64 q ∧ s13 = .slice (some ⟨gm, 0, none⟩) nM cm ∧ CAt wr gm nM (fun i => M.getD i 0) ∧ Blk wr w.heap.size 16 f 26 ∧ Blk wr (w.heap.size + 1) 4 o 22 ∧ Rp wr (w.heap.size + 1 + 1) (fun _ => 0) (.slice none 0 0) 29 ∧ Rp wr b11 f (.slice a k c) 29 ∧ Blk wr b12 16 F 26 ∧ Hid (OwnsL 52 4 wr (w.heap.size + 1 + 1 + 1) (.slice a k c) L) ∧ Hid (∀ j, (Value.slice a k c).ownBlock = some j → j ≠ b11 ∧ j ≠ b12) ∧ Hid (Below w.heap.size w wr))
            case atStart => exact ⟨0, _, _, _, _, _, f, [], s, M, by omega, rfl, rfl, HM, rfl, rfl, rfl, CM0, K4, K5, K8, K11, K12, HO, HOO, HB⟩
            case round =>
              clear HO HOO K4 K5 K8 K11 K12 HB CM0 HM
              obtain ⟨k, a, c, gm, cm, nM, F, L, q, M, hkg, HP, HLn, HM, hnM, rfl, rfl, CM, K4, K5, K8, K11, K12, HO, HOO, HB⟩ := hrel
              have c16 := K11.last
              have hVS := HA.out k
              rw [HP.out] at hVS
              have HVF := Lib.hid hVS.1
              have HSq := Lib.hid hVS.2.1
              clear hVS
              by_cases hstop : k = N ∨ nM = 0
              · have HF : Hid (psA f o s N = (F, q, L)) := by
                  show _ = _
                  rw [← HP.out]
                  refine psA_now HOr.out (by omega) ?_
                  rcases hstop with e | e
                  · exact .inl e
                  · right; rw [HP.out]; show (movL F 4).length = 0; rw [← HM.out]; omega
                have hRV : RB = f ∧ RL = L ∧ RS = q ∧ RO = true := by
                  obtain ⟨y1, y2, y3, y4⟩ := HY.out
                  rw [HF.out] at y2 y3
                  exact ⟨y1, y2, y3, y4⟩
                have HRV := Lib.hid hRV
                clear hRV HY
                have HLk : Hid (RL.length = k) := by show _ = _; rw [HRV.out.2.1]; exact HLn.out
                have HOf : Hid (OwnsL 52 4 (wr.setRow (w.heap.size + 1 + 1) (rpl f (.slice a k c))) (w.heap.size + 1 + 1 + 1) (.slice a k c) L) := OwnsL.kept11 HO.out (grown_rp K8 _) (fun e => by have := (HO.out.lt _ e).1; omega)
                have HBf : Hid (Below w.heap.size w (wr.setRow (w.heap.size + 1 + 1) (rpl f (.slice a k c)))) := below_setRow HB.out (by omega) _
                by_cases hkN : k < N
                · have h1 : (k : Int) < (N : Int) := by omega
                  obtain rfl : nM = 0 := by omega
                  go_wp2_with (first | ((with_reducible show wpList _ _ _ (Oper.mk _ (Op.load 29 _) _ _ _ _ :: _) _ _); refine loadRp (K11) rfl rfl rfl ?_) | ((with_reducible show wpList _ _ _ (Oper.mk _ (Op.store 29 _ _) _ _ _ _ :: _) _ _); refine storeRp (K8) (by rfl) rfl rfl rfl rfl ?_))
                  try simp only [Exit.inBlock, Exit.then]
                  refine retRpTT (K8.row _ _) rfl rfl rfl ?_
                  rw [HLk.out, HRV.out.1, HRV.out.2.1, HRV.out.2.2.1, HRV.out.2.2.2]
                  exact ⟨a, c, rfl, HOf.out.wide (by omega), HBf.out⟩
                · have h1 : ¬ ((k : Int) < (N : Int)) := by omega
                  go_wp2_with (first | ((with_reducible show wpList _ _ _ (Oper.mk _ (Op.load 29 _) _ _ _ _ :: _) _ _); refine loadRp (K11) rfl rfl rfl ?_) | ((with_reducible show wpList _ _ _ (Oper.mk _ (Op.store 29 _ _) _ _ _ _ :: _) _ _); refine storeRp (K8) (by rfl) rfl rfl rfl rfl ?_))
                  try simp only [Exit.inBlock, Exit.then]
                  refine retRpTT (K8.row _ _) rfl rfl rfl ?_
                  rw [HLk.out, HRV.out.1, HRV.out.2.1, HRV.out.2.2.1, HRV.out.2.2.2]
                  exact ⟨a, c, rfl, HOf.out.wide (by omega), HBf.out⟩
              · cases gk with
                | zero => exact absurd (Or.inl (by omega)) hstop
                | succ gk2 =>
                  have hk1 : (k : Int) < (N : Int) := by omega
                  have hm1 : (0 : Int) < (nM : Int) := by omega
                  have hfm : fmN F o 4 < 4 := by
                    have h4 := fmN_le F o 4
                    rcases (by omega : fmN F o 4 < 4 ∨ fmN F o 4 = 4) with e | e
                    · exact e
                    · exfalso
                      have := (fm_over HOr.out).1 e
                      rw [← HM.out] at this
                      omega
                  have hFD := fmD_mv HOr.out hfm
                  have HST : Hid (psA f o s (k + 1) = (doB F (sdStep F o q), nxS q, L ++ [cl 4 (sdStep F o q)])) := by
                    have hh : fmN (psA f o s k).1 o 4 < 4 := by rw [HP.out]; exact hfm
                    have := psA_on hh
                    rw [HP.out] at this
                    exact this
                  have HFI := Lib.hid (fun W (hc : CAt W gm nM fun i => M.getD i 0) => l11First_any o F gm cm nM W (by rw [← HM.out]; exact hnM.symm) HOr.out hfm (by rw [← HM.out]; exact hc))
                  have hroom := mv_room HVF.out hFD.2.1
                  obtain ⟨d, hd⟩ : ∃ d, d = fmD F o := ⟨_, rfl⟩
                  rw [← hd] at HFI hFD hroom
                  have hd4 : d < 4 := hFD.1
                  have HSX : Hid (∀ i, i < 4 → upd (patch (stepF (d : Int) (fun _ => 0) 0) 1 2 (sdC (slideB F d) q)) 3 (sdT q) i = sdStep F o q i) := by
                    intro i hi
                    unfold sdStep
                    rw [← hd]
                    rcases (by omega : i = 0 ∨ i = 1 ∨ i = 2 ∨ i = 3) with rfl | rfl | rfl | rfl <;> rfl
                  have HNW := Lib.hid (fun W => l11New_any (slideB F d) q W HSq.out hroom)
                  have HSL := Lib.hid (fun W => l2Slide_any F (d : Int) W HVF.out (by omega) (by omega))
                  have HDO := Lib.hid (fun W => l5Do_any F (sdStep F o q) W HVF.out)
                  have HVN := Lib.hid (do_vd (s := sdStep F o q) HVF.out)
                  have iB := run_buildT1
                  clear hFD hroom hfm hd hstop
                  obtain ⟨X, hX⟩ : ∃ x, x = sdStep F o q := ⟨_, rfl⟩
                  rw [← hX] at HSX HDO HVN HST
                  clear hX
                  go_wp2_with ((with_reducible show wpList _ _ _ (Oper.mk _ (Op.load 22 _) _ _ _ _ :: _) _ _); refine loadR (K5) rfl rfl rfl ?_)
                  refine (HFI.out _ CM).mono ?_
                  clear HFI
                  rintro e w4 ⟨rfl, hb⟩
                  have K4 := K4.below hb K4.lt
                  have K5 := K5.below hb K5.lt
                  have K8 := K8.below hb K8.lt
                  have K11 := K11.below hb K11.lt
                  have K12 := K12.below hb K12.lt
                  have HO := Lib.hid (OwnsL.below HO.out hb)
                  have HB : Hid (Below w.heap.size w w4) := HB.out.trans (hb.mono HB.out.size)
                  clear hb
                  clear CM c16
                  have H14 : Hid (b11 < w4.heap.size ∧ b12 < w4.heap.size ∧ w.heap.size + 1 + 1 < w4.heap.size ∧ ∀ j, (Value.slice a k c).ownBlock = some j → j ≠ w4.heap.size) := ⟨K11.lt, K12.lt, K8.lt, fun j e => by have := (HO.out.lt j e).2; omega⟩
                  have K14 := Blk.new w4 4 (stepF (d : Int) (fun _ => 0) 0) 52
                  have K4 := K4.alloc (.cells (mk 4 (stepF (d : Int) (fun _ => 0) 0)) 52)
                  have K5 := K5.alloc (.cells (mk 4 (stepF (d : Int) (fun _ => 0) 0)) 52)
                  have K8 := K8.alloc (.cells (mk 4 (stepF (d : Int) (fun _ => 0) 0)) 52)
                  have K11 := K11.alloc (.cells (mk 4 (stepF (d : Int) (fun _ => 0) 0)) 52)
                  have K12 := K12.alloc (.cells (mk 4 (stepF (d : Int) (fun _ => 0) 0)) 52)
                  have HO := Lib.hid (OwnsL.alloc HO.out (.cells (mk 4 (stepF (d : Int) (fun _ => 0) 0)) 52))
                  have HB : Hid (Below w.heap.size w (w4.alloc (.cells (mk 4 (stepF (d : Int) (fun _ => 0) 0)) 52))) := HB.out.alloc HB.out.size _
                  have c0 : (w4.alloc (.cells (mk 4 (stepF (d : Int) (fun _ => 0) 0)) 52)).cell? ⟨w4.heap.size, 0, none⟩ = some (.int .i64 (d : Int)) := K14.cell (i := 0) (by omega)
                  generalize hb14 : w4.heap.size = b14 at *
                  have st14 : (storeCells ⟨b14, 0, none⟩ ((mk 4 fun _ => 0).toList.set 0 (.int .i64 (d : Int)))).run Try.prog (w4.alloc (.cells (mk 4 fun _ => 0) 52)) = .ok () (w4.alloc (.cells (mk 4 (stepF (d : Int) (fun _ => 0) 0)) 52)) := store_new w4 b14 4 (fun _ => 0) (stepF (d : Int) (fun _ => 0) 0) 52 hb14.symm
                  go_wp2_with ((with_reducible show wpList _ _ _ (Oper.mk _ (Op.load 26 _) _ _ _ _ :: _) _ _); refine loadB (K12) rfl rfl rfl ?_)
                  refine (HSL.out _).mono ?_
                  clear HSL st14 c0
                  rintro e w5 ⟨rfl, hb⟩
                  have K4 := K4.below hb K4.lt
                  have K5 := K5.below hb K5.lt
                  have K8 := K8.below hb K8.lt
                  have K11 := K11.below hb K11.lt
                  have K12 := K12.below hb K12.lt
                  have K14 := K14.below hb K14.lt
                  have HO := Lib.hid (OwnsL.below HO.out hb)
                  have HB : Hid (Below w.heap.size w w5) := HB.out.trans (hb.mono HB.out.size)
                  clear hb
                  have K15 := Blk.new w5 16 (slideB F d) 26
                  have K4 := K4.alloc (.cells (mk 16 (slideB F d)) 26)
                  have K5 := K5.alloc (.cells (mk 16 (slideB F d)) 26)
                  have K8 := K8.alloc (.cells (mk 16 (slideB F d)) 26)
                  have K11 := K11.alloc (.cells (mk 16 (slideB F d)) 26)
                  have K12 := K12.alloc (.cells (mk 16 (slideB F d)) 26)
                  have K14 := K14.alloc (.cells (mk 16 (slideB F d)) 26)
                  have HO := Lib.hid (OwnsL.alloc HO.out (.cells (mk 16 (slideB F d)) 26))
                  have HB : Hid (Below w.heap.size w (w5.alloc (.cells (mk 16 (slideB F d)) 26))) := HB.out.alloc HB.out.size _
                  go_wp2_with ((with_reducible show wpList _ _ _ (Oper.mk _ (Op.load 26 _) _ _ _ _ :: _) _ _); refine loadB (K15) rfl rfl rfl ?_)
                  refine (HNW.out _).mono ?_
                  clear HNW K15
                  rintro e w6 ⟨rfl, hb⟩
                  have K4 := K4.below hb K4.lt
                  have K5 := K5.below hb K5.lt
                  have K8 := K8.below hb K8.lt
                  have K11 := K11.below hb K11.lt
                  have K12 := K12.below hb K12.lt
                  have K14 := K14.below hb K14.lt
                  have HO := Lib.hid (OwnsL.below HO.out hb)
                  have HB : Hid (Below w.heap.size w w6) := HB.out.trans (hb.mono HB.out.size)
                  clear hb
                  have K14a := K14.row 4 (patch (stepF (d : Int) (fun _ => 0) 0) 1 2 (sdC (slideB F d) q))
                  have c3 := K14a.cell (i := 3) (by omega)
                  have f3 := K14a.free 3
                  go_wp2_with ((with_reducible show wpList _ _ _ (Oper.mk _ (Op.store 37 _ _) _ _ _ _ :: _) _ _); refine storePC (K14) (by omega) rfl rfl rfl rfl ?_)
                  refine (l11Behind_any q _ HSq.out).mono ?_
                  rintro e w7 ⟨rfl, rfl⟩
                  clear c3 f3
                  have K4 := (K4.rowOther b14 (mk 4 (patch (stepF (d : Int) (fun _ => 0) 0) 1 2 (sdC (slideB F d) q))) (by have := H14.out; omega)).setOther ⟨b14, 3, none⟩ (.int .i64 (sdT q)) (by have := H14.out; dsimp only; omega)
                  have K5 := (K5.rowOther b14 (mk 4 (patch (stepF (d : Int) (fun _ => 0) 0) 1 2 (sdC (slideB F d) q))) (by have := H14.out; omega)).setOther ⟨b14, 3, none⟩ (.int .i64 (sdT q)) (by have := H14.out; dsimp only; omega)
                  have K8 := (K8.rowOther b14 (mk 4 (patch (stepF (d : Int) (fun _ => 0) 0) 1 2 (sdC (slideB F d) q))) (by have := H14.out; omega)).setOther ⟨b14, 3, none⟩ (.int .i64 (sdT q)) (by have := H14.out; dsimp only; omega)
                  have K11 := (K11.rowOther b14 (mk 4 (patch (stepF (d : Int) (fun _ => 0) 0) 1 2 (sdC (slideB F d) q))) (by have := H14.out; omega)).setOther ⟨b14, 3, none⟩ (.int .i64 (sdT q)) (by have := H14.out; dsimp only; omega)
                  have K12 := (K12.rowOther b14 (mk 4 (patch (stepF (d : Int) (fun _ => 0) 0) 1 2 (sdC (slideB F d) q))) (by have := H14.out; omega)).setOther ⟨b14, 3, none⟩ (.int .i64 (sdT q)) (by have := H14.out; dsimp only; omega)
                  have HO : Hid (OwnsL 52 4 ((w6.setRow b14 (mk 4 (patch (stepF (d : Int) (fun _ => 0) 0) 1 2 (sdC (slideB F d) q)))).setCell ⟨b14, 3, none⟩ (.int .i64 (sdT q))) (w.heap.size + 1 + 1 + 1) (.slice a k c) L) := OwnsL.kept11 (OwnsL.kept11 HO.out (grown_row K14 _) (fun e => H14.out.2.2.2 _ e rfl)) (grown_cellAt _ ⟨b14, 3, none⟩ _) (fun e => H14.out.2.2.2 _ e rfl)
                  have HB : Hid (Below w.heap.size w ((w6.setRow b14 (mk 4 (patch (stepF (d : Int) (fun _ => 0) 0) 1 2 (sdC (slideB F d) q)))).setCell ⟨b14, 3, none⟩ (.int .i64 (sdT q)))) := (below_setRow HB.out (by have := H14.out; omega) _).setCell (by have := H14.out; dsimp only; omega) _
                  have K14 : Blk ((w6.setRow b14 (mk 4 (patch (stepF (d : Int) (fun _ => 0) 0) 1 2 (sdC (slideB F d) q)))).setCell ⟨b14, 3, none⟩ (.int .i64 (sdT q))) b14 4 X 52 := (K14a.set (i := 3) (by omega) (sdT q)).congr HSX.out
                  clear K14a HSX
                  generalize (w6.setRow b14 (mk 4 (patch (stepF (d : Int) (fun _ => 0) 0) 1 2 (sdC (slideB F d) q)))).setCell ⟨b14, 3, none⟩ (.int .i64 (sdT q)) = w7 at *
                  go_wp2_with (first | ((with_reducible show wpList _ _ _ (Oper.mk _ (Op.load 26 _) _ _ _ _ :: _) _ _); refine loadB (K12) rfl rfl rfl ?_) | ((with_reducible show wpList _ _ _ (Oper.mk _ (Op.load 52 _) _ _ _ _ :: _) _ _); refine loadT (K14) rfl rfl rfl ?_))
                  refine (HDO.out _).mono ?_
                  clear HDO
                  rintro e w8 ⟨rfl, hb⟩
                  have K4 := K4.below hb K4.lt
                  have K5 := K5.below hb K5.lt
                  have K8 := K8.below hb K8.lt
                  have K11 := K11.below hb K11.lt
                  have K12 := K12.below hb K12.lt
                  have K14 := K14.below hb K14.lt
                  have HO := Lib.hid (OwnsL.below HO.out hb)
                  have HB : Hid (Below w.heap.size w w8) := HB.out.trans (hb.mono HB.out.size)
                  clear hb
                  have hs8 := K8.lt
                  have hl11 := K11.lt
                  have hl12 := K12.lt
                  have K4s := K4.rowOther b12 (mk 16 (doB F X)) (by have := H14.out; have := H12.out; omega)
                  have K5s := K5.rowOther b12 (mk 16 (doB F X)) (by have := H14.out; have := H12.out; omega)
                  have K8s := K8.rowOther b12 (mk 16 (doB F X)) (by have := H14.out; have := H12.out; omega)
                  have K11s := K11.rowOther b12 (mk 16 (doB F X)) (by have := H14.out; have := H12.out; omega)
                  have K14s := K14.rowOther b12 (mk 16 (doB F X)) (by have := H14.out; have := H12.out; omega)
                  have K12s := K12.row 16 (doB F X)
                  have HOs : Hid (OwnsL 52 4 (w8.setRow b12 (mk 16 (doB F X))) (w.heap.size + 1 + 1 + 1) (.slice a k c) L) := OwnsL.kept11 HO.out (grown_row K12 _) (fun e => (HOO.out _ e).2 rfl)
                  have HBs : Hid (Below w.heap.size w (w8.setRow b12 (mk 16 (doB F X)))) := below_setRow HB.out (by omega) _
                  clear K4 K5 K8 K11 K14 HO HB
                  have c16 := K11s.last
                  go_wp2_with (first | ((with_reducible show wpList _ _ _ (Oper.mk _ (Op.store 26 _ _) _ _ _ _ :: _) _ _); refine storeB (K12) rfl rfl rfl rfl ?_) | ((with_reducible show wpList _ _ _ (Oper.mk _ (Op.load 52 _) _ _ _ _ :: _) _ _); refine loadT (K14s) rfl rfl rfl ?_) | ((with_reducible show wpList _ _ _ (Oper.mk _ (Op.buildSlice _ 1 _) _ _ _ _ :: _) _ _); refine wpl_buildT _ rfl rfl (f := X) rfl ?_) | (at_builtin; refine wpl_app (v := .slice a k c) rfl _ _ 27 rfl (w.heap.size + 1 + 1 + 1) 52 i0 _ 4 32 Try.underlying27 hi hz0 hz1 hz2 rfl (by decide) (by rw [← HLn.out]; rfl) (HOs.out.alloc (.cells (mk 4 X) 52)) _ 0 1 1 X 4 rfl (Blk.new _ _ _ _).at (by omega) (by have := HLn.out; unfold maxLen; omega) (by have := HLn.out; omega) (by simp [World.setRow]; omega) ?_))
                  intro v' y2 R hbl hgr hloc
                  have HL1 : (L ++ [cl 4 X]).length = k + 1 := by rw [List.length_append, HLn.out]; rfl
                  have ON : OwnsL 52 4 y2 (w.heap.size + 1 + 1 + 1) v' (L ++ [cl 4 X]) := by
                    rw [snoc_walk] at R
                    unfold OwnsL
                    rw [List.length_append]
                    exact R
                  obtain ⟨a2, c2, rfl⟩ := OwnsL.form ON HL1
                  have hsz : (w8.setRow b12 (mk 16 (doB F X))).heap.size = w8.heap.size := by simp [World.setRow]
                  have HO2 : Hid (∀ j, (Value.slice a2 (k + 1) c2).ownBlock = some j → j ≠ b11 ∧ j ≠ b12) := by
                    intro j e
                    rcases hloc with r | r
                    · rw [r] at e; exact HOO.out _ e
                    · rw [r] at e
                      have e := Option.some.inj e
                      omega
                  have n11 : (Value.slice a k c).ownBlock ≠ some b11 := fun e => (HOO.out _ e).1 rfl
                  have n12 : (Value.slice a k c).ownBlock ≠ some b12 := fun e => (HOO.out _ e).2 rfl
                  have K4 := (K4s.alloc (.cells (mk 4 X) 52)).below hbl (by omega)
                  have K5 := (K5s.alloc (.cells (mk 4 X) 52)).below hbl (by omega)
                  have K8 := (K8s.alloc (.cells (mk 4 X) 52)).below hbl (by omega)
                  have K11 := Rp.grown (K11s.alloc (.cells (mk 4 X) 52)) hgr n11
                  have K12 := Blk.grown (K12s.alloc (.cells (mk 4 X) 52)) hgr (fun e => n12 e.symm)
                  have HB : Hid (Below w.heap.size w y2) := (HBs.out.alloc HBs.out.size _).trans (hbl.mono (by omega))
                  clear hbl hgr hloc R n11 n12 K4s K5s K8s K11s K12s K14s HOs HBs c16 HOO hsz
                  have d16 := K11.last
                  have f16 := K11.free 16
                  have K4 := K4.setOther ⟨b11, 16, none⟩ (.slice a2 (k + 1) c2) (by dsimp only; omega)
                  have K5 := K5.setOther ⟨b11, 16, none⟩ (.slice a2 (k + 1) c2) (by dsimp only; omega)
                  have K8 := K8.setOther ⟨b11, 16, none⟩ (.slice a2 (k + 1) c2) (by dsimp only; omega)
                  have K12 := K12.setOther ⟨b11, 16, none⟩ (.slice a2 (k + 1) c2) (by have := H12.out; dsimp only; omega)
                  have HO : Hid (OwnsL 52 4 (y2.setCell ⟨b11, 16, none⟩ (.slice a2 (k + 1) c2)) (w.heap.size + 1 + 1 + 1) (.slice a2 (k + 1) c2) (L ++ [cl 4 X])) := OwnsL.kept11 ON (grown_cellAt y2 ⟨b11, 16, none⟩ _) (fun e => (HO2.out _ e).1 rfl)
                  have HB : Hid (Below w.heap.size w (y2.setCell ⟨b11, 16, none⟩ (.slice a2 (k + 1) c2))) := HB.out.setCell (by dsimp only; omega) _
                  have K11 := K11.set (.slice a2 (k + 1) c2)
                  clear ON
                  go_wp2_with ((with_reducible show wpList _ _ _ (Oper.mk _ (Op.load 26 _) _ _ _ _ :: _) _ _); refine loadB (K12) rfl rfl rfl ?_)
                  refine (l2Moves_any (doB F X) _ HVN.out).mono ?_
                  rintro e w9 ⟨gn, cn, rfl, ho, hb⟩
                  have K4 := K4.below hb K4.lt
                  have K5 := K5.below hb K5.lt
                  have K8 := K8.below hb K8.lt
                  have K11 := K11.below hb K11.lt
                  have K12 := K12.below hb K12.lt
                  have HO := Lib.hid (OwnsL.below HO.out hb)
                  have HB : Hid (Below w.heap.size w w9) := HB.out.trans (hb.mono HB.out.size)
                  have CN := ints_cat ho rfl
                  clear ho
                  generalize hMN : movL (doB F X) 4 = M9 at *
                  go_wp2_with fail
                  go_roundg gk2
                  case measure => omega
                  case rel => exact ⟨k + 1, a2, c2, gn, cn, M9.length, doB F X, L ++ [cl 4 X], nxS q, M9, by omega, HST, HL1, hMN.symm, rfl, rfl, rfl, CN, K4, K5, K8, K11, K12, HO, HO2, HB⟩
        · have HV := Lib.hid hV
          have HS := Lib.hid hs
          have HN := Lib.hid (show n < 0 ∨ 40 < n by omega)
          have hdo : decide (OrdOk o) = true := decide_eq_true hO
          obtain ⟨y1, y2, y3, y4⟩ := ps_no (f := f) (o := o) (s := s) (n := n) (fun q => hn q.2.2.2)
          rw [y1, y2, y3, y4]
          clear y1 y2 y3 y4
          clear hV hO hs hn
          go_enter Try.func14, Try.ntmps14
          go_wp2_with ((with_reducible show wpList _ _ _ (Oper.mk _ (Op.load 26 _) _ _ _ _ :: _) _ _); refine loadB (K4) rfl rfl rfl ?_)
          refine (l2Board_yes _ _ HV.out).mono ?_
          rintro e w1 ⟨rfl, hb⟩
          have K4 := K4.below hb K4.lt
          have K5 := K5.below hb K5.lt
          have K8 := K8.below hb K8.lt
          have HB : Hid (Below w.heap.size w w1) := HB.out.trans (hb.mono HB.out.size)
          clear hb
          go_wp2_with ((with_reducible show wpList _ _ _ (Oper.mk _ (Op.load 22 _) _ _ _ (some _) :: _) _ _); refine loadgR (K5) rfl rfl rfl ?_)
          have hc := l11Order_any o w1
          rw [hdo] at hc
          refine hc.mono ?_
          clear hc
          rintro e w2 ⟨rfl, hb⟩
          have K4 := K4.below hb K4.lt
          have K5 := K5.below hb K5.lt
          have K8 := K8.below hb K8.lt
          have HB : Hid (Below w.heap.size w w2) := HB.out.trans (hb.mono HB.out.size)
          clear hb
          go_wp2_with fail
          refine (l11Seed_yes s _ HS.out.1 HS.out.2).mono ?_
          rintro e w' ⟨rfl, rfl⟩
          go_wp2_with fail
          refine (l1In_no n 0 40 _ HN.out).mono ?_
          rintro e w' ⟨rfl, rfl⟩
          go_wp2_with ((with_reducible show wpList _ _ _ (Oper.mk _ (Op.store 29 _ _) _ _ _ _ :: _) _ _); refine storeRp (K8) (by rfl) rfl rfl rfl rfl ?_)
          try simp only [Exit.inBlock, Exit.then]
          exact retRpTT (K8.row _ _) rfl rfl rfl ⟨none, 0, rfl, OwnsL.nil0 _ _, below_setRow HB.out (by omega) _⟩
      · have HV := Lib.hid hV
        have HS := Lib.hid (show s < 0 ∨ 65535 < s by unfold SeedOk at hs; omega)
        have hdo : decide (OrdOk o) = true := decide_eq_true hO
        obtain ⟨y1, y2, y3, y4⟩ := ps_no (f := f) (o := o) (s := s) (n := n) (fun q => hs q.2.2.1)
        rw [y1, y2, y3, y4]
        clear y1 y2 y3 y4
        clear hV hO hs
        go_enter Try.func14, Try.ntmps14
        go_wp2_with ((with_reducible show wpList _ _ _ (Oper.mk _ (Op.load 26 _) _ _ _ _ :: _) _ _); refine loadB (K4) rfl rfl rfl ?_)
        refine (l2Board_yes _ _ HV.out).mono ?_
        rintro e w1 ⟨rfl, hb⟩
        have K4 := K4.below hb K4.lt
        have K5 := K5.below hb K5.lt
        have K8 := K8.below hb K8.lt
        have HB : Hid (Below w.heap.size w w1) := HB.out.trans (hb.mono HB.out.size)
        clear hb
        go_wp2_with ((with_reducible show wpList _ _ _ (Oper.mk _ (Op.load 22 _) _ _ _ (some _) :: _) _ _); refine loadgR (K5) rfl rfl rfl ?_)
        have hc := l11Order_any o w1
        rw [hdo] at hc
        refine hc.mono ?_
        clear hc
        rintro e w2 ⟨rfl, hb⟩
        have K4 := K4.below hb K4.lt
        have K5 := K5.below hb K5.lt
        have K8 := K8.below hb K8.lt
        have HB : Hid (Below w.heap.size w w2) := HB.out.trans (hb.mono HB.out.size)
        clear hb
        go_wp2_with fail
        refine (l11Seed_no s _ HS.out).mono ?_
        rintro e w' ⟨rfl, rfl⟩
        go_wp2_with ((with_reducible show wpList _ _ _ (Oper.mk _ (Op.store 29 _ _) _ _ _ _ :: _) _ _); refine storeRp (K8) (by rfl) rfl rfl rfl rfl ?_)
        try simp only [Exit.inBlock, Exit.then]
        exact retRpTT (K8.row _ _) rfl rfl rfl ⟨none, 0, rfl, OwnsL.nil0 _ _, below_setRow HB.out (by omega) _⟩
    · have HV := Lib.hid hV
      have hdo : decide (OrdOk o) = false := decide_eq_false hO
      obtain ⟨y1, y2, y3, y4⟩ := ps_no (f := f) (o := o) (s := s) (n := n) (fun q => hO q.2.1)
      rw [y1, y2, y3, y4]
      clear y1 y2 y3 y4
      clear hV hO
      go_enter Try.func14, Try.ntmps14
      go_wp2_with ((with_reducible show wpList _ _ _ (Oper.mk _ (Op.load 26 _) _ _ _ _ :: _) _ _); refine loadB (K4) rfl rfl rfl ?_)
      refine (l2Board_yes _ _ HV.out).mono ?_
      rintro e w1 ⟨rfl, hb⟩
      have K4 := K4.below hb K4.lt
      have K5 := K5.below hb K5.lt
      have K8 := K8.below hb K8.lt
      have HB : Hid (Below w.heap.size w w1) := HB.out.trans (hb.mono HB.out.size)
      clear hb
      go_wp2_with ((with_reducible show wpList _ _ _ (Oper.mk _ (Op.load 22 _) _ _ _ (some _) :: _) _ _); refine loadgR (K5) rfl rfl rfl ?_)
      have hc := l11Order_any o w1
      rw [hdo] at hc
      refine hc.mono ?_
      clear hc
      rintro e w2 ⟨rfl, hb⟩
      have K4 := K4.below hb K4.lt
      have K5 := K5.below hb K5.lt
      have K8 := K8.below hb K8.lt
      have HB : Hid (Below w.heap.size w w2) := HB.out.trans (hb.mono HB.out.size)
      clear hb
      go_wp2_with ((with_reducible show wpList _ _ _ (Oper.mk _ (Op.store 29 _ _) _ _ _ _ :: _) _ _); refine storeRp (K8) (by rfl) rfl rfl rfl rfl ?_)
      try simp only [Exit.inBlock, Exit.then]
      exact retRpTT (K8.row _ _) rfl rfl rfl ⟨none, 0, rfl, OwnsL.nil0 _ _, below_setRow HB.out (by omega) _⟩
  · have HV := Lib.hid hV
    obtain ⟨y1, y2, y3, y4⟩ := ps_no (f := f) (o := o) (s := s) (n := n) (fun q => hV q.1)
    rw [y1, y2, y3, y4]
    clear y1 y2 y3 y4
    clear hV
    go_enter Try.func14, Try.ntmps14
    go_wp2_with ((with_reducible show wpList _ _ _ (Oper.mk _ (Op.load 26 _) _ _ _ _ :: _) _ _); refine loadB (K4) rfl rfl rfl ?_)
    refine (l2Board_no _ _ HV.out).mono ?_
    rintro e w1 ⟨rfl, hb⟩
    have K4 := K4.below hb K4.lt
    have K5 := K5.below hb K5.lt
    have K8 := K8.below hb K8.lt
    have HB : Hid (Below w.heap.size w w1) := HB.out.trans (hb.mono HB.out.size)
    clear hb
    go_wp2_with ((with_reducible show wpList _ _ _ (Oper.mk _ (Op.store 29 _ _) _ _ _ _ :: _) _ _); refine storeRp (K8) (by rfl) rfl rfl rfl rfl ?_)
    try simp only [Exit.inBlock, Exit.then]
    exact retRpTT (K8.row _ _) rfl rfl rfl ⟨none, 0, rfl, OwnsL.nil0 _ _, below_setRow HB.out (by omega) _⟩
end Go.Proofs.Ytfjpdopljmilpaa
