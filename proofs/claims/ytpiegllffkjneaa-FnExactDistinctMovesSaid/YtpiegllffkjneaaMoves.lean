/-
  The contracts of the list of moves, in the reference and in the program, for every board.
-/
import Derived.Test.YtpiegllffkjneaaMergers
import Derived.Test.YtpiegllffkjneaaEqs
namespace Go.Proofs.Ytpiegllffkjneaa
open Go.RowKit Plain
attribute [local go_sem] store_new

/-- The slice value v owns a row of these integers, in blocks from base on. -/
def OwnsInts (w : World) (base : Nat) (v : Value) (xs : List Int) : Prop := w.ownsRow base 3 1 v xs.length (xs.map (Value.int .i64))
theorem infoInt : (Try.prog.info? 3).map (fun i => (i.zero, i.size, i.bytes)) = some (some (.int .i64 0), 1, 8) := by kernel_rfl
theorem below_grown {w w' : World} (h : Below w.heap.size w w') : w.grownBy w' none := ⟨h.os, h.tape, h.output, h.size, fun k hk _ => h.block k hk⟩
theorem owns_below {w w' : World} {base size n : Nat} {e : TypeId} {v : Value} {xs : List Value} (h : w.ownsRow base e size v n xs) (hb : Below w.heap.size w w') : w'.ownsRow base e size v n xs :=
  h.kept (below_grown hb) (by cases v.ownBlock <;> simp)

theorem l2Slide_nat (f : Nat → Int) (d : Nat) (w : World) (hf : Vd f) (h0 : (0 : Int) ≤ (d : Int)) (h1 : (d : Int) ≤ 3) :
    Calls Try.prog 100 #[.agg (mk 16 f), .int .i64 d] w fun e w' => e = .returned (.tuple #[.agg (mk 16 (slideB f d)), .int .i64 (slideS f d 4)]) ∧ Below w.heap.size w w' :=
  l2Slide_any f (d : Int) w hf h0 h1
theorem slideTo_nat (f : Nat → Int) (d : Nat) (w : World) (hf : Vd f) (h0 : (0 : Int) ≤ (d : Int)) (h1 : (d : Int) ≤ 3) :
    Calls Try.prog 98 #[.agg (mk 16 f), .int .i64 d] w fun e w' => e = .returned (.agg (mk 18 (slideV f d))) ∧ Below w.heap.size w w' :=
  slideTo_any f (d : Int) w hf h0 h1
set_option maxHeartbeats 1000000 in
set_option maxRecDepth 20000 in
theorem l2Moves_any (f : Nat → Int) (w : World) (hV : Vd f) :
    Calls Try.prog 99 #[.agg (mk 16 f)] w fun e w' => ∃ g cap, e = .returned (.slice (some ⟨g, 0, none⟩) (movL f 4).length cap) ∧
      OwnsInts w' w.heap.size (.slice (some ⟨g, 0, none⟩) (movL f 4).length cap) (movL f 4) ∧ Below w.heap.size w w' := by
  obtain ⟨i0, hi, hz0, hz1, hz2⟩ := info_parts infoInt
  have z16 := zero16
  have HV := Lib.hid hV
  clear hV
  have K1 := (Blk.new w 16 f 27).alloc (.cells #[] 3)
  have HB := Lib.hid (((Below.refl w.heap.size w).alloc (Nat.le_refl _) (.cells (mk 16 f) 27)).alloc (by simp) (.cells #[] 3))
  have HO : OwnsInts ((w.alloc (.cells (mk 16 f) 27)).alloc (.cells #[] 3)) (w.heap.size + 1) (.slice (some ⟨w.heap.size + 1, 0, none⟩) 0 0) [] := by
    have := World.ownsRow_made (base := w.heap.size + 1) (e := 3) (size := 1) (w.alloc (.cells (mk 16 f) 27)) #[] 0 (by simp) (by decide) rfl
    simp only [World.size_alloc] at this
    exact this
  go_enter Try.func99, Try.ntmps99
  go_wp2_with fail
  go_loopg [3, 4] 4 (fun g s3 s4 wr => ∃ (d : Nat) (v : Value), d + g = 4 ∧ s4 = .int .i64 d ∧ v = s3 ∧ (∃ gg cap, v = .slice (some ⟨gg, 0, none⟩) (movL f d).length cap) ∧ OwnsInts wr (w.heap.size + 1) v (movL f d) ∧ Blk wr w.heap.size 16 f 27 ∧ Hid (Below w.heap.size w wr))
  case atStart => exact ⟨0, _, by omega, rfl, rfl, ⟨_, _, rfl⟩, HO, K1, HB⟩
  case round =>
    obtain ⟨d, v, hdg, rfl, rfl, hv, ho, k1, hb⟩ := hrel
    cases gk with
    | zero =>
      have hd : ¬ ((d : Int) < 4) := by omega
      obtain rfl : d = 4 := by omega
      clear hdg hd
      obtain ⟨gg, cap, rfl⟩ := hv
      go_wp2_with fail
      go_ret
      exact ⟨gg, cap, rfl, ownsRow_wide ho (by omega), hb.out⟩
    | succ g =>
      have hd4 : (d : Int) < 4 := by omega
      have hd0 : (0 : Int) ≤ (d : Int) := by omega
      have hd3 : (d : Int) ≤ 3 := by omega
      go_wp2_with ((with_reducible show wpList _ _ _ (Oper.mk _ (Op.load 27 _) _ _ _ _ :: _) _ _); refine loadB (k1) rfl rfl rfl ?_)
      refine (l2Slide_nat f d _ HV.out hd0 hd3).mono ?_
      rintro e w3 ⟨rfl, hb3⟩
      have k1 := (k1.below hb3 k1.lt).alloc (.cells (mk 16 (slideB f d)) 27)
      have k3 := Blk.new w3 16 (slideB f d) 27
      have ho0 : (w3.alloc (.cells (mk 16 (slideB f d)) 27)).ownsRow (w.heap.size + 1) 3 1 v (movL f d).length ((movL f d).map (Value.int .i64)) := (owns_below ho hb3).alloc _
      have HB3 : Hid (Below w.heap.size w w3) := hb.out.trans (hb3.mono hb.out.size)
      have HB4 : Hid (Below w.heap.size w (w3.alloc (.cells (mk 16 (slideB f d)) 27))) := HB3.out.alloc HB3.out.size _
      have hn := movL_le f d
      have hsz := HB3.out.size
      clear ho hb3 hb HB3
      have iN := neqB
      have iE : ∀ (f g : Nat → Int) (w : World), (Op.equalIn 10000 27 (.agg (mk 16 f)) (.agg (mk 16 g))).run Try.prog w = .ok (sameB f g) w := eqB 9996
      by_cases hm : isMv f d = true
      · have Y := Lib.hid (mov_yes hm)
        have hq : sameB (slideB f d) f = false := by simpa [isMv] using hm
        clear hm
        have hn4 : (movL f d).length ≤ 4 := by omega
        go_wp2_with (first | ((with_reducible show wpList _ _ _ (Oper.mk _ (Op.load 27 _) _ _ _ _ :: _) _ _); refine loadB (k1) rfl rfl rfl ?_) | ((with_reducible show wpList _ _ _ (Oper.mk _ (Op.load 27 _) _ _ _ _ :: _) _ _); refine loadB (k3) rfl rfl rfl ?_) | (at_builtin; refine wpList_append_own _ rfl _ _ 31 rfl (w.heap.size + 1) 3 i0 (.int .i64 0) 1 8 Try.underlying31 hi hz0 hz1 hz2 rfl (by decide) _ _ _ rfl (ho0.alloc _) ⟨w3.heap.size + 1, 0, none⟩ 1 1 [.int .i64 d] rfl rfl ?c1 ?c2 ?c3 ?c4 ?c5 ?_))
        case c1 =>
          have := cell_one_new (w3.alloc (.cells (mk 16 (slideB f d)) 27)) (.int .i64 d) 3
          simpa only [World.size_alloc] using this
        case c2 => simp [Value.oneCell']
        case c3 => unfold maxLen; omega
        case c4 => omega
        case c5 => simp; omega
        intro v' w2 hown' hgrow' _
        obtain ⟨gg, cap, hv'⟩ := ownsRow_succ hown'
        have HV' : Hid (∃ gg cap, v' = .slice (some ⟨gg, 0, none⟩) ((movL f d).length + 1) cap) := ⟨gg, cap, hv'⟩
        have HB2 : Hid (Below w.heap.size w w2) := ((HB4.out).alloc HB4.out.size _).grown hgrow' (by simp; omega) (fun j hj => by have := (ho0.lt j hj).1; omega)
        have K2 := (k1.alloc (.cells #[.int .i64 d] 3)).grown hgrow' (fun e => by have := (ho0.lt _ e.symm).1; omega)
        have HO : Hid (OwnsInts w2 (w.heap.size + 1) v' (movL f d ++ [(d : Int)])) := by
          show OwnsInts _ _ _ _
          unfold OwnsInts
          rw [List.map_append, List.length_append]
          exact hown'
        clear hown' hgrow' ho0 hv' k1 k3
        go_wp2_with fail
        go_roundg g
        case rel => exact ⟨d + 1, _, by omega, by go_num, rfl, by rw [Y.out, List.length_append]; exact HV'.out, by rw [Y.out]; exact HO.out, K2, HB2⟩
        case measure => omega
      · have Y := Lib.hid (mov_no (by simpa using hm))
        have hq : sameB (slideB f d) f = true := by simpa [isMv] using hm
        clear hm
        go_wp2_with (first | ((with_reducible show wpList _ _ _ (Oper.mk _ (Op.load 27 _) _ _ _ _ :: _) _ _); refine loadB (k1) rfl rfl rfl ?_) | ((with_reducible show wpList _ _ _ (Oper.mk _ (Op.load 27 _) _ _ _ _ :: _) _ _); refine loadB (k3) rfl rfl rfl ?_))
        go_roundg g
        case rel => exact ⟨d + 1, _, by omega, by go_num, rfl, by rw [Y.out]; exact hv, by rw [Y.out]; exact ho0, k1, HB4⟩
        case measure => omega
end Go.Proofs.Ytpiegllffkjneaa
