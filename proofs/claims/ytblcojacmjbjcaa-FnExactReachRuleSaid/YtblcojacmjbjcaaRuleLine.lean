/-
  The contracts of impl.slideLineBy and impl.slideBy: what a line and a board become when they slide by a rule, and the number of mergers, for every law of a rule whose merge is told by a function of two tiles.
-/
import Derived.Test.YtblcojacmjbjcaaRulePlain
import Derived.Test.YtblcojacmjbjcaaSlideTo
import Derived.Test.YtblcojacmjbjcaaBaseA
namespace Go.Proofs.Ytblcojacmjbjcaa
open Go.RowKit Plain
set_option linter.unusedVariables false
set_option linter.unusedSimpArgs false
attribute [local go_sem] store_new
/-- A law of a rule: a bounded one, round another one. -/
def lawOn (x : Value) : Value := .iface 112 (.agg #[x])
/-- What is handed to the slide: the law's merge. -/
def mergeOn (x : Value) : Value := .func (.method "loop.example/g01194/impl.merge") #[lawOn x] #[]
/-- The law round x merges tiles as m tells. -/
def MergesAs (x : Value) (m : Int → Int → Int) : Prop := MgFn m ∧ ∀ (s t : Int) (w : World), TlOk s → TlOk t →
  Calls Try.prog 143 #[.agg #[x], .int .i64 s, .int .i64 t] w fun e w' => e = .returned (.tuple #[.int .i64 (m s t), .bool (decide (0 < m s t))]) ∧ Below w.heap.size w w'
theorem method_merge (x : Value) (w : World) : (method (Try.prog.types.size + Made.depth) 112 (.agg #[x]) "loop.example/g01194/impl.merge").run Try.prog w = .ok (143, .agg #[x]) w := by kernel_rfl

set_option maxHeartbeats 1000000 in
set_option maxRecDepth 20000 in
theorem slideLineBy_any (x : Value) (m : Int → Int → Int) (hx : MergesAs x m) (f : Nat → Int) (w : World) (hf : VdRow f) :
    Calls Try.prog 86 #[.agg (mk 4 f), .func (.method "loop.example/g01194/impl.merge") #[.iface 112 (.agg #[x])] #[]] w fun e w' => e = .returned (.tuple #[.agg (mk 4 (rsl m f 4).row), .int .i64 (rsl m f 4).mg]) ∧ Below w.heap.size w w' := by
  have z4 := zero4
  have iR := idxR
  have iM := method_merge x
  have HV := Lib.hid hf
  have HX := Lib.hid hx
  clear hf hx
  have K1 := ((Blk.new w 4 f 33).alloc (.cells (mk 4 fun _ => 0) 33)).alloc (.cells (mk 4 fun _ => 0) 33)
  have K2 := (Blk.new (w.alloc (.cells (mk 4 f) 33)) 4 (fun _ => 0) 33).alloc (.cells (mk 4 fun _ => 0) 33)
  have K3 := Blk.new ((w.alloc (.cells (mk 4 f) 33)).alloc (.cells (mk 4 fun _ => 0) 33)) 4 (fun _ => 0) 33
  have HB := Lib.hid ((((Below.refl w.heap.size w).alloc (Nat.le_refl _) (.cells (mk 4 f) 33)).alloc (by simp) (.cells (mk 4 fun _ => 0) 33)).alloc (by simp; omega) (.cells (mk 4 fun _ => 0) 33))
  simp only [World.size_alloc] at K2 K3
  go_enter Try.func86, Try.ntmps86
  go_wp2_with ((with_reducible show wpList _ _ _ (Oper.mk _ (Op.load 33 _) _ _ _ _ :: _) _ _); refine loadR (K1) rfl rfl rfl ?_)
  generalize ((w.alloc (.cells (mk 4 f) 33)).alloc (.cells (mk 4 fun _ => 0) 33)).alloc (.cells (mk 4 fun _ => 0) 33) = w1 at *
  clear K1
  go_loopg [16, 7, 8, 9] 4 (fun g s16 s7 s8 s9 wr => ∃ k : Nat, k + g = 4 ∧ s16 = .int .i64 k ∧ s7 = .int .i64 (rsl m f k).n ∧ s8 = .int .i64 (rsl m f k).mg ∧ s9 = .bool (rsl m f k).op ∧
    Blk wr (w.heap.size + 1) 4 (fun _ => 0) 33 ∧ Blk wr (w.heap.size + 1 + 1) 4 (rsl m f k).row 33 ∧ Hid (Below w.heap.size w wr))
  case atStart => exact ⟨0, by omega, rfl, rfl, rfl, rfl, K2, K3, HB⟩
  case round =>
    obtain ⟨k, hkg, rfl, rfl, rfl, rfl, k2, k3, hb⟩ := hrel
    cases gk with
    | zero =>
      have hk : ¬ ((k : Int) < 4) := by omega
      have HK : Hid (k = 4) := by show k = 4; omega
      clear hkg
      go_wp2_with (first | ((with_reducible show wpList _ _ _ (Oper.mk _ (Op.load 33 _) _ _ _ _ :: _) _ _); refine loadR (k3) rfl rfl rfl ?_) | ((with_reducible show wpList _ _ _ (Oper.mk _ (Op.store 33 _ _) _ _ _ _ :: _) _ _); refine storeR (k2) rfl rfl rfl rfl ?_))
      try simp only [Exit.inBlock, Exit.then]
      exact retctR (k2.row 4 _) rfl rfl rfl ⟨by rw [HK.out]; rfl, below_setRow hb.out (by omega) _⟩
    | succ g =>
      have hk : (k : Int) < 4 := by omega
      have hk4 : k < 4 := by omega
      have HOK := Lib.hid (rsl_ok HX.out.1 HV.out k (by omega))
      obtain ⟨t0, t1⟩ := HV.out k hk4
      have HS : Hid (rsl m f (k + 1) = rslStep m (rsl m f k) (f k)) := rfl
      generalize rsl m f k = s at *
      obtain ⟨row, n, mg, op⟩ := s
      simp only [] at k3
      have hn0 : n ≤ k := HOK.out.n_le
      have mg0 : 0 ≤ mg := HOK.out.mg0
      have mg1 : mg ≤ 4 := by have : mg ≤ k := HOK.out.mg1; omega
      by_cases h0 : (f k) = 0
      · have d0 : ((f k) == 0) = true := by simpa using h0
        have HS2 : Hid (rsl m f (k + 1) = ⟨row, n, mg, op⟩) := by have := HS.out; unfold rslStep at this; rw [if_pos h0] at this; exact this
        clear h0
        go_wp2_with fail
        go_roundg g
        case rel => exact ⟨k + 1, by omega, by go_num, by rw [HS2.out], by rw [HS2.out], by rw [HS2.out], k2, by rw [HS2.out]; exact k3, hb⟩
        case measure => omega
      · have d0 : ((f k) == 0) = false := by simpa using h0
        cases op with
        | false =>
          have HS2 : Hid (rsl m f (k + 1) = ⟨upd row n (f k), n + 1, mg, true⟩) := by have := HS.out; unfold rslStep at this; rw [if_neg h0, if_neg (by simp)] at this; exact this
          have c3 := k3.cell (i := n) (by omega)
          have f3 := k3.free n
          clear h0
          go_wp2_with fail
          go_roundg g
          case rel => exact ⟨k + 1, by omega, by go_num, by rw [HS2.out]; go_num, by rw [HS2.out], by rw [HS2.out], k2.setOther _ _ (by dsimp only; omega), by rw [HS2.out]; exact k3.set (by omega) _, hb.out.setCell (by dsimp only; omega) _⟩
          case measure => omega
        | true =>
          have hT1 : TlOk (row (n - 1)) := HOK.out.tile rfl
          have hT2 : TlOk (f k) := by unfold TlOk; omega
          have hn1 : 1 ≤ n := HOK.out.last rfl
          have c4 := k3.cell (i := n - 1) (by omega)
          have HT := Lib.hid (And.intro hT1 hT2)
          have HD := Lib.hid h0
          clear h0 hT1 hT2
          go_wp2_with fail
          refine (HX.out.2 _ _ _ HT.out.1 HT.out.2).mono ?_
          rintro e w6 ⟨rfl, hb6⟩
          have k2 := k2.below hb6 k2.lt
          have k3 := k3.below hb6 k3.lt
          have hb : Hid (Below w.heap.size w w6) := hb.out.trans (hb6.mono hb.out.size)
          clear hb6 c4
          by_cases hu : 0 < m (row (n - 1)) (f k)
          · have HS2 : Hid (rsl m f (k + 1) = ⟨upd row (n - 1) (m (row (n - 1)) (f k)), n, mg + 1, false⟩) := by have := HS.out; unfold rslStep at this; rw [if_neg HD.out, if_pos ⟨rfl, hu⟩] at this; exact this
            generalize m (row (n - 1)) (f k) = u at *
            have du : decide (0 < u) = true := by simpa using hu
            have c3 := k3.cell (i := n - 1) (by omega)
            have f3 := k3.free (n - 1)
            clear hu
            go_wp2_with fail
            go_roundg g
            case rel => exact ⟨k + 1, by omega, by go_num, by rw [HS2.out], by rw [HS2.out], by rw [HS2.out], k2.setOther _ _ (by dsimp only; omega), by rw [HS2.out]; exact k3.set (by omega) _, hb.out.setCell (by dsimp only; omega) _⟩
            case measure => omega
          · have HS2 : Hid (rsl m f (k + 1) = ⟨upd row n (f k), n + 1, mg, true⟩) := by have := HS.out; unfold rslStep at this; rw [if_neg HD.out, if_neg (fun q => hu q.2)] at this; exact this
            generalize m (row (n - 1)) (f k) = u at *
            have du : decide (0 < u) = false := by simpa using hu
            have c3 := k3.cell (i := n) (by omega)
            have f3 := k3.free n
            clear hu
            go_wp2_with fail
            go_roundg g
            case rel => exact ⟨k + 1, by omega, by go_num, by rw [HS2.out]; go_num, by rw [HS2.out], by rw [HS2.out], k2.setOther _ _ (by dsimp only; omega), by rw [HS2.out]; exact k3.set (by omega) _, hb.out.setCell (by dsimp only; omega) _⟩
            case measure => omega

theorem rSeen_patch (m : Int → Int → Int) (f : Nat → Int) (d r : Nat) : ∀ j, patch (rSeen m f d r) (r * 4) 4 (rsl m (lineF f d r) 4).row j = rSeen m f d (r + 1) j := by
  intro j
  unfold patch rSeen
  by_cases h : r * 4 ≤ j ∧ j < r * 4 + 4
  · rw [if_pos h, if_pos (by omega), show j / 4 = r by omega, show j % 4 = j - r * 4 by omega]
  · rw [if_neg h]
    by_cases h2 : j < r * 4
    · rw [if_pos h2, if_pos (by omega)]
    · rw [if_neg h2, if_neg (by omega)]
set_option maxHeartbeats 1000000 in
theorem slideBy_0 (x : Value) (m : Int → Int → Int) (hx : MergesAs x m) (f : Nat → Int) (w : World) (hf : Vd f) :
    Calls Try.prog 62 #[.agg (mk 16 f), .int .i64 0, .func (.method "loop.example/g01194/impl.merge") #[.iface 112 (.agg #[x])] #[]] w fun e w' => e = .returned (.tuple #[.agg (mk 16 (rB m f 0)), .int .i64 (rM m f 0 4)]) ∧ Below w.heap.size w w' := by
  have z16 := zero16
  have z4 := zero4
  have iG := idxG
  have iV := idxV0
  have sr := World.setRow_alloc_new
  have HV := Lib.hid hf
  have HX := Lib.hid hx
  clear hf hx
  have K1 := (Blk.new w 16 f 37).alloc (.cells (mk 16 fun _ => 0) 37)
  have K2 := Blk.new (w.alloc (.cells (mk 16 f) 37)) 16 (fun _ => 0) 37
  have HB := Lib.hid (((Below.refl w.heap.size w).alloc (Nat.le_refl _) (.cells (mk 16 f) 37)).alloc (by simp) (.cells (mk 16 fun _ => 0) 37))
  simp only [World.size_alloc] at K2
  go_enter Try.func62, Try.ntmps62
  go_wp2_with fail
  refine (views_any _).mono ?_
  rintro e w1 ⟨rfl, hb1⟩
  have k1 := K1.below hb1 (by simp; omega)
  have k2 := K2.below hb1 (by simp)
  have HB1 : Hid (Below w.heap.size w w1) := HB.out.trans (hb1.mono HB.out.size)
  clear hb1 HB K1 K2
  have l2 := k2.lt
  go_wp2_with (first | ((with_reducible show wpList _ _ _ (Oper.mk _ (Op.store 96 _ _) _ _ _ _ :: _) _ _); refine wpList_store_row rfl 96 _ _ rfl _ _ rfl rfl _ _ (heap_alloc_new _ _) sizeVw rfl (by simp [Value.oneCell']) ?_) | ((with_reducible show wpList _ _ _ (Oper.mk _ (Op.load 37 _) _ _ _ _ :: _) _ _); refine loadB (k1.alloc _) rfl rfl rfl ?_))
  refine (there_0 _ _).mono ?_
  rintro e w2 ⟨rfl, hb2⟩
  have k2 := (k2.alloc _).below hb2 (k2.alloc _).lt
  have kv : Oth w2 w1.heap.size #[.func (.func 99) #[] #[], .func (.func 99) #[] #[]] 96 := Oth.below (heap_alloc_new w1 _) hb2 (by simp)
  have HB2 : Hid (Below w.heap.size w w2) := (HB1.out.alloc HB1.out.size _).trans (hb2.mono (by have := HB1.out.size; simp; omega))
  have hs2 : w1.heap.size + 1 ≤ w2.heap.size := by have := hb2.size; simpa using this
  clear hb2 HB1 k1
  have KG := Blk.new w2 16 (viewF f 0) 37
  have HB3 : Hid (Below w.heap.size w (w2.alloc (.cells (mk 16 (viewF f 0)) 37))) := HB2.out.alloc HB2.out.size _
  have KR := k2.alloc (.cells (mk 16 (viewF f 0)) 37)
  have KV := kv.alloc (.cells (mk 16 (viewF f 0)) 37)
  clear k2 kv HB2
  go_wp2_with ((with_reducible show wpList _ _ _ (Oper.mk _ (Op.load 34 _) _ _ _ _ :: _) _ _); refine loadG (KG) rfl rfl rfl ?_)
  generalize w2.alloc (.cells (mk 16 (viewF f 0)) 37) = w3 at *
  go_loopg [24, 10] 4 (fun g s24 s10 wr => ∃ r : Nat, r + g = 4 ∧ s24 = .int .i64 r ∧ s10 = .int .i64 (rM m f 0 r) ∧ Blk wr w2.heap.size 16 (rSeen m f 0 r) 37 ∧ Blk wr (w.heap.size + 1) 16 (fun _ => 0) 37 ∧ Oth wr w1.heap.size #[.func (.func 99) #[] #[], .func (.func 99) #[] #[]] 96 ∧ Hid (Below w.heap.size w wr))
  case atStart => exact ⟨0, by omega, rfl, rfl, KG.congr fun j _ => (rSeen_zero m f 0 j).symm, KR, KV, HB3⟩
  case round =>
    obtain ⟨r, hrg, rfl, rfl, kg, kr, kv, hb⟩ := hrel
    cases gk with
    | zero =>
      have hr : ¬ ((r : Int) < 4) := by omega
      obtain rfl : r = 4 := by omega
      clear hrg hr
      have hv1 : wr.cell? ⟨w1.heap.size, 1, none⟩ = some (.func (.func 99) #[] #[]) := kv.cell 1
      go_wp2_with ((with_reducible show wpList _ _ _ (Oper.mk _ (Op.load 37 _) _ _ _ _ :: _) _ _); refine loadB (kg) rfl rfl rfl ?_)
      refine (back_0 _ _).mono ?_
      rintro e w4 ⟨rfl, hb4⟩
      have kr := kr.below hb4 kr.lt
      have HB4 : Hid (Below w.heap.size w w4) := hb.out.trans (hb4.mono hb.out.size)
      clear hb4 hb hv1 kv kg
      go_wp2_with (first | ((with_reducible show wpList _ _ _ (Oper.mk _ (Op.store 37 _ _) _ _ _ _ :: _) _ _); refine storeB (kr) rfl rfl rfl rfl ?_))
      try simp only [Exit.inBlock, Exit.then]
      refine retctB (kr.row 16 _) rfl rfl rfl ⟨?_, below_setRow HB4.out (by omega) _⟩
      rw [mk_congr (rSeen_back m f 0)]
      rfl
    | succ g =>
      have hr4 : (r : Int) < 4 := by omega
      have hr5 : r < 4 := by omega
      obtain ⟨m0, m1⟩ := rM_bd HX.out.1 HV.out 0 r (by omega)
      have HOK := Lib.hid (rsl_ok HX.out.1 (lineF_vd HV.out 0 hr5) 4 (Nat.le_refl _))
      have n0 := HOK.out.mg0
      have n1 := HOK.out.mg1
      clear HOK
      go_wp2_with ((with_reducible show wpList _ _ _ (Oper.mk _ (Op.load 33 _) _ _ _ _ :: _) _ _); refine loadR (Blk.new _ _ _ _) rfl rfl rfl ?_)
      refine (slideLineBy_any x m HX.out _ _ (viewF_vd HV.out 0 hr5)).mono ?_
      rintro e w4 ⟨rfl, hb4⟩
      rw [rSeen_slid m f 0 r]
      have hs4 := hb4.size
      have lg := (kg.alloc (.cells (mk 4 fun c => viewF f 0 (r * 4 + c)) 33)).lt
      have kg := (kg.alloc _).below hb4 (kg.alloc _).lt
      have kr := (kr.alloc _).below hb4 (kr.alloc _).lt
      have kv := (kv.alloc _).below hb4 (kv.alloc _).lt
      have HB4 : Hid (Below w.heap.size w w4) := (hb.out.alloc hb.out.size _).trans (hb4.mono (by have := hb.out.size; simp; omega))
      have KS : Hid (∀ j, patch (rSeen m f 0 r) (r * 4) 4 (rsl m (lineF f 0 r) 4).row j = rSeen m f 0 (r + 1) j) := rSeen_patch m f 0 r
      have KM : Hid (rM m f 0 (r + 1) = rM m f 0 r + (rsl m (lineF f 0 r) 4).mg) := rfl
      generalize rsl m (lineF f 0 r) 4 = S at *
      obtain ⟨row, n, mg, op⟩ := S
      simp only [] at n0 n1 KS KM
      clear hb4 hb lg hs4
      generalize rM m f 0 r = M0 at *
      go_wp2_with (first | ((with_reducible show wpList _ _ _ (Oper.mk _ (Op.load 33 _) _ _ _ _ :: _) _ _); refine loadR (Blk.new _ _ _ _) rfl rfl rfl ?_) | ((with_reducible show wpList _ _ _ (Oper.mk _ (Op.store 33 _ _) _ _ _ _ :: _) _ _); refine storePR (kg.alloc _) (by omega) rfl rfl rfl rfl ?_))
      go_roundg g
      case rel =>
        refine ⟨r + 1, by omega, by go_num, by rw [KM.out], ?_, ?_, ?_, ?_⟩
        · exact ((kg.alloc _).row 16 _).congr fun j _ => KS.out j
        · exact (kr.alloc _).rowOther _ _ (by omega)
        · exact (kv.alloc _).rowOther _ _ (by omega)
        · exact below_setRow (HB4.out.alloc HB4.out.size _) (by omega) _
      case measure => omega
set_option maxHeartbeats 1000000 in
theorem slideBy_1 (x : Value) (m : Int → Int → Int) (hx : MergesAs x m) (f : Nat → Int) (w : World) (hf : Vd f) :
    Calls Try.prog 62 #[.agg (mk 16 f), .int .i64 1, .func (.method "loop.example/g01194/impl.merge") #[.iface 112 (.agg #[x])] #[]] w fun e w' => e = .returned (.tuple #[.agg (mk 16 (rB m f 1)), .int .i64 (rM m f 1 4)]) ∧ Below w.heap.size w w' := by
  have z16 := zero16
  have z4 := zero4
  have iG := idxG
  have iV := idxV1
  have sr := World.setRow_alloc_new
  have HV := Lib.hid hf
  have HX := Lib.hid hx
  clear hf hx
  have K1 := (Blk.new w 16 f 37).alloc (.cells (mk 16 fun _ => 0) 37)
  have K2 := Blk.new (w.alloc (.cells (mk 16 f) 37)) 16 (fun _ => 0) 37
  have HB := Lib.hid (((Below.refl w.heap.size w).alloc (Nat.le_refl _) (.cells (mk 16 f) 37)).alloc (by simp) (.cells (mk 16 fun _ => 0) 37))
  simp only [World.size_alloc] at K2
  go_enter Try.func62, Try.ntmps62
  go_wp2_with fail
  refine (views_any _).mono ?_
  rintro e w1 ⟨rfl, hb1⟩
  have k1 := K1.below hb1 (by simp; omega)
  have k2 := K2.below hb1 (by simp)
  have HB1 : Hid (Below w.heap.size w w1) := HB.out.trans (hb1.mono HB.out.size)
  clear hb1 HB K1 K2
  have l2 := k2.lt
  go_wp2_with (first | ((with_reducible show wpList _ _ _ (Oper.mk _ (Op.store 96 _ _) _ _ _ _ :: _) _ _); refine wpList_store_row rfl 96 _ _ rfl _ _ rfl rfl _ _ (heap_alloc_new _ _) sizeVw rfl (by simp [Value.oneCell']) ?_) | ((with_reducible show wpList _ _ _ (Oper.mk _ (Op.load 37 _) _ _ _ _ :: _) _ _); refine loadB (k1.alloc _) rfl rfl rfl ?_))
  refine (there_1 _ _).mono ?_
  rintro e w2 ⟨rfl, hb2⟩
  have k2 := (k2.alloc _).below hb2 (k2.alloc _).lt
  have kv : Oth w2 w1.heap.size #[.func (.func 100) #[] #[], .func (.func 100) #[] #[]] 96 := Oth.below (heap_alloc_new w1 _) hb2 (by simp)
  have HB2 : Hid (Below w.heap.size w w2) := (HB1.out.alloc HB1.out.size _).trans (hb2.mono (by have := HB1.out.size; simp; omega))
  have hs2 : w1.heap.size + 1 ≤ w2.heap.size := by have := hb2.size; simpa using this
  clear hb2 HB1 k1
  have KG := Blk.new w2 16 (viewF f 1) 37
  have HB3 : Hid (Below w.heap.size w (w2.alloc (.cells (mk 16 (viewF f 1)) 37))) := HB2.out.alloc HB2.out.size _
  have KR := k2.alloc (.cells (mk 16 (viewF f 1)) 37)
  have KV := kv.alloc (.cells (mk 16 (viewF f 1)) 37)
  clear k2 kv HB2
  go_wp2_with ((with_reducible show wpList _ _ _ (Oper.mk _ (Op.load 34 _) _ _ _ _ :: _) _ _); refine loadG (KG) rfl rfl rfl ?_)
  generalize w2.alloc (.cells (mk 16 (viewF f 1)) 37) = w3 at *
  go_loopg [24, 10] 4 (fun g s24 s10 wr => ∃ r : Nat, r + g = 4 ∧ s24 = .int .i64 r ∧ s10 = .int .i64 (rM m f 1 r) ∧ Blk wr w2.heap.size 16 (rSeen m f 1 r) 37 ∧ Blk wr (w.heap.size + 1) 16 (fun _ => 0) 37 ∧ Oth wr w1.heap.size #[.func (.func 100) #[] #[], .func (.func 100) #[] #[]] 96 ∧ Hid (Below w.heap.size w wr))
  case atStart => exact ⟨0, by omega, rfl, rfl, KG.congr fun j _ => (rSeen_zero m f 1 j).symm, KR, KV, HB3⟩
  case round =>
    obtain ⟨r, hrg, rfl, rfl, kg, kr, kv, hb⟩ := hrel
    cases gk with
    | zero =>
      have hr : ¬ ((r : Int) < 4) := by omega
      obtain rfl : r = 4 := by omega
      clear hrg hr
      have hv1 : wr.cell? ⟨w1.heap.size, 1, none⟩ = some (.func (.func 100) #[] #[]) := kv.cell 1
      go_wp2_with ((with_reducible show wpList _ _ _ (Oper.mk _ (Op.load 37 _) _ _ _ _ :: _) _ _); refine loadB (kg) rfl rfl rfl ?_)
      refine (back_1 _ _).mono ?_
      rintro e w4 ⟨rfl, hb4⟩
      have kr := kr.below hb4 kr.lt
      have HB4 : Hid (Below w.heap.size w w4) := hb.out.trans (hb4.mono hb.out.size)
      clear hb4 hb hv1 kv kg
      go_wp2_with (first | ((with_reducible show wpList _ _ _ (Oper.mk _ (Op.store 37 _ _) _ _ _ _ :: _) _ _); refine storeB (kr) rfl rfl rfl rfl ?_))
      try simp only [Exit.inBlock, Exit.then]
      refine retctB (kr.row 16 _) rfl rfl rfl ⟨?_, below_setRow HB4.out (by omega) _⟩
      rw [mk_congr (rSeen_back m f 1)]
      rfl
    | succ g =>
      have hr4 : (r : Int) < 4 := by omega
      have hr5 : r < 4 := by omega
      obtain ⟨m0, m1⟩ := rM_bd HX.out.1 HV.out 1 r (by omega)
      have HOK := Lib.hid (rsl_ok HX.out.1 (lineF_vd HV.out 1 hr5) 4 (Nat.le_refl _))
      have n0 := HOK.out.mg0
      have n1 := HOK.out.mg1
      clear HOK
      go_wp2_with ((with_reducible show wpList _ _ _ (Oper.mk _ (Op.load 33 _) _ _ _ _ :: _) _ _); refine loadR (Blk.new _ _ _ _) rfl rfl rfl ?_)
      refine (slideLineBy_any x m HX.out _ _ (viewF_vd HV.out 1 hr5)).mono ?_
      rintro e w4 ⟨rfl, hb4⟩
      rw [rSeen_slid m f 1 r]
      have hs4 := hb4.size
      have lg := (kg.alloc (.cells (mk 4 fun c => viewF f 1 (r * 4 + c)) 33)).lt
      have kg := (kg.alloc _).below hb4 (kg.alloc _).lt
      have kr := (kr.alloc _).below hb4 (kr.alloc _).lt
      have kv := (kv.alloc _).below hb4 (kv.alloc _).lt
      have HB4 : Hid (Below w.heap.size w w4) := (hb.out.alloc hb.out.size _).trans (hb4.mono (by have := hb.out.size; simp; omega))
      have KS : Hid (∀ j, patch (rSeen m f 1 r) (r * 4) 4 (rsl m (lineF f 1 r) 4).row j = rSeen m f 1 (r + 1) j) := rSeen_patch m f 1 r
      have KM : Hid (rM m f 1 (r + 1) = rM m f 1 r + (rsl m (lineF f 1 r) 4).mg) := rfl
      generalize rsl m (lineF f 1 r) 4 = S at *
      obtain ⟨row, n, mg, op⟩ := S
      simp only [] at n0 n1 KS KM
      clear hb4 hb lg hs4
      generalize rM m f 1 r = M0 at *
      go_wp2_with (first | ((with_reducible show wpList _ _ _ (Oper.mk _ (Op.load 33 _) _ _ _ _ :: _) _ _); refine loadR (Blk.new _ _ _ _) rfl rfl rfl ?_) | ((with_reducible show wpList _ _ _ (Oper.mk _ (Op.store 33 _ _) _ _ _ _ :: _) _ _); refine storePR (kg.alloc _) (by omega) rfl rfl rfl rfl ?_))
      go_roundg g
      case rel =>
        refine ⟨r + 1, by omega, by go_num, by rw [KM.out], ?_, ?_, ?_, ?_⟩
        · exact ((kg.alloc _).row 16 _).congr fun j _ => KS.out j
        · exact (kr.alloc _).rowOther _ _ (by omega)
        · exact (kv.alloc _).rowOther _ _ (by omega)
        · exact below_setRow (HB4.out.alloc HB4.out.size _) (by omega) _
      case measure => omega
set_option maxHeartbeats 1000000 in
theorem slideBy_2 (x : Value) (m : Int → Int → Int) (hx : MergesAs x m) (f : Nat → Int) (w : World) (hf : Vd f) :
    Calls Try.prog 62 #[.agg (mk 16 f), .int .i64 2, .func (.method "loop.example/g01194/impl.merge") #[.iface 112 (.agg #[x])] #[]] w fun e w' => e = .returned (.tuple #[.agg (mk 16 (rB m f 2)), .int .i64 (rM m f 2 4)]) ∧ Below w.heap.size w w' := by
  have z16 := zero16
  have z4 := zero4
  have iG := idxG
  have iV := idxV2
  have sr := World.setRow_alloc_new
  have HV := Lib.hid hf
  have HX := Lib.hid hx
  clear hf hx
  have K1 := (Blk.new w 16 f 37).alloc (.cells (mk 16 fun _ => 0) 37)
  have K2 := Blk.new (w.alloc (.cells (mk 16 f) 37)) 16 (fun _ => 0) 37
  have HB := Lib.hid (((Below.refl w.heap.size w).alloc (Nat.le_refl _) (.cells (mk 16 f) 37)).alloc (by simp) (.cells (mk 16 fun _ => 0) 37))
  simp only [World.size_alloc] at K2
  go_enter Try.func62, Try.ntmps62
  go_wp2_with fail
  refine (views_any _).mono ?_
  rintro e w1 ⟨rfl, hb1⟩
  have k1 := K1.below hb1 (by simp; omega)
  have k2 := K2.below hb1 (by simp)
  have HB1 : Hid (Below w.heap.size w w1) := HB.out.trans (hb1.mono HB.out.size)
  clear hb1 HB K1 K2
  have l2 := k2.lt
  go_wp2_with (first | ((with_reducible show wpList _ _ _ (Oper.mk _ (Op.store 96 _ _) _ _ _ _ :: _) _ _); refine wpList_store_row rfl 96 _ _ rfl _ _ rfl rfl _ _ (heap_alloc_new _ _) sizeVw rfl (by simp [Value.oneCell']) ?_) | ((with_reducible show wpList _ _ _ (Oper.mk _ (Op.load 37 _) _ _ _ _ :: _) _ _); refine loadB (k1.alloc _) rfl rfl rfl ?_))
  refine (there_2 _ _).mono ?_
  rintro e w2 ⟨rfl, hb2⟩
  have k2 := (k2.alloc _).below hb2 (k2.alloc _).lt
  have kv : Oth w2 w1.heap.size #[.func (.func 101) #[] #[], .func (.func 101) #[] #[]] 96 := Oth.below (heap_alloc_new w1 _) hb2 (by simp)
  have HB2 : Hid (Below w.heap.size w w2) := (HB1.out.alloc HB1.out.size _).trans (hb2.mono (by have := HB1.out.size; simp; omega))
  have hs2 : w1.heap.size + 1 ≤ w2.heap.size := by have := hb2.size; simpa using this
  clear hb2 HB1 k1
  have KG := Blk.new w2 16 (viewF f 2) 37
  have HB3 : Hid (Below w.heap.size w (w2.alloc (.cells (mk 16 (viewF f 2)) 37))) := HB2.out.alloc HB2.out.size _
  have KR := k2.alloc (.cells (mk 16 (viewF f 2)) 37)
  have KV := kv.alloc (.cells (mk 16 (viewF f 2)) 37)
  clear k2 kv HB2
  go_wp2_with ((with_reducible show wpList _ _ _ (Oper.mk _ (Op.load 34 _) _ _ _ _ :: _) _ _); refine loadG (KG) rfl rfl rfl ?_)
  generalize w2.alloc (.cells (mk 16 (viewF f 2)) 37) = w3 at *
  go_loopg [24, 10] 4 (fun g s24 s10 wr => ∃ r : Nat, r + g = 4 ∧ s24 = .int .i64 r ∧ s10 = .int .i64 (rM m f 2 r) ∧ Blk wr w2.heap.size 16 (rSeen m f 2 r) 37 ∧ Blk wr (w.heap.size + 1) 16 (fun _ => 0) 37 ∧ Oth wr w1.heap.size #[.func (.func 101) #[] #[], .func (.func 101) #[] #[]] 96 ∧ Hid (Below w.heap.size w wr))
  case atStart => exact ⟨0, by omega, rfl, rfl, KG.congr fun j _ => (rSeen_zero m f 2 j).symm, KR, KV, HB3⟩
  case round =>
    obtain ⟨r, hrg, rfl, rfl, kg, kr, kv, hb⟩ := hrel
    cases gk with
    | zero =>
      have hr : ¬ ((r : Int) < 4) := by omega
      obtain rfl : r = 4 := by omega
      clear hrg hr
      have hv1 : wr.cell? ⟨w1.heap.size, 1, none⟩ = some (.func (.func 101) #[] #[]) := kv.cell 1
      go_wp2_with ((with_reducible show wpList _ _ _ (Oper.mk _ (Op.load 37 _) _ _ _ _ :: _) _ _); refine loadB (kg) rfl rfl rfl ?_)
      refine (back_2 _ _).mono ?_
      rintro e w4 ⟨rfl, hb4⟩
      have kr := kr.below hb4 kr.lt
      have HB4 : Hid (Below w.heap.size w w4) := hb.out.trans (hb4.mono hb.out.size)
      clear hb4 hb hv1 kv kg
      go_wp2_with (first | ((with_reducible show wpList _ _ _ (Oper.mk _ (Op.store 37 _ _) _ _ _ _ :: _) _ _); refine storeB (kr) rfl rfl rfl rfl ?_))
      try simp only [Exit.inBlock, Exit.then]
      refine retctB (kr.row 16 _) rfl rfl rfl ⟨?_, below_setRow HB4.out (by omega) _⟩
      rw [mk_congr (rSeen_back m f 2)]
      rfl
    | succ g =>
      have hr4 : (r : Int) < 4 := by omega
      have hr5 : r < 4 := by omega
      obtain ⟨m0, m1⟩ := rM_bd HX.out.1 HV.out 2 r (by omega)
      have HOK := Lib.hid (rsl_ok HX.out.1 (lineF_vd HV.out 2 hr5) 4 (Nat.le_refl _))
      have n0 := HOK.out.mg0
      have n1 := HOK.out.mg1
      clear HOK
      go_wp2_with ((with_reducible show wpList _ _ _ (Oper.mk _ (Op.load 33 _) _ _ _ _ :: _) _ _); refine loadR (Blk.new _ _ _ _) rfl rfl rfl ?_)
      refine (slideLineBy_any x m HX.out _ _ (viewF_vd HV.out 2 hr5)).mono ?_
      rintro e w4 ⟨rfl, hb4⟩
      rw [rSeen_slid m f 2 r]
      have hs4 := hb4.size
      have lg := (kg.alloc (.cells (mk 4 fun c => viewF f 2 (r * 4 + c)) 33)).lt
      have kg := (kg.alloc _).below hb4 (kg.alloc _).lt
      have kr := (kr.alloc _).below hb4 (kr.alloc _).lt
      have kv := (kv.alloc _).below hb4 (kv.alloc _).lt
      have HB4 : Hid (Below w.heap.size w w4) := (hb.out.alloc hb.out.size _).trans (hb4.mono (by have := hb.out.size; simp; omega))
      have KS : Hid (∀ j, patch (rSeen m f 2 r) (r * 4) 4 (rsl m (lineF f 2 r) 4).row j = rSeen m f 2 (r + 1) j) := rSeen_patch m f 2 r
      have KM : Hid (rM m f 2 (r + 1) = rM m f 2 r + (rsl m (lineF f 2 r) 4).mg) := rfl
      generalize rsl m (lineF f 2 r) 4 = S at *
      obtain ⟨row, n, mg, op⟩ := S
      simp only [] at n0 n1 KS KM
      clear hb4 hb lg hs4
      generalize rM m f 2 r = M0 at *
      go_wp2_with (first | ((with_reducible show wpList _ _ _ (Oper.mk _ (Op.load 33 _) _ _ _ _ :: _) _ _); refine loadR (Blk.new _ _ _ _) rfl rfl rfl ?_) | ((with_reducible show wpList _ _ _ (Oper.mk _ (Op.store 33 _ _) _ _ _ _ :: _) _ _); refine storePR (kg.alloc _) (by omega) rfl rfl rfl rfl ?_))
      go_roundg g
      case rel =>
        refine ⟨r + 1, by omega, by go_num, by rw [KM.out], ?_, ?_, ?_, ?_⟩
        · exact ((kg.alloc _).row 16 _).congr fun j _ => KS.out j
        · exact (kr.alloc _).rowOther _ _ (by omega)
        · exact (kv.alloc _).rowOther _ _ (by omega)
        · exact below_setRow (HB4.out.alloc HB4.out.size _) (by omega) _
      case measure => omega
set_option maxHeartbeats 1000000 in
theorem slideBy_3 (x : Value) (m : Int → Int → Int) (hx : MergesAs x m) (f : Nat → Int) (w : World) (hf : Vd f) :
    Calls Try.prog 62 #[.agg (mk 16 f), .int .i64 3, .func (.method "loop.example/g01194/impl.merge") #[.iface 112 (.agg #[x])] #[]] w fun e w' => e = .returned (.tuple #[.agg (mk 16 (rB m f 3)), .int .i64 (rM m f 3 4)]) ∧ Below w.heap.size w w' := by
  have z16 := zero16
  have z4 := zero4
  have iG := idxG
  have iV := idxV3
  have sr := World.setRow_alloc_new
  have HV := Lib.hid hf
  have HX := Lib.hid hx
  clear hf hx
  have K1 := (Blk.new w 16 f 37).alloc (.cells (mk 16 fun _ => 0) 37)
  have K2 := Blk.new (w.alloc (.cells (mk 16 f) 37)) 16 (fun _ => 0) 37
  have HB := Lib.hid (((Below.refl w.heap.size w).alloc (Nat.le_refl _) (.cells (mk 16 f) 37)).alloc (by simp) (.cells (mk 16 fun _ => 0) 37))
  simp only [World.size_alloc] at K2
  go_enter Try.func62, Try.ntmps62
  go_wp2_with fail
  refine (views_any _).mono ?_
  rintro e w1 ⟨rfl, hb1⟩
  have k1 := K1.below hb1 (by simp; omega)
  have k2 := K2.below hb1 (by simp)
  have HB1 : Hid (Below w.heap.size w w1) := HB.out.trans (hb1.mono HB.out.size)
  clear hb1 HB K1 K2
  have l2 := k2.lt
  go_wp2_with (first | ((with_reducible show wpList _ _ _ (Oper.mk _ (Op.store 96 _ _) _ _ _ _ :: _) _ _); refine wpList_store_row rfl 96 _ _ rfl _ _ rfl rfl _ _ (heap_alloc_new _ _) sizeVw rfl (by simp [Value.oneCell']) ?_) | ((with_reducible show wpList _ _ _ (Oper.mk _ (Op.load 37 _) _ _ _ _ :: _) _ _); refine loadB (k1.alloc _) rfl rfl rfl ?_))
  refine (there_3 _ _).mono ?_
  rintro e w2 ⟨rfl, hb2⟩
  have k2 := (k2.alloc _).below hb2 (k2.alloc _).lt
  have kv : Oth w2 w1.heap.size #[.func (.func 102) #[] #[], .func (.func 103) #[] #[]] 96 := Oth.below (heap_alloc_new w1 _) hb2 (by simp)
  have HB2 : Hid (Below w.heap.size w w2) := (HB1.out.alloc HB1.out.size _).trans (hb2.mono (by have := HB1.out.size; simp; omega))
  have hs2 : w1.heap.size + 1 ≤ w2.heap.size := by have := hb2.size; simpa using this
  clear hb2 HB1 k1
  have KG := Blk.new w2 16 (viewF f 3) 37
  have HB3 : Hid (Below w.heap.size w (w2.alloc (.cells (mk 16 (viewF f 3)) 37))) := HB2.out.alloc HB2.out.size _
  have KR := k2.alloc (.cells (mk 16 (viewF f 3)) 37)
  have KV := kv.alloc (.cells (mk 16 (viewF f 3)) 37)
  clear k2 kv HB2
  go_wp2_with ((with_reducible show wpList _ _ _ (Oper.mk _ (Op.load 34 _) _ _ _ _ :: _) _ _); refine loadG (KG) rfl rfl rfl ?_)
  generalize w2.alloc (.cells (mk 16 (viewF f 3)) 37) = w3 at *
  go_loopg [24, 10] 4 (fun g s24 s10 wr => ∃ r : Nat, r + g = 4 ∧ s24 = .int .i64 r ∧ s10 = .int .i64 (rM m f 3 r) ∧ Blk wr w2.heap.size 16 (rSeen m f 3 r) 37 ∧ Blk wr (w.heap.size + 1) 16 (fun _ => 0) 37 ∧ Oth wr w1.heap.size #[.func (.func 102) #[] #[], .func (.func 103) #[] #[]] 96 ∧ Hid (Below w.heap.size w wr))
  case atStart => exact ⟨0, by omega, rfl, rfl, KG.congr fun j _ => (rSeen_zero m f 3 j).symm, KR, KV, HB3⟩
  case round =>
    obtain ⟨r, hrg, rfl, rfl, kg, kr, kv, hb⟩ := hrel
    cases gk with
    | zero =>
      have hr : ¬ ((r : Int) < 4) := by omega
      obtain rfl : r = 4 := by omega
      clear hrg hr
      have hv1 : wr.cell? ⟨w1.heap.size, 1, none⟩ = some (.func (.func 103) #[] #[]) := kv.cell 1
      go_wp2_with ((with_reducible show wpList _ _ _ (Oper.mk _ (Op.load 37 _) _ _ _ _ :: _) _ _); refine loadB (kg) rfl rfl rfl ?_)
      refine (back_3 _ _).mono ?_
      rintro e w4 ⟨rfl, hb4⟩
      have kr := kr.below hb4 kr.lt
      have HB4 : Hid (Below w.heap.size w w4) := hb.out.trans (hb4.mono hb.out.size)
      clear hb4 hb hv1 kv kg
      go_wp2_with (first | ((with_reducible show wpList _ _ _ (Oper.mk _ (Op.store 37 _ _) _ _ _ _ :: _) _ _); refine storeB (kr) rfl rfl rfl rfl ?_))
      try simp only [Exit.inBlock, Exit.then]
      refine retctB (kr.row 16 _) rfl rfl rfl ⟨?_, below_setRow HB4.out (by omega) _⟩
      rw [mk_congr (rSeen_back m f 3)]
      rfl
    | succ g =>
      have hr4 : (r : Int) < 4 := by omega
      have hr5 : r < 4 := by omega
      obtain ⟨m0, m1⟩ := rM_bd HX.out.1 HV.out 3 r (by omega)
      have HOK := Lib.hid (rsl_ok HX.out.1 (lineF_vd HV.out 3 hr5) 4 (Nat.le_refl _))
      have n0 := HOK.out.mg0
      have n1 := HOK.out.mg1
      clear HOK
      go_wp2_with ((with_reducible show wpList _ _ _ (Oper.mk _ (Op.load 33 _) _ _ _ _ :: _) _ _); refine loadR (Blk.new _ _ _ _) rfl rfl rfl ?_)
      refine (slideLineBy_any x m HX.out _ _ (viewF_vd HV.out 3 hr5)).mono ?_
      rintro e w4 ⟨rfl, hb4⟩
      rw [rSeen_slid m f 3 r]
      have hs4 := hb4.size
      have lg := (kg.alloc (.cells (mk 4 fun c => viewF f 3 (r * 4 + c)) 33)).lt
      have kg := (kg.alloc _).below hb4 (kg.alloc _).lt
      have kr := (kr.alloc _).below hb4 (kr.alloc _).lt
      have kv := (kv.alloc _).below hb4 (kv.alloc _).lt
      have HB4 : Hid (Below w.heap.size w w4) := (hb.out.alloc hb.out.size _).trans (hb4.mono (by have := hb.out.size; simp; omega))
      have KS : Hid (∀ j, patch (rSeen m f 3 r) (r * 4) 4 (rsl m (lineF f 3 r) 4).row j = rSeen m f 3 (r + 1) j) := rSeen_patch m f 3 r
      have KM : Hid (rM m f 3 (r + 1) = rM m f 3 r + (rsl m (lineF f 3 r) 4).mg) := rfl
      generalize rsl m (lineF f 3 r) 4 = S at *
      obtain ⟨row, n, mg, op⟩ := S
      simp only [] at n0 n1 KS KM
      clear hb4 hb lg hs4
      generalize rM m f 3 r = M0 at *
      go_wp2_with (first | ((with_reducible show wpList _ _ _ (Oper.mk _ (Op.load 33 _) _ _ _ _ :: _) _ _); refine loadR (Blk.new _ _ _ _) rfl rfl rfl ?_) | ((with_reducible show wpList _ _ _ (Oper.mk _ (Op.store 33 _ _) _ _ _ _ :: _) _ _); refine storePR (kg.alloc _) (by omega) rfl rfl rfl rfl ?_))
      go_roundg g
      case rel =>
        refine ⟨r + 1, by omega, by go_num, by rw [KM.out], ?_, ?_, ?_, ?_⟩
        · exact ((kg.alloc _).row 16 _).congr fun j _ => KS.out j
        · exact (kr.alloc _).rowOther _ _ (by omega)
        · exact (kv.alloc _).rowOther _ _ (by omega)
        · exact below_setRow (HB4.out.alloc HB4.out.size _) (by omega) _
      case measure => omega
theorem slideBy_any (x : Value) (m : Int → Int → Int) (hx : MergesAs x m) (f : Nat → Int) (d : Int) (w : World) (hf : Vd f) (h0 : 0 ≤ d) (h1 : d ≤ 3) :
    Calls Try.prog 62 #[.agg (mk 16 f), .int .i64 d, .func (.method "loop.example/g01194/impl.merge") #[.iface 112 (.agg #[x])] #[]] w fun e w' => e = .returned (.tuple #[.agg (mk 16 (rB m f d.toNat)), .int .i64 (rM m f d.toNat 4)]) ∧ Below w.heap.size w w' := by
  rcases (by omega : d = 0 ∨ d = 1 ∨ d = 2 ∨ d = 3) with rfl | rfl | rfl | rfl
  · exact slideBy_0 x m hx f w hf
  · exact slideBy_1 x m hx f w hf
  · exact slideBy_2 x m hx f w hf
  · exact slideBy_3 x m hx f w hf
end Go.Proofs.Ytblcojacmjbjcaa
