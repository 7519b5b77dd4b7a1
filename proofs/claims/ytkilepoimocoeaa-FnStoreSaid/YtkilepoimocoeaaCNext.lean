/- l3Next: a drawn Kept that may follow. -/
import Derived.Test.YtkilepoimocoeaaCAnyA
import Derived.Test.YtkilepoimocoeaaCopyS
namespace Go.Proofs.Ytkilepoimocoeaa
open Go.RowKit
set_option linter.unusedVariables false
theorem swap5 (w : World) (b : Nat) (o : Obj) (v : Value) (h : b < w.heap.size) : (w.alloc o).setCell ⟨b, 5, none⟩ v = (w.setCell ⟨b, 5, none⟩ v).alloc o := by
  simp [h, go_sem]
section
variable {N : Nat} {a : Option Addr} {len cap : Nat} {zs : List Int} {B : Nat}
set_option maxRecDepth 100000 in
set_option maxHeartbeats 16000000 in
theorem l3Next_any (K0 : Kp) (v0 : Value) (w : World) (c : Cur N a len cap zs B w) (hr : RowE w w.heap.size v0 K0.e) (hd : Bd 101 K0) :
    Calls Try.prog 55 #[.pointer (some ⟨B, 0, none⟩), kpV K0 v0] w fun e w' => DrawK 101 N a len cap zs B w e w' := by
  obtain ⟨a0, c0, rfl, -, -, -⟩ := id hr
  obtain ⟨W, hW, bW, zW, cY, fY, cW, fW⟩ := boxed2 w #[.int .i64 K0.t, .int .i64 K0.v, .int .i64 K0.si, .int .i64 K0.st, .string K0.sd, .slice a0 K0.e.length c0] #[.int .i64 0, .int .i64 0, .int .i64 0, .int .i64 0, .string ⟨#[]⟩, .slice none 0 0] 28 28
  have C := Hid.intro (c.kept (grown_below bW))
  have hBw := c.lt
  have HBW := Hid.intro bW
  have HR := Hid.intro (hr.kept bW)
  have HBD := Hid.intro hd
  clear c hr hd
  go_enter Try.func55, Try.ntmps55
  go_wp2_with fail
  try simp only [hW]
  clear hW bW
  refine (l3Copy_any K0 _ w.heap.size W (by omega) HR.out (by have := HBD.out.e; omega)).mono ?_
  rintro e w1 ⟨v1, rfl, o1, b1⟩
  obtain ⟨a1, c1, rfl⟩ := o1.slice
  have HO := Hid.intro o1
  have HB1 := Hid.intro b1
  have z1 := b1.size
  clear o1 b1 cY fY
  go_upto_region 2 with fail
  obtain ⟨X, hX, bX, zX, dX, eX⟩ := boxed w1 #[.int .i64 K0.t, .int .i64 K0.v, .int .i64 K0.si, .int .i64 K0.st, .string K0.sd, .slice a1 K0.e.length c1] 28
  try simp only [hX]
  have HD : Hid (DK N a len cap zs B w X (w.heap.size + 1) w1.heap.size K0 (.slice a1 K0.e.length c1)) := by
    have r1 : Blk w1 (w.heap.size + 1) #[.int .i64 0, .int .i64 0, .int .i64 0, .int .i64 0, .string ⟨#[]⟩, .slice none 0 0] := (Blk.mk (by omega) cW fW : Blk W _ _).kept HB1.out
    refine ⟨hBw, r1.kept bX, ⟨by omega, dX, eX⟩, by omega, by omega, (HO.out.x.kept bX).lower (by omega), (fun k hk => by have := HO.out.lt k hk; omega), (C.out.kept (grown_below HB1.out)).kept (grown_below bX), ?_⟩
    exact ((Below.any HBW.out : Only (fun k => k = B ∨ w.heap.size ≤ k) w W).trans (Below.any HB1.out)).trans (Below.any bX)
  clear hX bX zX dX eX cW fW HBW HB1 C zW z1 HO HR
  generalize w1.heap.size = b at *
  generalize hK : K0 = K at HD HBD
  clear hK
  go_cut [17] from 9 (fun s wc => ∃ q : Bool, s = .bool q ∧ (q = true → K.t < 100000) ∧ DK N a len cap zs B w wc (w.heap.size + 1) b K (.slice a1 K.e.length c1))
  case first =>
    go_wp2_with fail
    refine (onceC_any 2 X HD.out.cur (by omega) (by omega)).mono ?_
    rintro e w2 ⟨q, rfl, c2, g2⟩
    have HE := Hid.intro (HD.out.step g2 c2)
    clear c2 g2
    cases q with
    | false =>
      go_wp2_with fail
      go_meet
      case rel => exact ⟨false, by first | rfl | simp, (fun h => by cases h), HE.out⟩
    | true =>
      have cx := HE.out.x.cell
      go_wp2_with fail
      go_meet
      case rel => exact ⟨decide (K.t < 100000), by first | rfl | simp, (fun h => by simpa using h), HE.out⟩
  case rest =>
  obtain ⟨q, rfl, hq, hd⟩ := hcut
  replace HD := Hid.intro hd
  clear hd
  go_upto_if 17 with fail
  go_cut [] from 9 (fun wc => ∃ K1 : Kp, K1.e = K.e ∧ Bd 101 K1 ∧ DK N a len cap zs B w wc (w.heap.size + 1) b K1 (.slice a1 K.e.length c1))
  case first =>
    cases q with
    | true =>
      have ht := hq rfl
      have bd := HBD.out
      have t0 := bd.t0
      have cx := HD.out.x.cell
      have fx := HD.out.x.fro
      have HE := Hid.intro (HD.out.setT (K.t + 1))
      clear bd
      go_wp2_with fail
      refine (belowC_any 6 _ HE.out.cur (by omega) (by omega)).mono ?_
      rintro e w3 ⟨y, rfl, y0, y1, c3, g3⟩
      replace HE := Hid.intro (HE.out.step g3 c3)
      replace cx := HE.out.x.cell
      replace fx := HE.out.x.fro
      have HF := Hid.intro (HE.out.setVo (y - 1))
      clear c3 g3
      go_wp2_with fail
      go_meet
      case rel => exact ⟨{ K with t := K.t + 1, v := y - 1 }, rfl, ⟨by have := HBD.out.t0; simp; omega, by simp; omega, by simp; omega, by simp; omega, HBD.out.i0, HBD.out.i1, HBD.out.e, HBD.out.s⟩, HF.out⟩
    | false =>
      have cx := HD.out.x.cell
      have fx := HD.out.x.fro
      by_cases hv : K.v = -1
      · have hv1 : (K.v == -1) = true := by simpa using hv
        go_wp2_with fail
        refine (onceC_any 2 _ HD.out.cur (by omega) (by omega)).mono ?_
        rintro e w3 ⟨p, rfl, c3, g3⟩
        replace HD := Hid.intro (HD.out.step g3 c3)
        clear c3 g3
        cases p with
        | false =>
          go_wp2_with fail
          go_meet
          case rel => exact ⟨_, rfl, HBD.out, HD.out⟩
        | true =>
          go_wp2_with fail
          refine (belowC_any 5 _ HD.out.cur (by omega) (by omega)).mono ?_
          rintro e w4 ⟨y, rfl, y0, y1, c3, g3⟩
          replace HD := Hid.intro (HD.out.step g3 c3)
          replace cx := HD.out.x.cell
          replace fx := HD.out.x.fro
          have HF := Hid.intro (HD.out.setVo y)
          clear c3 g3
          go_wp2_with fail
          go_meet
          case rel => exact ⟨{ K with v := y }, rfl, ⟨HBD.out.t0, HBD.out.t1, by simp; omega, by simp; omega, HBD.out.i0, HBD.out.i1, HBD.out.e, HBD.out.s⟩, HF.out⟩
      · have hv1 : (K.v == -1) = false := by simpa using hv
        go_wp2_with fail
        go_meet
        case rel => exact ⟨_, rfl, HBD.out, HD.out⟩
  case rest =>
  obtain ⟨K1, he, hbd, hd⟩ := hcut
  rw [← he] at hd
  replace HD := Hid.intro hd
  replace HBD := Hid.intro hbd
  clear hd hbd he hq
  generalize hK : K1 = K at HD HBD
  clear hK
  go_upto_region 7 with fail
  go_cut [42] from 9 (fun s wc => ∃ q : Bool, s = .bool q ∧ (q = true → 0 < K.t) ∧ DK N a len cap zs B w wc (w.heap.size + 1) b K (.slice a1 K.e.length c1))
  case first =>
    have cx := HD.out.x.cell
    by_cases h : 0 < K.t
    · go_wp2_with fail
      refine (onceC_any 4 _ HD.out.cur (by omega) (by omega)).mono ?_
      rintro e w3 ⟨q, rfl, c3, g3⟩
      have HE := Hid.intro (HD.out.step g3 c3)
      clear c3 g3
      go_wp2_with fail
      go_meet
      case rel => exact ⟨q, by first | rfl | simp, fun _ => h, HE.out⟩
    · go_wp2_with fail
      go_meet
      case rel => exact ⟨false, by first | rfl | simp, (fun h => by cases h), HD.out⟩
  case rest =>
  obtain ⟨q, rfl, hq, hd⟩ := hcut
  replace HD := Hid.intro hd
  clear hd
  go_upto_if 42 with fail
  go_cut [] from 6 (fun wc => ∃ (K1 : Kp) (v1 : Value), Bd 101 K1 ∧ DK N a len cap zs B w wc (w.heap.size + 1) b K1 (v1))
  case first =>
    cases q with
    | false =>
      go_wp2_with fail
      go_meet
      case rel => exact ⟨_, _, HBD.out, HD.out⟩
    | true =>
      have ht := hq rfl
      have cx := HD.out.x.cell
      have fx := HD.out.x.fro
      have hl : K.e.length ≤ 101 := HBD.out.e
      clear hq
      go_wp2_with fail
      refine (belowC_any ((K.e.length : Int) + 2) _ HD.out.cur (by omega) (by omega)).mono ?_
      rintro e w3 ⟨y, rfl, y0, y1, c3, g3⟩
      replace HD := Hid.intro (HD.out.step g3 c3)
      clear c3 g3 cx fx
      go_upto_region 9 with fail
      go_cut [7] from 50 (fun s wc => ∃ (sb : Nat) (d : ByteArray), s = .pointer (some ⟨sb, 0, none⟩) ∧ d.size ≤ 9 ∧ (b < sb ∧ w.heap.size + 1 < sb ∧ w.heap.size ≤ sb ∧ B < sb) ∧ (∀ k, (Value.slice a1 K.e.length c1).ownBlock = some k → k ≠ sb) ∧ Blk wc sb #[.int .i64 (K.si + (1 + y)), .int .i64 K.t, .string d] ∧ DK N a len cap zs B w wc (w.heap.size + 1) b K (.slice a1 K.e.length c1))
      case first =>
        refine wp_region_held_drew (S := fun w' => (w'.cell? ⟨b, 0, none⟩ = some (.int .i64 K.t) ∧ w'.cell? ⟨b, 2, none⟩ = some (.int .i64 K.si))) (by kernel_rfl) ?hsw3 (fun hHeld => ?_)
        case hsw3 => simp [HD.out.x.cell]
        replace HD := Hid.intro (HD.out.kept (u' := w3.drew) (Below.refl _ _).drew)
        generalize w3.drew = D at HD hHeld ⊢
        refine take1 (i := 0) (d := some 50) (v := ?_) rfl rfl (by kernel_rfl) (by kernel_rfl) (by kernel_rfl) (fun _ _ _ h => h) (Or.inl ⟨by rfl, ?_⟩) (by assumption) ?_
        rotate_left 1
        · intro w hSw
          obtain ⟨e0, e1⟩ := hSw
          go_simp <;> with_reducible rfl
        simp only [Act.put, List.setIfInBounds_toArray]
        try simp only [List.set_cons_succ]
        try simp only [List.set_cons_zero]
        refine take1 (i := 1) (d := some 51) (v := ?_) rfl rfl (by kernel_rfl) (by kernel_rfl) (by kernel_rfl) (fun _ _ _ h => h) (Or.inl ⟨by rfl, ?_⟩) (by assumption) ?_
        rotate_left 1
        · intro w hSw
          obtain ⟨e0, e1⟩ := hSw
          go_simp <;> with_reducible rfl
        simp only [Act.put, List.setIfInBounds_toArray]
        try simp only [List.set_cons_succ]
        try simp only [List.set_cons_zero]
        refine take1 (i := 2) (d := some 52) (v := ?_) rfl rfl (by kernel_rfl) (by kernel_rfl) (by kernel_rfl) (fun _ _ _ h => h) (Or.inl ⟨by rfl, ?_⟩) (by assumption) ?_
        rotate_left 1
        · intro w hSw
          obtain ⟨e0, e1⟩ := hSw
          go_simp <;> with_reducible rfl
        simp only [Act.put, List.setIfInBounds_toArray]
        try simp only [List.set_cons_succ]
        try simp only [List.set_cons_zero]
        refine take1 (i := 3) (d := some 53) (v := ?_) rfl rfl (by kernel_rfl) (by kernel_rfl) (by kernel_rfl) (fun _ _ _ h => h) (Or.inl ⟨by rfl, ?_⟩) (by assumption) ?_
        rotate_left 1
        · intro w hSw
          obtain ⟨e0, e1⟩ := hSw
          go_simp <;> with_reducible rfl
        simp only [Act.put, List.setIfInBounds_toArray]
        try simp only [List.set_cons_succ]
        try simp only [List.set_cons_zero]
        refine take1 (i := 4) (d := some 54) (v := ?_) rfl rfl (by kernel_rfl) (by kernel_rfl) (by kernel_rfl) (fun _ _ _ h => h) (Or.inl ⟨by rfl, ?_⟩) (by assumption) ?_
        rotate_left 1
        · intro w hSw
          obtain ⟨e0, e1⟩ := hSw
          go_simp <;> with_reducible rfl
        simp only [Act.put, List.setIfInBounds_toArray]
        try simp only [List.set_cons_succ]
        try simp only [List.set_cons_zero]
        simp only [wraps_i64 (K.si + (1 + y)) (by have := HBD.out.i0; omega) (by have := HBD.out.i1; omega)]
        refine take1 (i := 5) (d := some 55) (v := ?_) rfl rfl (by kernel_rfl) (by kernel_rfl) (by kernel_rfl) (fun _ _ _ h => h) (Or.inl ⟨by rfl, ?_⟩) (by assumption) ?_
        rotate_left 1
        · intro w hSw
          obtain ⟨e0, e1⟩ := hSw
          go_simp <;> with_reducible rfl
        simp only [Act.put, List.setIfInBounds_toArray]
        try simp only [List.set_cons_succ]
        try simp only [List.set_cons_zero]
        refine take1 (i := 6) (d := some 56) (v := ?_) rfl rfl (by kernel_rfl) (by kernel_rfl) (by kernel_rfl) (fun _ _ _ h => h) (Or.inl ⟨by rfl, ?_⟩) (by assumption) ?_
        rotate_left 1
        · intro w hSw
          obtain ⟨e0, e1⟩ := hSw
          go_simp <;> with_reducible rfl
        simp only [Act.put, List.setIfInBounds_toArray]
        try simp only [List.set_cons_succ]
        try simp only [List.set_cons_zero]
        refine take1 (i := 7) (d := some 57) (v := ?_) rfl rfl (by kernel_rfl) (by kernel_rfl) (by kernel_rfl) (fun _ _ _ h => h) (Or.inl ⟨by rfl, ?_⟩) (by assumption) ?_
        rotate_left 1
        · intro w hSw
          obtain ⟨e0, e1⟩ := hSw
          go_simp <;> with_reducible rfl
        simp only [Act.put, List.setIfInBounds_toArray]
        try simp only [List.set_cons_succ]
        try simp only [List.set_cons_zero]
        refine wpAnyH_ready (rs := [8, 10]) (by kernel_rfl) (by simp) ?_
        refine AllReadyH.cons rfl (fun KK hKK => ?_) (AllReadyH.cons rfl (fun KK hKK => ?_) AllReadyH.nil)
        · skip
          go_simp
          refine (text_any 9 D HD.out.cur (by omega) (by omega)).mono ?_
          rintro e x1 ⟨d, rfl, d0, c1, g1⟩
          replace HD := Hid.intro (HD.out.step g1 c1)
          clear c1 g1
          go_simp
          refine hKK.out _ _ ⟨by have := HD.out.x.cell 0; simpa using this, by have := HD.out.x.cell 2; simpa using this⟩ (fun hHeld2 => ?_)
          clear hKK KK hHeld
          have hHeld := hHeld2
          clear hHeld2
          refine take1 (i := 9) (d := some 59) (v := ?_) rfl rfl (by kernel_rfl) (by kernel_rfl) (by kernel_rfl) (fun _ _ _ h => h) (Or.inl ⟨by rfl, ?_⟩) (by assumption) ?_
          rotate_left 1
          · intro w hSw
            obtain ⟨e0, e1⟩ := hSw
            go_simp <;> with_reducible rfl
          simp only [Act.put, List.setIfInBounds_toArray]
          try simp only [List.set_cons_succ]
          try simp only [List.set_cons_zero]
          refine wpAnyH_ready (rs := [10]) (by kernel_rfl) (by simp) ?_
          refine AllReadyH.cons rfl (fun KK hKK => ?_) AllReadyH.nil
          go_simp
          have HX := HD
          obtain ⟨X9, hX9, bX9, zX9, dX9, eX9⟩ := boxed x1 #[.int .i64 0, .int .i64 0, .string ⟨#[]⟩] 25
          simp only [hX9]
          have HS9 : Hid (Blk X9 x1.heap.size #[.int .i64 0, .int .i64 0, .string ⟨#[]⟩]) := ⟨by omega, dX9, eX9⟩
          replace HD := Hid.intro (HD.out.kept bX9)
          have hsz : b < x1.heap.size ∧ w.heap.size + 1 < x1.heap.size ∧ w.heap.size ≤ x1.heap.size ∧ B < x1.heap.size := ⟨HX.out.x.hi, HX.out.r.hi, HX.out.o.size, HX.out.cur.lt⟩
          have hsn : ∀ k, (Value.slice a1 K.e.length c1).ownBlock = some k → k ≠ x1.heap.size := (fun k hk => by have := (HX.out.own.lt k hk).2; omega)
          clear hX9 bX9 zX9 dX9 eX9
          generalize x1.heap.size = sb at *
          refine hKK.out _ _ ⟨by have := HD.out.x.cell 0; simpa using this, by have := HD.out.x.cell 2; simpa using this⟩ (fun hHeld2 => ?_)
          clear hKK KK hHeld
          have hHeld := hHeld2
          clear hHeld2
          refine wpAnyH_ready (rs := [11]) (by kernel_rfl) (by simp) ?_
          refine AllReadyH.cons rfl (fun KK hKK => ?_) AllReadyH.nil
          have cs := HS9.out.cell
          have fs := HS9.out.fro
          have hT : Hid (Blk (((X9.setCell ⟨sb, 0, none⟩ (.int .i64 (K.si + (1 + y)))).setCell ⟨sb, 1, none⟩ (.int .i64 K.t)).setCell ⟨sb, 2, none⟩ (.string d)) sb #[.int .i64 (K.si + (1 + y)), .int .i64 K.t, .string d]) := by
            have := ((HS9.out.set 0 (by simp) (.int .i64 (K.si + (1 + y)))).set 1 (by simp) (.int .i64 K.t)).set 2 (by simp) (.string d)
            exact Hid.intro (by simpa using this)
          have hO : Hid (Only (fun k => k = sb) X9 (((X9.setCell ⟨sb, 0, none⟩ (.int .i64 (K.si + (1 + y)))).setCell ⟨sb, 1, none⟩ (.int .i64 K.t)).setCell ⟨sb, 2, none⟩ (.string d))) := by
            repeat (refine Only.setCell ?_ (by simp) _)
            exact Only.refl _ _
          go_simp
          generalize ((X9.setCell ⟨sb, 0, none⟩ (.int .i64 (K.si + (1 + y)))).setCell ⟨sb, 1, none⟩ (.int .i64 K.t)).setCell ⟨sb, 2, none⟩ (.string d) = T9 at hT hO ⊢
          replace HD := Hid.intro (HD.out.aside hO.out (by omega) (by omega) (by omega) (by omega) hsn)
          refine hKK.out _ _ ⟨by have := HD.out.x.cell 0; simpa using this, by have := HD.out.x.cell 2; simpa using this⟩ (fun hHeld2 => ?_)
          clear hKK KK hHeld hHeld2 cs fs hO HS9
          refine wpAnyH_done (by kernel_rfl) ?_ _
          try go_wp2_with fail
          go_meet
          case rel => exact ⟨sb, d, rfl, by omega, hsz, hsn, hT.out, HD.out⟩
        · skip
          go_simp
          have HX := HD
          obtain ⟨X9, hX9, bX9, zX9, dX9, eX9⟩ := boxed D #[.int .i64 0, .int .i64 0, .string ⟨#[]⟩] 25
          simp only [hX9]
          have HS9 : Hid (Blk X9 D.heap.size #[.int .i64 0, .int .i64 0, .string ⟨#[]⟩]) := ⟨by omega, dX9, eX9⟩
          replace HD := Hid.intro (HD.out.kept bX9)
          have hsz : b < D.heap.size ∧ w.heap.size + 1 < D.heap.size ∧ w.heap.size ≤ D.heap.size ∧ B < D.heap.size := ⟨HX.out.x.hi, HX.out.r.hi, HX.out.o.size, HX.out.cur.lt⟩
          have hsn : ∀ k, (Value.slice a1 K.e.length c1).ownBlock = some k → k ≠ D.heap.size := (fun k hk => by have := (HX.out.own.lt k hk).2; omega)
          clear hX9 bX9 zX9 dX9 eX9
          generalize D.heap.size = sb at *
          refine hKK.out _ _ ⟨by have := HD.out.x.cell 0; simpa using this, by have := HD.out.x.cell 2; simpa using this⟩ (fun hHeld2 => ?_)
          clear hKK KK hHeld
          have hHeld := hHeld2
          clear hHeld2
          refine wpAnyH_ready (rs := [8]) (by kernel_rfl) (by simp) ?_
          refine AllReadyH.cons rfl (fun KK hKK => ?_) AllReadyH.nil
          go_simp
          refine (text_any 9 X9 HD.out.cur (by omega) (by omega)).mono ?_
          rintro e x1 ⟨d, rfl, d0, c1, g1⟩
          replace HD := Hid.intro (HD.out.step g1 c1)
          replace HS9 := Hid.intro (HS9.out.only (grown_only g1) (by simp; omega))
          clear c1 g1
          go_simp
          refine hKK.out _ _ ⟨by have := HD.out.x.cell 0; simpa using this, by have := HD.out.x.cell 2; simpa using this⟩ (fun hHeld2 => ?_)
          clear hKK KK hHeld
          have hHeld := hHeld2
          clear hHeld2
          refine take1 (i := 9) (d := some 59) (v := ?_) rfl rfl (by kernel_rfl) (by kernel_rfl) (by kernel_rfl) (fun _ _ _ h => h) (Or.inl ⟨by rfl, ?_⟩) (by assumption) ?_
          rotate_left 1
          · intro w hSw
            obtain ⟨e0, e1⟩ := hSw
            go_simp <;> with_reducible rfl
          simp only [Act.put, List.setIfInBounds_toArray]
          try simp only [List.set_cons_succ]
          try simp only [List.set_cons_zero]
          refine wpAnyH_ready (rs := [11]) (by kernel_rfl) (by simp) ?_
          refine AllReadyH.cons rfl (fun KK hKK => ?_) AllReadyH.nil
          have cs := HS9.out.cell
          have fs := HS9.out.fro
          have hT : Hid (Blk (((x1.setCell ⟨sb, 0, none⟩ (.int .i64 (K.si + (1 + y)))).setCell ⟨sb, 1, none⟩ (.int .i64 K.t)).setCell ⟨sb, 2, none⟩ (.string d)) sb #[.int .i64 (K.si + (1 + y)), .int .i64 K.t, .string d]) := by
            have := ((HS9.out.set 0 (by simp) (.int .i64 (K.si + (1 + y)))).set 1 (by simp) (.int .i64 K.t)).set 2 (by simp) (.string d)
            exact Hid.intro (by simpa using this)
          have hO : Hid (Only (fun k => k = sb) x1 (((x1.setCell ⟨sb, 0, none⟩ (.int .i64 (K.si + (1 + y)))).setCell ⟨sb, 1, none⟩ (.int .i64 K.t)).setCell ⟨sb, 2, none⟩ (.string d))) := by
            repeat (refine Only.setCell ?_ (by simp) _)
            exact Only.refl _ _
          go_simp
          generalize ((x1.setCell ⟨sb, 0, none⟩ (.int .i64 (K.si + (1 + y)))).setCell ⟨sb, 1, none⟩ (.int .i64 K.t)).setCell ⟨sb, 2, none⟩ (.string d) = T9 at hT hO ⊢
          replace HD := Hid.intro (HD.out.aside hO.out (by omega) (by omega) (by omega) (by omega) hsn)
          refine hKK.out _ _ ⟨by have := HD.out.x.cell 0; simpa using this, by have := HD.out.x.cell 2; simpa using this⟩ (fun hHeld2 => ?_)
          clear hKK KK hHeld hHeld2 cs fs hO HS9
          refine wpAnyH_done (by kernel_rfl) ?_ _
          try go_wp2_with fail
          go_meet
          case rel => exact ⟨sb, d, rfl, by omega, hsz, hsn, hT.out, HD.out⟩
      case rest =>
      obtain ⟨sb, d, rfl, hdz, hsz, hsn, hT', hd⟩ := hcut
      have hT := Hid.intro hT'
      replace HD := Hid.intro hd
      clear hd hT'
      obtain ⟨m, rfl⟩ := Int.eq_ofNat_of_zero_le y0
      have bi0 := HBD.out.i0
      have bi1 := HBD.out.i1
      by_cases hle : (m : Int) < (K.e.length : Int)
      · have hml : m < K.e.length := by omega
        have hrow := HD.out.own.rowAll
        obtain ⟨a3, c3, hv3, hlc, hcm, hcell⟩ := hrow
        obtain ⟨g, o, rfl, hgl, hcs⟩ := hcell (by intro h; rw [h] at hml; simp at hml)
        simp only [Value.slice.injEq, true_and] at hv3
        obtain ⟨rfl, rfl⟩ := hv3
        obtain ⟨hc0, _⟩ := hcs m hml
        generalize hem : K.e[m] = em at hc0
        have cx := HD.out.x.cell
        have fx := HD.out.x.fro
        have cs := hT.out.cell
        have fs := hT.out.fro
        have hgs : g ≠ sb := hsn g rfl
        have hgb : g ≠ b := (HD.out.ne g rfl).1
        have hgq : g ≠ w.heap.size + 1 := (HD.out.ne g rfl).2
        have hbs : b ≠ sb := by omega
        have j1 : (1 : Int) + (m : Int) ≤ (K.e.length : Int) := by omega
        have j2 : (1 : Int) + (m : Int) ≤ (c1 : Int) := by omega
        have HD1 := Hid.intro (HD.out.aside (only_set _ sb 1 (.int .i64 em.t)) hsz.1 hsz.2.1 hsz.2.2.1 hsz.2.2.2 hsn)
        have HD2 := Hid.intro (HD1.out.setE _ (HD1.out.own.cut (1 + m) (by omega)) (by intro k hk; split at hk <;> simp only [Value.ownBlock, Option.some.injEq] at hk <;> omega))
        have hT2 : Hid (Blk ((wc.setCell ⟨sb, 1, none⟩ (.int .i64 em.t)).setCell ⟨b, 5, none⟩ (.slice (if c1 = 1 + m then some ⟨g, o, none⟩ else some ⟨g, o + (1 + m) * 2, none⟩) (K.e.length - (1 + m)) (c1 - (1 + m)))) sb #[.int .i64 (K.si + (1 + (m : Int))), .int .i64 em.t, .string d]) := by
          have h1 := (hT.out.set 1 (by simp) (.int .i64 em.t)).only (only_set _ b 5 (.slice (if c1 = 1 + m then some ⟨g, o, none⟩ else some ⟨g, o + (1 + m) * 2, none⟩) (K.e.length - (1 + m)) (c1 - (1 + m)))) (by omega)
          exact Hid.intro (by simpa using h1)
        clear hcs hcell
        go_upto_region 14 with fail
        have hLL : Hid ((K.e.drop (1 + m)).length ≤ 101) := by unfold Hid; simp; omega
        generalize (wc.setCell ⟨sb, 1, none⟩ (.int .i64 em.t)).setCell ⟨b, 5, none⟩ (.slice (if c1 = 1 + m then some ⟨g, o, none⟩ else some ⟨g, o + (1 + m) * 2, none⟩) (K.e.length - (1 + m)) (c1 - (1 + m))) = T5 at HD2 hT2 ⊢
        generalize (if c1 = 1 + m then some (⟨g, o, none⟩ : Addr) else some ⟨g, o + (1 + m) * 2, none⟩) = va at HD2 ⊢
        replace cx := HD2.out.x.cell
        replace fx := HD2.out.x.fro
        replace cs := hT2.out.cell
        replace fs := hT2.out.fro
        clear hc0 HD1 HD hT
        by_cases hi : K.si + (1 + (m : Int)) ≤ 100000
        · have HF := Hid.intro (HD2.out.setSnap (K.si + (1 + (m : Int))) em.t d)
          go_wp2_with fail
          go_meet
          case rel =>
            refine ⟨_, _, ?_, HF.out⟩
            exact ⟨HBD.out.t0, HBD.out.t1, HBD.out.v0, HBD.out.v1, by simp; omega, by simp; omega, hLL.out, by simp; omega⟩
        · go_wp2_with fail
          go_meet
          case rel =>
            refine ⟨_, _, ?_, HD2.out⟩
            exact ⟨HBD.out.t0, HBD.out.t1, HBD.out.v0, HBD.out.v1, bi0, bi1, hLL.out, HBD.out.s⟩
      · have cx := HD.out.x.cell
        have fx := HD.out.x.fro
        have cs := hT.out.cell
        have fs := hT.out.fro
        have hbs : b ≠ sb := by omega
        have j1 : ¬ (1 : Int) + (m : Int) ≤ (K.e.length : Int) := by omega
        have hxi := HD.out.x.hi
        have hri := HD.out.r.hi
        have hwo : w.heap.size ≤ wc.heap.size := HD.out.o.size
        have HD1 := Hid.intro (HD.out.kept ((Below.refl wc.heap.size wc).alloc (Nat.le_refl _) (.cells #[] 96)))
        have HD2 := Hid.intro (HD1.out.setE [] (made0 wc w.heap.size hwo).x (by intro k hk; simp only [Value.ownBlock, Option.some.injEq] at hk; omega))
        have hT2 := Hid.intro ((hT.out.kept ((Below.refl wc.heap.size wc).alloc (Nat.le_refl _) (.cells #[] 96))).only (only_set _ b 5 (.slice (some ⟨wc.heap.size, 0, none⟩) 0 0)) (by omega))
        go_upto_region 14 with fail
        have hsw := swap5 wc b (.cells #[] 96) (.slice (some ⟨wc.heap.size, 0, none⟩) 0 0) hxi
        rw [hsw] at HD2 hT2
        generalize (wc.setCell ⟨b, 5, none⟩ (.slice (some ⟨wc.heap.size, 0, none⟩) 0 0)).alloc (.cells #[] 96) = T5 at HD2 hT2 ⊢
        replace cx := HD2.out.x.cell
        replace fx := HD2.out.x.fro
        replace cs := hT2.out.cell
        replace fs := hT2.out.fro
        clear HD1 HD hT
        by_cases hi : K.si + (1 + (m : Int)) ≤ 100000
        · have HF := Hid.intro (HD2.out.setSnap (K.si + (1 + (m : Int))) K.t d)
          go_wp2_with fail
          go_meet
          case rel =>
            refine ⟨_, _, ?_, HF.out⟩
            exact ⟨HBD.out.t0, HBD.out.t1, HBD.out.v0, HBD.out.v1, by simp; omega, by simp; omega, by simp, by simp; omega⟩
        · go_wp2_with fail
          go_meet
          case rel =>
            refine ⟨_, _, ?_, HD2.out⟩
            exact ⟨HBD.out.t0, HBD.out.t1, HBD.out.v0, HBD.out.v1, bi0, bi1, by simp, HBD.out.s⟩
  case rest =>
  obtain ⟨K1, v1, hbd, hd⟩ := hcut
  obtain ⟨a2, c2, rfl⟩ := hd.own.slice
  replace HD := Hid.intro hd
  replace HBD := Hid.intro hbd
  clear hd hbd hq
  generalize hK : K1 = K at HD HBD
  clear hK
  go_wp2_with fail
  refine (onceC_any 3 _ HD.out.cur (by omega) (by omega)).mono ?_
  rintro e w3 ⟨q, rfl, c3, g3⟩
  replace HD := Hid.intro (HD.out.step g3 c3)
  clear c3 g3
  go_upto_if 86 with fail
  go_cut [] from 6 (fun wc => ∃ (K1 : Kp) (v1 : Value), Bd 101 K1 ∧ DK N a len cap zs B w wc (w.heap.size + 1) b K1 v1)
  case first =>
    cases q with
    | false =>
      go_wp2_with fail
      go_meet
      case rel => exact ⟨_, _, HBD.out, HD.out⟩
    | true =>
      have hl : K.e.length ≤ 101 := HBD.out.e
      rcases HD.out.own with ⟨hv, hn⟩ | ⟨g, o, cc, cur, hv, -, -, hcc, -⟩
      · simp only [Value.slice.injEq] at hv
        obtain ⟨rfl, -, rfl⟩ := hv
        rw [hn] at HD
        simp only [List.length_nil] at HD
        go_upto_region 17 with fail
        refine wp_region_held_drew (S := fun w' => w'.cell? ⟨b, 0, none⟩ = some (.int .i64 K.t) ∧ w'.cell? ⟨b, 1, none⟩ = some (.int .i64 K.v)) (by kernel_rfl) ?hsw3 (fun hHeld => ?_)
        case hsw3 => simp [HD.out.x.cell]
        replace HD := Hid.intro (HD.out.kept (u' := w3.drew) (Below.refl _ _).drew)
        generalize w3.drew = D at HD hHeld ⊢
        refine take1 (i := 0) (d := some 87) (v := ?_) rfl rfl (by kernel_rfl) (by kernel_rfl) (by kernel_rfl) (fun _ _ _ h => h) (Or.inl ⟨by rfl, ?_⟩) (by assumption) ?_
        rotate_left 1
        · intro w hSw
          obtain ⟨e0, e1⟩ := hSw
          go_simp <;> with_reducible rfl
        simp only [Act.put, List.setIfInBounds_toArray]
        try simp only [List.set_cons_succ]
        try simp only [List.set_cons_zero]
        refine take1 (i := 2) (d := some 89) (v := ?_) rfl rfl (by kernel_rfl) (by kernel_rfl) (by kernel_rfl) (fun _ _ _ h => h) (Or.inl ⟨by rfl, ?_⟩) (by assumption) ?_
        rotate_left 1
        · intro w hSw
          obtain ⟨e0, e1⟩ := hSw
          go_simp <;> with_reducible rfl
        simp only [Act.put, List.setIfInBounds_toArray]
        try simp only [List.set_cons_succ]
        try simp only [List.set_cons_zero]
        refine take1 (i := 3) (d := some 90) (v := ?_) rfl rfl (by kernel_rfl) (by kernel_rfl) (by kernel_rfl) (fun _ _ _ h => h) (Or.inl ⟨by rfl, ?_⟩) (by assumption) ?_
        rotate_left 1
        · intro w hSw
          obtain ⟨e0, e1⟩ := hSw
          go_simp <;> with_reducible rfl
        simp only [Act.put, List.setIfInBounds_toArray]
        try simp only [List.set_cons_succ]
        try simp only [List.set_cons_zero]
        refine wpAnyH_ready (rs := [1, 4]) (by kernel_rfl) (by simp) ?_
        refine AllReadyH.cons rfl (fun KK hKK => ?_) (AllReadyH.cons rfl (fun KK hKK => ?_) AllReadyH.nil)
        · skip
          have cx := HD.out.x.cell
          go_simp
          refine hKK.out _ _ ⟨by have := HD.out.x.cell 0; simpa using this, by have := HD.out.x.cell 1; simpa using this⟩ (fun hHeld2 => ?_)
          clear cx
          clear hKK KK hHeld
          have hHeld := hHeld2
          clear hHeld2
          refine wpAnyH_ready (rs := [4]) (by kernel_rfl) (by simp) ?_
          refine AllReadyH.cons rfl (fun KK hKK => ?_) AllReadyH.nil
          have cx := HD.out.x.cell
          go_simp
          refine hKK.out _ _ ⟨by have := HD.out.x.cell 0; simpa using this, by have := HD.out.x.cell 1; simpa using this⟩ (fun hHeld2 => ?_)
          clear cx
          clear hKK KK hHeld
          have hHeld := hHeld2
          clear hHeld2
          refine take1 (i := 5) (d := some 92) (v := ?_) rfl rfl (by kernel_rfl) (by kernel_rfl) (by kernel_rfl) (fun _ _ _ h => h) (Or.inl ⟨by rfl, ?_⟩) (by assumption) ?_
          rotate_left 1
          · intro w hSw
            obtain ⟨e0, e1⟩ := hSw
            go_simp <;> with_reducible rfl
          simp only [Act.put, List.setIfInBounds_toArray]
          try simp only [List.set_cons_succ]
          try simp only [List.set_cons_zero]
          refine take1 (i := 6) (d := some 93) (v := ?_) rfl rfl (by kernel_rfl) (by kernel_rfl) (by kernel_rfl) (fun _ _ _ h => h) (Or.inl ⟨by rfl, ?_⟩) (by assumption) ?_
          rotate_left 1
          · intro w hSw
            obtain ⟨e0, e1⟩ := hSw
            go_simp <;> with_reducible rfl
          simp only [Act.put, List.setIfInBounds_toArray]
          try simp only [List.set_cons_succ]
          try simp only [List.set_cons_zero]
          try simp only [wraps_i64 (1 : Int) (by omega) (by omega)]
          refine wpAnyH_ready (rs := [7]) (by kernel_rfl) (by simp) ?_
          refine AllReadyH.cons rfl (fun KK hKK => ?_) AllReadyH.nil
          go_simp
          refine (belowC_any (1 : Int) D HD.out.cur (by omega) (by omega)).mono ?_
          rintro e x1 ⟨y, rfl, y0, y1, c1, g1⟩
          replace HD := Hid.intro (HD.out.step g1 c1)
          clear c1 g1
          go_simp
          refine hKK.out _ _ ⟨by have := HD.out.x.cell 0; simpa using this, by have := HD.out.x.cell 1; simpa using this⟩ (fun hHeld2 => ?_)
          clear hKK KK hHeld
          have hHeld := hHeld2
          clear hHeld2
          obtain rfl : y = 0 := by omega
          refine wpAnyH_ready (rs := [8]) (by kernel_rfl) (by simp) ?_
          refine AllReadyH.cons rfl (fun KK hKK => ?_) AllReadyH.nil
          go_simp
          refine hKK.out _ _ ⟨by have := HD.out.x.cell 0; simpa using this, by have := HD.out.x.cell 1; simpa using this⟩ (fun hHeld2 => ?_)
          clear hKK KK hHeld
          have hHeld := hHeld2
          clear hHeld2
          refine take1 (i := 9) (d := some 96) (v := ?_) rfl rfl (by kernel_rfl) (by kernel_rfl) (by kernel_rfl) (fun _ _ _ h => h) (Or.inl ⟨by rfl, ?_⟩) (by assumption) ?_
          rotate_left 1
          · intro w hSw
            obtain ⟨e0, e1⟩ := hSw
            go_simp <;> with_reducible rfl
          simp only [Act.put, List.setIfInBounds_toArray]
          try simp only [List.set_cons_succ]
          try simp only [List.set_cons_zero]
          refine wpAnyH_ready (rs := [10]) (by kernel_rfl) (by simp) ?_
          refine AllReadyH.cons rfl (fun KK hKK => ?_) AllReadyH.nil
          have cx := HD.out.x.cell
          have fx := HD.out.x.fro
          have HD5 := Hid.intro (HD.out.setE [] (OwnX.nil _ _) (by intro k hk; cases hk))
          go_simp
          refine hKK.out _ _ ⟨by have := HD5.out.x.cell 0; simpa using this, by have := HD5.out.x.cell 1; simpa using this⟩ (fun hHeld2 => ?_)
          clear hKK KK hHeld hHeld2 cx fx HD
          refine wpAnyH_done (by kernel_rfl) ?_ _
          try go_wp2_with fail
          go_meet
          case rel =>
            refine ⟨_, _, ?_, HD5.out⟩
            exact ⟨HBD.out.t0, HBD.out.t1, HBD.out.v0, HBD.out.v1, HBD.out.i0, HBD.out.i1, by simp, HBD.out.s⟩
        · skip
          have cx := HD.out.x.cell
          go_simp
          refine hKK.out _ _ ⟨by have := HD.out.x.cell 0; simpa using this, by have := HD.out.x.cell 1; simpa using this⟩ (fun hHeld2 => ?_)
          clear cx
          clear hKK KK hHeld
          have hHeld := hHeld2
          clear hHeld2
          refine take1 (i := 5) (d := some 92) (v := ?_) rfl rfl (by kernel_rfl) (by kernel_rfl) (by kernel_rfl) (fun _ _ _ h => h) (Or.inl ⟨by rfl, ?_⟩) (by assumption) ?_
          rotate_left 1
          · intro w hSw
            obtain ⟨e0, e1⟩ := hSw
            go_simp <;> with_reducible rfl
          simp only [Act.put, List.setIfInBounds_toArray]
          try simp only [List.set_cons_succ]
          try simp only [List.set_cons_zero]
          refine take1 (i := 6) (d := some 93) (v := ?_) rfl rfl (by kernel_rfl) (by kernel_rfl) (by kernel_rfl) (fun _ _ _ h => h) (Or.inl ⟨by rfl, ?_⟩) (by assumption) ?_
          rotate_left 1
          · intro w hSw
            obtain ⟨e0, e1⟩ := hSw
            go_simp <;> with_reducible rfl
          simp only [Act.put, List.setIfInBounds_toArray]
          try simp only [List.set_cons_succ]
          try simp only [List.set_cons_zero]
          try simp only [wraps_i64 (1 : Int) (by omega) (by omega)]
          refine wpAnyH_ready (rs := [1, 7]) (by kernel_rfl) (by simp) ?_
          refine AllReadyH.cons rfl (fun KK hKK => ?_) (AllReadyH.cons rfl (fun KK hKK => ?_) AllReadyH.nil)
          · skip
            have cx := HD.out.x.cell
            go_simp
            refine hKK.out _ _ ⟨by have := HD.out.x.cell 0; simpa using this, by have := HD.out.x.cell 1; simpa using this⟩ (fun hHeld2 => ?_)
            clear cx
            clear hKK KK hHeld
            have hHeld := hHeld2
            clear hHeld2
            refine wpAnyH_ready (rs := [7]) (by kernel_rfl) (by simp) ?_
            refine AllReadyH.cons rfl (fun KK hKK => ?_) AllReadyH.nil
            go_simp
            refine (belowC_any (1 : Int) D HD.out.cur (by omega) (by omega)).mono ?_
            rintro e x1 ⟨y, rfl, y0, y1, c1, g1⟩
            replace HD := Hid.intro (HD.out.step g1 c1)
            clear c1 g1
            go_simp
            refine hKK.out _ _ ⟨by have := HD.out.x.cell 0; simpa using this, by have := HD.out.x.cell 1; simpa using this⟩ (fun hHeld2 => ?_)
            clear hKK KK hHeld
            have hHeld := hHeld2
            clear hHeld2
            obtain rfl : y = 0 := by omega
            refine wpAnyH_ready (rs := [8]) (by kernel_rfl) (by simp) ?_
            refine AllReadyH.cons rfl (fun KK hKK => ?_) AllReadyH.nil
            go_simp
            refine hKK.out _ _ ⟨by have := HD.out.x.cell 0; simpa using this, by have := HD.out.x.cell 1; simpa using this⟩ (fun hHeld2 => ?_)
            clear hKK KK hHeld
            have hHeld := hHeld2
            clear hHeld2
            refine take1 (i := 9) (d := some 96) (v := ?_) rfl rfl (by kernel_rfl) (by kernel_rfl) (by kernel_rfl) (fun _ _ _ h => h) (Or.inl ⟨by rfl, ?_⟩) (by assumption) ?_
            rotate_left 1
            · intro w hSw
              obtain ⟨e0, e1⟩ := hSw
              go_simp <;> with_reducible rfl
            simp only [Act.put, List.setIfInBounds_toArray]
            try simp only [List.set_cons_succ]
            try simp only [List.set_cons_zero]
            refine wpAnyH_ready (rs := [10]) (by kernel_rfl) (by simp) ?_
            refine AllReadyH.cons rfl (fun KK hKK => ?_) AllReadyH.nil
            have cx := HD.out.x.cell
            have fx := HD.out.x.fro
            have HD5 := Hid.intro (HD.out.setE [] (OwnX.nil _ _) (by intro k hk; cases hk))
            go_simp
            refine hKK.out _ _ ⟨by have := HD5.out.x.cell 0; simpa using this, by have := HD5.out.x.cell 1; simpa using this⟩ (fun hHeld2 => ?_)
            clear hKK KK hHeld hHeld2 cx fx HD
            refine wpAnyH_done (by kernel_rfl) ?_ _
            try go_wp2_with fail
            go_meet
            case rel =>
              refine ⟨_, _, ?_, HD5.out⟩
              exact ⟨HBD.out.t0, HBD.out.t1, HBD.out.v0, HBD.out.v1, HBD.out.i0, HBD.out.i1, by simp, HBD.out.s⟩
          · skip
            go_simp
            refine (belowC_any (1 : Int) D HD.out.cur (by omega) (by omega)).mono ?_
            rintro e x1 ⟨y, rfl, y0, y1, c1, g1⟩
            replace HD := Hid.intro (HD.out.step g1 c1)
            clear c1 g1
            go_simp
            refine hKK.out _ _ ⟨by have := HD.out.x.cell 0; simpa using this, by have := HD.out.x.cell 1; simpa using this⟩ (fun hHeld2 => ?_)
            clear hKK KK hHeld
            have hHeld := hHeld2
            clear hHeld2
            refine wpAnyH_ready (rs := [1]) (by kernel_rfl) (by simp) ?_
            refine AllReadyH.cons rfl (fun KK hKK => ?_) AllReadyH.nil
            have cx := HD.out.x.cell
            go_simp
            refine hKK.out _ _ ⟨by have := HD.out.x.cell 0; simpa using this, by have := HD.out.x.cell 1; simpa using this⟩ (fun hHeld2 => ?_)
            clear cx
            clear hKK KK hHeld
            have hHeld := hHeld2
            clear hHeld2
            obtain rfl : y = 0 := by omega
            refine wpAnyH_ready (rs := [8]) (by kernel_rfl) (by simp) ?_
            refine AllReadyH.cons rfl (fun KK hKK => ?_) AllReadyH.nil
            go_simp
            refine hKK.out _ _ ⟨by have := HD.out.x.cell 0; simpa using this, by have := HD.out.x.cell 1; simpa using this⟩ (fun hHeld2 => ?_)
            clear hKK KK hHeld
            have hHeld := hHeld2
            clear hHeld2
            refine take1 (i := 9) (d := some 96) (v := ?_) rfl rfl (by kernel_rfl) (by kernel_rfl) (by kernel_rfl) (fun _ _ _ h => h) (Or.inl ⟨by rfl, ?_⟩) (by assumption) ?_
            rotate_left 1
            · intro w hSw
              obtain ⟨e0, e1⟩ := hSw
              go_simp <;> with_reducible rfl
            simp only [Act.put, List.setIfInBounds_toArray]
            try simp only [List.set_cons_succ]
            try simp only [List.set_cons_zero]
            refine wpAnyH_ready (rs := [10]) (by kernel_rfl) (by simp) ?_
            refine AllReadyH.cons rfl (fun KK hKK => ?_) AllReadyH.nil
            have cx := HD.out.x.cell
            have fx := HD.out.x.fro
            have HD5 := Hid.intro (HD.out.setE [] (OwnX.nil _ _) (by intro k hk; cases hk))
            go_simp
            refine hKK.out _ _ ⟨by have := HD5.out.x.cell 0; simpa using this, by have := HD5.out.x.cell 1; simpa using this⟩ (fun hHeld2 => ?_)
            clear hKK KK hHeld hHeld2 cx fx HD
            refine wpAnyH_done (by kernel_rfl) ?_ _
            try go_wp2_with fail
            go_meet
            case rel =>
              refine ⟨_, _, ?_, HD5.out⟩
              exact ⟨HBD.out.t0, HBD.out.t1, HBD.out.v0, HBD.out.v1, HBD.out.i0, HBD.out.i1, by simp, HBD.out.s⟩
      · simp only [Value.slice.injEq, true_and] at hv
        obtain ⟨rfl, rfl⟩ := hv
        go_upto_region 17 with fail
        refine wp_region_held_drew (S := fun w' => w'.cell? ⟨b, 0, none⟩ = some (.int .i64 K.t) ∧ w'.cell? ⟨b, 1, none⟩ = some (.int .i64 K.v)) (by kernel_rfl) ?hsw3 (fun hHeld => ?_)
        case hsw3 => simp [HD.out.x.cell]
        replace HD := Hid.intro (HD.out.kept (u' := w3.drew) (Below.refl _ _).drew)
        generalize w3.drew = D at HD hHeld ⊢
        refine take1 (i := 0) (d := some 87) (v := ?_) rfl rfl (by kernel_rfl) (by kernel_rfl) (by kernel_rfl) (fun _ _ _ h => h) (Or.inl ⟨by rfl, ?_⟩) (by assumption) ?_
        rotate_left 1
        · intro w hSw
          obtain ⟨e0, e1⟩ := hSw
          go_simp <;> with_reducible rfl
        simp only [Act.put, List.setIfInBounds_toArray]
        try simp only [List.set_cons_succ]
        try simp only [List.set_cons_zero]
        refine take1 (i := 2) (d := some 89) (v := ?_) rfl rfl (by kernel_rfl) (by kernel_rfl) (by kernel_rfl) (fun _ _ _ h => h) (Or.inl ⟨by rfl, ?_⟩) (by assumption) ?_
        rotate_left 1
        · intro w hSw
          obtain ⟨e0, e1⟩ := hSw
          go_simp <;> with_reducible rfl
        simp only [Act.put, List.setIfInBounds_toArray]
        try simp only [List.set_cons_succ]
        try simp only [List.set_cons_zero]
        refine take1 (i := 3) (d := some 90) (v := ?_) rfl rfl (by kernel_rfl) (by kernel_rfl) (by kernel_rfl) (fun _ _ _ h => h) (Or.inl ⟨by rfl, ?_⟩) (by assumption) ?_
        rotate_left 1
        · intro w hSw
          obtain ⟨e0, e1⟩ := hSw
          go_simp <;> with_reducible rfl
        simp only [Act.put, List.setIfInBounds_toArray]
        try simp only [List.set_cons_succ]
        try simp only [List.set_cons_zero]
        refine wpAnyH_ready (rs := [1, 4]) (by kernel_rfl) (by simp) ?_
        refine AllReadyH.cons rfl (fun KK hKK => ?_) (AllReadyH.cons rfl (fun KK hKK => ?_) AllReadyH.nil)
        · skip
          have cx := HD.out.x.cell
          go_simp
          refine hKK.out _ _ ⟨by have := HD.out.x.cell 0; simpa using this, by have := HD.out.x.cell 1; simpa using this⟩ (fun hHeld2 => ?_)
          clear cx
          clear hKK KK hHeld
          have hHeld := hHeld2
          clear hHeld2
          refine wpAnyH_ready (rs := [4]) (by kernel_rfl) (by simp) ?_
          refine AllReadyH.cons rfl (fun KK hKK => ?_) AllReadyH.nil
          have cx := HD.out.x.cell
          go_simp
          refine hKK.out _ _ ⟨by have := HD.out.x.cell 0; simpa using this, by have := HD.out.x.cell 1; simpa using this⟩ (fun hHeld2 => ?_)
          clear cx
          clear hKK KK hHeld
          have hHeld := hHeld2
          clear hHeld2
          refine take1 (i := 5) (d := some 92) (v := ?_) rfl rfl (by kernel_rfl) (by kernel_rfl) (by kernel_rfl) (fun _ _ _ h => h) (Or.inl ⟨by rfl, ?_⟩) (by assumption) ?_
          rotate_left 1
          · intro w hSw
            obtain ⟨e0, e1⟩ := hSw
            go_simp <;> with_reducible rfl
          simp only [Act.put, List.setIfInBounds_toArray]
          try simp only [List.set_cons_succ]
          try simp only [List.set_cons_zero]
          refine take1 (i := 6) (d := some 93) (v := ?_) rfl rfl (by kernel_rfl) (by kernel_rfl) (by kernel_rfl) (fun _ _ _ h => h) (Or.inl ⟨by rfl, ?_⟩) (by assumption) ?_
          rotate_left 1
          · intro w hSw
            obtain ⟨e0, e1⟩ := hSw
            go_simp <;> with_reducible rfl
          simp only [Act.put, List.setIfInBounds_toArray]
          try simp only [List.set_cons_succ]
          try simp only [List.set_cons_zero]
          try simp only [wraps_i64 ((K.e.length : Int) + 1) (by omega) (by omega)]
          refine wpAnyH_ready (rs := [7]) (by kernel_rfl) (by simp) ?_
          refine AllReadyH.cons rfl (fun KK hKK => ?_) AllReadyH.nil
          go_simp
          refine (belowC_any ((K.e.length : Int) + 1) D HD.out.cur (by omega) (by omega)).mono ?_
          rintro e x1 ⟨y, rfl, y0, y1, c1, g1⟩
          replace HD := Hid.intro (HD.out.step g1 c1)
          clear c1 g1
          go_simp
          refine hKK.out _ _ ⟨by have := HD.out.x.cell 0; simpa using this, by have := HD.out.x.cell 1; simpa using this⟩ (fun hHeld2 => ?_)
          clear hKK KK hHeld
          have hHeld := hHeld2
          clear hHeld2
          obtain ⟨m, rfl⟩ := Int.eq_ofNat_of_zero_le y0
          have hml : m ≤ K.e.length := by omega
          have j2 : (m : Int) ≤ (c2 : Int) := by omega
          refine wpAnyH_ready (rs := [8]) (by kernel_rfl) (by simp) ?_
          refine AllReadyH.cons rfl (fun KK hKK => ?_) AllReadyH.nil
          go_simp
          refine hKK.out _ _ ⟨by have := HD.out.x.cell 0; simpa using this, by have := HD.out.x.cell 1; simpa using this⟩ (fun hHeld2 => ?_)
          clear hKK KK hHeld
          have hHeld := hHeld2
          clear hHeld2
          refine take1 (i := 9) (d := some 96) (v := ?_) rfl rfl (by kernel_rfl) (by kernel_rfl) (by kernel_rfl) (fun _ _ _ h => h) (Or.inl ⟨by rfl, ?_⟩) (by assumption) ?_
          rotate_left 1
          · intro w hSw
            obtain ⟨e0, e1⟩ := hSw
            go_simp <;> with_reducible rfl
          simp only [Act.put, List.setIfInBounds_toArray]
          try simp only [List.set_cons_succ]
          try simp only [List.set_cons_zero]
          refine wpAnyH_ready (rs := [10]) (by kernel_rfl) (by simp) ?_
          refine AllReadyH.cons rfl (fun KK hKK => ?_) AllReadyH.nil
          have cx := HD.out.x.cell
          have fx := HD.out.x.fro
          have hne := HD.out.ne
          have HD5 := Hid.intro (HD.out.setE _ (HD.out.own.take m hml) (by intro k hk; exact hne k (by simpa [Value.ownBlock] using hk)))
          go_simp
          refine hKK.out _ _ ⟨by have := HD5.out.x.cell 0; simpa using this, by have := HD5.out.x.cell 1; simpa using this⟩ (fun hHeld2 => ?_)
          clear hKK KK hHeld hHeld2 cx fx HD
          refine wpAnyH_done (by kernel_rfl) ?_ _
          try go_wp2_with fail
          go_meet
          case rel =>
            refine ⟨_, _, ?_, HD5.out⟩
            exact ⟨HBD.out.t0, HBD.out.t1, HBD.out.v0, HBD.out.v1, HBD.out.i0, HBD.out.i1, by have := HBD.out.e; simp; omega, HBD.out.s⟩
        · skip
          have cx := HD.out.x.cell
          go_simp
          refine hKK.out _ _ ⟨by have := HD.out.x.cell 0; simpa using this, by have := HD.out.x.cell 1; simpa using this⟩ (fun hHeld2 => ?_)
          clear cx
          clear hKK KK hHeld
          have hHeld := hHeld2
          clear hHeld2
          refine take1 (i := 5) (d := some 92) (v := ?_) rfl rfl (by kernel_rfl) (by kernel_rfl) (by kernel_rfl) (fun _ _ _ h => h) (Or.inl ⟨by rfl, ?_⟩) (by assumption) ?_
          rotate_left 1
          · intro w hSw
            obtain ⟨e0, e1⟩ := hSw
            go_simp <;> with_reducible rfl
          simp only [Act.put, List.setIfInBounds_toArray]
          try simp only [List.set_cons_succ]
          try simp only [List.set_cons_zero]
          refine take1 (i := 6) (d := some 93) (v := ?_) rfl rfl (by kernel_rfl) (by kernel_rfl) (by kernel_rfl) (fun _ _ _ h => h) (Or.inl ⟨by rfl, ?_⟩) (by assumption) ?_
          rotate_left 1
          · intro w hSw
            obtain ⟨e0, e1⟩ := hSw
            go_simp <;> with_reducible rfl
          simp only [Act.put, List.setIfInBounds_toArray]
          try simp only [List.set_cons_succ]
          try simp only [List.set_cons_zero]
          try simp only [wraps_i64 ((K.e.length : Int) + 1) (by omega) (by omega)]
          refine wpAnyH_ready (rs := [1, 7]) (by kernel_rfl) (by simp) ?_
          refine AllReadyH.cons rfl (fun KK hKK => ?_) (AllReadyH.cons rfl (fun KK hKK => ?_) AllReadyH.nil)
          · skip
            have cx := HD.out.x.cell
            go_simp
            refine hKK.out _ _ ⟨by have := HD.out.x.cell 0; simpa using this, by have := HD.out.x.cell 1; simpa using this⟩ (fun hHeld2 => ?_)
            clear cx
            clear hKK KK hHeld
            have hHeld := hHeld2
            clear hHeld2
            refine wpAnyH_ready (rs := [7]) (by kernel_rfl) (by simp) ?_
            refine AllReadyH.cons rfl (fun KK hKK => ?_) AllReadyH.nil
            go_simp
            refine (belowC_any ((K.e.length : Int) + 1) D HD.out.cur (by omega) (by omega)).mono ?_
            rintro e x1 ⟨y, rfl, y0, y1, c1, g1⟩
            replace HD := Hid.intro (HD.out.step g1 c1)
            clear c1 g1
            go_simp
            refine hKK.out _ _ ⟨by have := HD.out.x.cell 0; simpa using this, by have := HD.out.x.cell 1; simpa using this⟩ (fun hHeld2 => ?_)
            clear hKK KK hHeld
            have hHeld := hHeld2
            clear hHeld2
            obtain ⟨m, rfl⟩ := Int.eq_ofNat_of_zero_le y0
            have hml : m ≤ K.e.length := by omega
            have j2 : (m : Int) ≤ (c2 : Int) := by omega
            refine wpAnyH_ready (rs := [8]) (by kernel_rfl) (by simp) ?_
            refine AllReadyH.cons rfl (fun KK hKK => ?_) AllReadyH.nil
            go_simp
            refine hKK.out _ _ ⟨by have := HD.out.x.cell 0; simpa using this, by have := HD.out.x.cell 1; simpa using this⟩ (fun hHeld2 => ?_)
            clear hKK KK hHeld
            have hHeld := hHeld2
            clear hHeld2
            refine take1 (i := 9) (d := some 96) (v := ?_) rfl rfl (by kernel_rfl) (by kernel_rfl) (by kernel_rfl) (fun _ _ _ h => h) (Or.inl ⟨by rfl, ?_⟩) (by assumption) ?_
            rotate_left 1
            · intro w hSw
              obtain ⟨e0, e1⟩ := hSw
              go_simp <;> with_reducible rfl
            simp only [Act.put, List.setIfInBounds_toArray]
            try simp only [List.set_cons_succ]
            try simp only [List.set_cons_zero]
            refine wpAnyH_ready (rs := [10]) (by kernel_rfl) (by simp) ?_
            refine AllReadyH.cons rfl (fun KK hKK => ?_) AllReadyH.nil
            have cx := HD.out.x.cell
            have fx := HD.out.x.fro
            have hne := HD.out.ne
            have HD5 := Hid.intro (HD.out.setE _ (HD.out.own.take m hml) (by intro k hk; exact hne k (by simpa [Value.ownBlock] using hk)))
            go_simp
            refine hKK.out _ _ ⟨by have := HD5.out.x.cell 0; simpa using this, by have := HD5.out.x.cell 1; simpa using this⟩ (fun hHeld2 => ?_)
            clear hKK KK hHeld hHeld2 cx fx HD
            refine wpAnyH_done (by kernel_rfl) ?_ _
            try go_wp2_with fail
            go_meet
            case rel =>
              refine ⟨_, _, ?_, HD5.out⟩
              exact ⟨HBD.out.t0, HBD.out.t1, HBD.out.v0, HBD.out.v1, HBD.out.i0, HBD.out.i1, by have := HBD.out.e; simp; omega, HBD.out.s⟩
          · skip
            go_simp
            refine (belowC_any ((K.e.length : Int) + 1) D HD.out.cur (by omega) (by omega)).mono ?_
            rintro e x1 ⟨y, rfl, y0, y1, c1, g1⟩
            replace HD := Hid.intro (HD.out.step g1 c1)
            clear c1 g1
            go_simp
            refine hKK.out _ _ ⟨by have := HD.out.x.cell 0; simpa using this, by have := HD.out.x.cell 1; simpa using this⟩ (fun hHeld2 => ?_)
            clear hKK KK hHeld
            have hHeld := hHeld2
            clear hHeld2
            refine wpAnyH_ready (rs := [1]) (by kernel_rfl) (by simp) ?_
            refine AllReadyH.cons rfl (fun KK hKK => ?_) AllReadyH.nil
            have cx := HD.out.x.cell
            go_simp
            refine hKK.out _ _ ⟨by have := HD.out.x.cell 0; simpa using this, by have := HD.out.x.cell 1; simpa using this⟩ (fun hHeld2 => ?_)
            clear cx
            clear hKK KK hHeld
            have hHeld := hHeld2
            clear hHeld2
            obtain ⟨m, rfl⟩ := Int.eq_ofNat_of_zero_le y0
            have hml : m ≤ K.e.length := by omega
            have j2 : (m : Int) ≤ (c2 : Int) := by omega
            refine wpAnyH_ready (rs := [8]) (by kernel_rfl) (by simp) ?_
            refine AllReadyH.cons rfl (fun KK hKK => ?_) AllReadyH.nil
            go_simp
            refine hKK.out _ _ ⟨by have := HD.out.x.cell 0; simpa using this, by have := HD.out.x.cell 1; simpa using this⟩ (fun hHeld2 => ?_)
            clear hKK KK hHeld
            have hHeld := hHeld2
            clear hHeld2
            refine take1 (i := 9) (d := some 96) (v := ?_) rfl rfl (by kernel_rfl) (by kernel_rfl) (by kernel_rfl) (fun _ _ _ h => h) (Or.inl ⟨by rfl, ?_⟩) (by assumption) ?_
            rotate_left 1
            · intro w hSw
              obtain ⟨e0, e1⟩ := hSw
              go_simp <;> with_reducible rfl
            simp only [Act.put, List.setIfInBounds_toArray]
            try simp only [List.set_cons_succ]
            try simp only [List.set_cons_zero]
            refine wpAnyH_ready (rs := [10]) (by kernel_rfl) (by simp) ?_
            refine AllReadyH.cons rfl (fun KK hKK => ?_) AllReadyH.nil
            have cx := HD.out.x.cell
            have fx := HD.out.x.fro
            have hne := HD.out.ne
            have HD5 := Hid.intro (HD.out.setE _ (HD.out.own.take m hml) (by intro k hk; exact hne k (by simpa [Value.ownBlock] using hk)))
            go_simp
            refine hKK.out _ _ ⟨by have := HD5.out.x.cell 0; simpa using this, by have := HD5.out.x.cell 1; simpa using this⟩ (fun hHeld2 => ?_)
            clear hKK KK hHeld hHeld2 cx fx HD
            refine wpAnyH_done (by kernel_rfl) ?_ _
            try go_wp2_with fail
            go_meet
            case rel =>
              refine ⟨_, _, ?_, HD5.out⟩
              exact ⟨HBD.out.t0, HBD.out.t1, HBD.out.v0, HBD.out.v1, HBD.out.i0, HBD.out.i1, by have := HBD.out.e; simp; omega, HBD.out.s⟩
  case rest =>
  obtain ⟨K1, v1, hbd, hd⟩ := hcut
  replace HD := Hid.intro hd
  replace HBD := Hid.intro hbd
  clear hd hbd
  generalize hK : K1 = K at HD HBD
  clear hK
  go_wp2_with fail
  refine (belowC_any 4 _ HD.out.cur (by omega) (by omega)).mono ?_
  rintro e w3 ⟨y, rfl, y0, y1, c3, g3⟩
  replace HD := Hid.intro (HD.out.step g3 c3)
  clear c3 g3
  obtain ⟨n0, rfl⟩ := Int.eq_ofNat_of_zero_le y0
  go_wp2_with fail
  go_loopw [8] (fun s wr => ∃ (n : Nat) (K1 : Kp) (v1 : Value), s = .int .i64 n ∧ n ≤ 3 ∧ Bd 101 K1 ∧ DK N a len cap zs B w wr (w.heap.size + 1) b K1 v1) (fun s _ => (intOf s).toNat)
  case atStart => exact ⟨n0, _, _, rfl, by omega, HBD.out, HD.out⟩
  case round =>
    obtain ⟨n, K1, v1, rfl, hn, hbd, hd⟩ := hrel
    obtain ⟨a3, c3, rfl⟩ := hd.own.slice
    replace HD := Hid.intro hd
    replace HBD := Hid.intro hbd
    clear hd hbd
    generalize hK : K1 = K at HD HBD
    clear hK
    have hl : K.e.length ≤ 101 := HBD.out.e
    have bi0 := HBD.out.i0
    have bi1 := HBD.out.i1
    by_cases hgo : (0 < n ∧ 0 < K.t) ∧ K.e.length < 60 ∧ K.si + (K.e.length : Int) < 100000
    · obtain ⟨⟨h1, h2⟩, h3, h4⟩ := hgo
      have cx := HD.out.x.cell
      have k1 : (0 : Int) < (n : Int) := by omega
      have k3 : (K.e.length : Int) < 60 := by omega
      go_upto_region 21 with fail
      clear cx
      refine wp_region_held_drew (S := fun w' => w'.cell? ⟨b, 0, none⟩ = some (.int .i64 K.t) ∧ w'.cell? ⟨b, 1, none⟩ = some (.int .i64 K.v)) (by kernel_rfl) ?hswr (fun hHeld => ?_)
      case hswr => simp [HD.out.x.cell]
      replace HD := Hid.intro (HD.out.kept (u' := wr.drew) (Below.refl _ _).drew)
      generalize wr.drew = D at HD hHeld ⊢
      refine take1 (i := 0) (d := some 124) (v := ?_) rfl rfl (by kernel_rfl) (by kernel_rfl) (by kernel_rfl) (fun _ _ _ h => h) (Or.inl ⟨by rfl, ?_⟩) (by assumption) ?_
      rotate_left 1
      · intro w hSw
        obtain ⟨e0, e1⟩ := hSw
        go_simp <;> with_reducible rfl
      simp only [Act.put, List.setIfInBounds_toArray]
      try simp only [List.set_cons_succ]
      try simp only [List.set_cons_zero]
      refine take1 (i := 2) (d := some 126) (v := ?_) rfl rfl (by kernel_rfl) (by kernel_rfl) (by kernel_rfl) (fun _ _ _ h => h) (Or.inl ⟨by rfl, ?_⟩) (by assumption) ?_
      rotate_left 1
      · intro w hSw
        obtain ⟨e0, e1⟩ := hSw
        go_simp <;> with_reducible rfl
      simp only [Act.put, List.setIfInBounds_toArray]
      try simp only [List.set_cons_succ]
      try simp only [List.set_cons_zero]
      refine take1 (i := 3) (d := some 127) (v := ?_) rfl rfl (by kernel_rfl) (by kernel_rfl) (by kernel_rfl) (fun _ _ _ h => h) (Or.inl ⟨by rfl, ?_⟩) (by assumption) ?_
      rotate_left 1
      · intro w hSw
        obtain ⟨e0, e1⟩ := hSw
        go_simp <;> with_reducible rfl
      simp only [Act.put, List.setIfInBounds_toArray]
      try simp only [List.set_cons_succ]
      try simp only [List.set_cons_zero]
      refine take1 (i := 4) (d := some 128) (v := ?_) rfl rfl (by kernel_rfl) (by kernel_rfl) (by kernel_rfl) (fun _ _ _ h => h) (Or.inl ⟨by rfl, ?_⟩) (by assumption) ?_
      rotate_left 1
      · intro w hSw
        obtain ⟨e0, e1⟩ := hSw
        go_simp <;> with_reducible rfl
      simp only [Act.put, List.setIfInBounds_toArray]
      try simp only [List.set_cons_succ]
      try simp only [List.set_cons_zero]
      refine wpAnyH_ready (rs := [1, 5]) (by kernel_rfl) (by simp) ?_
      refine AllReadyH.cons rfl (fun KK hKK => ?_) (AllReadyH.cons rfl (fun KK hKK => ?_) AllReadyH.nil)
      · skip
        have cx := HD.out.x.cell
        go_simp
        refine hKK.out _ _ ⟨by have := HD.out.x.cell 0; simpa using this, by have := HD.out.x.cell 1; simpa using this⟩ (fun hHeld2 => ?_)
        clear cx
        clear hKK KK hHeld
        have hHeld := hHeld2
        clear hHeld2
        refine wpAnyH_ready (rs := [5]) (by kernel_rfl) (by simp) ?_
        refine AllReadyH.cons rfl (fun KK hKK => ?_) AllReadyH.nil
        go_simp
        refine (text_any 6 D HD.out.cur (by omega) (by omega)).mono ?_
        rintro e x1 ⟨d, rfl, d0, c1, g1⟩
        replace HD := Hid.intro (HD.out.step g1 c1)
        clear c1 g1
        go_simp
        refine hKK.out _ _ ⟨by have := HD.out.x.cell 0; simpa using this, by have := HD.out.x.cell 1; simpa using this⟩ (fun hHeld2 => ?_)
        clear hKK KK hHeld
        have hHeld := hHeld2
        clear hHeld2
        refine take1 (i := 6) (d := some 130) (v := ?_) rfl rfl (by kernel_rfl) (by kernel_rfl) (by kernel_rfl) (fun _ _ _ h => h) (Or.inl ⟨by rfl, ?_⟩) (by assumption) ?_
        rotate_left 1
        · intro w hSw
          obtain ⟨e0, e1⟩ := hSw
          go_simp <;> with_reducible rfl
        simp only [Act.put, List.setIfInBounds_toArray]
        try simp only [List.set_cons_succ]
        try simp only [List.set_cons_zero]
        refine wpAnyH_ready (rs := [7]) (by kernel_rfl) (by simp) ?_
        refine AllReadyH.cons rfl (fun KK hKK => ?_) AllReadyH.nil
        go_simp
        have bX := (Below.refl x1.heap.size x1).alloc (Nat.le_refl _) (.cells #[.int .i64 K.t, .string d] 96)
        have cX := Hid.intro (en_news (w := x1) ⟨K.t, d⟩ 96)
        generalize hbk : x1.heap.size = bk at cX ⊢
        simp only at cX
        generalize x1.alloc (.cells #[.int .i64 K.t, .string d] 96) = Z at bX cX ⊢
        replace HD := Hid.intro (HD.out.kept bX)
        have hwz : w.heap.size ≤ Z.heap.size := HD.out.o.size
        clear bX hbk
        refine hKK.out _ _ ⟨by have := HD.out.x.cell 0; simpa using this, by have := HD.out.x.cell 1; simpa using this⟩ (fun hHeld2 => ?_)
        clear hKK KK hHeld
        have hHeld := hHeld2
        clear hHeld2
        refine wpAnyH_ready (rs := [8]) (by kernel_rfl) (by simp) ?_
        refine AllReadyH.cons rfl (fun KK hKK => ?_) AllReadyH.nil
        refine step_X rfl _ _ rfl w.heap.size (.slice a3 K.e.length c3) K.e [⟨K.t, d⟩] rfl HD.out.own ⟨bk, 0, none⟩ 1 1 rfl rfl cX.out (by simp; omega) (by omega) (by simp) ?_
        intro bb cap' w5 o5 hO5 hloc
        have HX5 := Hid.intro (HD.out.appx hO5)
        have HD5 := Hid.intro (HD.out.app (u := Z) hO5 o5 hloc)
        clear o5 hO5 hloc cX
        go_simp
        refine hKK.out _ _ ⟨by have := HX5.out.cell 0; simpa using this, by have := HX5.out.cell 1; simpa using this⟩ (fun hHeld2 => ?_)
        clear hKK KK hHeld
        have hHeld := hHeld2
        clear hHeld2
        refine take1 (i := 9) (d := some 133) (v := ?_) rfl rfl (by kernel_rfl) (by kernel_rfl) (by kernel_rfl) (fun _ _ _ h => h) (Or.inl ⟨by rfl, ?_⟩) (by assumption) ?_
        rotate_left 1
        · intro w hSw
          obtain ⟨e0, e1⟩ := hSw
          go_simp <;> with_reducible rfl
        simp only [Act.put, List.setIfInBounds_toArray]
        try simp only [List.set_cons_succ]
        try simp only [List.set_cons_zero]
        refine wpAnyH_ready (rs := [10]) (by kernel_rfl) (by simp) ?_
        refine AllReadyH.cons rfl (fun KK hKK => ?_) AllReadyH.nil
        have cx := HX5.out.cell
        have fx := HX5.out.fro
        go_simp
        refine hKK.out _ _ ⟨by have := HD5.out.x.cell 0; simpa using this, by have := HD5.out.x.cell 1; simpa using this⟩ (fun hHeld2 => ?_)
        clear hKK KK hHeld hHeld2 cx fx HX5 HD
        refine wpAnyH_done (by kernel_rfl) ?_ _
        go_wp2_with fail
        go_roundw
        case rel =>
          have hlen : (K.e ++ [(⟨K.t, d⟩ : En)]).length = K.e.length + 1 := by simp
          have hD := HD5.out
          rw [hlen] at hD
          refine ⟨n - 1, _, _, ?_, ?_, ?_, hD⟩
          · go_num
          · omega
          · exact ⟨HBD.out.t0, HBD.out.t1, HBD.out.v0, HBD.out.v1, HBD.out.i0, HBD.out.i1, by simp; omega, HBD.out.s⟩
        case measure => simp [intOf]; omega
      · skip
        go_simp
        refine (text_any 6 D HD.out.cur (by omega) (by omega)).mono ?_
        rintro e x1 ⟨d, rfl, d0, c1, g1⟩
        replace HD := Hid.intro (HD.out.step g1 c1)
        clear c1 g1
        go_simp
        refine hKK.out _ _ ⟨by have := HD.out.x.cell 0; simpa using this, by have := HD.out.x.cell 1; simpa using this⟩ (fun hHeld2 => ?_)
        clear hKK KK hHeld
        have hHeld := hHeld2
        clear hHeld2
        refine take1 (i := 6) (d := some 130) (v := ?_) rfl rfl (by kernel_rfl) (by kernel_rfl) (by kernel_rfl) (fun _ _ _ h => h) (Or.inl ⟨by rfl, ?_⟩) (by assumption) ?_
        rotate_left 1
        · intro w hSw
          obtain ⟨e0, e1⟩ := hSw
          go_simp <;> with_reducible rfl
        simp only [Act.put, List.setIfInBounds_toArray]
        try simp only [List.set_cons_succ]
        try simp only [List.set_cons_zero]
        refine wpAnyH_ready (rs := [1, 7]) (by kernel_rfl) (by simp) ?_
        refine AllReadyH.cons rfl (fun KK hKK => ?_) (AllReadyH.cons rfl (fun KK hKK => ?_) AllReadyH.nil)
        · skip
          have cx := HD.out.x.cell
          go_simp
          refine hKK.out _ _ ⟨by have := HD.out.x.cell 0; simpa using this, by have := HD.out.x.cell 1; simpa using this⟩ (fun hHeld2 => ?_)
          clear cx
          clear hKK KK hHeld
          have hHeld := hHeld2
          clear hHeld2
          refine wpAnyH_ready (rs := [7]) (by kernel_rfl) (by simp) ?_
          refine AllReadyH.cons rfl (fun KK hKK => ?_) AllReadyH.nil
          go_simp
          have bX := (Below.refl x1.heap.size x1).alloc (Nat.le_refl _) (.cells #[.int .i64 K.t, .string d] 96)
          have cX := Hid.intro (en_news (w := x1) ⟨K.t, d⟩ 96)
          generalize hbk : x1.heap.size = bk at cX ⊢
          simp only at cX
          generalize x1.alloc (.cells #[.int .i64 K.t, .string d] 96) = Z at bX cX ⊢
          replace HD := Hid.intro (HD.out.kept bX)
          have hwz : w.heap.size ≤ Z.heap.size := HD.out.o.size
          clear bX hbk
          refine hKK.out _ _ ⟨by have := HD.out.x.cell 0; simpa using this, by have := HD.out.x.cell 1; simpa using this⟩ (fun hHeld2 => ?_)
          clear hKK KK hHeld
          have hHeld := hHeld2
          clear hHeld2
          refine wpAnyH_ready (rs := [8]) (by kernel_rfl) (by simp) ?_
          refine AllReadyH.cons rfl (fun KK hKK => ?_) AllReadyH.nil
          refine step_X rfl _ _ rfl w.heap.size (.slice a3 K.e.length c3) K.e [⟨K.t, d⟩] rfl HD.out.own ⟨bk, 0, none⟩ 1 1 rfl rfl cX.out (by simp; omega) (by omega) (by simp) ?_
          intro bb cap' w5 o5 hO5 hloc
          have HX5 := Hid.intro (HD.out.appx hO5)
          have HD5 := Hid.intro (HD.out.app (u := Z) hO5 o5 hloc)
          clear o5 hO5 hloc cX
          go_simp
          refine hKK.out _ _ ⟨by have := HX5.out.cell 0; simpa using this, by have := HX5.out.cell 1; simpa using this⟩ (fun hHeld2 => ?_)
          clear hKK KK hHeld
          have hHeld := hHeld2
          clear hHeld2
          refine take1 (i := 9) (d := some 133) (v := ?_) rfl rfl (by kernel_rfl) (by kernel_rfl) (by kernel_rfl) (fun _ _ _ h => h) (Or.inl ⟨by rfl, ?_⟩) (by assumption) ?_
          rotate_left 1
          · intro w hSw
            obtain ⟨e0, e1⟩ := hSw
            go_simp <;> with_reducible rfl
          simp only [Act.put, List.setIfInBounds_toArray]
          try simp only [List.set_cons_succ]
          try simp only [List.set_cons_zero]
          refine wpAnyH_ready (rs := [10]) (by kernel_rfl) (by simp) ?_
          refine AllReadyH.cons rfl (fun KK hKK => ?_) AllReadyH.nil
          have cx := HX5.out.cell
          have fx := HX5.out.fro
          go_simp
          refine hKK.out _ _ ⟨by have := HD5.out.x.cell 0; simpa using this, by have := HD5.out.x.cell 1; simpa using this⟩ (fun hHeld2 => ?_)
          clear hKK KK hHeld hHeld2 cx fx HX5 HD
          refine wpAnyH_done (by kernel_rfl) ?_ _
          go_wp2_with fail
          go_roundw
          case rel =>
            have hlen : (K.e ++ [(⟨K.t, d⟩ : En)]).length = K.e.length + 1 := by simp
            have hD := HD5.out
            rw [hlen] at hD
            refine ⟨n - 1, _, _, ?_, ?_, ?_, hD⟩
            · go_num
            · omega
            · exact ⟨HBD.out.t0, HBD.out.t1, HBD.out.v0, HBD.out.v1, HBD.out.i0, HBD.out.i1, by simp; omega, HBD.out.s⟩
          case measure => simp [intOf]; omega
        · skip
          go_simp
          have bX := (Below.refl x1.heap.size x1).alloc (Nat.le_refl _) (.cells #[.int .i64 K.t, .string d] 96)
          have cX := Hid.intro (en_news (w := x1) ⟨K.t, d⟩ 96)
          generalize hbk : x1.heap.size = bk at cX ⊢
          simp only at cX
          generalize x1.alloc (.cells #[.int .i64 K.t, .string d] 96) = Z at bX cX ⊢
          replace HD := Hid.intro (HD.out.kept bX)
          have hwz : w.heap.size ≤ Z.heap.size := HD.out.o.size
          clear bX hbk
          refine hKK.out _ _ ⟨by have := HD.out.x.cell 0; simpa using this, by have := HD.out.x.cell 1; simpa using this⟩ (fun hHeld2 => ?_)
          clear hKK KK hHeld
          have hHeld := hHeld2
          clear hHeld2
          refine wpAnyH_ready (rs := [1]) (by kernel_rfl) (by simp) ?_
          refine AllReadyH.cons rfl (fun KK hKK => ?_) AllReadyH.nil
          have cx := HD.out.x.cell
          go_simp
          refine hKK.out _ _ ⟨by have := HD.out.x.cell 0; simpa using this, by have := HD.out.x.cell 1; simpa using this⟩ (fun hHeld2 => ?_)
          clear cx
          clear hKK KK hHeld
          have hHeld := hHeld2
          clear hHeld2
          refine wpAnyH_ready (rs := [8]) (by kernel_rfl) (by simp) ?_
          refine AllReadyH.cons rfl (fun KK hKK => ?_) AllReadyH.nil
          refine step_X rfl _ _ rfl w.heap.size (.slice a3 K.e.length c3) K.e [⟨K.t, d⟩] rfl HD.out.own ⟨bk, 0, none⟩ 1 1 rfl rfl cX.out (by simp; omega) (by omega) (by simp) ?_
          intro bb cap' w5 o5 hO5 hloc
          have HX5 := Hid.intro (HD.out.appx hO5)
          have HD5 := Hid.intro (HD.out.app (u := Z) hO5 o5 hloc)
          clear o5 hO5 hloc cX
          go_simp
          refine hKK.out _ _ ⟨by have := HX5.out.cell 0; simpa using this, by have := HX5.out.cell 1; simpa using this⟩ (fun hHeld2 => ?_)
          clear hKK KK hHeld
          have hHeld := hHeld2
          clear hHeld2
          refine take1 (i := 9) (d := some 133) (v := ?_) rfl rfl (by kernel_rfl) (by kernel_rfl) (by kernel_rfl) (fun _ _ _ h => h) (Or.inl ⟨by rfl, ?_⟩) (by assumption) ?_
          rotate_left 1
          · intro w hSw
            obtain ⟨e0, e1⟩ := hSw
            go_simp <;> with_reducible rfl
          simp only [Act.put, List.setIfInBounds_toArray]
          try simp only [List.set_cons_succ]
          try simp only [List.set_cons_zero]
          refine wpAnyH_ready (rs := [10]) (by kernel_rfl) (by simp) ?_
          refine AllReadyH.cons rfl (fun KK hKK => ?_) AllReadyH.nil
          have cx := HX5.out.cell
          have fx := HX5.out.fro
          go_simp
          refine hKK.out _ _ ⟨by have := HD5.out.x.cell 0; simpa using this, by have := HD5.out.x.cell 1; simpa using this⟩ (fun hHeld2 => ?_)
          clear hKK KK hHeld hHeld2 cx fx HX5 HD
          refine wpAnyH_done (by kernel_rfl) ?_ _
          go_wp2_with fail
          go_roundw
          case rel =>
            have hlen : (K.e ++ [(⟨K.t, d⟩ : En)]).length = K.e.length + 1 := by simp
            have hD := HD5.out
            rw [hlen] at hD
            refine ⟨n - 1, _, _, ?_, ?_, ?_, hD⟩
            · go_num
            · omega
            · exact ⟨HBD.out.t0, HBD.out.t1, HBD.out.v0, HBD.out.v1, HBD.out.i0, HBD.out.i1, by simp; omega, HBD.out.s⟩
          case measure => simp [intOf]; omega
    · have cr := HD.out.r.cell
      have fr := HD.out.r.fro
      have cx := HD.out.x.cell
      have fin := Hid.intro (HD.out.end HBD.out)
      by_cases h1 : 0 < n
      · have k1 : (0 : Int) < (n : Int) := by omega
        by_cases h2 : 0 < K.t
        · by_cases h3 : K.e.length < 60
          · have k3 : (K.e.length : Int) < 60 := by omega
            have h4 : ¬ K.si + (K.e.length : Int) < 100000 := by omega
            go_wp2
            exact bodyPost_ret (v := kpV K (.slice a3 K.e.length c3)) (by simp [results, Try.results55, go_sem, cr]) rfl fin.out
          · have k3 : ¬ (K.e.length : Int) < 60 := by omega
            go_wp2
            exact bodyPost_ret (v := kpV K (.slice a3 K.e.length c3)) (by simp [results, Try.results55, go_sem, cr]) rfl fin.out
        · go_wp2
          exact bodyPost_ret (v := kpV K (.slice a3 K.e.length c3)) (by simp [results, Try.results55, go_sem, cr]) rfl fin.out
      · have k1 : ¬ (0 : Int) < (n : Int) := by omega
        go_wp2
        exact bodyPost_ret (v := kpV K (.slice a3 K.e.length c3)) (by simp [results, Try.results55, go_sem, cr]) rfl fin.out
end
end Go.Proofs.Ytkilepoimocoeaa
