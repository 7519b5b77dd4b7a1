/- l3Kept: a drawn Kept that is right, mostly. -/
import Derived.Test.YtkilepoimocoeaaCKeptA
namespace Go.Proofs.Ytkilepoimocoeaa
open Go.RowKit
set_option linter.unusedVariables false
section
variable {N : Nat} {a : Option Addr} {len cap : Nat} {zs : List Int} {B : Nat}
set_option maxRecDepth 100000 in
set_option maxHeartbeats 8000000 in
theorem l3Kept_any (w : World) (c : Cur N a len cap zs B w) :
    Calls Try.prog 84 #[.pointer (some ⟨B, 0, none⟩)] w fun e w' => DrawK 100 N a len cap zs B w e w' := by
  obtain ⟨W, hW, bW, zW, cW, fW⟩ := boxed w #[.int .i64 0, .int .i64 0, .int .i64 0, .int .i64 0, .string ⟨#[]⟩, .slice none 0 0] 28
  have C := Hid.intro (c.kept (grown_below bW))
  have hBw := c.lt
  have HBW := Hid.intro bW
  clear c
  go_enter Try.func84, Try.ntmps84
  go_wp2_with fail
  try simp only [hW]
  clear hW bW
  refine (belowC_any 8 W C.out (by omega) (by omega)).mono ?_
  rintro e w1 ⟨t, rfl, t0, t1, c1, g1⟩
  have C1 := Hid.intro c1
  have HG1 := Hid.intro g1
  clear c1 g1 C
  go_wp2_with fail
  refine (belowC_any 6 w1 C1.out (by omega) (by omega)).mono ?_
  rintro e w2 ⟨vo, rfl, v0, v1, c2, g2⟩
  have C2 := Hid.intro c2
  have HG2 := Hid.intro (grown_trans HG1.out g2)
  have z2 := HG2.out.size
  clear c2 g2 C1 HG1
  go_upto_region 2 with fail
  obtain ⟨X, hX, bX, zX, dX, eX⟩ := boxed w2 #[.int .i64 t, .int .i64 (vo - 1), .int .i64 0, .int .i64 0, .string ⟨#[]⟩, .slice none 0 0] 28
  try simp only [hX]
  have HD : Hid (DK N a len cap zs B w X w.heap.size w2.heap.size ⟨t, vo - 1, 0, 0, ⟨#[]⟩, []⟩ (.slice none 0 0)) := by
    have r1 : Blk w2 w.heap.size #[.int .i64 0, .int .i64 0, .int .i64 0, .int .i64 0, .string ⟨#[]⟩, .slice none 0 0] := (Blk.mk (by omega) cW fW : Blk W _ _).only (grown_only HG2.out) (by simp; omega)
    refine ⟨hBw, r1.kept bX, ⟨by omega, dX, eX⟩, Nat.le_refl _, by omega, OwnX.nil _ _, (fun k hk => by cases hk), C2.out.kept (grown_below bX), ?_⟩
    exact (Only.then (b := W) (T := fun k => some k = some B) (Below.any HBW.out) (grown_only HG2.out) (by intro k hk h; left; simpa using h)).trans (Below.any bX)
  clear hX bX zX dX eX cW fW HBW HG2 C2 zW z2
  generalize w2.heap.size = b at *
  go_cut [17] from 11 (fun s wc => ∃ q : Bool, s = .bool q ∧ (q = true → 0 < t) ∧ DK N a len cap zs B w wc w.heap.size b ⟨t, vo - 1, 0, 0, ⟨#[]⟩, []⟩ (.slice none 0 0))
  case first =>
    have cx := HD.out.x.cell
    by_cases h : 0 < t
    · go_wp2_with fail
      refine (onceC_any 2 X HD.out.cur (by omega) (by omega)).mono ?_
      rintro e w3 ⟨q, rfl, c3, g3⟩
      have HE := Hid.intro (HD.out.step g3 c3)
      clear c3 g3
      go_wp2_with fail
      go_meet
      case rel => exact ⟨q, by first | rfl | simp, fun _ => h, HE.out⟩
    · go_wp2_with fail
      go_meet
      case rel => exact ⟨false, by first | rfl | simp, (fun h => by cases h), HD.out⟩
  case rest =>
  obtain ⟨q, rfl, hq, hd⟩ := hcut
  replace HD := Hid.intro hd
  clear hd
  go_upto_if 17 with fail
  go_cut [] from 11 (fun wc => ∃ K : Kp, K.t = t ∧ K.v = vo - 1 ∧ K.e = [] ∧ 0 ≤ K.si ∧ K.si ≤ 9 ∧ 0 ≤ K.st ∧ K.st ≤ 8 ∧ K.sd.size ≤ 12 ∧ DK N a len cap zs B w wc w.heap.size b K (.slice none 0 0))
  case first =>
    cases q with
    | false =>
      go_wp2_with fail
      go_meet
      case rel =>
        refine ⟨_, ?_, ?_, ?_, ?_, ?_, ?_, ?_, ?_, HD.out⟩
        · rfl
        · rfl
        · rfl
        · simp
        · simp
        · simp
        · simp
        · exact Nat.zero_le _
    | true =>
      have ht := hq rfl
      clear hq
      go_upto_region 3 with fail
      refine wp_region_held_drew (S := fun w' => w'.cell? ⟨b, 0, none⟩ = some (.int .i64 t) ∧ w'.cell? ⟨b, 1, none⟩ = some (.int .i64 (vo - 1))) (by kernel_rfl) ?hswc (fun hHeld => ?_)
      case hswc => simp [HD.out.x.cell]
      replace HD := Hid.intro (HD.out.kept (u' := wc.drew) (Below.refl _ _).drew)
      generalize wc.drew = D at HD hHeld ⊢
      refine take1 (i := 0) (d := some 18) (v := ?_) rfl rfl (by kernel_rfl) (by kernel_rfl) (by kernel_rfl) (fun _ _ _ h => h) (Or.inl ⟨by rfl, ?_⟩) (by assumption) ?_
      rotate_left 1
      · intro w hSw
        obtain ⟨e0, e1⟩ := hSw
        go_simp <;> with_reducible rfl
      simp only [Act.put, List.setIfInBounds_toArray]
      try simp only [List.set_cons_succ]
      try simp only [List.set_cons_zero]
      refine take1 (i := 3) (d := some 21) (v := ?_) rfl rfl (by kernel_rfl) (by kernel_rfl) (by kernel_rfl) (fun _ _ _ h => h) (Or.inl ⟨by rfl, ?_⟩) (by assumption) ?_
      rotate_left 1
      · intro w hSw
        obtain ⟨e0, e1⟩ := hSw
        go_simp <;> with_reducible rfl
      simp only [Act.put, List.setIfInBounds_toArray]
      try simp only [List.set_cons_succ]
      try simp only [List.set_cons_zero]
      refine take1 (i := 4) (d := some 22) (v := ?_) rfl rfl (by kernel_rfl) (by kernel_rfl) (by kernel_rfl) (fun _ _ _ h => h) (Or.inl ⟨by rfl, ?_⟩) (by assumption) ?_
      rotate_left 1
      · intro w hSw
        obtain ⟨e0, e1⟩ := hSw
        go_simp <;> with_reducible rfl
      simp only [Act.put, List.setIfInBounds_toArray]
      try simp only [List.set_cons_succ]
      try simp only [List.set_cons_zero]
      refine take1 (i := 5) (d := some 23) (v := ?_) rfl rfl (by kernel_rfl) (by kernel_rfl) (by kernel_rfl) (fun _ _ _ h => h) (Or.inl ⟨by rfl, ?_⟩) (by assumption) ?_
      rotate_left 1
      · intro w hSw
        obtain ⟨e0, e1⟩ := hSw
        go_simp <;> with_reducible rfl
      simp only [Act.put, List.setIfInBounds_toArray]
      try simp only [List.set_cons_succ]
      try simp only [List.set_cons_zero]
      refine take1 (i := 8) (d := some 26) (v := ?_) rfl rfl (by kernel_rfl) (by kernel_rfl) (by kernel_rfl) (fun _ _ _ h => h) (Or.inl ⟨by rfl, ?_⟩) (by assumption) ?_
      rotate_left 1
      · intro w hSw
        obtain ⟨e0, e1⟩ := hSw
        go_simp <;> with_reducible rfl
      simp only [Act.put, List.setIfInBounds_toArray]
      try simp only [List.set_cons_succ]
      try simp only [List.set_cons_zero]
      refine wpAnyH_ready (rs := [1]) (by kernel_rfl) (by simp) ?_
      refine AllReadyH.cons rfl (fun KK hKK => ?_) AllReadyH.nil
      go_simp
      refine (belowC_any 9 D HD.out.cur (by omega) (by omega)).mono ?_
      rintro e x1 ⟨si, rfl, i0, i1, c1, g1⟩
      replace HD := Hid.intro (HD.out.step g1 c1)
      clear c1 g1
      go_simp
      refine hKK.out _ _ ⟨by have := HD.out.x.cell 0; simpa using this, by have := HD.out.x.cell 1; simpa using this⟩ (fun hHeld2 => ?_)
      clear hKK KK hHeld
      have hHeld := hHeld2
      clear hHeld2
      refine take1 (i := 2) (d := some 20) (v := ?_) rfl rfl (by kernel_rfl) (by kernel_rfl) (by kernel_rfl) (fun _ _ _ h => h) (Or.inl ⟨by rfl, ?_⟩) (by assumption) ?_
      rotate_left 1
      · intro w hSw
        obtain ⟨e0, e1⟩ := hSw
        go_simp <;> with_reducible rfl
      simp only [Act.put, List.setIfInBounds_toArray]
      try simp only [List.set_cons_succ]
      try simp only [List.set_cons_zero]
      simp only [wraps_i64 (1 + si) (by omega) (by omega)]
      refine wpAnyH_ready (rs := [6]) (by kernel_rfl) (by simp) ?_
      refine AllReadyH.cons rfl (fun KK hKK => ?_) AllReadyH.nil
      go_simp
      refine (belowC_any t x1 HD.out.cur (by omega) (by omega)).mono ?_
      rintro e x2 ⟨st, rfl, s0, s1, c1, g1⟩
      replace HD := Hid.intro (HD.out.step g1 c1)
      clear c1 g1
      go_simp
      refine hKK.out _ _ ⟨by have := HD.out.x.cell 0; simpa using this, by have := HD.out.x.cell 1; simpa using this⟩ (fun hHeld2 => ?_)
      clear hKK KK hHeld
      have hHeld := hHeld2
      clear hHeld2
      refine take1 (i := 7) (d := some 25) (v := ?_) rfl rfl (by kernel_rfl) (by kernel_rfl) (by kernel_rfl) (fun _ _ _ h => h) (Or.inl ⟨by rfl, ?_⟩) (by assumption) ?_
      rotate_left 1
      · intro w hSw
        obtain ⟨e0, e1⟩ := hSw
        go_simp <;> with_reducible rfl
      simp only [Act.put, List.setIfInBounds_toArray]
      try simp only [List.set_cons_succ]
      try simp only [List.set_cons_zero]
      simp only [wraps_i64 (1 + st) (by omega) (by omega)]
      refine wpAnyH_ready (rs := [9]) (by kernel_rfl) (by simp) ?_
      refine AllReadyH.cons rfl (fun KK hKK => ?_) AllReadyH.nil
      go_simp
      refine (text_any 12 x2 HD.out.cur (by omega) (by omega)).mono ?_
      rintro e x3 ⟨sd, rfl, d0, c1, g1⟩
      replace HD := Hid.intro (HD.out.step g1 c1)
      clear c1 g1
      go_simp
      refine hKK.out _ _ ⟨by have := HD.out.x.cell 0; simpa using this, by have := HD.out.x.cell 1; simpa using this⟩ (fun hHeld2 => ?_)
      clear hKK KK hHeld
      have hHeld := hHeld2
      clear hHeld2
      refine take1 (i := 10) (d := some 28) (v := ?_) rfl rfl (by kernel_rfl) (by kernel_rfl) (by kernel_rfl) (fun _ _ _ h => h) (Or.inl ⟨by rfl, ?_⟩) (by assumption) ?_
      rotate_left 1
      · intro w hSw
        obtain ⟨e0, e1⟩ := hSw
        go_simp <;> with_reducible rfl
      simp only [Act.put, List.setIfInBounds_toArray]
      try simp only [List.set_cons_succ]
      try simp only [List.set_cons_zero]
      refine take1 (i := 11) (d := some 29) (v := ?_) rfl rfl (by kernel_rfl) (by kernel_rfl) (by kernel_rfl) (fun _ _ _ h => h) (Or.inl ⟨by rfl, ?_⟩) (by assumption) ?_
      rotate_left 1
      · intro w hSw
        obtain ⟨e0, e1⟩ := hSw
        go_simp <;> with_reducible rfl
      simp only [Act.put, List.setIfInBounds_toArray]
      try simp only [List.set_cons_succ]
      try simp only [List.set_cons_zero]
      have cx := HD.out.x.cell
      have fx := HD.out.x.fro
      replace HD := Hid.intro (HD.out.setSnap (1 + si) (1 + st) sd)
      refine wpAnyH_ready (rs := [12]) (by kernel_rfl) (by simp) ?_
      refine AllReadyH.cons rfl (fun KK hKK => ?_) AllReadyH.nil
      go_simp
      skip
      go_simp
      refine hKK.out _ _ ⟨by have := HD.out.x.cell 0; simpa using this, by have := HD.out.x.cell 1; simpa using this⟩ (fun hHeld2 => ?_)
      clear hKK KK hHeld
      have hHeld := hHeld2
      clear hHeld2
      refine wpAnyH_done (by kernel_rfl) ?_ _
      go_wp2_with fail
      go_meet
      case rel =>
        refine ⟨_, ?_, ?_, ?_, ?_, ?_, ?_, ?_, ?_, HD.out⟩
        · rfl
        · rfl
        · rfl
        · simp; omega
        · simp; omega
        · simp; omega
        · simp; omega
        · simp; omega
  case rest =>
  obtain ⟨K, rfl, kv, ke, i0, i1, s0, s1, sz, hd⟩ := hcut
  replace HD := Hid.intro hd
  have cx := HD.out.x.cell
  have fx := HD.out.x.fro
  clear hd hq
  go_wp2_with fail
  refine (l3Entries_any 6 K.st K.t wc HD.out.cur (by omega) s0 (by omega) t0 (by omega)).mono ?_
  rintro e w4 ⟨v4, L, rfl, o4, l4, d4, c4, g4⟩
  have HN : Hid (∀ k, v4.ownBlock = some k → wc.heap.size ≤ k) := fun k hk => (o4.lt k hk).1
  have hxb := HD.out.x.hi
  have hxq := HD.out.r.hi
  have hwc : w.heap.size ≤ wc.heap.size := HD.out.o.size
  replace HD := Hid.intro (HD.out.step g4 c4)
  replace cx := HD.out.x.cell
  replace fx := HD.out.x.fro
  have HE := Hid.intro (HD.out.setE L (o4.x.lower hwc) (fun k hk => by have := HN.out k hk; omega))
  obtain ⟨av, cv, rfl⟩ := o4.slice
  clear c4 g4 HD o4 HN hxb hxq hwc
  go_upto_region 5 with fail
  generalize w4.setCell ⟨b, 5, none⟩ (.slice av L.length cv) = X5 at HE ⊢
  clear cx fx
  have hK : ({ K with e := L } : Kp) = ⟨K.t, K.v, K.si, K.st, K.sd, L⟩ := rfl
  rw [hK] at HE
  clear hK
  go_cut [44] from 11 (fun s wc => ∃ q : Bool, s = .bool q ∧ (q = true → 0 < K.t) ∧ DK N a len cap zs B w wc w.heap.size b ⟨K.t, K.v, K.si, K.st, K.sd, L⟩ (.slice av L.length cv))
  case first =>
    have cx := HE.out.x.cell
    by_cases h : 0 < K.t
    · go_wp2_with fail
      refine (onceC_any 25 X5 HE.out.cur (by omega) (by omega)).mono ?_
      rintro e w3 ⟨q, rfl, c3, g3⟩
      have HF := Hid.intro (HE.out.step g3 c3)
      clear c3 g3
      go_wp2_with fail
      go_meet
      case rel => exact ⟨q, by first | rfl | simp, fun _ => h, HF.out⟩
    · go_wp2_with fail
      go_meet
      case rel => exact ⟨false, by first | rfl | simp, (fun h => by cases h), HE.out⟩
  case rest =>
  obtain ⟨q5, rfl, hq5, hd⟩ := hcut
  replace HE := Hid.intro hd
  clear hd
  go_upto_if 44 with fail
  go_cut [] from 11 (fun wc => ∃ K2 : Kp, K2.e.length ≤ 6 ∧ Bd 100 K2 ∧ DK N a len cap zs B w wc w.heap.size b K2 (.slice av K2.e.length cv))
  case first =>
    cases q5 with
    | false =>
      go_wp2_with fail
      go_meet
      case rel =>
        refine ⟨_, ?_, ?_, HE.out⟩
        · simpa using l4
        · exact ⟨by simp; omega, by simp; omega, by simp; omega, by simp; omega, by simp; omega, by simp; omega, by simp; omega, by simp; omega⟩
    | true =>
      have ht := hq5 rfl
      clear hq5
      go_upto_region 6 with fail
      have HD := HE
      clear HE
      refine wp_region_held_drew (S := fun w' => w'.cell? ⟨b, 5, none⟩ = some (.slice av L.length cv) ∧ w'.cell? ⟨b, 0, none⟩ = some (.int .i64 K.t)) (by kernel_rfl) ?hswc (fun hHeld => ?_)
      case hswc => simp [HD.out.x.cell]
      replace HD := Hid.intro (HD.out.kept (u' := wc.drew) (Below.refl _ _).drew)
      generalize wc.drew = D at HD hHeld ⊢
      refine take1 (i := 0) (d := some 45) (v := ?_) rfl rfl (by kernel_rfl) (by kernel_rfl) (by kernel_rfl) (fun _ _ _ h => h) (Or.inl ⟨by rfl, ?_⟩) (by assumption) ?_
      rotate_left 1
      · intro w hSw
        obtain ⟨e0, e1⟩ := hSw
        go_simp <;> with_reducible rfl
      simp only [Act.put, List.setIfInBounds_toArray]
      try simp only [List.set_cons_succ]
      try simp only [List.set_cons_zero]
      refine take1 (i := 1) (d := some 46) (v := ?_) rfl rfl (by kernel_rfl) (by kernel_rfl) (by kernel_rfl) (fun _ _ _ h => h) (Or.inl ⟨by rfl, ?_⟩) (by assumption) ?_
      rotate_left 1
      · intro w hSw
        obtain ⟨e0, e1⟩ := hSw
        go_simp <;> with_reducible rfl
      simp only [Act.put, List.setIfInBounds_toArray]
      try simp only [List.set_cons_succ]
      try simp only [List.set_cons_zero]
      refine take1 (i := 2) (d := some 47) (v := ?_) rfl rfl (by kernel_rfl) (by kernel_rfl) (by kernel_rfl) (fun _ _ _ h => h) (Or.inl ⟨by rfl, ?_⟩) (by assumption) ?_
      rotate_left 1
      · intro w hSw
        obtain ⟨e0, e1⟩ := hSw
        go_simp <;> with_reducible rfl
      simp only [Act.put, List.setIfInBounds_toArray]
      try simp only [List.set_cons_succ]
      try simp only [List.set_cons_zero]
      refine take1 (i := 3) (d := some 48) (v := ?_) rfl rfl (by kernel_rfl) (by kernel_rfl) (by kernel_rfl) (fun _ _ _ h => h) (Or.inl ⟨by rfl, ?_⟩) (by assumption) ?_
      rotate_left 1
      · intro w hSw
        obtain ⟨e0, e1⟩ := hSw
        go_simp <;> with_reducible rfl
      simp only [Act.put, List.setIfInBounds_toArray]
      try simp only [List.set_cons_succ]
      try simp only [List.set_cons_zero]
      simp only [wraps_i64 (100000 - (L.length : Int)) (by omega) (by omega)]
      refine take1 (i := 4) (d := some 49) (v := ?_) rfl rfl (by kernel_rfl) (by kernel_rfl) (by kernel_rfl) (fun _ _ _ h => h) (Or.inl ⟨by rfl, ?_⟩) (by assumption) ?_
      rotate_left 1
      · intro w hSw
        obtain ⟨e0, e1⟩ := hSw
        go_simp <;> with_reducible rfl
      simp only [Act.put, List.setIfInBounds_toArray]
      try simp only [List.set_cons_succ]
      try simp only [List.set_cons_zero]
      refine wpAnyH_ready (rs := [5]) (by kernel_rfl) (by simp) ?_
      refine AllReadyH.cons rfl (fun KK hKK => ?_) AllReadyH.nil
      go_simp
      refine (belowC_any 2 D HD.out.cur (by omega) (by omega)).mono ?_
      rintro e x1 ⟨si, rfl, j0, j1, c1, g1⟩
      replace HD := Hid.intro (HD.out.step g1 c1)
      clear c1 g1
      go_simp
      refine hKK.out _ _ ⟨by have := HD.out.x.cell 5; simpa using this, by have := HD.out.x.cell 0; simpa using this⟩ (fun hHeld2 => ?_)
      clear hKK KK hHeld
      have hHeld := hHeld2
      clear hHeld2
      refine take1 (i := 6) (d := some 51) (v := ?_) rfl rfl (by kernel_rfl) (by kernel_rfl) (by kernel_rfl) (fun _ _ _ h => h) (Or.inl ⟨by rfl, ?_⟩) (by assumption) ?_
      rotate_left 1
      · intro w hSw
        obtain ⟨e0, e1⟩ := hSw
        go_simp <;> with_reducible rfl
      simp only [Act.put, List.setIfInBounds_toArray]
      try simp only [List.set_cons_succ]
      try simp only [List.set_cons_zero]
      simp only [wraps_i64 (100000 - (L.length : Int) + si) (by omega) (by omega)]
      refine take1 (i := 7) (d := some 52) (v := ?_) rfl rfl (by kernel_rfl) (by kernel_rfl) (by kernel_rfl) (fun _ _ _ h => h) (Or.inl ⟨by rfl, ?_⟩) (by assumption) ?_
      rotate_left 1
      · intro w hSw
        obtain ⟨e0, e1⟩ := hSw
        go_simp <;> with_reducible rfl
      simp only [Act.put, List.setIfInBounds_toArray]
      try simp only [List.set_cons_succ]
      try simp only [List.set_cons_zero]
      refine take1 (i := 8) (d := some 53) (v := ?_) rfl rfl (by kernel_rfl) (by kernel_rfl) (by kernel_rfl) (fun _ _ _ h => h) (Or.inl ⟨by rfl, ?_⟩) (by assumption) ?_
      rotate_left 1
      · intro w hSw
        obtain ⟨e0, e1⟩ := hSw
        go_simp <;> with_reducible rfl
      simp only [Act.put, List.setIfInBounds_toArray]
      try simp only [List.set_cons_succ]
      try simp only [List.set_cons_zero]
      have cx := HD.out.x.cell
      have fx := HD.out.x.fro
      replace HD := Hid.intro (HD.out.setSnap (100000 - L.length + si) 1 ⟨#[]⟩)
      refine wpAnyH_ready (rs := [9]) (by kernel_rfl) (by simp) ?_
      refine AllReadyH.cons rfl (fun KK hKK => ?_) AllReadyH.nil
      go_simp
      skip
      go_simp
      refine hKK.out _ _ ⟨by have := HD.out.x.cell 5; simpa using this, by have := HD.out.x.cell 0; simpa using this⟩ (fun hHeld2 => ?_)
      clear hKK KK hHeld
      have hHeld := hHeld2
      clear hHeld2
      refine wpAnyH_done (by kernel_rfl) ?_ _
      go_wp2_with fail
      go_meet
      case rel =>
        refine ⟨_, ?_, ?_, HD.out⟩
        · simpa using l4
        · exact ⟨by simp; omega, by simp; omega, by simp; omega, by simp; omega, by simp; omega, by simp; omega, by simp; omega, Nat.zero_le _⟩
  case rest =>
  obtain ⟨K2, hl2, hbd, hd⟩ := hcut
  replace HE := Hid.intro hd
  have HBD := Hid.intro hbd
  clear hd hbd hq5 kv ke i0 i1 s0 s1 sz l4 d4 t0 t1 v0 v1
  go_upto_region 7 with fail
  go_cut [60] from 11 (fun s wc => ∃ q : Bool, s = .bool q ∧ DK N a len cap zs B w wc w.heap.size b K2 (.slice av K2.e.length cv))
  case first =>
    have cx := HE.out.x.cell
    by_cases h : 0 < K2.t
    · go_wp2_with fail
      refine (onceC_any 25 wc HE.out.cur (by omega) (by omega)).mono ?_
      rintro e w3 ⟨q, rfl, c3, g3⟩
      have HF := Hid.intro (HE.out.step g3 c3)
      clear c3 g3
      go_wp2_with fail
      go_meet
      case rel => exact ⟨q, by first | rfl | simp, HF.out⟩
    · go_wp2_with fail
      go_meet
      case rel => exact ⟨false, by first | rfl | simp, HE.out⟩
  case rest =>
  obtain ⟨q7, rfl, hd⟩ := hcut
  replace HE := Hid.intro hd
  clear hd
  go_upto_if 60 with fail
  cases q7 with
  | false =>
    have cr := HE.out.r.cell
    have fr := HE.out.r.fro
    have cx := HE.out.x.cell
    have fin := Hid.intro (HE.out.end HBD.out)
    go_wp2
    exact bodyPost_ret (v := kpV K2 (.slice av K2.e.length cv)) (by simp [results, Try.results84, go_sem, cr]) rfl fin.out
  | true =>
    go_wp2_with fail
    refine (belowC_any 2 wc HE.out.cur (by omega) (by omega)).mono ?_
    rintro e w5 ⟨m, rfl, m0, m1, c5, g5⟩
    replace HE := Hid.intro (HE.out.step g5 c5)
    clear c5 g5
    go_wp2_with fail
    go_loopg [] 94 (fun k wr => ∃ (K3 : Kp) (v : Value), K3.e.length + k ≤ 100 ∧ 60 + m - (K3.e.length : Int) ≤ (k : Int) ∧ Bd 100 K3 ∧ DK N a len cap zs B w wr w.heap.size b K3 v)
    case atStart => exact ⟨K2, _, by omega, by omega, HBD.out, HE.out⟩
    case round =>
      obtain ⟨K3, v2, hk1, hk2, hbd2, hd2⟩ := hrel
      obtain ⟨a2, c2, rfl⟩ := hd2.own.slice
      have HF := Hid.intro hd2
      have HB3 := Hid.intro hbd2
      have cx := HF.out.x.cell
      have fx := HF.out.x.fro
      clear hd2 HE hbd2 HBD
      by_cases hlt : (K3.e.length : Int) < 60 + m
      · have HX := Hid.intro HF.out.x
        have zb := HF.out.x.hi
        have hww : w.heap.size ≤ wr.heap.size := HF.out.o.size
        go_wp2_with (at_builtin; refine app_X rfl _ _ rfl w.heap.size (.slice a2 K3.e.length c2) K3.e [⟨K3.t, ⟨#[]⟩⟩] rfl (HF.out.own.kept ((Below.refl _ _).alloc (Nat.le_refl _) _)) ⟨wr.heap.size, 0, none⟩ 1 1 rfl rfl (by intro j u hu; simp only [enF, enC, List.flatMap_cons, List.flatMap_nil, List.append_nil] at hu; rcases j with _ | _ | j <;> simp at hu <;> subst hu <;> simp [Addr.add, go_sem]) (by simp; omega) (by simp; omega) (by simp) ?_; intro bb cap' w5 o5 hO hloc; have HQ := Hid.intro (HF.out.grow _ ((Below.refl _ _).alloc (Nat.le_refl _) _) hO o5 hloc); replace HX := Hid.intro ((HX.out.kept ((Below.refl _ _).alloc (Nat.le_refl _) _)).only hO (fun e => by have := (HF.out.ne b e.symm).1; exact this rfl)); replace cx := HX.out.cell; replace fx := HX.out.fro; clear o5 hO hloc HF)
        go_roundg (gk - 1)
        case rel =>
          have hlen : (K3.e ++ [(⟨K3.t, ⟨#[]⟩⟩ : En)]).length = K3.e.length + 1 := by simp
          have hD := HQ.out
          rw [hlen] at hD
          refine ⟨_, _, ?_, ?_, ?_, hD⟩
          · simp only [hlen]; omega
          · simp only [hlen]; omega
          · exact ⟨HB3.out.t0, HB3.out.t1, HB3.out.v0, HB3.out.v1, HB3.out.i0, HB3.out.i1, by simp only [hlen]; omega, HB3.out.s⟩
        case measure => omega
      · have cr := HF.out.r.cell
        have fr := HF.out.r.fro
        have fin := Hid.intro (HF.out.end HB3.out)
        go_wp2
        exact bodyPost_ret (v := kpV K3 (.slice a2 K3.e.length c2)) (by simp [results, Try.results84, go_sem, cr]) rfl fin.out
end
end Go.Proofs.Ytkilepoimocoeaa
