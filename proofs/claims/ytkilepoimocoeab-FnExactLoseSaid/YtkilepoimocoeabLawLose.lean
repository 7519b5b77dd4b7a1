/- FnExactLose. -/
import Derived.Test.YtkilepoimocoeabSitB
import Derived.Test.YtkilepoimocoeabLoseI
import Derived.Deep.Cut
import Derived.Deep.RegionWith
namespace Go.Proofs.Ytkilepoimocoeab
open Go.RowKit
set_option linter.unusedVariables false
set_option maxRecDepth 100000 in
set_option maxHeartbeats 8000000 in
theorem lose_law (S : Sto) (v u : Value) (aKeep : Int) (w : World) (hs : S.k.sd.size ≤ 9223372036854775807) (hr : RowE w w.heap.size v S.k.e) (hz : ∀ e ∈ S.k.e, e.d.size ≤ 9223372036854775807) (hu : RowR w w.heap.size u S.l) (hy : ∀ e ∈ S.l, e.d.size ≤ 9223372036854775807) :
    Calls Try.prog 8 #[stV S v u, .int .i64 aKeep] w fun e w' => e = .returned (.bool true) ∧ Below w.heap.size w w' := by
  have HR := Hid.intro hr
  have HZ := Hid.intro hz
  have HU := Hid.intro hu
  have HY := Hid.intro hy
  clear hr hz hu hy
  go_enter Try.func8, Try.ntmps8
  go_wp2_with fail
  obtain ⟨W, hW, bW, zW, c1, f1⟩ := boxed w #[.int .i64 S.k.t, .int .i64 S.k.v, .int .i64 S.k.si, .int .i64 S.k.st, .string S.k.sd, v, u] 29
  simp only [hW]
  have HB := Hid.intro (show BaseS w S v u W from ⟨c1, HR.out.kept bW, HU.out.kept bW, by omega, bW⟩)
  refine (szStore_any S v u w.heap.size _ _ (by omega) hs HB.out.e HZ.out HB.out.r HY.out (by omega) (by omega)).mono ?_
  rintro e w1 ⟨⟨n, rfl, hn, hn'⟩, b1⟩
  replace HB := Hid.intro (HB.out.kept b1 HB.out.sz)
  obtain ⟨n1, n2, n3⟩ := hn
  obtain ⟨_, _, n4⟩ := hn'
  clear hW f1 bW zW b1 HR HZ HU HY hs c1
  by_cases hneg : n < 0
  · clear n3 n4
    go_wp2
    go_ret
    exact ⟨rfl, HB.out.bel⟩
  have hlen : S.k.e.length ≤ 1048576 := by have := n3 (by omega); omega
  have hlen2 : S.l.length ≤ 1048576 := by have := n4 (by omega); omega
  have HL := Hid.intro hlen
  have HL2 := Hid.intro hlen2
  clear n1 n2 n3 n4 hlen hlen2
  have c1 := HB.out.a
  have zz := HB.out.sz
  go_wp2_with fail
  refine (toStore_any S v u w.heap.size _ (Nat.le_of_lt zz) HB.out.e HB.out.r HL.out HL2.out).mono ?_
  rintro e w2 ⟨v2, u2, rfl, n2⟩
  replace HB := Hid.intro (HB.out.kept n2.bel zz)
  have HN := Hid.intro n2
  clear c1 n2 hneg zz
  go_wp2_with fail
  refine (specLose_any S v2 u2 w2.heap.size aKeep w2 (Nat.le_refl _) HN.out.e.rowAll HN.out.r.rowAll).mono ?_
  rintro e w3 ⟨v3, u3, rfl, n3⟩
  replace HB := Hid.intro (HB.out.kept n3.bel HB.out.sz)
  clear HN
  have c1 := HB.out.a
  have zz := HB.out.sz
  obtain ⟨a3, cap3, rfl⟩ := n3.e.slice
  obtain ⟨au3, cu3, rfl⟩ := n3.r.slice
  go_wp2_with fail
  obtain ⟨X4, hX, bX, zX, cX, fX⟩ := boxed w3 #[.int .i64 (loseS S aKeep).k.t, .int .i64 (loseS S aKeep).k.v, .int .i64 (loseS S aKeep).k.si, .int .i64 (loseS S aKeep).k.st, .string (loseS S aKeep).k.sd, .slice a3 (loseS S aKeep).k.e.length cap3, .slice au3 (loseS S aKeep).l.length cu3] 38
  simp only [hX]
  replace HB := Hid.intro (HB.out.kept bX zz)
  have H4 := Hid.intro (show SV X4 w3.heap.size w2.heap.size (loseS S aKeep) (.slice a3 (loseS S aKeep).k.e.length cap3) (.slice au3 (loseS S aKeep).l.length cu3) from ⟨by omega, cX, n3.e.kept bX, n3.r.kept bX⟩)
  have hX4 := HB.out.sz
  have s4 := H4.out.hi
  have HN4 : Hid (∀ k, (Value.slice a3 (loseS S aKeep).k.e.length cap3).ownBlock = some k → k < X4.heap.size) := fun k hk => (H4.out.e.lt k hk).2
  have HM4 : Hid (∀ k, (Value.slice au3 (loseS S aKeep).l.length cu3).ownBlock = some k → k < X4.heap.size) := fun k hk => (H4.out.r.lt k hk).2
  clear n3 hX bX zX cX fX c1 zz
  refine (toStore_any S v u w.heap.size _ (Nat.le_of_lt hX4) HB.out.e HB.out.r HL.out HL2.out).mono ?_
  rintro e w5 ⟨v5, u5, rfl, n5⟩
  obtain ⟨a5, cap5, rfl⟩ := n5.e.slice
  obtain ⟨au5, cu5, rfl⟩ := n5.r.slice
  replace HB := Hid.intro (HB.out.kept n5.bel hX4)
  replace H4 := Hid.intro (H4.out.kept n5.bel)
  have z5 := n5.bel.size
  skip
  go_wp2_with fail
  obtain ⟨X5, hX, bX, zX, cX, fX⟩ := boxed w5 #[.int .i64 S.k.t, .int .i64 S.k.v, .int .i64 S.k.si, .int .i64 S.k.st, .string S.k.sd, .slice a5 S.k.e.length cap5, .slice au5 S.l.length cu5] 38
  simp only [hX]
  replace HB := Hid.intro (HB.out.kept bX HB.out.sz)
  replace H4 := Hid.intro (H4.out.kept bX)
  have H5 := Hid.intro (show SV X5 w5.heap.size X4.heap.size S (.slice a5 S.k.e.length cap5) (.slice au5 S.l.length cu5) from ⟨by omega, cX, n5.e.kept bX, n5.r.kept bX⟩)
  have HD5 := Hid.intro n5.dis
  have HN5 : Hid (∀ k, (Value.slice a5 S.k.e.length cap5).ownBlock = some k → X4.heap.size ≤ k ∧ k < w5.heap.size) := n5.e.lt
  have HM5 : Hid (∀ k, (Value.slice au5 S.l.length cu5).ownBlock = some k → X4.heap.size ≤ k ∧ k < w5.heap.size) := n5.r.lt
  have z6 : w5.heap.size < X5.heap.size := by omega
  have s5 := H5.out.hi
  clear n5 hX bX zX cX fX
  refine (implLose_any S _ _ X5.heap.size aKeep X5 (Nat.le_refl _) H5.out.e.rowAll H5.out.r.rowAll).mono ?_
  rintro e w6 ⟨v6, u6, rfl, n6⟩
  obtain ⟨a6, cap6, rfl⟩ := n6.e.slice
  obtain ⟨au6, cu6, rfl⟩ := n6.r.slice
  replace HB := Hid.intro (HB.out.kept n6.bel HB.out.sz)
  replace H4 := Hid.intro (H4.out.kept n6.bel)
  replace H5 := Hid.intro (H5.out.kept n6.bel)
  have c4 := H4.out.cell
  have z4 := H4.out.hi
  have z7 := n6.bel.size
  go_wp2_with fail
  obtain ⟨X6, hX, bX, zX, cX, fX⟩ := boxed w6 #[.int .i64 (loseS S aKeep).k.t, .int .i64 (loseS S aKeep).k.v, .int .i64 (loseS S aKeep).k.si, .int .i64 (loseS S aKeep).k.st, .string (loseS S aKeep).k.sd, .slice a6 (loseS S aKeep).k.e.length cap6, .slice au6 (loseS S aKeep).l.length cu6] 38
  simp only [hX]
  replace HB := Hid.intro (HB.out.kept bX HB.out.sz)
  replace H4 := Hid.intro (H4.out.kept bX)
  replace H5 := Hid.intro (H5.out.kept bX)
  have H6 := Hid.intro (show SV X6 w6.heap.size X5.heap.size (loseS S aKeep) (.slice a6 (loseS S aKeep).k.e.length cap6) (.slice au6 (loseS S aKeep).l.length cu6) from ⟨by omega, cX, n6.e.kept bX, n6.r.kept bX⟩)
  have HD6 := Hid.intro n6.dis
  have s6 : X5.heap.size ≤ w6.heap.size := z7
  have HN6 : Hid (∀ k, (Value.slice a6 (loseS S aKeep).k.e.length cap6).ownBlock = some k → X5.heap.size ≤ k ∧ k < w6.heap.size) := n6.e.lt
  have HM6 : Hid (∀ k, (Value.slice au6 (loseS S aKeep).l.length cu6).ownBlock = some k → X5.heap.size ≤ k ∧ k < w6.heap.size) := n6.r.lt
  clear n6 hX bX zX cX fX c4 z4 z7
  refine (eqStore_any (loseS S aKeep) _ _ _ _ X6.heap.size X6 (Nat.le_refl _) H6.out.e.rowAll H4.out.e.rowAll H6.out.r.rowAll H4.out.r.rowAll).mono ?_
  rintro e w7 ⟨rfl, b7⟩
  replace HB := Hid.intro (HB.out.kept b7 HB.out.sz)
  replace H4 := Hid.intro (H4.out.kept b7)
  replace H5 := Hid.intro (H5.out.kept b7)
  replace H6 := Hid.intro (H6.out.kept b7)
  clear b7
  go_upto_region 10 with fail
  have HC : Hid (∀ w', Below w7.heap.size w7 w' → (∀ o, w'.cell? ⟨w5.heap.size, o, none⟩ = #[.int .i64 S.k.t, .int .i64 S.k.v, .int .i64 S.k.si, .int .i64 S.k.st, .string S.k.sd, .slice a5 S.k.e.length cap5, .slice au5 S.l.length cu5][o]?) ∧ OwnE w' X4.heap.size (.slice a5 S.k.e.length cap5) S.k.e ∧ OwnR w' X4.heap.size (.slice au5 S.l.length cu5) S.l ∧ RowE w' w.heap.size v S.k.e ∧ RowR w' w.heap.size u S.l ∧ w.heap.size ≤ w'.heap.size ∧ w5.heap.size < w'.heap.size ∧ Below w7.heap.size w7 w') := fun w' hb => ⟨(H5.out.kept hb).cell, (H5.out.kept hb).e, (H5.out.kept hb).r, (HB.out.kept hb HB.out.sz).e, (HB.out.kept hb HB.out.sz).r, Nat.le_trans (Nat.le_of_lt HB.out.sz) hb.size, (H5.out.kept hb).hi, hb⟩
  go_cut [35] from 31 (fun s wc => s = .bool false ∧ Below w7.heap.size w7 wc)
  case first =>
    have c1 := HB.out.a
    have cX := H5.out.cell
    have z81 := H5.out.hi
    have z82 := HB.out.sz
    go_region_with (first
      | (go_at_call 11; refine (toStore_any S v u w.heap.size _ (HC.out _ (by first | exact (Below.refl _ _).drew | exact Below.refl _ _ | exact (Below.refl _ _).drew.drew)).2.2.2.2.2.1 (HC.out _ (by first | exact (Below.refl _ _).drew | exact Below.refl _ _ | exact (Below.refl _ _).drew.drew)).2.2.2.1 (HC.out _ (by first | exact (Below.refl _ _).drew | exact Below.refl _ _ | exact (Below.refl _ _).drew.drew)).2.2.2.2.1 HL.out HL2.out).mono ?_; rintro e w8 ⟨v8, u8, rfl, n8⟩; obtain ⟨a8, cap8, rfl⟩ := n8.e.slice; obtain ⟨au8, cu8, rfl⟩ := n8.r.slice; obtain ⟨cY, oY, pY, _, _, _, zY, B8⟩ := HC.out w8 (by first | exact n8.bel | exact ((Below.refl _ _).drew).trans n8.bel | exact ((Below.refl _ _).drew.drew).trans n8.bel); have HY := Hid.intro oY; have HPY := Hid.intro pY; have H8 := Hid.intro n8; clear n8 oY pY)
      | (go_at_call 13; refine (eqStore_any S _ _ _ _ w8.heap.size w8 (Nat.le_refl _) HY.out.rowAll H8.out.e.rowAll HPY.out.rowAll H8.out.r.rowAll).mono ?_; rintro e w9 ⟨rfl, b9⟩; have B9 := B8.trans (b9.mono (by have := B8.size; omega)); clear b9))
    all_goals
      clear HC c1 cX
      go_wp2_with fail
      go_meet
      case rel => exact ⟨rfl, B9⟩
  case rest =>
  obtain ⟨wa, hwa⟩ : ∃ wa, wa = wc := ⟨_, rfl⟩
  subst hwa
  obtain ⟨rfl, ba⟩ := hcut
  replace HB := Hid.intro (HB.out.kept ba HB.out.sz)
  replace H4 := Hid.intro (H4.out.kept ba)
  replace H5 := Hid.intro (H5.out.kept ba)
  replace H6 := Hid.intro (H6.out.kept ba)
  clear HC ba
  have c5 := H5.out.cell
  have z8 := H5.out.hi
  go_wp2_with fail
  refine (markStore_any S _ _ X4.heap.size 1 wa (by omega) H5.out.e H5.out.r HD5.out (by have := HL.out; omega) (by have := HL2.out; omega) (by omega) (by omega)).mono ?_
  rintro e wb ⟨rfl, _, _, qb⟩
  have bb : Below X4.heap.size wa wb := qb.below (by omega) (fun k hk h => by
    rcases h with h | h
    · have := (HN5.out k h.symm).1; omega
    · have := (HM5.out k h.symm).1; omega)
  have HOUT : Hid (∀ k, X5.heap.size ≤ k → ¬ (some k = (Value.slice a5 S.k.e.length cap5).ownBlock ∨ some k = (Value.slice au5 S.l.length cu5).ownBlock)) := fun k hk h => by
    rcases h with h | h
    · have := (HN5.out k h.symm).2; omega
    · have := (HM5.out k h.symm).2; omega
  replace HB := Hid.intro (HB.out.kept bb hX4)
  replace H4 := Hid.intro (H4.out.keptB bb s4 HN4.out HM4.out)
  replace H6 := Hid.intro (H6.out.only qb (HOUT.out _ s6) (fun k hk => HOUT.out k (HN6.out k hk).1) (fun k hk => HOUT.out k (HM6.out k hk).1))
  obtain ⟨kk, hkk, hk0⟩ : ∃ kk : Int, 1 + 2 * ((S.k.e.length : Nat) : Int) + 5 * ((S.l.length : Nat) : Int) = kk ∧ 0 ≤ kk := ⟨_, rfl, by omega⟩
  simp only [hkk]
  clear hkk c5 qb bb H5 HN5 HM5 HOUT z8
  have c6 := H6.out.cell
  have c4 := H4.out.cell
  have z9 := H6.out.hi
  go_wp2_with fail
  refine (eqStore_any (loseS S aKeep) _ _ _ _ wb.heap.size wb (Nat.le_refl _) H6.out.e.rowAll H4.out.e.rowAll H6.out.r.rowAll H4.out.r.rowAll).mono ?_
  rintro e wd ⟨rfl, bd⟩
  replace HB := Hid.intro (HB.out.kept bd HB.out.sz)
  replace H4 := Hid.intro (H4.out.kept bd)
  replace H6 := Hid.intro (H6.out.kept bd)
  clear c4 c6 bd z9
  have c6 := H6.out.cell
  have z9 := H6.out.hi
  have hl6 : (loseS S aKeep).k.e.length ≤ 2000000 := by have := loseS_len S aKeep; omega
  have hl7 : (loseS S aKeep).l.length ≤ 2000000 := by simp [loseS_l]
  go_wp2_with fail
  refine (markStore_any (loseS S aKeep) _ _ X5.heap.size 1 wd (by omega) H6.out.e H6.out.r HD6.out hl6 hl7 (by omega) (by omega)).mono ?_
  rintro e we ⟨rfl, oe, pe, qe⟩
  have hne : ¬ (some w6.heap.size = (Value.slice a6 (loseS S aKeep).k.e.length cap6).ownBlock ∨ some w6.heap.size = (Value.slice au6 (loseS S aKeep).l.length cu6).ownBlock) := fun h => by
    rcases h with h | h
    · have := (HN6.out _ h.symm).2; omega
    · have := (HM6.out _ h.symm).2; omega
  have be : Below X5.heap.size wd we := qe.below (by omega) (fun k hk h => by
    rcases h with h | h
    · have := (HN6.out k h.symm).1; omega
    · have := (HM6.out k h.symm).1; omega)
  have hX54 : X4.heap.size ≤ X5.heap.size := by omega
  replace HB := Hid.intro (HB.out.kept be (by omega))
  replace H4 := Hid.intro (H4.out.keptB be (by omega) (fun k hk => by have := HN4.out k hk; omega) (fun k hk => by have := HM4.out k hk; omega))
  have ce : ∀ o, we.cell? ⟨w6.heap.size, o, none⟩ = #[.int .i64 (loseS S aKeep).k.t, .int .i64 (loseS S aKeep).k.v, .int .i64 (loseS S aKeep).k.si, .int .i64 (loseS S aKeep).k.st, .string (loseS S aKeep).k.sd, .slice a6 (loseS S aKeep).k.e.length cap6, .slice au6 (loseS S aKeep).l.length cu6][o]? := fun o => (qe.cell z9 hne).trans (c6 o)
  have hm9 : (markEL 1 (loseS S aKeep).k.e (loseS S aKeep).k.e.length).length = (loseS S aKeep).k.e.length := markEL_len _ _ _
  have HO := Hid.intro oe
  have ze : w6.heap.size < we.heap.size := Nat.lt_of_lt_of_le z9 qe.size
  have hm8 : (markRL (1 + 2 * (((loseS S aKeep).k.e.length : Nat) : Int)) (loseS S aKeep).l (loseS S aKeep).l.length).length = (loseS S aKeep).l.length := markRL_len _ _ _
  have HP := Hid.intro pe
  clear pe
  clear c6 qe be oe H6 hne z9
  go_wp2_with fail
  refine (heldStore_any (loseS S aKeep) (markEL 1 (loseS S aKeep).k.e (loseS S aKeep).k.e.length) (markRL (1 + 2 * (((loseS S aKeep).k.e.length : Nat) : Int)) (loseS S aKeep).l (loseS S aKeep).l.length) _ _ we.heap.size 1 we (Nat.le_refl _) HO.out.rowAll (fun i h => markEL_get _ _ _ _ (by rw [hm9] at h; exact h) h) HP.out.rowAll (fun i h => by rw [hm9]; exact markRL_get _ _ _ _ (by rw [hm8] at h; exact h) h) (by rw [hm9]; exact hl6) (by rw [hm8]; exact hl7) (by omega) (by omega)).mono ?_
  rintro e wf ⟨rfl, bf⟩
  rw [hm9, hm8]
  obtain ⟨mm, hmm, hm0⟩ : ∃ mm : Int, 1 + 2 * ((((loseS S aKeep).k.e).length : Nat) : Int) + 5 * (((loseS S aKeep).l.length : Nat) : Int) = mm ∧ 0 ≤ mm := ⟨_, rfl, by omega⟩
  simp only [hmm]
  replace HB := Hid.intro (HB.out.kept bf HB.out.sz)
  replace H4 := Hid.intro (H4.out.kept bf)
  replace HO := Hid.intro (HO.out.kept bf)
  replace HP := Hid.intro (HP.out.kept bf)
  replace ce := keepC bf ze ce
  replace ze : w6.heap.size < wf.heap.size := Nat.lt_of_lt_of_le ze bf.size
  clear bf
  have c1 := HB.out.a
  have zz := HB.out.sz
  go_wp2_with fail
  refine (toStore_any S v u w.heap.size _ (Nat.le_of_lt zz) HB.out.e HB.out.r HL.out HL2.out).mono ?_
  rintro e wg ⟨vg, ug, rfl, ng⟩
  replace HB := Hid.intro (HB.out.kept ng.bel zz)
  replace H4 := Hid.intro (H4.out.kept ng.bel)
  replace HO := Hid.intro (HO.out.kept ng.bel)
  replace HP := Hid.intro (HP.out.kept ng.bel)
  replace ce := keepC ng.bel ze ce
  replace ze : w6.heap.size < wg.heap.size := Nat.lt_of_lt_of_le ze ng.bel.size
  have HG := Hid.intro ng
  clear ng c1 zz
  go_wp2_with fail
  refine (implLose_any S _ _ wg.heap.size aKeep wg (Nat.le_refl _) HG.out.e.rowAll HG.out.r.rowAll).mono ?_
  rintro e wh ⟨vh, uh, rfl, nh⟩
  obtain ⟨ah, caph, rfl⟩ := nh.e.slice
  obtain ⟨auh, cuh, rfl⟩ := nh.r.slice
  replace HB := Hid.intro (HB.out.kept nh.bel HB.out.sz)
  replace H4 := Hid.intro (H4.out.kept nh.bel)
  replace HO := Hid.intro (HO.out.kept nh.bel)
  replace HP := Hid.intro (HP.out.kept nh.bel)
  replace ce := keepC nh.bel ze ce
  replace ze : w6.heap.size < wh.heap.size := Nat.lt_of_lt_of_le ze nh.bel.size
  have c4 := H4.out.cell
  have z4 := H4.out.hi
  go_wp2_with fail
  obtain ⟨Xh, hX, bX, zX, cX, fX⟩ := boxed wh #[.int .i64 (loseS S aKeep).k.t, .int .i64 (loseS S aKeep).k.v, .int .i64 (loseS S aKeep).k.si, .int .i64 (loseS S aKeep).k.st, .string (loseS S aKeep).k.sd, .slice ah (loseS S aKeep).k.e.length caph, .slice auh (loseS S aKeep).l.length cuh] 38
  simp only [hX]
  replace HB := Hid.intro (HB.out.kept bX HB.out.sz)
  replace H4 := Hid.intro (H4.out.kept bX)
  replace HO := Hid.intro (HO.out.kept bX)
  replace HP := Hid.intro (HP.out.kept bX)
  replace ce := keepC bX ze ce
  replace ze : w6.heap.size < Xh.heap.size := Nat.lt_of_lt_of_le ze bX.size
  have H10 := Hid.intro (show SV Xh wh.heap.size wg.heap.size (loseS S aKeep) (.slice ah (loseS S aKeep).k.e.length caph) (.slice auh (loseS S aKeep).l.length cuh) from ⟨by omega, cX, nh.e.kept bX, nh.r.kept bX⟩)
  clear nh hX bX zX cX fX c4 z4 HG
  refine (eqStore_any (loseS S aKeep) _ _ _ _ Xh.heap.size Xh (Nat.le_refl _) H10.out.e.rowAll H4.out.e.rowAll H10.out.r.rowAll H4.out.r.rowAll).mono ?_
  rintro e wi ⟨rfl, bi⟩
  replace HB := Hid.intro (HB.out.kept bi HB.out.sz)
  replace HO := Hid.intro (HO.out.kept bi)
  replace HP := Hid.intro (HP.out.kept bi)
  replace ce := keepC bi ze ce
  clear bi H10 H4
  go_wp2_with fail
  refine (heldStore_any (loseS S aKeep) (markEL 1 (loseS S aKeep).k.e (loseS S aKeep).k.e.length) (markRL (1 + 2 * (((loseS S aKeep).k.e.length : Nat) : Int)) (loseS S aKeep).l (loseS S aKeep).l.length) _ _ wi.heap.size 1 wi (Nat.le_refl _) HO.out.rowAll (fun i h => markEL_get _ _ _ _ (by rw [hm9] at h; exact h) h) HP.out.rowAll (fun i h => by rw [hm9]; exact markRL_get _ _ _ _ (by rw [hm8] at h; exact h) h) (by rw [hm9]; exact hl6) (by rw [hm8]; exact hl7) (by omega) (by omega)).mono ?_
  rintro e wj ⟨rfl, bj⟩
  rw [hm9, hm8]
  simp only [hmm]
  replace HB := Hid.intro (HB.out.kept bj HB.out.sz)
  clear ce bj
  go_wp2
  go_ret
  exact ⟨rfl, HB.out.bel⟩
end Go.Proofs.Ytkilepoimocoeab
