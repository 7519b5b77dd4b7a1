/- FnExactStoreOk. -/
import Derived.Test.YtkilepoimocoeabSitB

import Derived.Deep.Cut
import Derived.Deep.RegionWith
namespace Go.Proofs.Ytkilepoimocoeab
open Go.RowKit
set_option linter.unusedVariables false
set_option maxRecDepth 100000 in
set_option maxHeartbeats 8000000 in
theorem storeOk_law (S : Sto) (v u : Value) (w : World) (hs : S.k.sd.size ≤ 9223372036854775807) (hr : RowE w w.heap.size v S.k.e) (hz : ∀ e ∈ S.k.e, e.d.size ≤ 9223372036854775807) (hu : RowR w w.heap.size u S.l) (hy : ∀ e ∈ S.l, e.d.size ≤ 9223372036854775807) :
    Calls Try.prog 3 #[stV S v u] w fun e w' => e = .returned (.bool true) ∧ Below w.heap.size w w' := by
  have HR := Hid.intro hr
  have HZ := Hid.intro hz
  have HU := Hid.intro hu
  have HY := Hid.intro hy
  clear hr hz hu hy
  go_enter Try.func3, Try.ntmps3
  go_wp2_with fail
  obtain ⟨W, hW, bW, zW, c1, f1⟩ := boxed w #[.int .i64 S.k.t, .int .i64 S.k.v, .int .i64 S.k.si, .int .i64 S.k.st, .string S.k.sd, v, u] 29
  simp only [hW]
  have HB := Hid.intro (show BaseS w S v u W from ⟨c1, HR.out.kept bW, HU.out.kept bW, by omega, bW⟩)
  refine (szStore_any S v u w.heap.size _ _ (by omega) hs HB.out.e HZ.out HB.out.r HY.out (by omega) (by omega)).mono ?_
  rintro e w1 ⟨⟨n, rfl, hn, hn'⟩, b1⟩
  replace HB := Hid.intro (HB.out.kept b1 HB.out.sz)
  obtain ⟨n1, n2, n3⟩ := hn
  obtain ⟨_, _, n4⟩ := hn'
  clear hW f1 bW zW b1 HR HZ HU HY hs c1
  by_cases hneg : n < 0
  · clear n3 n4
    go_wp2
    go_ret
    exact ⟨rfl, HB.out.bel⟩
  have hlen : S.k.e.length ≤ 1048576 := by have := n3 (by omega); omega
  have hlen2 : S.l.length ≤ 1048576 := by have := n4 (by omega); omega
  have HL := Hid.intro hlen
  have HL2 := Hid.intro hlen2
  clear n1 n2 n3 n4 hlen hlen2
  have c1 := HB.out.a
  have zz := HB.out.sz
  go_wp2_with fail
  refine (toStore_any S v u w.heap.size _ (Nat.le_of_lt zz) HB.out.e HB.out.r HL.out HL2.out).mono ?_
  rintro e w2 ⟨v2, u2, rfl, n2⟩
  replace HB := Hid.intro (HB.out.kept n2.bel zz)
  have HN := Hid.intro n2
  clear c1 n2 hneg zz
  go_wp2_with fail
  refine (specStoreOk_any S v2 u2 w2.heap.size w2 (Nat.le_refl _) HN.out.e.rowAll HN.out.r.rowAll).mono ?_
  rintro e w3 ⟨rfl, b3⟩
  replace HB := Hid.intro (HB.out.kept b3 HB.out.sz)
  clear HN
  have c1 := HB.out.a
  have zz := HB.out.sz
  clear b3
  go_wp2_with fail
  refine (toStore_any S v u w.heap.size _ (Nat.le_of_lt zz) HB.out.e HB.out.r HL.out HL2.out).mono ?_
  have hX4 : w.heap.size < w3.heap.size := zz
  rintro e w5 ⟨v5, u5, rfl, n5⟩
  obtain ⟨a5, cap5, rfl⟩ := n5.e.slice
  obtain ⟨au5, cu5, rfl⟩ := n5.r.slice
  replace HB := Hid.intro (HB.out.kept n5.bel hX4)
  have z5 := n5.bel.size
  clear c1 zz
  go_wp2_with fail
  obtain ⟨X5, hX, bX, zX, cX, fX⟩ := boxed w5 #[.int .i64 S.k.t, .int .i64 S.k.v, .int .i64 S.k.si, .int .i64 S.k.st, .string S.k.sd, .slice a5 S.k.e.length cap5, .slice au5 S.l.length cu5] 38
  simp only [hX]
  replace HB := Hid.intro (HB.out.kept bX HB.out.sz)
  have H5 := Hid.intro (show SV X5 w5.heap.size w3.heap.size S (.slice a5 S.k.e.length cap5) (.slice au5 S.l.length cu5) from ⟨by omega, cX, n5.e.kept bX, n5.r.kept bX⟩)
  have HD5 := Hid.intro n5.dis
  have HN5 : Hid (∀ k, (Value.slice a5 S.k.e.length cap5).ownBlock = some k → w3.heap.size ≤ k ∧ k < w5.heap.size) := n5.e.lt
  have HM5 : Hid (∀ k, (Value.slice au5 S.l.length cu5).ownBlock = some k → w3.heap.size ≤ k ∧ k < w5.heap.size) := n5.r.lt
  have z6 : w5.heap.size < X5.heap.size := by omega
  have s5 := H5.out.hi
  clear n5 hX bX zX cX fX
  refine (implStoreOk_any S _ _ X5.heap.size X5 (Nat.le_refl _) H5.out.e.rowAll H5.out.r.rowAll).mono ?_
  rintro e w6 ⟨rfl, b6⟩
  replace HB := Hid.intro (HB.out.kept b6 HB.out.sz)
  replace H5 := Hid.intro (H5.out.kept b6)
  clear b6
  go_upto_region 10 with fail
  have HC : Hid (∀ w', Below w6.heap.size w6 w' → (∀ o, w'.cell? ⟨w5.heap.size, o, none⟩ = #[.int .i64 S.k.t, .int .i64 S.k.v, .int .i64 S.k.si, .int .i64 S.k.st, .string S.k.sd, .slice a5 S.k.e.length cap5, .slice au5 S.l.length cu5][o]?) ∧ OwnE w' w3.heap.size (.slice a5 S.k.e.length cap5) S.k.e ∧ OwnR w' w3.heap.size (.slice au5 S.l.length cu5) S.l ∧ RowE w' w.heap.size v S.k.e ∧ RowR w' w.heap.size u S.l ∧ w.heap.size ≤ w'.heap.size ∧ w5.heap.size < w'.heap.size ∧ Below w6.heap.size w6 w') := fun w' hb => ⟨(H5.out.kept hb).cell, (H5.out.kept hb).e, (H5.out.kept hb).r, (HB.out.kept hb HB.out.sz).e, (HB.out.kept hb HB.out.sz).r, Nat.le_trans (Nat.le_of_lt HB.out.sz) hb.size, (H5.out.kept hb).hi, hb⟩
  go_cut [26] from 22 (fun s wc => s = .bool false ∧ Below w6.heap.size w6 wc)
  case first =>
    have c1 := HB.out.a
    have cX := H5.out.cell
    have z81 := H5.out.hi
    have z82 := HB.out.sz
    go_region_with (first
      | (go_at_call 11; refine (toStore_any S v u w.heap.size _ (HC.out _ (by first | exact (Below.refl _ _).drew | exact Below.refl _ _ | exact (Below.refl _ _).drew.drew)).2.2.2.2.2.1 (HC.out _ (by first | exact (Below.refl _ _).drew | exact Below.refl _ _ | exact (Below.refl _ _).drew.drew)).2.2.2.1 (HC.out _ (by first | exact (Below.refl _ _).drew | exact Below.refl _ _ | exact (Below.refl _ _).drew.drew)).2.2.2.2.1 HL.out HL2.out).mono ?_; rintro e w8 ⟨v8, u8, rfl, n8⟩; obtain ⟨a8, cap8, rfl⟩ := n8.e.slice; obtain ⟨au8, cu8, rfl⟩ := n8.r.slice; obtain ⟨cY, oY, pY, _, _, _, zY, B8⟩ := HC.out w8 (by first | exact n8.bel | exact ((Below.refl _ _).drew).trans n8.bel | exact ((Below.refl _ _).drew.drew).trans n8.bel); have HY := Hid.intro oY; have HPY := Hid.intro pY; have H8 := Hid.intro n8; clear n8 oY pY)
      | (go_at_call 13; refine (eqStore_any S _ _ _ _ w8.heap.size w8 (Nat.le_refl _) HY.out.rowAll H8.out.e.rowAll HPY.out.rowAll H8.out.r.rowAll).mono ?_; rintro e w9 ⟨rfl, b9⟩; have B9 := B8.trans (b9.mono (by have := B8.size; omega)); clear b9))
    all_goals
      clear HC c1 cX
      go_wp2_with fail
      go_meet
      case rel => exact ⟨rfl, B9⟩
  case rest =>
  obtain ⟨wa, hwa⟩ : ∃ wa, wa = wc := ⟨_, rfl⟩
  subst hwa
  obtain ⟨rfl, ba⟩ := hcut
  replace HB := Hid.intro (HB.out.kept ba HB.out.sz)
  clear HC ba
  go_wp2
  go_ret
  exact ⟨rfl, HB.out.bel⟩
end Go.Proofs.Ytkilepoimocoeab
