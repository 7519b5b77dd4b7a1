/- The laws' helpers over rows of slots: how great, copies, equal. -/
import Derived.Test.YtediilplhjbnpaaFSlot
import Derived.Test.YtediilplhjbnpaaTLawCall
import Derived.OwnWalk
import Derived.RegionTactic
import Derived.ChangeAlike
namespace Go.Proofs.Ytediilplhjbnpaa
open Go.RowKit
set_option linter.unusedVariables false
theorem info_partsF {t : TypeId} {z : Option Value} {s b : Nat} (h : (Try.prog.info? t).map (fun i => (i.zero, i.size, i.bytes)) = some (z, s, b)) : ∃ i, Try.prog.info? t = some i ∧ i.zero = z ∧ i.size = s ∧ i.bytes = b := by
  cases h2 : Try.prog.info? t with
  | none => rw [h2] at h; cases h
  | some i =>
    rw [h2] at h
    simp only [Option.map_some, Option.some.injEq, Prod.mk.injEq] at h
    exact ⟨i, rfl, h.1, h.2.1, h.2.2⟩
theorem infoSl1 : (Try.prog.info? 30).map (fun i => (i.zero, i.size, i.bytes)) = some (some (.agg #[.int .i64 0, .int .i64 0, .int .i64 0, .int .i64 0, .string ⟨#[]⟩, .string ⟨#[]⟩, .int .i64 0, .int .i64 0, .string ⟨#[]⟩]), 9, 96) := by kernel_rfl
theorem infoSl : ∃ i, Try.prog.info? 30 = some i ∧ i.zero = some (.agg #[.int .i64 0, .int .i64 0, .int .i64 0, .int .i64 0, .string ⟨#[]⟩, .string ⟨#[]⟩, .int .i64 0, .int .i64 0, .string ⟨#[]⟩]) ∧ i.size = 9 ∧ i.bytes = 96 := info_partsF infoSl1
/-- A call's texts are as long as a text may be. -/
def CaW (c : Ca) : Prop := c.p.size ≤ 9223372036854775807 ∧ c.to.size ≤ 9223372036854775807 ∧ c.d.size ≤ 9223372036854775807
set_option maxHeartbeats 1000000 in
theorem szSlot_any (d : Sl) (left : Int) (w : World) (h0 : 0 ≤ left) (h1 : left ≤ 1048576) (hd : CaW d.x) :
    Calls Try.prog 7 #[slV d, .int .i64 left] w fun e w' => (∃ n, e = .returned (.int .i64 n) ∧ n ≤ left ∧ Hid (0 ≤ n → d.x.p.size ≤ 1048576 ∧ d.x.to.size ≤ 1048576 ∧ d.x.d.size ≤ 1048576)) ∧ Below w.heap.size w w' := by
  go_enter Try.func7, Try.ntmps7
  go_wp2_with fail
  obtain ⟨W, hW, bW, zW, c1, f1⟩ := boxed w (slA d) 25
  try simp only [hW]
  refine (szCall_any d.x left W h0 h1 hd.1 hd.2.1 hd.2.2).mono ?_
  rintro e w1 ⟨⟨n, rfl, hn, hs⟩, b1⟩
  have HB := Hid.intro (bW.trans (b1.mono (by omega)))
  have HS : Hid (0 ≤ n → d.x.p.size ≤ 1048576 ∧ d.x.to.size ≤ 1048576 ∧ d.x.d.size ≤ 1048576) := hs
  clear hW bW b1 f1 c1 hs
  by_cases hneg : n < 0
  · go_wp2
    go_ret
    exact ⟨⟨_, rfl, by omega, Hid.intro (by omega)⟩, HB.out⟩
  · go_wp2
    go_ret
    exact ⟨⟨_, rfl, hn, HS⟩, HB.out⟩
set_option maxHeartbeats 2000000 in
theorem toSlot_any (d : Sl) (w : World) :
    Calls Try.prog 9 #[slV d] w fun e w' => e = .returned (slV d) ∧ Below w.heap.size w w' := by
  go_enter Try.func9, Try.ntmps9
  go_wp2_with fail
  obtain ⟨W, hW, bW, zW, c1, f1, c2, f2, c3, f3⟩ := boxed3 w (slA d) #[.int .i64 0, .int .i64 0, .int .i64 0, .int .i64 0, .string ⟨#[]⟩, .string ⟨#[]⟩, .int .i64 0, .int .i64 0, .string ⟨#[]⟩] #[.int .i64 d.t, .int .i64 d.c, .int .i64 d.s, .int .i64 0, .string ⟨#[]⟩, .string ⟨#[]⟩, .int .i64 0, .int .i64 0, .string ⟨#[]⟩] 25 30 30
  simp only [hW]
  refine (toCall_any d.x W).mono ?_
  rintro e w1 ⟨rfl, b1⟩
  replace c1 := keepC b1 (by omega) c1
  replace c2 := keepC b1 (by omega) c2
  replace f2 := keepF b1 (by omega) f2
  replace c3 := keepC b1 (by omega) c3
  replace f3 := keepF b1 (by omega) f3
  have z1 := b1.size
  have HB := Hid.intro (bW.trans (b1.mono (by omega)))
  have hz1 : w.heap.size + 1 + 1 < w1.heap.size := by omega
  clear hW b1 bW zW f1
  go_wp2
  refine bodyPost_ret (v := slV d) (by simp [results, Try.results9, go_sem, c2]) rfl ⟨rfl, ?_⟩
  repeat (refine Below.setCell ?_ (by simp <;> omega) _)
  exact HB.out
set_option maxHeartbeats 1000000 in
theorem eqCall_same (c : Ca) (w : World) :
    Calls Try.prog 44 #[caV c, caV c] w fun e w' => e = .returned (.bool true) ∧ Below w.heap.size w w' := by
  go_enter Try.func44, Try.ntmps44
  go_wp2
  go_ret
  exact ⟨rfl, two_below _ _ _⟩
set_option maxHeartbeats 1000000 in
theorem eqSlot_any (d : Sl) (w : World) :
    Calls Try.prog 29 #[slV d, slV d] w fun e w' => e = .returned (.bool true) ∧ Below w.heap.size w w' := by
  go_enter Try.func29, Try.ntmps29
  go_wp2_with fail
  obtain ⟨W, hW, bW, zW, c1, f1, c2, f2⟩ := boxed2 w (slA d) (slA d) 30 30
  try simp only [hW]
  refine (eqCall_same d.x W).mono ?_
  rintro e w1 ⟨rfl, b1⟩
  have HB := Hid.intro (bW.trans (b1.mono (by omega)))
  clear hW bW b1 f1 f2 c1 c2
  go_wp2
  go_ret
  exact ⟨rfl, HB.out⟩
set_option maxHeartbeats 2000000 in
theorem szSlotS_any (L : List Sl) (v : Value) (N : Nat) (left : Int) (w : World) (hN : N ≤ w.heap.size) (hr : Row slE w N v L) (hz : ∀ e ∈ L, CaW e.x) (h0 : 0 ≤ left) (h1 : left ≤ 1048576) :
    Calls Try.prog 11 #[v, .int .i64 left] w fun e w' => (∃ n, e = .returned (.int .i64 n) ∧ n ≤ left ∧ (0 ≤ n → (L.length : Int) ≤ left)) ∧ Below w.heap.size w w' := by
  obtain ⟨a, cap, rfl, hl, hm, hcells⟩ := slE_cell hr
  have HC := Hid.intro hcells
  have HZ := Hid.intro hz
  clear hcells hz hr
  by_cases hb : left - L.length < 0
  · go_enter Try.func11, Try.ntmps11
    go_wp2
    go_ret
    exact ⟨⟨_, rfl, by omega, by omega⟩, Below.refl _ _⟩
  · go_enter Try.func11, Try.ntmps11
    go_wp2
    go_loopw [1, 5] (fun q i wr => ∃ (j : Nat) (x : Int), i = .int .i64 j ∧ q = .int .i64 x ∧ j ≤ L.length ∧ 0 ≤ x ∧ x ≤ left ∧ Below w.heap.size w wr) (fun _ i _ => L.length - (intOf i).toNat)
    case atStart => exact ⟨0, _, rfl, rfl, Nat.zero_le _, by omega, by omega, Below.refl _ _⟩
    case round =>
      obtain ⟨j, x, rfl, rfl, hj, hx0, hx1, hbel⟩ := hrel
      by_cases hlt : j < L.length
      · obtain ⟨b, off, rfl, hbN, hcc⟩ := HC.out (by intro h; rw [h] at hlt; simp at hlt)
        have hd := (hcc j hlt).at hbel (by omega)
        have hsz := HZ.out _ (List.getElem_mem hlt)
        generalize L[j] = ej at hd hsz
        obtain ⟨g0, g1, g2, g3, g4, g5, g6, g7, g8⟩ := hd
        have hs := hbel.size
        have HS := Hid.intro hsz
        clear hcc hsz
        go_wp2_with fail
        refine (szSlot_any ej x _ hx0 (by omega) HS.out).mono ?_
        rintro e w1 ⟨⟨n, rfl, hn1, hn2⟩, b1⟩
        have B1 := hbel.trans (b1.mono (by omega))
        clear g0 g1 g2 g3 g4 g5 g6 g7 g8 b1 hn2
        by_cases hneg : n < 0
        · go_wp2
          go_ret
          exact ⟨⟨_, rfl, by omega, by omega⟩, B1⟩
        · go_wp2
          go_roundw
          case rel => exact ⟨j + 1, n, by go_num, rfl, by omega, by omega, by omega, B1⟩
          case measure => simp [intOf]; omega
      · obtain rfl : j = L.length := by omega
        go_wp2
        go_ret
        exact ⟨⟨_, rfl, by omega, by omega⟩, hbel⟩
set_option maxRecDepth 100000 in
set_option maxHeartbeats 4000000 in
theorem toSlotS_any (L : List Sl) (v : Value) (N : Nat) (w : World) (hN : N ≤ w.heap.size) (hr : Row slE w N v L) (hl : L.length ≤ 1048576) :
    Calls Try.prog 13 #[v] w fun e w' => ∃ v', e = .returned v' ∧ New slE 30 w w' v' L := by
  obtain ⟨i0, hi, hz0, hz1, hz2⟩ := infoSl
  obtain ⟨a, cap, rfl, hlc, hm, hcells⟩ := slE_cell hr
  have HC := Hid.intro hcells
  have HL := Hid.intro hl
  clear hcells hr
  go_enter Try.func13, Try.ntmps13
  go_wp2_with (at_make; refine wpList_make_full _ rfl _ _ 36 rfl w.heap.size 30 i0 (.agg #[.int .i64 0, .int .i64 0, .int .i64 0, .int .i64 0, .string ⟨#[]⟩, .string ⟨#[]⟩, .int .i64 0, .int .i64 0, .string ⟨#[]⟩]) 9 Try.underlying36 hi hz0 hz1 .i64 .i64 _ _ L.length rfl rfl rfl rfl (by rw [hz2]; have := HL.out; omega) (by unfold maxLen; have := HL.out; omega) (Nat.le_refl _) ?_; intro w1 hown hgrow; have HO := Hid.intro hown; have HG := Hid.intro hgrow; clear hown hgrow)
  have O1 : Own slE 30 w1 w.heap.size (.slice (some ⟨w.heap.size, 0, none⟩) L.length L.length) (slE.mix L 0) := by
    rw [slE.mix_zero]
    exact Own.mk HO.out (by simp) (slE.rep (.agg #[.int .i64 0, .int .i64 0, .int .i64 0, .int .i64 0, .string ⟨#[]⟩, .string ⟨#[]⟩, .int .i64 0, .int .i64 0, .string ⟨#[]⟩]) rfl L.length)
  have B1 : Below w.heap.size w w1 := (grown_only HG.out).below (Nat.le_refl _) (fun k _ h => by cases h)
  have HO1 := Hid.intro O1
  clear O1 HO HG hi hz0 hz1 hz2
  go_loopw [4] (fun i wr => ∃ (j : Nat), i = .int .i64 j ∧ j ≤ L.length ∧ Hid (Own slE 30 wr w.heap.size (.slice (some ⟨w.heap.size, 0, none⟩) L.length L.length) (slE.mix L j)) ∧ Below w.heap.size w wr) (fun i _ => L.length - (intOf i).toNat)
  case atStart => exact ⟨0, rfl, Nat.zero_le _, HO1, B1⟩
  case round =>
    obtain ⟨j, rfl, hj, HO, hbel⟩ := hrel
    by_cases hlt : j < L.length
    · obtain ⟨b, off, rfl, hbN, hcc⟩ := HC.out (by intro h; rw [h] at hlt; simp at hlt)
      have hd := (hcc j hlt).at hbel (by omega)
      have hst := slE.mix_step L j hlt
      have hml := slE.mix_len L j hj
      generalize L[j] = ej at hd hst
      obtain ⟨g0, g1, g2, g3, g4, g5, g6, g7, g8⟩ := hd
      have hs := hbel.size
      have HST := Hid.intro hst
      have HML := Hid.intro hml
      clear hcc hst hml
      go_wp2_with fail
      refine (toSlot_any ej _).mono ?_
      rintro e w2 ⟨rfl, b2⟩
      have HO2 := Hid.intro (HO.out.kept b2)
      have hb2 := hbel.trans (b2.mono (by omega))
      obtain ⟨y0, q0⟩ := HO2.out.has HML.out hlt (i := 0) (by decide)
      obtain ⟨y1, q1⟩ := HO2.out.has HML.out hlt (i := 1) (by decide)
      obtain ⟨y2, q2⟩ := HO2.out.has HML.out hlt (i := 2) (by decide)
      obtain ⟨y3, q3⟩ := HO2.out.has HML.out hlt (i := 3) (by decide)
      obtain ⟨y4, q4⟩ := HO2.out.has HML.out hlt (i := 4) (by decide)
      obtain ⟨y5, q5⟩ := HO2.out.has HML.out hlt (i := 5) (by decide)
      obtain ⟨y6, q6⟩ := HO2.out.has HML.out hlt (i := 6) (by decide)
      obtain ⟨y7, q7⟩ := HO2.out.has HML.out hlt (i := 7) (by decide)
      obtain ⟨y8, q8⟩ := HO2.out.has HML.out hlt (i := 8) (by decide)
      simp only [Nat.add_zero, show slE.n = 9 from rfl] at q0 q1 q2 q3 q4 q5 q6 q7 q8
      have f0 := HO2.out.frozen HML.out
      have HS : Hid (Own slE 30 (((((((((w2.setCell ⟨w.heap.size, j * 9, none⟩ (.int .i64 ej.t)).setCell ⟨w.heap.size, j * 9 + 1, none⟩ (.int .i64 ej.c)).setCell ⟨w.heap.size, j * 9 + 2, none⟩ (.int .i64 ej.s)).setCell ⟨w.heap.size, j * 9 + 3, none⟩ (.int .i64 ej.x.k)).setCell ⟨w.heap.size, j * 9 + 4, none⟩ (.string ej.x.p)).setCell ⟨w.heap.size, j * 9 + 5, none⟩ (.string ej.x.to)).setCell ⟨w.heap.size, j * 9 + 6, none⟩ (.int .i64 ej.x.n)).setCell ⟨w.heap.size, j * 9 + 7, none⟩ (.int .i64 ej.x.m)).setCell ⟨w.heap.size, j * 9 + 8, none⟩ (.string ej.x.d)) w.heap.size (.slice (some ⟨w.heap.size, 0, none⟩) L.length L.length) (slE.mix L (j + 1))) := by
        unfold Hid
        rw [← HST.out]
        exact HO2.out.store HML.out hlt ej
      have hz2 : w.heap.size < w2.heap.size := by have := (HO2.out.lt _ rfl).2; exact this
      clear g0 g1 g2 g3 g4 g5 g6 g7 g8 b2 HO HO2 HST HML
      go_wp2
      go_roundw
      case rel => exact ⟨j + 1, by go_num, by omega, HS, (((((((((hb2.setCell (Nat.le_refl _) _).setCell (Nat.le_refl _) _).setCell (Nat.le_refl _) _).setCell (Nat.le_refl _) _).setCell (Nat.le_refl _) _).setCell (Nat.le_refl _) _).setCell (Nat.le_refl _) _).setCell (Nat.le_refl _) _).setCell (Nat.le_refl _) _)⟩
      case measure => simp [intOf]; omega
    · obtain rfl : j = L.length := by omega
      have hall := HO.out
      rw [slE.mix_all] at hall
      have HA := Hid.intro hall
      clear hall HO
      go_wp2
      go_ret
      exact ⟨_, rfl, HA.out, hbel⟩
set_option maxRecDepth 100000 in
set_option maxHeartbeats 4000000 in
theorem eqSlotS_any (L : List Sl) (v1 v2 : Value) (N : Nat) (w : World) (hN : N ≤ w.heap.size) (h1 : Row slE w N v1 L) (h2 : Row slE w N v2 L) :
    Calls Try.prog 15 #[v1, v2] w fun e w' => e = .returned (.bool true) ∧ Below w.heap.size w w' := by
  obtain ⟨a1, cap1, rfl, l1, m1, hc1⟩ := slE_cell h1
  obtain ⟨a2, cap2, rfl, l2, m2, hc2⟩ := slE_cell h2
  have H1 := Hid.intro hc1
  have H2 := Hid.intro hc2
  clear hc1 hc2 h1 h2
  go_enter Try.func15, Try.ntmps15
  go_wp2
  go_loopw [5] (fun i wr => ∃ (j : Nat), i = .int .i64 j ∧ j ≤ L.length ∧ Below w.heap.size w wr) (fun i _ => L.length - (intOf i).toNat)
  case atStart => exact ⟨0, rfl, Nat.zero_le _, Below.refl _ _⟩
  case round =>
    obtain ⟨j, rfl, hj, hbel⟩ := hrel
    by_cases hlt : j < L.length
    · have hne : L ≠ [] := by intro h; rw [h] at hlt; simp at hlt
      obtain ⟨b1, o1, rfl, hb1, cc1⟩ := H1.out hne
      obtain ⟨b2, o2, rfl, hb2, cc2⟩ := H2.out hne
      have hp := (cc1 j hlt).at hbel (by omega)
      have hq := (cc2 j hlt).at hbel (by omega)
      generalize L[j] = ej at hp hq
      have hs := hbel.size
      have HC : Hid (∀ w', Below wr.heap.size wr w' → Below w.heap.size w w') := fun w' hb => hbel.trans (hb.mono hs)
      obtain ⟨p0, p1, p2, p3, p4, p5, p6, p7, p8⟩ := hp
      obtain ⟨q0, q1, q2, q3, q4, q5, q6, q7, q8⟩ := hq
      have i1 : (0 : Int) ≤ (j : Int) ∧ (j : Int) < (L.length : Int) := by omega
      have HJ : Hid (j < L.length) := hlt
      have hjl : (j : Int) < (L.length : Int) := by omega
      clear cc1 cc2 hne
      go_wp2
      go_region_with (go_at_call 29; refine (eqSlot_any _ _).mono ?_; rintro e w2 ⟨rfl, b2⟩; have B2 := HC.out w2 (by first | exact b2 | exact ((Below.refl _ _).drew).trans b2 | exact ((Below.refl _ _).drew.drew).trans b2); clear b2)
      all_goals
        clear HC
        go_wp2
        go_roundw
        case rel => exact ⟨j + 1, by go_num, by omega, B2⟩
        case measure => simp [intOf]; omega
    · obtain rfl : j = L.length := by omega
      go_wp2
      go_ret
      exact ⟨rfl, hbel⟩
end Go.Proofs.Ytediilplhjbnpaa
