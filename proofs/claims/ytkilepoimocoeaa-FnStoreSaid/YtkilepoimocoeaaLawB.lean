/- The laws' helpers over rows of entries and Kepts: how great, copies, equal. -/
import Derived.Test.YtkilepoimocoeaaLawA
import Derived.Test.YtkilepoimocoeaaRows2
import Derived.Deep.RegionWith
import Derived.OwnWalk
namespace Go.Proofs.Ytkilepoimocoeaa
open Go.RowKit
set_option linter.unusedVariables false
set_option maxHeartbeats 2000000 in
theorem szEntryS_any (L : List En) (v : Value) (N : Nat) (left : Int) (w : World) (hN : N ≤ w.heap.size) (hr : RowE w N v L) (hz : ∀ e ∈ L, e.d.size ≤ 9223372036854775807) (h0 : 0 ≤ left) (h1 : left ≤ 1048576) :
    Calls Try.prog 62 #[v, .int .i64 left] w fun e w' => (∃ n, e = .returned (.int .i64 n) ∧ SzP left n L.length) ∧ Below w.heap.size w w' := by
  obtain ⟨a, cap, rfl, hl, hm, hcells⟩ := hr
  have HC := Hid.intro hcells
  have HZ := Hid.intro hz
  clear hcells hz
  by_cases hb : left - L.length < 0
  · go_enter Try.func62, Try.ntmps62
    go_wp2
    go_ret
    exact ⟨⟨_, rfl, by unfold SzP; omega⟩, Below.refl _ _⟩
  · go_enter Try.func62, Try.ntmps62
    go_wp2
    go_loopw [1, 5] (fun q i wr => ∃ (j : Nat) (x : Int), i = .int .i64 j ∧ q = .int .i64 x ∧ j ≤ L.length ∧ 0 ≤ x ∧ x ≤ left ∧ Below w.heap.size w wr) (fun _ i _ => L.length - (intOf i).toNat)
    case atStart => exact ⟨0, _, rfl, rfl, Nat.zero_le _, by omega, by omega, Below.refl _ _⟩
    case round =>
      obtain ⟨j, x, rfl, rfl, hj, hx0, hx1, hbel⟩ := hrel
      by_cases hlt : j < L.length
      · obtain ⟨b, off, rfl, hbN, hcc⟩ := HC.out (by intro h; rw [h] at hlt; simp at hlt)
        obtain ⟨c0, c1⟩ := hcc j hlt
        have hsz := HZ.out _ (List.getElem_mem hlt)
        generalize L[j] = ej at c0 c1 hsz
        have g0 := atCell hbel c0 (by omega)
        have g1 := atCell hbel c1 (by omega)
        have hs := hbel.size
        have HS := Hid.intro hsz
        clear hcc c0 c1 hsz
        go_wp2_with fail
        refine (szEntry_any ej.t ej.d x _ hx0 (by omega) HS.out).mono ?_
        rintro e w1 ⟨⟨n, rfl, hn⟩, b1⟩
        have B1 := hbel.trans (b1.mono (by omega))
        clear g0 g1 b1
        have hn1 := hn.1
        have hn2 := hn.2.1
        by_cases hneg : n < 0
        · go_wp2
          go_ret
          exact ⟨⟨_, rfl, by unfold SzP; omega⟩, B1⟩
        · go_wp2
          go_roundw
          case rel => exact ⟨j + 1, n, by go_num, rfl, by omega, by omega, by omega, B1⟩
          case measure => simp [intOf]; omega
      · obtain rfl : j = L.length := by omega
        go_wp2
        go_ret
        exact ⟨⟨_, rfl, by unfold SzP; omega⟩, hbel⟩
set_option maxHeartbeats 2000000 in
theorem szKept_any (K : Kp) (v : Value) (N : Nat) (left : Int) (w : World) (hN : N ≤ w.heap.size) (hs : K.sd.size ≤ 9223372036854775807) (hr : RowE w N v K.e) (hz : ∀ e ∈ K.e, e.d.size ≤ 9223372036854775807) (h0 : 0 ≤ left) (h1 : left ≤ 1048576) :
    Calls Try.prog 25 #[kpV K v, .int .i64 left] w fun e w' => (∃ n, e = .returned (.int .i64 n) ∧ SzP left n K.e.length) ∧ Below w.heap.size w w' := by
  have HR := Hid.intro hr
  have HZ := Hid.intro hz
  clear hr hz
  go_enter Try.func25, Try.ntmps25
  go_wp2_with fail
  obtain ⟨W, hW, bW, zW, cW, fW⟩ := boxed w #[.int .i64 K.t, .int .i64 K.v, .int .i64 K.si, .int .i64 K.st, .string K.sd, v] 54
  simp only [hW]
  refine (szSnap_any _ _ _ _ _ h0 h1 hs).mono ?_
  rintro e w1 ⟨⟨n, rfl, hn⟩, b1⟩
  have c1 := keepC b1 (by omega) cW
  have z1 := b1.size
  have B1 := bW.trans (b1.mono (by omega))
  have hz1 : w.heap.size < w1.heap.size := by omega
  obtain ⟨n1, n2, _⟩ := hn
  clear hW cW fW bW zW b1
  by_cases hneg : n < 0
  · go_wp2
    go_ret
    exact ⟨⟨_, rfl, by unfold SzP; omega⟩, B1⟩
  · go_wp2_with fail
    refine (szEntryS_any K.e v N n _ (by omega) (HR.out.kept (B1.mono hN)) HZ.out (by omega) (by omega)).mono ?_
    rintro e w2 ⟨⟨m, rfl, hm⟩, b2⟩
    obtain ⟨m1, m2, m3⟩ := hm
    have B2 := B1.trans (b2.mono (by omega))
    clear c1 b2
    by_cases hneg2 : m < 0
    · clear m3
      go_wp2
      go_ret
      exact ⟨⟨_, rfl, by unfold SzP; omega⟩, B2⟩
    · have m4 := m3 (by omega)
      clear m3
      go_wp2
      go_ret
      exact ⟨⟨_, rfl, by unfold SzP; omega⟩, B2⟩
set_option maxRecDepth 100000 in
set_option maxHeartbeats 2000000 in
theorem toEntryS_any (L : List En) (v : Value) (N : Nat) (w : World) (hN : N ≤ w.heap.size) (hr : RowE w N v L) (hl : L.length ≤ 1048576) :
    Calls Try.prog 66 #[v] w fun e w' => ∃ v', e = .returned v' ∧ NewE w w' v' L := by
  obtain ⟨i0, hi, hz0, hz1, hz2⟩ := info_parts Try.infoE
  obtain ⟨a, cap, rfl, hlc, hm, hcells⟩ := hr
  have HC := Hid.intro hcells
  have HL := Hid.intro hl
  clear hcells
  go_enter Try.func66, Try.ntmps66
  go_wp2_with (at_make; refine wpList_make_full _ rfl _ _ 26 rfl w.heap.size 96 i0 (.agg #[.int .i64 0, .string ⟨#[]⟩]) 2 Try.underlying26 hi hz0 hz1 .i64 .i64 _ _ L.length rfl rfl rfl rfl (by rw [hz2]; have := HL.out; omega) (by unfold maxLen; have := HL.out; omega) (Nat.le_refl _) ?_; intro w1 hown hgrow; have HO := Hid.intro hown; have HG := Hid.intro hgrow; clear hown hgrow)
  have O1 : OwnE w1 w.heap.size (.slice (some ⟨w.heap.size, 0, none⟩) L.length L.length) (enFMix L 0) := by
    rw [enFMix_zero]
    exact OwnE.mk HO.out (by simp) (enF_rep L.length)
  have B1 : Below w.heap.size w w1 := (grown_only HG.out).below (Nat.le_refl _) (fun k _ h => by cases h)
  have HO1 := Hid.intro O1
  clear O1 HO HG hi hz0 hz1 hz2
  go_loopw [4] (fun i wr => ∃ (j : Nat), i = .int .i64 j ∧ j ≤ L.length ∧ Hid (OwnE wr w.heap.size (.slice (some ⟨w.heap.size, 0, none⟩) L.length L.length) (enFMix L j)) ∧ Below w.heap.size w wr) (fun i _ => L.length - (intOf i).toNat)
  case atStart => exact ⟨0, rfl, Nat.zero_le _, HO1, B1⟩
  case round =>
    obtain ⟨j, rfl, hj, HO, hbel⟩ := hrel
    by_cases hlt : j < L.length
    · obtain ⟨b, off, rfl, hbN, hcc⟩ := HC.out (by intro h; rw [h] at hlt; simp at hlt)
      obtain ⟨c0, c1⟩ := hcc j hlt
      have hst := enFMix_step L j hlt
      have hml := enFMix_len L j hj
      generalize L[j] = ej at c0 c1 hst
      have g0 := atCell hbel c0 (by omega)
      have g1 := atCell hbel c1 (by omega)
      have hs := hbel.size
      have HST := Hid.intro hst
      have HML := Hid.intro hml
      clear hcc c0 c1 hst hml
      go_wp2_with fail
      refine (toEntry_any ej.t ej.d _).mono ?_
      rintro e w2 ⟨rfl, b2⟩
      have HO2 := Hid.intro (HO.out.kept b2)
      have hb2 := hbel.trans (b2.mono (by omega))
      obtain ⟨y0, q0⟩ := HO2.out.has HML.out hlt (i := 0) (by omega)
      obtain ⟨y1, q1⟩ := HO2.out.has HML.out hlt (i := 1) (by omega)
      simp only [Nat.add_zero] at q0
      have f0 := HO2.out.frozen HML.out
      have HS : Hid (OwnE ((w2.setCell ⟨w.heap.size, j * 2, none⟩ (.int .i64 ej.t)).setCell ⟨w.heap.size, j * 2 + 1, none⟩ (.string ej.d)) w.heap.size (.slice (some ⟨w.heap.size, 0, none⟩) L.length L.length) (enFMix L (j + 1))) := by
        unfold Hid
        rw [← HST.out]
        exact HO2.out.store HML.out hlt ej
      have hz2 : w.heap.size < w2.heap.size := by have := (HO2.out.lt _ rfl).2; exact this
      clear g0 g1 b2 HO HO2 HST HML
      go_wp2
      go_roundw
      case rel => exact ⟨j + 1, by go_num, by omega, HS, (hb2.setCell (Nat.le_refl _) _).setCell (Nat.le_refl _) _⟩
      case measure => simp [intOf]; omega
    · obtain rfl : j = L.length := by omega
      have hall := HO.out
      rw [enFMix_all] at hall
      have HA := Hid.intro hall
      clear hall HO
      go_wp2
      go_ret
      exact ⟨_, rfl, HA.out, hbel⟩
set_option maxRecDepth 100000 in
set_option maxHeartbeats 2000000 in
theorem toKept_any (K : Kp) (v : Value) (N : Nat) (w : World) (hN : N ≤ w.heap.size) (hr : RowE w N v K.e) (hl : K.e.length ≤ 1048576) :
    Calls Try.prog 27 #[kpV K v] w fun e w' => ∃ v', e = .returned (kpV K v') ∧ NewE w w' v' K.e := by
  have HR := Hid.intro hr
  clear hr
  go_enter Try.func27, Try.ntmps27
  go_wp2_with fail
  obtain ⟨W, hW, bW, zW, c1, f1, c2, f2, c3, f3⟩ := boxed3 w #[.int .i64 K.t, .int .i64 K.v, .int .i64 K.si, .int .i64 K.st, .string K.sd, v] #[.int .i64 0, .int .i64 0, .int .i64 0, .int .i64 0, .string ⟨#[]⟩, .slice none 0 0] #[.int .i64 K.t, .int .i64 K.v, .int .i64 0, .int .i64 0, .string ⟨#[]⟩, .slice none 0 0] 54 28 28
  simp only [hW]
  refine (toSnap_any _ _ _ _).mono ?_
  rintro e w1 ⟨rfl, b1⟩
  replace c1 := keepC b1 (by omega) c1
  replace c2 := keepC b1 (by omega) c2
  replace f2 := keepF b1 (by omega) f2
  replace c3 := keepC b1 (by omega) c3
  replace f3 := keepF b1 (by omega) f3
  have z1 := b1.size
  replace bW := bW.trans (b1.mono (by omega))
  replace zW : w.heap.size + 1 + 1 < w1.heap.size := by omega
  clear hW b1 f1 z1
  go_wp2_with fail
  obtain ⟨X, hX⟩ : ∃ X, ((w1.setCell ⟨w.heap.size + 1 + 1, 2, none⟩ (.int .i64 K.si)).setCell ⟨w.heap.size + 1 + 1, 3, none⟩ (.int .i64 K.st)).setCell ⟨w.heap.size + 1 + 1, 4, none⟩ (.string K.sd) = X := ⟨_, rfl⟩
  simp only [hX]
  have x0 : X.cell? ⟨w.heap.size + 1 + 1, 0, none⟩ = some (.int .i64 K.t) := by rw [← hX]; simp [go_sem, c3]
  have x1 : X.cell? ⟨w.heap.size + 1 + 1, 1, none⟩ = some (.int .i64 K.v) := by rw [← hX]; simp [go_sem, c3]
  have x2 : X.cell? ⟨w.heap.size + 1 + 1, 2, none⟩ = some (.int .i64 K.si) := by rw [← hX]; simp [go_sem, c3]
  have x3 : X.cell? ⟨w.heap.size + 1 + 1, 3, none⟩ = some (.int .i64 K.st) := by rw [← hX]; simp [go_sem, c3]
  have x4 : X.cell? ⟨w.heap.size + 1 + 1, 4, none⟩ = some (.string K.sd) := by rw [← hX]; simp [go_sem, c3]
  have x5 : X.cell? ⟨w.heap.size + 1 + 1, 5, none⟩ = some (.slice none 0 0) := by rw [← hX]; simp [go_sem, c3]
  have xf : ∀ o, X.frozen? ⟨w.heap.size + 1 + 1, o, none⟩ = false := fun o => by rw [← hX]; simp [f3]
  have BX : Below (w.heap.size + 1 + 1) w1 X := by
    rw [← hX]
    repeat (refine Below.setCell ?_ (by simp) _)
    exact Below.refl _ _
  have zX : w.heap.size + 1 + 1 < X.heap.size := by have := BX.size; omega
  have B2 : Below w.heap.size w X := bW.trans (BX.mono (by omega))
  replace c2 := keepC BX (by omega) c2
  replace f2 := keepF BX (by omega) f2
  clear hX BX c1 c3 f3 bW zW
  refine (toEntryS_any K.e v N X (by omega) (HR.out.kept (B2.mono hN)) hl).mono ?_
  rintro e w2 ⟨v', rfl, o2, b2⟩
  obtain ⟨a', cap', rfl⟩ := o2.slice
  replace x0 := atCell b2 x0 zX
  replace x1 := atCell b2 x1 zX
  replace x2 := atCell b2 x2 zX
  replace x3 := atCell b2 x3 zX
  replace x4 := atCell b2 x4 zX
  replace x5 := atCell b2 x5 zX
  replace xf := keepF b2 zX xf
  replace c2 := keepC b2 (by omega) c2
  replace f2 := keepF b2 (by omega) f2
  have z2 : w.heap.size + 1 + 1 < w2.heap.size := by have := b2.size; omega
  have HO := Hid.intro o2
  have HB := Hid.intro (B2.trans (b2.mono (by omega)))
  have HX : Hid (w.heap.size + 1 + 1 < X.heap.size) := zX
  clear o2 b2 B2 zX
  go_wp2
  refine bodyPost_ret (v := kpV K (.slice a' K.e.length cap')) (by simp [results, Try.results27, go_sem, c2]) rfl ⟨_, rfl, ?_, ?_⟩
  · refine OwnE.lower (OwnE.only HO.out (S := fun k => k = w.heap.size + 1 ∨ k = w.heap.size + 1 + 1) ?_ ?_) (by have := HX.out; omega)
    · repeat (refine Only.setCell ?_ (by simp) _)
      exact Only.refl _ _
    · intro k hk h
      have := (HO.out.lt k hk).1
      have := HX.out
      omega
  · repeat (refine Below.setCell ?_ (by simp <;> omega) _)
    exact HB.out
set_option maxRecDepth 100000 in
set_option maxHeartbeats 2000000 in
theorem eqEntryS_any (L : List En) (v1 v2 : Value) (N : Nat) (w : World) (hN : N ≤ w.heap.size) (h1 : RowE w N v1 L) (h2 : RowE w N v2 L) :
    Calls Try.prog 71 #[v1, v2] w fun e w' => e = .returned (.bool true) ∧ Below w.heap.size w w' := by
  obtain ⟨a1, cap1, rfl, l1, m1, hc1⟩ := h1
  obtain ⟨a2, cap2, rfl, l2, m2, hc2⟩ := h2
  have H1 := Hid.intro hc1
  have H2 := Hid.intro hc2
  clear hc1 hc2
  go_enter Try.func71, Try.ntmps71
  go_wp2
  go_loopw [5] (fun i wr => ∃ (j : Nat), i = .int .i64 j ∧ j ≤ L.length ∧ Below w.heap.size w wr) (fun i _ => L.length - (intOf i).toNat)
  case atStart => exact ⟨0, rfl, Nat.zero_le _, Below.refl _ _⟩
  case round =>
    obtain ⟨j, rfl, hj, hbel⟩ := hrel
    by_cases hlt : j < L.length
    · have hne : L ≠ [] := by intro h; rw [h] at hlt; simp at hlt
      obtain ⟨b1, o1, rfl, hb1, cc1⟩ := H1.out hne
      obtain ⟨b2, o2, rfl, hb2, cc2⟩ := H2.out hne
      obtain ⟨p0, p1⟩ := cc1 j hlt
      obtain ⟨q0, q1⟩ := cc2 j hlt
      generalize L[j] = ej at p0 p1 q0 q1
      have hs := hbel.size
      have HC : Hid (∀ w', Below wr.heap.size wr w' → Below w.heap.size w w') := fun w' hb => hbel.trans (hb.mono hs)
      have hp0 := atCell hbel p0 (by omega)
      have hp1 := atCell hbel p1 (by omega)
      have hq0 := atCell hbel q0 (by omega)
      have hq1 := atCell hbel q1 (by omega)
      have i1 : (0 : Int) ≤ (j : Int) ∧ (j : Int) < (L.length : Int) := by omega
      have HJ : Hid (j < L.length) := hlt
      have hjl : (j : Int) < (L.length : Int) := by omega
      clear cc1 cc2 p0 p1 q0 q1 hne
      go_wp2
      go_region_with (go_at_call 90; refine (eqEntry_any _ _ _).mono ?_; rintro e w2 ⟨rfl, b2⟩; have B2 := HC.out w2 (by first | exact b2 | exact ((Below.refl _ _).drew).trans b2 | exact ((Below.refl _ _).drew.drew).trans b2); clear b2)
      all_goals
        clear HC
        go_wp2
        go_roundw
        case rel => exact ⟨j + 1, by go_num, by omega, B2⟩
        case measure => simp [intOf]; omega
    · obtain rfl : j = L.length := by omega
      go_wp2
      go_ret
      exact ⟨rfl, hbel⟩
set_option maxHeartbeats 2000000 in
theorem eqKept_any (K : Kp) (v1 v2 : Value) (N : Nat) (w : World) (hN : N ≤ w.heap.size) (h1 : RowE w N v1 K.e) (h2 : RowE w N v2 K.e) :
    Calls Try.prog 29 #[kpV K v1, kpV K v2] w fun e w' => e = .returned (.bool true) ∧ Below w.heap.size w w' := by
  have H1 := Hid.intro h1
  have H2 := Hid.intro h2
  clear h1 h2
  go_enter Try.func29, Try.ntmps29
  go_wp2_with fail
  obtain ⟨W, hW, bW, zW, c1, f1, c2, f2⟩ := boxed2 w #[.int .i64 K.t, .int .i64 K.v, .int .i64 K.si, .int .i64 K.st, .string K.sd, v1] #[.int .i64 K.t, .int .i64 K.v, .int .i64 K.si, .int .i64 K.st, .string K.sd, v2] 28 28
  simp only [hW]
  refine (eqSnap_any _ _ _ _).mono ?_
  rintro e w1 ⟨rfl, b1⟩
  replace c1 := keepC b1 (by omega) c1
  replace c2 := keepC b1 (by omega) c2
  have z1 := b1.size
  have B1 := bW.trans (b1.mono (by omega))
  have hz1 : w.heap.size + 1 < w1.heap.size := by omega
  clear hW bW zW b1 f1 f2
  go_wp2_with fail
  refine (eqEntryS_any K.e v1 v2 N w1 (by omega) (H1.out.kept (B1.mono hN)) (H2.out.kept (B1.mono hN))).mono ?_
  rintro e w2 ⟨rfl, b2⟩
  clear c1 c2
  go_wp2
  go_ret
  exact ⟨rfl, B1.trans (b2.mono (by omega))⟩
end Go.Proofs.Ytkilepoimocoeaa
