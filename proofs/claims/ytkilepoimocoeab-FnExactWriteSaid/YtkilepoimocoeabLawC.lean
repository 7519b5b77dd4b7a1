/- The laws' helpers over rows of records: how great, copies, equal. -/
import Derived.Test.YtkilepoimocoeabMark
namespace Go.Proofs.Ytkilepoimocoeab
open Go.RowKit
set_option linter.unusedVariables false
def NewR (w w' : World) (v : Value) (L : List Rc) : Prop := OwnR w' w.heap.size v L ∧ Below w.heap.size w w'
set_option maxHeartbeats 1000000 in
theorem eqRec_any (r : Rc) (w : World) :
    Calls Try.prog 50 #[rcV r, rcV r] w fun e w' => e = .returned (.bool true) ∧ Below w.heap.size w w' := by
  go_enter Try.func50, Try.ntmps50
  go_wp2
  go_ret
  exact ⟨rfl, two_below _ _ _⟩
set_option maxHeartbeats 2000000 in
theorem szRecS_any (L : List Rc) (v : Value) (N : Nat) (left : Int) (w : World) (hN : N ≤ w.heap.size) (hr : RowR w N v L) (hz : ∀ e ∈ L, e.d.size ≤ 9223372036854775807) (h0 : 0 ≤ left) (h1 : left ≤ 1048576) :
    Calls Try.prog 23 #[v, .int .i64 left] w fun e w' => (∃ n, e = .returned (.int .i64 n) ∧ SzP left n L.length) ∧ Below w.heap.size w w' := by
  obtain ⟨a, cap, rfl, hl, hm, hcells⟩ := hr
  have HC := Hid.intro hcells
  have HZ := Hid.intro hz
  clear hcells hz
  by_cases hb : left - L.length < 0
  · go_enter Try.func23, Try.ntmps23
    go_wp2
    go_ret
    exact ⟨⟨_, rfl, by unfold SzP; omega⟩, Below.refl _ _⟩
  · go_enter Try.func23, Try.ntmps23
    go_wp2
    go_loopw [1, 5] (fun q i wr => ∃ (j : Nat) (x : Int), i = .int .i64 j ∧ q = .int .i64 x ∧ j ≤ L.length ∧ 0 ≤ x ∧ x ≤ left ∧ Below w.heap.size w wr) (fun _ i _ => L.length - (intOf i).toNat)
    case atStart => exact ⟨0, _, rfl, rfl, Nat.zero_le _, by omega, by omega, Below.refl _ _⟩
    case round =>
      obtain ⟨j, x, rfl, rfl, hj, hx0, hx1, hbel⟩ := hrel
      by_cases hlt : j < L.length
      · obtain ⟨b, off, rfl, hbN, hcc⟩ := HC.out (by intro h; rw [h] at hlt; simp at hlt)
        obtain ⟨c0, c1, c2, c3, c4⟩ := hcc j hlt
        have hsz := HZ.out _ (List.getElem_mem hlt)
        generalize L[j] = ej at c0 c1 c2 c3 c4 hsz
        have g0 := atCell hbel c0 (by omega)
        have g1 := atCell hbel c1 (by omega)
        have g2 := atCell hbel c2 (by omega)
        have g3 := atCell hbel c3 (by omega)
        have g4 := atCell hbel c4 (by omega)
        have hs := hbel.size
        have HS := Hid.intro hsz
        clear hcc c0 c1 c2 c3 c4 hsz
        go_wp2_with fail
        refine (szRec_any ej x _ hx0 (by omega) HS.out).mono ?_
        rintro e w1 ⟨⟨n, rfl, hn⟩, b1⟩
        have B1 := hbel.trans (b1.mono (by omega))
        clear g0 g1 g2 g3 g4 b1
        have hn1 := hn.1
        have hn2 := hn.2.1
        by_cases hneg : n < 0
        · go_wp2
          go_ret
          exact ⟨⟨_, rfl, by unfold SzP; omega⟩, B1⟩
        · go_wp2
          go_roundw
          case rel => exact ⟨j + 1, n, by go_num, rfl, by omega, by omega, by omega, B1⟩
          case measure => simp [intOf]; omega
      · obtain rfl : j = L.length := by omega
        go_wp2
        go_ret
        exact ⟨⟨_, rfl, by unfold SzP; omega⟩, hbel⟩
set_option maxRecDepth 100000 in
set_option maxHeartbeats 2000000 in
theorem toRecS_any (L : List Rc) (v : Value) (N : Nat) (w : World) (hN : N ≤ w.heap.size) (hr : RowR w N v L) (hl : L.length ≤ 1048576) :
    Calls Try.prog 25 #[v] w fun e w' => ∃ v', e = .returned v' ∧ NewR w w' v' L := by
  obtain ⟨i0, hi, hz0, hz1, hz2⟩ := info_parts Try.infoR
  obtain ⟨a, cap, rfl, hlc, hm, hcells⟩ := hr
  have HC := Hid.intro hcells
  have HL := Hid.intro hl
  clear hcells
  go_enter Try.func25, Try.ntmps25
  go_wp2_with (at_make; refine wpList_make_full _ rfl _ _ 36 rfl w.heap.size 70 i0 (.agg #[.int .i64 0, .int .i64 0, .int .i64 0, .int .i64 0, .string ⟨#[]⟩]) 5 Try.underlying36 hi hz0 hz1 .i64 .i64 _ _ L.length rfl rfl rfl rfl (by rw [hz2]; have := HL.out; omega) (by unfold maxLen; have := HL.out; omega) (Nat.le_refl _) ?_; intro w1 hown hgrow; have HO := Hid.intro hown; have HG := Hid.intro hgrow; clear hown hgrow)
  have O1 : OwnR w1 w.heap.size (.slice (some ⟨w.heap.size, 0, none⟩) L.length L.length) (rcFMix L 0) := by
    rw [rcFMix_zero]
    exact OwnR.mk HO.out (by simp) (rcF_rep L.length)
  have B1 : Below w.heap.size w w1 := (grown_only HG.out).below (Nat.le_refl _) (fun k _ h => by cases h)
  have HO1 := Hid.intro O1
  clear O1 HO HG hi hz0 hz1 hz2
  go_loopw [4] (fun i wr => ∃ (j : Nat), i = .int .i64 j ∧ j ≤ L.length ∧ Hid (OwnR wr w.heap.size (.slice (some ⟨w.heap.size, 0, none⟩) L.length L.length) (rcFMix L j)) ∧ Below w.heap.size w wr) (fun i _ => L.length - (intOf i).toNat)
  case atStart => exact ⟨0, rfl, Nat.zero_le _, HO1, B1⟩
  case round =>
    obtain ⟨j, rfl, hj, HO, hbel⟩ := hrel
    by_cases hlt : j < L.length
    · obtain ⟨b, off, rfl, hbN, hcc⟩ := HC.out (by intro h; rw [h] at hlt; simp at hlt)
      obtain ⟨c0, c1, c2, c3, c4⟩ := hcc j hlt
      have hst := rcFMix_step L j hlt
      have hml := rcFMix_len L j hj
      generalize L[j] = ej at c0 c1 c2 c3 c4 hst
      have g0 := atCell hbel c0 (by omega)
      have g1 := atCell hbel c1 (by omega)
      have g2 := atCell hbel c2 (by omega)
      have g3 := atCell hbel c3 (by omega)
      have g4 := atCell hbel c4 (by omega)
      have hs := hbel.size
      have HST := Hid.intro hst
      have HML := Hid.intro hml
      clear hcc c0 c1 c2 c3 c4 hst hml
      go_wp2_with fail
      refine (toRec_any ej _).mono ?_
      rintro e w2 ⟨rfl, b2⟩
      have HO2 := Hid.intro (HO.out.kept b2)
      have hb2 := hbel.trans (b2.mono (by omega))
      obtain ⟨y0, q0⟩ := HO2.out.has HML.out hlt (i := 0) (by omega)
      obtain ⟨y1, q1⟩ := HO2.out.has HML.out hlt (i := 1) (by omega)
      obtain ⟨y2, q2⟩ := HO2.out.has HML.out hlt (i := 2) (by omega)
      obtain ⟨y3, q3⟩ := HO2.out.has HML.out hlt (i := 3) (by omega)
      obtain ⟨y4, q4⟩ := HO2.out.has HML.out hlt (i := 4) (by omega)
      simp only [Nat.add_zero] at q0
      have f0 := HO2.out.frozen HML.out
      have HS : Hid (OwnR (((((w2.setCell ⟨w.heap.size, j * 5, none⟩ (.int .i64 ej.k)).setCell ⟨w.heap.size, j * 5 + 1, none⟩ (.int .i64 ej.t)).setCell ⟨w.heap.size, j * 5 + 2, none⟩ (.int .i64 ej.i)).setCell ⟨w.heap.size, j * 5 + 3, none⟩ (.int .i64 ej.v)).setCell ⟨w.heap.size, j * 5 + 4, none⟩ (.string ej.d)) w.heap.size (.slice (some ⟨w.heap.size, 0, none⟩) L.length L.length) (rcFMix L (j + 1))) := by
        unfold Hid
        rw [← HST.out]
        exact HO2.out.store HML.out hlt ej
      have hz2 : w.heap.size < w2.heap.size := by have := (HO2.out.lt _ rfl).2; exact this
      clear g0 g1 g2 g3 g4 b2 HO HO2 HST HML
      go_wp2
      go_roundw
      case rel => exact ⟨j + 1, by go_num, by omega, HS, ((((hb2.setCell (Nat.le_refl _) _).setCell (Nat.le_refl _) _).setCell (Nat.le_refl _) _).setCell (Nat.le_refl _) _).setCell (Nat.le_refl _) _⟩
      case measure => simp [intOf]; omega
    · obtain rfl : j = L.length := by omega
      have hall := HO.out
      rw [rcFMix_all] at hall
      have HA := Hid.intro hall
      clear hall HO
      go_wp2
      go_ret
      exact ⟨_, rfl, HA.out, hbel⟩
set_option maxRecDepth 100000 in
set_option maxHeartbeats 2000000 in
theorem eqRecS_any (L : List Rc) (v1 v2 : Value) (N : Nat) (w : World) (hN : N ≤ w.heap.size) (h1 : RowR w N v1 L) (h2 : RowR w N v2 L) :
    Calls Try.prog 27 #[v1, v2] w fun e w' => e = .returned (.bool true) ∧ Below w.heap.size w w' := by
  obtain ⟨a1, cap1, rfl, l1, m1, hc1⟩ := h1
  obtain ⟨a2, cap2, rfl, l2, m2, hc2⟩ := h2
  have H1 := Hid.intro hc1
  have H2 := Hid.intro hc2
  clear hc1 hc2
  go_enter Try.func27, Try.ntmps27
  go_wp2
  go_loopw [5] (fun i wr => ∃ (j : Nat), i = .int .i64 j ∧ j ≤ L.length ∧ Below w.heap.size w wr) (fun i _ => L.length - (intOf i).toNat)
  case atStart => exact ⟨0, rfl, Nat.zero_le _, Below.refl _ _⟩
  case round =>
    obtain ⟨j, rfl, hj, hbel⟩ := hrel
    by_cases hlt : j < L.length
    · have hne : L ≠ [] := by intro h; rw [h] at hlt; simp at hlt
      obtain ⟨b1, o1, rfl, hb1, cc1⟩ := H1.out hne
      obtain ⟨b2, o2, rfl, hb2, cc2⟩ := H2.out hne
      obtain ⟨p0, p1, p2, p3, p4⟩ := cc1 j hlt
      obtain ⟨q0, q1, q2, q3, q4⟩ := cc2 j hlt
      generalize L[j] = ej at p0 p1 p2 p3 p4 q0 q1 q2 q3 q4
      have hs := hbel.size
      have HC : Hid (∀ w', Below wr.heap.size wr w' → Below w.heap.size w w') := fun w' hb => hbel.trans (hb.mono hs)
      have hp0 := atCell hbel p0 (by omega)
      have hp1 := atCell hbel p1 (by omega)
      have hp2 := atCell hbel p2 (by omega)
      have hp3 := atCell hbel p3 (by omega)
      have hp4 := atCell hbel p4 (by omega)
      have hq0 := atCell hbel q0 (by omega)
      have hq1 := atCell hbel q1 (by omega)
      have hq2 := atCell hbel q2 (by omega)
      have hq3 := atCell hbel q3 (by omega)
      have hq4 := atCell hbel q4 (by omega)
      have i1 : (0 : Int) ≤ (j : Int) ∧ (j : Int) < (L.length : Int) := by omega
      have HJ : Hid (j < L.length) := hlt
      have hjl : (j : Int) < (L.length : Int) := by omega
      clear cc1 cc2 p0 p1 p2 p3 p4 q0 q1 q2 q3 q4 hne
      go_wp2
      go_region_with (go_at_call 50; refine (eqRec_any ej _).mono ?_; rintro e w2 ⟨rfl, b2⟩; have B2 := HC.out w2 (by first | exact b2 | exact ((Below.refl _ _).drew).trans b2 | exact ((Below.refl _ _).drew.drew).trans b2); clear b2)
      all_goals
        clear HC
        go_wp2
        go_roundw
        case rel => exact ⟨j + 1, by go_num, by omega, B2⟩
        case measure => simp [intOf]; omega
    · obtain rfl : j = L.length := by omega
      go_wp2
      go_ret
      exact ⟨rfl, hbel⟩
end Go.Proofs.Ytkilepoimocoeab
