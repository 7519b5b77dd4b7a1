/- The laws' helpers over rows of numbers and of names: how great, copies, equal. -/
import Derived.Test.YtmkegmndcbpblaaGreatDoorPMath
import Derived.Deep.RegionWith
import Derived.OwnWalk
import Derived.RegionTactic
import Derived.ChangeAlike
namespace Go.Proofs.YtmkegmndcbpblaaGreatDoor
open Go.RowKit
set_option linter.unusedVariables false
/-- What is left of a measure: never more than there was; it is below 0 or the things counted fit. -/
def SzP (left n : Int) (m : Nat) : Prop := n ≤ left ∧ -1 ≤ n ∧ (0 ≤ n → (m : Int) ≤ left)
theorem info_parts {t : TypeId} {z : Option Value} {s b : Nat} (h : (Tryz.prog.info? t).map (fun i => (i.zero, i.size, i.bytes)) = some (z, s, b)) : ∃ i, Tryz.prog.info? t = some i ∧ i.zero = z ∧ i.size = s ∧ i.bytes = b := by
 cases hi : Tryz.prog.info? t with
 | none => rw [hi] at h; cases h
 | some i =>
  rw [hi] at h
  simp only [Option.map_some, Option.some.injEq, Prod.mk.injEq] at h
  exact ⟨i, rfl, h.1, h.2.1, h.2.2⟩
theorem infoI' : (Tryz.prog.info? 3).map (fun i => (i.zero, i.size, i.bytes)) = some (some (.int .i64 0), 1, 8) := by kernel_rfl
theorem infoD' : (Tryz.prog.info? 85).map (fun i => (i.zero, i.size, i.bytes)) = some (some (.agg #[.string ⟨#[]⟩, .int .i64 0]), 2, 24) := by kernel_rfl
theorem infoI : ∃ i, Tryz.prog.info? 3 = some i ∧ i.zero = some (.int .i64 0) ∧ i.size = 1 ∧ i.bytes = 8 := info_parts infoI'
theorem infoD : ∃ i, Tryz.prog.info? 85 = some i ∧ i.zero = some (.agg #[.string ⟨#[]⟩, .int .i64 0]) ∧ i.size = 2 ∧ i.bytes = 24 := info_parts infoD'
set_option maxHeartbeats 1000000 in
theorem szDirent_any (d : Di) (left : Int) (w : World) (h0 : 0 ≤ left) (h1 : left ≤ 1048576) (hd : d.nm.size ≤ 9223372036854775807) :
  Calls Tryz.prog 62 #[.agg #[.string d.nm, .int .i64 d.id], .int .i64 left] w fun e w' => (∃ n, e = .returned (.int .i64 n) ∧ SzP left n 0) ∧ Below w.heap.size w w' := by
 by_cases h : left - d.nm.size < 0
 ·go_enter Tryz.func62, Tryz.ntmps62
  go_wp2
  go_ret
  exact ⟨⟨_, rfl, by unfold SzP; omega⟩, (Below.refl _ _).alloc (Nat.le_refl _) _⟩
 ·go_enter Tryz.func62, Tryz.ntmps62
  go_wp2
  go_ret
  exact ⟨⟨_, rfl, by unfold SzP; omega⟩, (Below.refl _ _).alloc (Nat.le_refl _) _⟩
set_option maxHeartbeats 1000000 in
theorem toDirent_any (d : Di) (w : World) :
  Calls Tryz.prog 63 #[.agg #[.string d.nm, .int .i64 d.id]] w fun e w' => e = .returned (.agg #[.string d.nm, .int .i64 d.id]) ∧ Below w.heap.size w w' := by
 go_enter Tryz.func63, Tryz.ntmps63
 go_wp2
 exact bodyPost_ret (v := .agg #[.string d.nm, .int .i64 d.id]) (by simp [results, Tryz.results63, go_sem]) rfl ⟨rfl, three_below _ _ _ _⟩
set_option maxHeartbeats 1000000 in
theorem eqDirent_any (d : Di) (w : World) :
  Calls Tryz.prog 77 #[.agg #[.string d.nm, .int .i64 d.id], .agg #[.string d.nm, .int .i64 d.id]] w fun e w' => e = .returned (.bool true) ∧ Below w.heap.size w w' := by
 go_enter Tryz.func77, Tryz.ntmps77
 go_wp2
 go_ret
 exact ⟨rfl, two_below _ _ _⟩
set_option maxHeartbeats 2000000 in
theorem szDirentS_any (L : List Di) (v : Value) (N : Nat) (left : Int) (w : World) (hN : N ≤ w.heap.size) (hr : Row diE w N v L) (hz : ∀ e ∈ L, e.nm.size ≤ 9223372036854775807) (h0 : 0 ≤ left) (h1 : left ≤ 1048576) :
  Calls Tryz.prog 44 #[v, .int .i64 left] w fun e w' => (∃ n, e = .returned (.int .i64 n) ∧ SzP left n L.length) ∧ Below w.heap.size w w' := by
 obtain ⟨a, cap, rfl, hl, hm, hcells⟩ := diE_cell hr
 have HC := Hid.intro hcells
 have HZ := Hid.intro hz
 clear hcells hz hr
 by_cases hb : left - L.length < 0
 ·go_enter Tryz.func44, Tryz.ntmps44
  go_wp2
  go_ret
  exact ⟨⟨_, rfl, by unfold SzP; omega⟩, Below.refl _ _⟩
 ·go_enter Tryz.func44, Tryz.ntmps44
  go_wp2
  go_loopw [1, 5] (fun q i wr => ∃ (j : Nat) (x : Int), i = .int .i64 j ∧ q = .int .i64 x ∧ j ≤ L.length ∧ 0 ≤ x ∧ x ≤ left ∧ Below w.heap.size w wr) (fun _ i _ => L.length - (intOf i).toNat)
  case atStart => exact ⟨0, _, rfl, rfl, Nat.zero_le _, by omega, by omega, Below.refl _ _⟩
  case round =>
   obtain ⟨j, x, rfl, rfl, hj, hx0, hx1, hbel⟩ := hrel
   by_cases hlt : j < L.length
   ·obtain ⟨b, off, rfl, hbN, hcc⟩ := HC.out (by intro h; rw [h] at hlt; simp at hlt)
    obtain ⟨c0, c1⟩ := hcc j hlt
    have hsz := HZ.out _ (List.getElem_mem hlt)
    generalize L[j] = ej at c0 c1 hsz
    have g0 := atCell hbel c0 (by omega)
    have g1 := atCell hbel c1 (by omega)
    have hs := hbel.size
    have HS := Hid.intro hsz
    clear hcc c0 c1 hsz
    go_wp2_with fail
    refine (szDirent_any ej x _ hx0 (by omega) HS.out).mono ?_
    rintro e w1 ⟨⟨n, rfl, hn⟩, b1⟩
    have B1 := hbel.trans (b1.mono (by omega))
    clear g0 g1 b1
    have hn1 := hn.1
    have hn2 := hn.2.1
    by_cases hneg : n < 0
    ·go_wp2
     go_ret
     exact ⟨⟨_, rfl, by unfold SzP; omega⟩, B1⟩
    ·go_wp2
     go_roundw
     case rel => exact ⟨j + 1, n, by go_num, rfl, by omega, by omega, by omega, B1⟩
     case measure => simp [intOf]; omega
   ·obtain rfl : j = L.length := by omega
    go_wp2
    go_ret
    exact ⟨⟨_, rfl, by unfold SzP; omega⟩, hbel⟩
set_option maxRecDepth 100000 in
set_option maxHeartbeats 2000000 in
theorem toDirentS_any (L : List Di) (v : Value) (N : Nat) (w : World) (hN : N ≤ w.heap.size) (hr : Row diE w N v L) (hl : L.length ≤ 1048576) :
  Calls Tryz.prog 49 #[v] w fun e w' => ∃ v', e = .returned v' ∧ New diE 85 w w' v' L := by
 obtain ⟨i0, hi, hz0, hz1, hz2⟩ := infoD
 obtain ⟨a, cap, rfl, hlc, hm, hcells⟩ := diE_cell hr
 have HC := Hid.intro hcells
 have HL := Hid.intro hl
 clear hcells hr
 go_enter Tryz.func49, Tryz.ntmps49
 go_wp2_with (at_make; refine wpList_make_full _ rfl _ _ 62 rfl w.heap.size 85 i0 (.agg #[.string ⟨#[]⟩, .int .i64 0]) 2 Tryz.underlying62 hi hz0 hz1 .i64 .i64 _ _ L.length rfl rfl rfl rfl (by rw [hz2]; have := HL.out; omega) (by unfold maxLen; have := HL.out; omega) (Nat.le_refl _) ?_; intro w1 hown hgrow; have HO := Hid.intro hown; have HG := Hid.intro hgrow; clear hown hgrow)
 have O1 : Own diE 85 w1 w.heap.size (.slice (some ⟨w.heap.size, 0, none⟩) L.length L.length) (diE.mix L 0) := by
  rw [diE.mix_zero]
  exact Own.mk HO.out (by simp) (diE.rep (.agg #[.string ⟨#[]⟩, .int .i64 0]) rfl L.length)
 have B1 : Below w.heap.size w w1 := (grown_only HG.out).below (Nat.le_refl _) (fun k _ h => by cases h)
 have HO1 := Hid.intro O1
 clear O1 HO HG hi hz0 hz1 hz2
 go_loopw [4] (fun i wr => ∃ (j : Nat), i = .int .i64 j ∧ j ≤ L.length ∧ Hid (Own diE 85 wr w.heap.size (.slice (some ⟨w.heap.size, 0, none⟩) L.length L.length) (diE.mix L j)) ∧ Below w.heap.size w wr) (fun i _ => L.length - (intOf i).toNat)
 case atStart => exact ⟨0, rfl, Nat.zero_le _, HO1, B1⟩
 case round =>
  obtain ⟨j, rfl, hj, HO, hbel⟩ := hrel
  by_cases hlt : j < L.length
  ·obtain ⟨b, off, rfl, hbN, hcc⟩ := HC.out (by intro h; rw [h] at hlt; simp at hlt)
   obtain ⟨c0, c1⟩ := hcc j hlt
   have hst := diE.mix_step L j hlt
   have hml := diE.mix_len L j hj
   generalize L[j] = ej at c0 c1 hst
   have g0 := atCell hbel c0 (by omega)
   have g1 := atCell hbel c1 (by omega)
   have hs := hbel.size
   have HST := Hid.intro hst
   have HML := Hid.intro hml
   clear hcc c0 c1 hst hml
   go_wp2_with fail
   refine (toDirent_any ej _).mono ?_
   rintro e w2 ⟨rfl, b2⟩
   have HO2 := Hid.intro (HO.out.kept b2)
   have hb2 := hbel.trans (b2.mono (by omega))
   obtain ⟨y0, q0⟩ := HO2.out.has HML.out hlt (i := 0) (by decide)
   obtain ⟨y1, q1⟩ := HO2.out.has HML.out hlt (i := 1) (by decide)
   simp only [Nat.add_zero, show diE.n = 2 from rfl] at q0 q1
   have f0 := HO2.out.frozen HML.out
   have HS : Hid (Own diE 85 ((w2.setCell ⟨w.heap.size, j * 2, none⟩ (.string ej.nm)).setCell ⟨w.heap.size, j * 2 + 1, none⟩ (.int .i64 ej.id)) w.heap.size (.slice (some ⟨w.heap.size, 0, none⟩) L.length L.length) (diE.mix L (j + 1))) := by
    unfold Hid
    rw [← HST.out]
    exact HO2.out.store HML.out hlt ej
   have hz2 : w.heap.size < w2.heap.size := by have := (HO2.out.lt _ rfl).2; exact this
   clear g0 g1 b2 HO HO2 HST HML
   go_wp2
   go_roundw
   case rel => exact ⟨j + 1, by go_num, by omega, HS, (hb2.setCell (Nat.le_refl _) _).setCell (Nat.le_refl _) _⟩
   case measure => simp [intOf]; omega
  ·obtain rfl : j = L.length := by omega
   have hall := HO.out
   rw [diE.mix_all] at hall
   have HA := Hid.intro hall
   clear hall HO
   go_wp2
   go_ret
   exact ⟨_, rfl, HA.out, hbel⟩
set_option maxRecDepth 100000 in
set_option maxHeartbeats 2000000 in
theorem eqDirentS_any (L : List Di) (v1 v2 : Value) (N : Nat) (w : World) (hN : N ≤ w.heap.size) (h1 : Row diE w N v1 L) (h2 : Row diE w N v2 L) :
  Calls Tryz.prog 61 #[v1, v2] w fun e w' => e = .returned (.bool true) ∧ Below w.heap.size w w' := by
 obtain ⟨a1, cap1, rfl, l1, m1, hc1⟩ := diE_cell h1
 obtain ⟨a2, cap2, rfl, l2, m2, hc2⟩ := diE_cell h2
 have H1 := Hid.intro hc1
 have H2 := Hid.intro hc2
 clear hc1 hc2 h1 h2
 go_enter Tryz.func61, Tryz.ntmps61
 go_wp2
 go_loopw [5] (fun i wr => ∃ (j : Nat), i = .int .i64 j ∧ j ≤ L.length ∧ Below w.heap.size w wr) (fun i _ => L.length - (intOf i).toNat)
 case atStart => exact ⟨0, rfl, Nat.zero_le _, Below.refl _ _⟩
 case round =>
  obtain ⟨j, rfl, hj, hbel⟩ := hrel
  by_cases hlt : j < L.length
  ·have hne : L ≠ [] := by intro h; rw [h] at hlt; simp at hlt
   obtain ⟨b1, o1, rfl, hb1, cc1⟩ := H1.out hne
   obtain ⟨b2, o2, rfl, hb2, cc2⟩ := H2.out hne
   obtain ⟨p0, p1⟩ := cc1 j hlt
   obtain ⟨q0, q1⟩ := cc2 j hlt
   generalize L[j] = ej at p0 p1 q0 q1
   have hs := hbel.size
   have HC : Hid (∀ w', Below wr.heap.size wr w' → Below w.heap.size w w') := fun w' hb => hbel.trans (hb.mono hs)
   have hp0 := atCell hbel p0 (by omega)
   have hp1 := atCell hbel p1 (by omega)
   have hq0 := atCell hbel q0 (by omega)
   have hq1 := atCell hbel q1 (by omega)
   have i1 : (0 : Int) ≤ (j : Int) ∧ (j : Int) < (L.length : Int) := by omega
   have HJ : Hid (j < L.length) := hlt
   have hjl : (j : Int) < (L.length : Int) := by omega
   clear cc1 cc2 p0 p1 q0 q1 hne
   go_wp2
   go_region_with (go_at_call 77; refine (eqDirent_any _ _).mono ?_; rintro e w2 ⟨rfl, b2⟩; have B2 := HC.out w2 (by first | exact b2 | exact ((Below.refl _ _).drew).trans b2 | exact ((Below.refl _ _).drew.drew).trans b2); clear b2)
   all_goals
    clear HC
    go_wp2
    go_roundw
    case rel => exact ⟨j + 1, by go_num, by omega, B2⟩
    case measure => simp [intOf]; omega
  ·obtain rfl : j = L.length := by omega
   go_wp2
   go_ret
   exact ⟨rfl, hbel⟩
end Go.Proofs.YtmkegmndcbpblaaGreatDoor
