/- The laws' helpers over entries and messages: how great, copies, equal. -/
import Derived.Test.YtdnngbdkmdphoaaEEnt
import Derived.OwnWalk
import Derived.RegionTactic
import Derived.ChangeAlike
namespace Go.Proofs.Ytdnngbdkmdphoaa
open Go.RowKit
set_option linter.unusedVariables false
theorem info_partsE {t : TypeId} {z : Option Value} {s b : Nat} (h : (Try.prog.info? t).map (fun i => (i.zero, i.size, i.bytes)) = some (z, s, b)) : ∃ i, Try.prog.info? t = some i ∧ i.zero = z ∧ i.size = s ∧ i.bytes = b := by
  cases h2 : Try.prog.info? t with
  | none => rw [h2] at h; cases h
  | some i =>
    rw [h2] at h
    simp only [Option.map_some, Option.some.injEq, Prod.mk.injEq] at h
    exact ⟨i, rfl, h.1, h.2.1, h.2.2⟩
theorem infoEn1 : (Try.prog.info? 49).map (fun i => (i.zero, i.size, i.bytes)) = some (some (.agg #[.int .i64 0, .string ⟨#[]⟩]), 2, 24) := by kernel_rfl
theorem infoEn : ∃ i, Try.prog.info? 49 = some i ∧ i.zero = some (.agg #[.int .i64 0, .string ⟨#[]⟩]) ∧ i.size = 2 ∧ i.bytes = 24 := info_partsE infoEn1
/-- An entry's data are as long as a text may be. -/
def EnW (e : En) : Prop := e.d.size ≤ 9223372036854775807
set_option maxHeartbeats 1000000 in
theorem szEntry_any (d : En) (left : Int) (w : World) (h0 : 0 ≤ left) (h1 : left ≤ 1048576) (hd : EnW d) :
    Calls Try.prog 45 #[enV d, .int .i64 left] w fun e w' => (∃ n, e = .returned (.int .i64 n) ∧ n ≤ left) ∧ Below w.heap.size w w' := by
  unfold EnW at hd
  by_cases hneg : left - d.d.size < 0
  · go_enter Try.func45, Try.ntmps45
    go_wp2
    go_ret
    exact ⟨⟨_, rfl, by omega⟩, one_below _ _⟩
  · go_enter Try.func45, Try.ntmps45
    go_wp2
    go_ret
    exact ⟨⟨_, rfl, by omega⟩, one_below _ _⟩
set_option maxHeartbeats 2000000 in
theorem toEntry_any (d : En) (w : World) :
    Calls Try.prog 47 #[enV d] w fun e w' => e = .returned (enV d) ∧ Below w.heap.size w w' := by
  go_enter Try.func47, Try.ntmps47
  go_wp2
  exact bodyPost_ret (v := enV d) (by simp [results, Try.results47, go_sem]) rfl ⟨rfl, three_below _ _ _ _⟩
set_option maxHeartbeats 1000000 in
theorem eqEntry_any (d : En) (w : World) :
    Calls Try.prog 51 #[enV d, enV d] w fun e w' => e = .returned (.bool true) ∧ Below w.heap.size w w' := by
  go_enter Try.func51, Try.ntmps51
  go_wp2
  go_ret
  exact ⟨rfl, two_below _ _ _⟩
set_option maxHeartbeats 2000000 in
theorem szEntryS_any (L : List En) (v : Value) (N : Nat) (left : Int) (w : World) (hN : N ≤ w.heap.size) (hr : Row enE w N v L) (hz : ∀ e ∈ L, EnW e) (h0 : 0 ≤ left) (h1 : left ≤ 1048576) :
    Calls Try.prog 17 #[v, .int .i64 left] w fun e w' => (∃ n, e = .returned (.int .i64 n) ∧ n ≤ left ∧ (0 ≤ n → (L.length : Int) ≤ left)) ∧ Below w.heap.size w w' := by
  obtain ⟨a, cap, rfl, hl, hm, hcells⟩ := enE_cell hr
  have HC := Hid.intro hcells
  have HZ := Hid.intro hz
  clear hcells hz hr
  by_cases hb : left - L.length < 0
  · go_enter Try.func17, Try.ntmps17
    go_wp2
    go_ret
    exact ⟨⟨_, rfl, by omega, by omega⟩, Below.refl _ _⟩
  · go_enter Try.func17, Try.ntmps17
    go_wp2
    go_loopw [1, 5] (fun q i wr => ∃ (j : Nat) (x : Int), i = .int .i64 j ∧ q = .int .i64 x ∧ j ≤ L.length ∧ 0 ≤ x ∧ x ≤ left ∧ Below w.heap.size w wr) (fun _ i _ => L.length - (intOf i).toNat)
    case atStart => exact ⟨0, _, rfl, rfl, Nat.zero_le _, by omega, by omega, Below.refl _ _⟩
    case round =>
      obtain ⟨j, x, rfl, rfl, hj, hx0, hx1, hbel⟩ := hrel
      by_cases hlt : j < L.length
      · obtain ⟨b, off, rfl, hbN, hcc⟩ := HC.out (by intro h; rw [h] at hlt; simp at hlt)
        obtain ⟨g0, g1⟩ := hcc j hlt
        have hsz := HZ.out _ (List.getElem_mem hlt)
        generalize L[j] = ej at g0 g1 hsz
        have hs := hbel.size
        replace g0 := atCell hbel g0 (by omega)
        replace g1 := atCell hbel g1 (by omega)
        have HS := Hid.intro hsz
        clear hcc hsz
        go_wp2_with fail
        refine (szEntry_any ej x _ hx0 (by omega) HS.out).mono ?_
        rintro e w1 ⟨⟨n, rfl, hn1⟩, b1⟩
        have B1 := hbel.trans (b1.mono (by omega))
        clear g0 g1 b1
        by_cases hneg : n < 0
        · go_wp2
          go_ret
          exact ⟨⟨_, rfl, by omega, by omega⟩, B1⟩
        · go_wp2
          go_roundw
          case rel => exact ⟨j + 1, n, by go_num, rfl, by omega, by omega, by omega, B1⟩
          case measure => simp [intOf]; omega
      · obtain rfl : j = L.length := by omega
        go_wp2
        go_ret
        exact ⟨⟨_, rfl, by omega, by omega⟩, hbel⟩
set_option maxRecDepth 100000 in
set_option maxHeartbeats 4000000 in
theorem toEntryS_any (L : List En) (v : Value) (N : Nat) (w : World) (hN : N ≤ w.heap.size) (hr : Row enE w N v L) (hl : L.length ≤ 1048576) :
    Calls Try.prog 23 #[v] w fun e w' => ∃ v', e = .returned v' ∧ New enE 49 w w' v' L := by
  obtain ⟨i0, hi, hz0, hz1, hz2⟩ := infoEn
  obtain ⟨a, cap, rfl, hlc, hm, hcells⟩ := enE_cell hr
  have HC := Hid.intro hcells
  have HL := Hid.intro hl
  clear hcells hr
  go_enter Try.func23, Try.ntmps23
  go_wp2_with (at_make; refine wpList_make_full _ rfl _ _ 27 rfl w.heap.size 49 i0 (.agg #[.int .i64 0, .string ⟨#[]⟩]) 2 Try.underlying27 hi hz0 hz1 .i64 .i64 _ _ L.length rfl rfl rfl rfl (by rw [hz2]; have := HL.out; omega) (by unfold maxLen; have := HL.out; omega) (Nat.le_refl _) ?_; intro w1 hown hgrow; have HO := Hid.intro hown; have HG := Hid.intro hgrow; clear hown hgrow)
  have O1 : Own enE 49 w1 w.heap.size (.slice (some ⟨w.heap.size, 0, none⟩) L.length L.length) (enE.mix L 0) := by
    rw [enE.mix_zero]
    exact Own.mk HO.out (by simp) (enE.rep (.agg #[.int .i64 0, .string ⟨#[]⟩]) rfl L.length)
  have B1 : Below w.heap.size w w1 := (grown_only HG.out).below (Nat.le_refl _) (fun k _ h => by cases h)
  have HO1 := Hid.intro O1
  clear O1 HO HG hi hz0 hz1 hz2
  go_loopw [4] (fun i wr => ∃ (j : Nat), i = .int .i64 j ∧ j ≤ L.length ∧ Hid (Own enE 49 wr w.heap.size (.slice (some ⟨w.heap.size, 0, none⟩) L.length L.length) (enE.mix L j)) ∧ Below w.heap.size w wr) (fun i _ => L.length - (intOf i).toNat)
  case atStart => exact ⟨0, rfl, Nat.zero_le _, HO1, B1⟩
  case round =>
    obtain ⟨j, rfl, hj, HO, hbel⟩ := hrel
    by_cases hlt : j < L.length
    · obtain ⟨b, off, rfl, hbN, hcc⟩ := HC.out (by intro h; rw [h] at hlt; simp at hlt)
      obtain ⟨g0, g1⟩ := hcc j hlt
      have hst := enE.mix_step L j hlt
      have hml := enE.mix_len L j hj
      generalize L[j] = ej at g0 g1 hst
      have hs := hbel.size
      replace g0 := atCell hbel g0 (by omega)
      replace g1 := atCell hbel g1 (by omega)
      have HST := Hid.intro hst
      have HML := Hid.intro hml
      clear hcc hst hml
      go_wp2_with fail
      refine (toEntry_any ej _).mono ?_
      rintro e w2 ⟨rfl, b2⟩
      have HO2 := Hid.intro (HO.out.kept b2)
      have hb2 := hbel.trans (b2.mono (by omega))
      obtain ⟨y0, q0⟩ := HO2.out.has HML.out hlt (i := 0) (by decide)
      obtain ⟨y1, q1⟩ := HO2.out.has HML.out hlt (i := 1) (by decide)
      simp only [Nat.add_zero, show enE.n = 2 from rfl] at q0 q1
      have f0 := HO2.out.frozen HML.out
      have HS : Hid (Own enE 49 ((w2.setCell ⟨w.heap.size, j * 2, none⟩ (.int .i64 ej.t)).setCell ⟨w.heap.size, j * 2 + 1, none⟩ (.string ej.d)) w.heap.size (.slice (some ⟨w.heap.size, 0, none⟩) L.length L.length) (enE.mix L (j + 1))) := by
        unfold Hid
        rw [← HST.out]
        exact HO2.out.store HML.out hlt ej
      have hz2 : w.heap.size < w2.heap.size := by have := (HO2.out.lt _ rfl).2; exact this
      clear g0 g1 b2 HO HO2 HST HML
      go_wp2
      go_roundw
      case rel => exact ⟨j + 1, by go_num, by omega, HS, (hb2.setCell (Nat.le_refl _) _).setCell (Nat.le_refl _) _⟩
      case measure => simp [intOf]; omega
    · obtain rfl : j = L.length := by omega
      have hall := HO.out
      rw [enE.mix_all] at hall
      have HA := Hid.intro hall
      clear hall HO
      go_wp2
      go_ret
      exact ⟨_, rfl, HA.out, hbel⟩
set_option maxRecDepth 100000 in
set_option maxHeartbeats 4000000 in
theorem eqEntryS_any (L : List En) (v1 v2 : Value) (N : Nat) (w : World) (hN : N ≤ w.heap.size) (h1 : Row enE w N v1 L) (h2 : Row enE w N v2 L) :
    Calls Try.prog 30 #[v1, v2] w fun e w' => e = .returned (.bool true) ∧ Below w.heap.size w w' := by
  obtain ⟨a1, cap1, rfl, l1, m1, hc1⟩ := enE_cell h1
  obtain ⟨a2, cap2, rfl, l2, m2, hc2⟩ := enE_cell h2
  have H1 := Hid.intro hc1
  have H2 := Hid.intro hc2
  clear hc1 hc2 h1 h2
  go_enter Try.func30, Try.ntmps30
  go_wp2
  go_loopw [5] (fun i wr => ∃ (j : Nat), i = .int .i64 j ∧ j ≤ L.length ∧ Below w.heap.size w wr) (fun i _ => L.length - (intOf i).toNat)
  case atStart => exact ⟨0, rfl, Nat.zero_le _, Below.refl _ _⟩
  case round =>
    obtain ⟨j, rfl, hj, hbel⟩ := hrel
    by_cases hlt : j < L.length
    · have hne : L ≠ [] := by intro h; rw [h] at hlt; simp at hlt
      obtain ⟨b1, o1, rfl, hb1, cc1⟩ := H1.out hne
      obtain ⟨b2, o2, rfl, hb2, cc2⟩ := H2.out hne
      obtain ⟨p0, p1⟩ := cc1 j hlt
      obtain ⟨q0, q1⟩ := cc2 j hlt
      generalize L[j] = ej at p0 p1 q0 q1
      have hs := hbel.size
      replace p0 := atCell hbel p0 (by omega)
      replace p1 := atCell hbel p1 (by omega)
      replace q0 := atCell hbel q0 (by omega)
      replace q1 := atCell hbel q1 (by omega)
      have HC : Hid (∀ w', Below wr.heap.size wr w' → Below w.heap.size w w') := fun w' hb => hbel.trans (hb.mono hs)
      have i1 : (0 : Int) ≤ (j : Int) ∧ (j : Int) < (L.length : Int) := by omega
      have HJ : Hid (j < L.length) := hlt
      have hjl : (j : Int) < (L.length : Int) := by omega
      clear cc1 cc2 hne
      go_wp2
      go_region_with (go_at_call 51; refine (eqEntry_any _ _).mono ?_; rintro e w2 ⟨rfl, b2⟩; have B2 := HC.out w2 (by first | exact b2 | exact ((Below.refl _ _).drew).trans b2 | exact ((Below.refl _ _).drew.drew).trans b2); clear b2)
      all_goals
        clear HC
        go_wp2
        go_roundw
        case rel => exact ⟨j + 1, by go_num, by omega, B2⟩
        case measure => simp [intOf]; omega
    · obtain rfl : j = L.length := by omega
      go_wp2
      go_ret
      exact ⟨rfl, hbel⟩
/-- What of a message is as long as it may be. -/
structure MsW (a : Ms) : Prop where
  e : ∀ x ∈ a.es, EnW x
  d : a.d.size ≤ 9223372036854775807
set_option maxRecDepth 100000 in
set_option maxHeartbeats 2000000 in
theorem szMsg_any (a : Ms) (v : Value) (N : Nat) (left : Int) (w : World) (hN : N ≤ w.heap.size) (hr : Row enE w N v a.es) (hw : MsW a) (h0 : 0 ≤ left) (h1 : left ≤ 1048576) :
    Calls Try.prog 6 #[msV a v, .int .i64 left] w fun e w' => (∃ n, e = .returned (.int .i64 n) ∧ n ≤ left ∧ Hid (0 ≤ n → (a.es.length : Int) ≤ left ∧ (a.d.size : Int) ≤ left)) ∧ Below w.heap.size w w' := by
  have HR := Hid.intro hr
  have hd := hw.d
  have HW := Hid.intro hw.e
  clear hr hw
  go_enter Try.func6, Try.ntmps6
  go_wp2_with fail
  obtain ⟨W, hW, bW, zW, c1, f1⟩ := boxed w (msA a v) 24
  try simp only [hW]
  refine (szEntryS_any a.es v N left W (by omega) (HR.out.kept (bW.mono hN)) HW.out h0 h1).mono ?_
  rintro e w1 ⟨⟨n, rfl, hn, hs⟩, b1⟩
  replace c1 := keepC b1 (by omega) c1
  have z1 := b1.size
  have HB := Hid.intro (bW.trans (b1.mono (by omega)))
  have HS := Hid.intro hs
  have hz1 : w.heap.size < w1.heap.size := by omega
  clear hW bW b1 f1 hs HR HW
  by_cases hneg : n < 0
  · go_wp2
    go_ret
    exact ⟨⟨_, rfl, by omega, Hid.intro (by omega)⟩, HB.out⟩
  · by_cases hneg2 : n - a.d.size < 0
    · go_wp2
      go_ret
      exact ⟨⟨_, rfl, by omega, Hid.intro (by omega)⟩, HB.out⟩
    · go_wp2
      go_ret
      exact ⟨⟨_, rfl, by omega, Hid.intro (fun _ => ⟨HS.out (by omega), by omega⟩)⟩, HB.out⟩
set_option maxRecDepth 100000 in
set_option maxHeartbeats 4000000 in
theorem toMsg_any (a : Ms) (v : Value) (N : Nat) (w : World) (hN : N ≤ w.heap.size) (hr : Row enE w N v a.es) (hl : a.es.length ≤ 1048576) :
    Calls Try.prog 8 #[msV a v] w fun e w' => ∃ v', e = .returned (msV a v') ∧ Own enE 49 w' w.heap.size v' a.es ∧ Below w.heap.size w w' := by
  have HR := Hid.intro hr
  have HL := Hid.intro hl
  clear hr hl
  go_enter Try.func8, Try.ntmps8
  go_wp2_with fail
  obtain ⟨W, hW, bW, zW, c1, f1, c2, f2, c3, f3⟩ := boxed3 w (msA a v) #[.int .i64 0, .int .i64 0, .int .i64 0, .int .i64 0, .int .i64 0, .int .i64 0, .int .i64 0, .bool false, .slice none 0 0, .string ⟨#[]⟩] #[.int .i64 a.k, .int .i64 a.f, .int .i64 a.g, .int .i64 a.m, .int .i64 a.i, .int .i64 a.j, .int .i64 a.c, .bool a.y, .slice none 0 0, .string ⟨#[]⟩] 24 29 29
  simp only [hW]
  refine (toEntryS_any a.es v N W (by omega) (HR.out.kept (bW.mono hN)) HL.out).mono ?_
  rintro e w1 ⟨v', rfl, n1⟩
  obtain ⟨ya, yc, rfl⟩ := n1.own.slice
  have b1 := n1.bel
  replace c1 := keepC b1 (by omega) c1
  replace c2 := keepC b1 (by omega) c2
  replace f2 := keepF b1 (by omega) f2
  replace c3 := keepC b1 (by omega) c3
  replace f3 := keepF b1 (by omega) f3
  have z1 := b1.size
  have HB := Hid.intro (bW.trans (b1.mono (by omega)))
  have HO := Hid.intro n1.own
  have hz1 : w.heap.size + 1 + 1 < w1.heap.size := by omega
  have HZ := Hid.intro zW
  clear hW b1 bW zW f1 n1 HR
  go_wp2
  have hz := HZ.out
  refine bodyPost_ret (v := msV a (.slice ya a.es.length yc)) (by simp [results, Try.results8, go_sem, c2]) rfl ⟨_, rfl, ?_, ?_⟩
  · refine ((HO.out.lower (show w.heap.size ≤ W.heap.size by omega)).of_block fun k hk => ?_)
    have hlt := HO.out.lt k hk
    repeat rw [Below.heap_setCell _ _ _ _ (by simp only; omega)]
  · repeat (refine Below.setCell ?_ (by simp <;> omega) _)
    exact HB.out
set_option maxRecDepth 100000 in
set_option maxHeartbeats 2000000 in
theorem eqMsg_any (a : Ms) (v1 v2 : Value) (N : Nat) (w : World) (hN : N ≤ w.heap.size) (h1 : Row enE w N v1 a.es) (h2 : Row enE w N v2 a.es) :
    Calls Try.prog 10 #[msV a v1, msV a v2] w fun e w' => e = .returned (.bool true) ∧ Below w.heap.size w w' := by
  have H1 := Hid.intro h1
  have H2 := Hid.intro h2
  clear h1 h2
  go_enter Try.func10, Try.ntmps10
  go_wp2_with fail
  obtain ⟨W, hW, bW, zW, c1, f1, c2, f2⟩ := boxed2 w (msA a v1) (msA a v2) 29 29
  try simp only [hW]
  refine (eqEntryS_any a.es v1 v2 N W (by omega) (H1.out.kept (bW.mono hN)) (H2.out.kept (bW.mono hN))).mono ?_
  rintro e w1 ⟨rfl, b1⟩
  replace c1 := keepC b1 (by omega) c1
  replace c2 := keepC b1 (by omega) c2
  have HB := Hid.intro (bW.trans (b1.mono (by omega)))
  clear hW bW b1 f1 f2
  go_wp2
  go_ret
  exact ⟨rfl, HB.out⟩
end Go.Proofs.Ytdnngbdkmdphoaa
