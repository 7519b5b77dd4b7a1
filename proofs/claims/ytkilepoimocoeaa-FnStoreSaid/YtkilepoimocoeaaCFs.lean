/- FnStore. -/
import Derived.Test.YtkilepoimocoeaaCFm
namespace Go.Proofs.Ytkilepoimocoeaa
open Go.RowKit
set_option linter.unusedVariables false
theorem big_no (a : Option Addr) (len cap : Nat) (w : World) (hl : (len : Int) ≤ 1048576) :
    Calls Try.prog 9 #[.slice a len cap] w fun e w' => e = .returned (.bool false) ∧ w = w' := by
  go_enter Try.func9, Try.ntmps9
  go_wp2
  go_ret
  exact ⟨by first | (simp; done) | (simp; omega), rfl⟩
theorem big_yes (a : Option Addr) (len cap : Nat) (w : World) (hl : ¬ (len : Int) ≤ 1048576) (hm : len ≤ 9223372036854775807) :
    Calls Try.prog 9 #[.slice a len cap] w fun e w' => e = .returned (.bool true) ∧ w = w' := by
  go_enter Try.func9, Try.ntmps9
  go_wp2
  go_ret
  exact ⟨by first | (simp; done) | (simp; omega), rfl⟩
set_option maxHeartbeats 1000000 in
theorem at_few (zs : List Int) (a : Option Addr) (len cap : Nat) (i : Int) (w : World) (h : (len : Int) ≤ 1048576) (h0 : 0 ≤ i) (h1 : i ≤ 100) (hr : RowOk w w.heap.size a len zs) :
    Calls Try.prog 14 #[.slice a len cap, .int .i64 i] w fun e w' => (∃ x : Int, e = .returned (.int .i64 x) ∧ 0 ≤ x ∧ x ≤ 255) ∧ w = w' := by
  obtain ⟨j, rfl⟩ := Int.eq_ofNat_of_zero_le h0
  by_cases hj : (j : Int) < len
  · obtain ⟨b, off, rfl, hb, hc, hz0, hz1⟩ := hr j (by omega)
    have i1 : (0 : Int) ≤ (j : Int) ∧ (j : Int) < (len : Int) := by omega
    generalize zs.getD j 0 = z at hc hz0 hz1
    clear hr
    go_enter Try.func14, Try.ntmps14
    go_wp2
    go_ret
    exact ⟨⟨_, rfl, by omega, by omega⟩, rfl⟩
  · have HQ : ∀ q : Int, 0 ≤ q → 0 ≤ q.tmod 256 ∧ q.tmod 256 ≤ 255 := fun q hq => by
      have := Int.tmod_lt_of_pos q (show (0 : Int) < 256 by omega)
      exact ⟨Int.tmod_nonneg _ hq, by omega⟩
    have HH := Hid.intro HQ
    clear hr HQ
    go_enter Try.func14, Try.ntmps14
    go_wp2
    go_ret
    refine ⟨⟨_, rfl, ?_⟩, rfl⟩
    first | exact HH.out _ (by omega) | (have := HH.out ((j : Int) * 37 + (len : Int) * 11) (by omega); omega) | omega
def SCh (K : Kp) (v : Value) (r : Rc) (kb b o : Nat) (w' : World) : Prop := w'.cell? ⟨kb, 0, none⟩ = some (.int .i64 K.t) ∧ w'.cell? ⟨kb, 1, none⟩ = some (.int .i64 K.v) ∧ w'.cell? ⟨kb, 2, none⟩ = some (.int .i64 K.si) ∧ w'.cell? ⟨kb, 3, none⟩ = some (.int .i64 K.st) ∧ w'.cell? ⟨kb, 4, none⟩ = some (.string K.sd) ∧ w'.cell? ⟨kb, 5, none⟩ = some v ∧ w'.cell? ⟨b, o, none⟩ = some (.int .i64 r.k) ∧ w'.cell? ⟨b, o + 1, none⟩ = some (.int .i64 r.t) ∧ w'.cell? ⟨b, o + 2, none⟩ = some (.int .i64 r.i) ∧ w'.cell? ⟨b, o + 3, none⟩ = some (.int .i64 r.v) ∧ w'.cell? ⟨b, o + 4, none⟩ = some (.string r.d)

theorem st_all {S : Sto} (h : storeB S = true) (L : List Rc) (n : Int) : ∃ (m : Nat) (Kz H : Kp) (LZ : List Rc) (SX : Sto) (kx : Nat), heldK S = H ∧ syncS S = ⟨H, []⟩ ∧ heldK ⟨H, []⟩ = H ∧ wrN ⟨H, []⟩ L n = m ∧ wrS ⟨H, []⟩ L n = ⟨H, LZ⟩ ∧ LZ.length = m ∧ m ≤ L.length ∧ storeB ⟨H, LZ⟩ = true ∧ heldK ⟨H, LZ⟩ = Kz ∧ syncS ⟨H, LZ⟩ = ⟨Kz, []⟩ ∧ wrS S L n = SX ∧ wrN S L n = kx ∧ storeB SX = true ∧ SX.l.length = S.l.length + kx ∧ kx ≤ L.length ∧ S.l.length ≤ 80
    ∧ (∀ (j : Nat) (K : Kp) (hj : j < L.length), j < m → foldK H (L.take j) = some K → ksB K (L[j]) = true ∧ foldK H (L.take (j + 1)) = some (ksK K (L[j]))) ∧ (∀ (j keep : Nat) (K : Kp), j = min m keep → foldK H (L.take j) = some K → loseS ⟨H, LZ⟩ (keep : Nat) = ⟨K, []⟩) := by
  obtain ⟨m, Kz, F⟩ := st_facts h L n
  exact ⟨m, Kz, heldK S, L.take m, wrS S L n, wrN S L n, rfl, F.sy, F.yh, F.mw, F.zw, by have := F.ml; simp; omega, F.ml, F.zo, F.zh, F.zy, rfl, rfl, F.xo, F.xl, F.xk, (storeB_out h).2.1, fun j K hj hm hk => F.step hm hk, fun j keep K hi hk => F.lose hi hk⟩
set_option maxRecDepth 100000 in
set_option maxHeartbeats 16000000 in
theorem fnStore_law (zs : List Int) (len cap : Nat) (a : Option Addr) (w : World) (hm : len ≤ 9223372036854775807) (hr : RowOk w w.heap.size a len zs) :
    Calls Try.prog 3 #[.slice a len cap] w fun e w' => e = .returned (.bool true) ∧ Below w.heap.size w w' := by
  have HR := Hid.intro hr
  clear hr
  by_cases hl : (len : Int) ≤ 1048576
  · go_enter Try.func3, Try.ntmps3
    go_wp2_with (go_at_call 9; refine (big_no _ _ _ _ hl).mono ?_; rintro e w' ⟨rfl, rfl⟩)
    refine (drawWrite_any zs len w.heap.size cap a w (by omega) (Nat.le_refl _) HR.out).mono ?_
    rintro e w1 ⟨S, v, u, L, x, n, rfl, rv, ru, rx, hlx, b1⟩
    have HB := Hid.intro b1
    have RV := Hid.intro rv
    have RU := Hid.intro ru
    have RX := Hid.intro rx
    have z1 := b1.size
    obtain ⟨a0, c0, rfl, _, _, _⟩ := rv
    obtain ⟨au, cu, rfl, _, _, _⟩ := ru
    obtain ⟨ax, cx, rfl, _, _, _⟩ := rx
    clear b1
    obtain ⟨p3, hp3⟩ : ∃ p3, w1.heap.size = p3 := ⟨_, rfl⟩
    rw [hp3] at RV RU RX
    go_upto_region 4 with fail
    obtain ⟨W3, hW3, b3, z3, k3, f3⟩ := boxed w1 #[.int .i64 S.k.t, .int .i64 S.k.v, .int .i64 S.k.si, .int .i64 S.k.st, .string S.k.sd, .slice a0 S.k.e.length c0, .slice au S.l.length cu] 31
    try simp only [hW3]
    have B3 : Hid (Blk W3 w1.heap.size #[.int .i64 S.k.t, .int .i64 S.k.v, .int .i64 S.k.si, .int .i64 S.k.st, .string S.k.sd, .slice a0 S.k.e.length c0, .slice au S.l.length cu]) := ⟨by omega, k3, f3⟩
    simp only [hp3] at B3 ⊢
    replace RV := Hid.intro (RV.out.kept (b3.mono (by omega)))
    replace RU := Hid.intro (RU.out.kept (b3.mono (by omega)))
    replace RX := Hid.intro (RX.out.kept (b3.mono (by omega)))
    replace HB := Hid.intro (HB.out.trans (b3.mono HB.out.size))
    clear hW3 b3 k3 f3
    have k3 := B3.out.cell
    go_wp2_with fail
    clear k3
    refine (implWrite_any S _ _ L _ W3.heap.size n W3 (Nat.le_refl _) (RV.out.up (by omega)) (RU.out.up (by omega)) (RX.out.up (by omega)) (by omega)).mono ?_
    rintro e w4 ⟨v6, u6, rfl, nx⟩
    have z4 := nx.bel.size
    have b4 := nx.bel
    have R6 := Hid.intro nx.e.rowAll
    have U6 := Hid.intro nx.r.rowAll
    obtain ⟨a6, c6, rfl⟩ := nx.e.slice
    obtain ⟨d6, e6, rfl⟩ := nx.r.slice
    clear nx
    replace RV := Hid.intro (RV.out.kept (b4.mono (by omega)))
    replace RU := Hid.intro (RU.out.kept (b4.mono (by omega)))
    replace RX := Hid.intro (RX.out.kept (b4.mono (by omega)))
    replace B3 := Hid.intro (B3.out.kept b4)
    replace HB := Hid.intro (HB.out.trans (b4.mono HB.out.size))
    clear b4
    cases hsb : storeB S with
    | false =>
      rw [wrS_no hsb, wrN_no hsb]
      go_upto_region 5 with fail
      obtain ⟨W6, hW6, b6, z6, k6, f6⟩ := boxed w4 #[.int .i64 0, .int .i64 0, .int .i64 0, .int .i64 0, .string ⟨#[]⟩, .slice a6 0 c6, .slice d6 0 e6] 31
      try simp only [kpZ, List.length_nil]
      try simp only [hW6]
      have B6 : Hid (Blk W6 w4.heap.size #[.int .i64 0, .int .i64 0, .int .i64 0, .int .i64 0, .string ⟨#[]⟩, .slice a6 0 c6, .slice d6 0 e6]) := ⟨by omega, k6, f6⟩
      replace RV := Hid.intro (RV.out.kept (b6.mono (by omega)))
      replace RU := Hid.intro (RU.out.kept (b6.mono (by omega)))
      replace RX := Hid.intro (RX.out.kept (b6.mono (by omega)))
      replace B3 := Hid.intro (B3.out.kept b6)
      replace HB := Hid.intro (HB.out.trans (b6.mono HB.out.size))
      clear hW6 b6 k6 f6
      have k3 := B3.out.cell
      go_wp2_with fail
      clear k3
      refine (specStoreOk_any S _ _ W6.heap.size W6 (Nat.le_refl _) (RV.out.up (by omega)) (RU.out.up (by omega))).mono ?_
      rintro e w7 ⟨rfl, b7⟩
      rw [hsb]
      replace B6 := Hid.intro (B6.out.kept b7)
      replace HB := Hid.intro (HB.out.trans (b7.mono HB.out.size))
      clear b7
      have k6 := B6.out.cell
      go_wp2
      go_ret
      exact ⟨by first | rfl | simp, HB.out⟩
    | true =>
      obtain ⟨m, Kz, H, LZ, SX, kx, e1, e2, e3, e4, e5, e6', e7, e8, e9', e10, e11, e12, e13, e14, e15, e16, e17, e18⟩ := st_all hsb L n
      rw [e11, e12]
      rw [e11] at R6 U6
      have HSB := Hid.intro hsb
      have E1 := Hid.intro e1
      have E2 := Hid.intro e2
      have E3 := Hid.intro e3
      have E4 := Hid.intro e4
      have E5 := Hid.intro e5
      have E6 := Hid.intro e6'
      have E8 := Hid.intro e8
      have E9 := Hid.intro e9'
      have E10 := Hid.intro e10
      have E13 := Hid.intro e13
      have E14 := Hid.intro e14
      have E17 := Hid.intro e17
      have E18 := Hid.intro e18
      clear e1 e2 e3 e4 e5 e6' e8 e9' e10 e11 e12 e13 e14 e17 e18 hsb
      go_upto_region 5 with fail
      obtain ⟨W6, hW6, b6, zW6, kb6, fb6⟩ := boxed w4 #[.int .i64 SX.k.t, .int .i64 SX.k.v, .int .i64 SX.k.si, .int .i64 SX.k.st, .string SX.k.sd, .slice a6 SX.k.e.length c6, .slice d6 SX.l.length e6] 31
      try simp only [hW6]
      obtain ⟨p6, hp6⟩ : ∃ p, w4.heap.size = p := ⟨_, rfl⟩
      have B6 : Hid (Blk W6 w4.heap.size #[.int .i64 SX.k.t, .int .i64 SX.k.v, .int .i64 SX.k.si, .int .i64 SX.k.st, .string SX.k.sd, .slice a6 SX.k.e.length c6, .slice d6 SX.l.length e6]) := ⟨by omega, kb6, fb6⟩
      simp only [hp6] at B6 ⊢
      replace RV := Hid.intro (RV.out.kept (b6.mono (by omega)))
      replace RU := Hid.intro (RU.out.kept (b6.mono (by omega)))
      replace RX := Hid.intro (RX.out.kept (b6.mono (by omega)))
      replace R6 := Hid.intro (R6.out.kept (b6.mono (by omega)))
      replace U6 := Hid.intro (U6.out.kept (b6.mono (by omega)))
      replace B3 := Hid.intro (B3.out.kept b6)
      replace HB := Hid.intro (HB.out.trans (b6.mono HB.out.size))
      clear hW6 b6 kb6 fb6
      have k3 := B3.out.cell
      go_wp2_with fail
      clear k3
      refine (specStoreOk_any S _ _ W6.heap.size W6 (Nat.le_refl _) (RV.out.up (by omega)) (RU.out.up (by omega))).mono ?_
      rintro e w5 ⟨rfl, b5⟩
      rw [HSB.out]
      have z5 := b5.size
      replace RV := Hid.intro (RV.out.kept (b5.mono (by omega)))
      replace RU := Hid.intro (RU.out.kept (b5.mono (by omega)))
      replace RX := Hid.intro (RX.out.kept (b5.mono (by omega)))
      replace R6 := Hid.intro (R6.out.kept (b5.mono (by omega)))
      replace U6 := Hid.intro (U6.out.kept (b5.mono (by omega)))
      replace B3 := Hid.intro (B3.out.kept b5)
      replace B6 := Hid.intro (B6.out.kept b5)
      replace HB := Hid.intro (HB.out.trans (b5.mono HB.out.size))
      clear b5
      have k3 := B3.out.cell
      go_wp2_with fail
      clear k3
      refine (implSync_any S _ _ w5.heap.size w5 (Nat.le_refl _) (RV.out.up (by omega)) (RU.out.up (by omega))).mono ?_
      rintro e w7 ⟨v8, u8, rfl, ny⟩
      rw [E2.out] at ny ⊢
      have zw7 := ny.bel.size
      have bw7 := ny.bel
      have R8 := Hid.intro ny.e.rowAll
      have U8 := Hid.intro ny.r.rowAll
      obtain ⟨a8, c8, rfl⟩ := ny.e.slice
      obtain ⟨d8, e8, rfl⟩ := ny.r.slice
      clear ny
      replace RV := Hid.intro (RV.out.kept (bw7.mono (by omega)))
      replace RU := Hid.intro (RU.out.kept (bw7.mono (by omega)))
      replace RX := Hid.intro (RX.out.kept (bw7.mono (by omega)))
      replace R6 := Hid.intro (R6.out.kept (bw7.mono (by omega)))
      replace U6 := Hid.intro (U6.out.kept (bw7.mono (by omega)))
      replace B3 := Hid.intro (B3.out.kept bw7)
      replace B6 := Hid.intro (B6.out.kept bw7)
      replace HB := Hid.intro (HB.out.trans (bw7.mono HB.out.size))
      clear bw7
      go_upto_region 8 with fail
      try simp only [List.length_nil]
      obtain ⟨W8, hW8, b8, zW8, kb8, fb8⟩ := boxed w7 #[.int .i64 H.t, .int .i64 H.v, .int .i64 H.si, .int .i64 H.st, .string H.sd, .slice a8 H.e.length c8, .slice d8 0 e8] 31
      try simp only [hW8]
      obtain ⟨p8, hp8⟩ : ∃ p, w7.heap.size = p := ⟨_, rfl⟩
      have B8 : Hid (Blk W8 w7.heap.size #[.int .i64 H.t, .int .i64 H.v, .int .i64 H.si, .int .i64 H.st, .string H.sd, .slice a8 H.e.length c8, .slice d8 0 e8]) := ⟨by omega, kb8, fb8⟩
      simp only [hp8] at B8 ⊢
      replace RV := Hid.intro (RV.out.kept (b8.mono (by omega)))
      replace RU := Hid.intro (RU.out.kept (b8.mono (by omega)))
      replace RX := Hid.intro (RX.out.kept (b8.mono (by omega)))
      replace R6 := Hid.intro (R6.out.kept (b8.mono (by omega)))
      replace U6 := Hid.intro (U6.out.kept (b8.mono (by omega)))
      replace R8 := Hid.intro (R8.out.kept (b8.mono (by omega)))
      replace U8 := Hid.intro (U8.out.kept (b8.mono (by omega)))
      replace B3 := Hid.intro (B3.out.kept b8)
      replace B6 := Hid.intro (B6.out.kept b8)
      replace HB := Hid.intro (HB.out.trans (b8.mono HB.out.size))
      clear hW8 b8 kb8 fb8
      have k8 := B8.out.cell
      go_wp2_with fail
      clear k8
      refine (implWrite_any ⟨H, []⟩ _ _ L _ W8.heap.size n W8 (Nat.le_refl _) (R8.out.up (by omega)) (U8.out.up (by omega)) (RX.out.up (by omega)) (by omega)).mono ?_
      rintro e w9 ⟨v9, u9, rfl, nz⟩
      rw [E5.out] at nz ⊢
      rw [E4.out]
      have zw9 := nz.bel.size
      have bw9 := nz.bel
      have R9 := Hid.intro nz.e.rowAll
      have U9 := Hid.intro nz.r.rowAll
      obtain ⟨a9, c9, rfl⟩ := nz.e.slice
      obtain ⟨d9, e9, rfl⟩ := nz.r.slice
      clear nz
      replace RV := Hid.intro (RV.out.kept (bw9.mono (by omega)))
      replace RU := Hid.intro (RU.out.kept (bw9.mono (by omega)))
      replace RX := Hid.intro (RX.out.kept (bw9.mono (by omega)))
      replace R6 := Hid.intro (R6.out.kept (bw9.mono (by omega)))
      replace U6 := Hid.intro (U6.out.kept (bw9.mono (by omega)))
      replace R8 := Hid.intro (R8.out.kept (bw9.mono (by omega)))
      replace U8 := Hid.intro (U8.out.kept (bw9.mono (by omega)))
      replace B3 := Hid.intro (B3.out.kept bw9)
      replace B6 := Hid.intro (B6.out.kept bw9)
      replace B8 := Hid.intro (B8.out.kept bw9)
      replace HB := Hid.intro (HB.out.trans (bw9.mono HB.out.size))
      clear bw9
      go_upto_region 9 with fail
      obtain ⟨W9, hW9, b9, zW9, kb9, fb9⟩ := boxed w9 #[.int .i64 H.t, .int .i64 H.v, .int .i64 H.si, .int .i64 H.st, .string H.sd, .slice a9 H.e.length c9, .slice d9 LZ.length e9] 31
      try simp only [hW9]
      obtain ⟨p9, hp9⟩ : ∃ p, w9.heap.size = p := ⟨_, rfl⟩
      have B9 : Hid (Blk W9 w9.heap.size #[.int .i64 H.t, .int .i64 H.v, .int .i64 H.si, .int .i64 H.st, .string H.sd, .slice a9 H.e.length c9, .slice d9 LZ.length e9]) := ⟨by omega, kb9, fb9⟩
      simp only [hp9] at B9 ⊢
      replace RV := Hid.intro (RV.out.kept (b9.mono (by omega)))
      replace RU := Hid.intro (RU.out.kept (b9.mono (by omega)))
      replace RX := Hid.intro (RX.out.kept (b9.mono (by omega)))
      replace R6 := Hid.intro (R6.out.kept (b9.mono (by omega)))
      replace U6 := Hid.intro (U6.out.kept (b9.mono (by omega)))
      replace R8 := Hid.intro (R8.out.kept (b9.mono (by omega)))
      replace U8 := Hid.intro (U8.out.kept (b9.mono (by omega)))
      replace R9 := Hid.intro (R9.out.kept (b9.mono (by omega)))
      replace U9 := Hid.intro (U9.out.kept (b9.mono (by omega)))
      replace B3 := Hid.intro (B3.out.kept b9)
      replace B6 := Hid.intro (B6.out.kept b9)
      replace B8 := Hid.intro (B8.out.kept b9)
      replace HB := Hid.intro (HB.out.trans (b9.mono HB.out.size))
      clear hW9 b9 kb9 fb9
      go_wp2_with fail
      refine (at_few zs a len cap 1 _ hl (by omega) (by omega) (fun k hk => by
        obtain ⟨b, off, q1, q2, q3⟩ := HR.out.below HB.out k hk
        exact ⟨b, off, q1, by have := HB.out.size; omega, q3⟩)).mono ?_
      rintro e w10 ⟨⟨x7, rfl, x0, x1⟩, rfl⟩
      have k8 := B8.out.cell
      go_wp2_with fail
      clear k8
      refine (specHeld_any ⟨H, []⟩ _ _ W9.heap.size W9 (Nat.le_refl _) (R8.out.up (by omega)) (U8.out.up (by omega))).mono ?_
      rintro e w11 ⟨v12, rfl, oh⟩
      rw [E3.out] at oh ⊢
      have z11 := oh.2.size
      have b11 := oh.2
      have R12 := Hid.intro oh.1.rowAll
      obtain ⟨a12, c12, rfl⟩ := oh.1.slice
      clear oh
      replace RV := Hid.intro (RV.out.kept (b11.mono (by omega)))
      replace RU := Hid.intro (RU.out.kept (b11.mono (by omega)))
      replace RX := Hid.intro (RX.out.kept (b11.mono (by omega)))
      replace R6 := Hid.intro (R6.out.kept (b11.mono (by omega)))
      replace U6 := Hid.intro (U6.out.kept (b11.mono (by omega)))
      replace R8 := Hid.intro (R8.out.kept (b11.mono (by omega)))
      replace U8 := Hid.intro (U8.out.kept (b11.mono (by omega)))
      replace R9 := Hid.intro (R9.out.kept (b11.mono (by omega)))
      replace U9 := Hid.intro (U9.out.kept (b11.mono (by omega)))
      replace B3 := Hid.intro (B3.out.kept b11)
      replace B6 := Hid.intro (B6.out.kept b11)
      replace B8 := Hid.intro (B8.out.kept b11)
      replace B9 := Hid.intro (B9.out.kept b11)
      replace HB := Hid.intro (HB.out.trans (b11.mono HB.out.size))
      clear b11
      go_upto_region 11 with fail
      obtain ⟨W12, hW12, b12, zW12, kb12, fb12⟩ := boxed w11 #[.int .i64 H.t, .int .i64 H.v, .int .i64 H.si, .int .i64 H.st, .string H.sd, .slice a12 H.e.length c12] 28
      try simp only [hW12]
      obtain ⟨p12, hp12⟩ : ∃ p, w11.heap.size = p := ⟨_, rfl⟩
      have B12 : Hid (Blk W12 w11.heap.size #[.int .i64 H.t, .int .i64 H.v, .int .i64 H.si, .int .i64 H.st, .string H.sd, .slice a12 H.e.length c12]) := ⟨by omega, kb12, fb12⟩
      simp only [hp12] at B12 ⊢
      replace RV := Hid.intro (RV.out.kept (b12.mono (by omega)))
      replace RU := Hid.intro (RU.out.kept (b12.mono (by omega)))
      replace RX := Hid.intro (RX.out.kept (b12.mono (by omega)))
      replace R6 := Hid.intro (R6.out.kept (b12.mono (by omega)))
      replace U6 := Hid.intro (U6.out.kept (b12.mono (by omega)))
      replace R8 := Hid.intro (R8.out.kept (b12.mono (by omega)))
      replace U8 := Hid.intro (U8.out.kept (b12.mono (by omega)))
      replace R9 := Hid.intro (R9.out.kept (b12.mono (by omega)))
      replace U9 := Hid.intro (U9.out.kept (b12.mono (by omega)))
      replace R12 := Hid.intro (R12.out.kept (b12.mono (by omega)))
      replace B3 := Hid.intro (B3.out.kept b12)
      replace B6 := Hid.intro (B6.out.kept b12)
      replace B8 := Hid.intro (B8.out.kept b12)
      replace B9 := Hid.intro (B9.out.kept b12)
      replace HB := Hid.intro (HB.out.trans (b12.mono HB.out.size))
      clear hW12 b12 kb12 fb12
      have t1 : ¬ ((kx : Nat) : Int) < 0 := by omega
      have t2 : ¬ ((m : Nat) : Int) < 0 := by omega
      have t3 : ¬ ((L.length : Nat) : Int) < (m : Int) := by omega
      have t4 : ¬ ((L.length : Nat) : Int) < (kx : Int) := by omega
      go_wp2_with fail
      obtain ⟨kp, hkp⟩ : ∃ kp : Nat, x7 % 7 = (kp : Nat) := Int.eq_ofNat_of_zero_le (by omega)
      rw [hkp]
      clear hkp x0 x1 t1 t2 t3 t4
      go_loopw [13] (fun s wr => ∃ (j : Nat) (K : Kp) (v : Value), s = .int .i64 j ∧ j ≤ m ∧ j ≤ kp ∧ foldK H (L.take j) = some K ∧ Blk wr p12 #[.int .i64 K.t, .int .i64 K.v, .int .i64 K.si, .int .i64 K.st, .string K.sd, v] ∧ RowE wr wr.heap.size v K.e ∧ Only (fun k => k = p12) W12 wr) (fun s _ => m - (intOf s).toNat)
      case atStart => exact ⟨0, H, _, rfl, Nat.zero_le _, Nat.zero_le _, by simp [foldK], B12.out, R12.out.up (by omega), Only.refl _ _⟩
      case round =>
        obtain ⟨j, K, v, rfl, hj, hjk, hf, x12, rw', ho⟩ := hrel
        have X12 := Hid.intro x12
        have RW := Hid.intro rw'
        have HO := Hid.intro ho
        have hzr := ho.size
        obtain ⟨av2, cv2, rfl, _, _, _⟩ := rw'
        clear x12 ho
        by_cases hlt : j < m
        · have hlt' : (j : Int) < (m : Int) := by omega
          by_cases hlk : j < kp
          · have hlk' : (j : Int) < (kp : Int) := by omega
            obtain ⟨s1, s3⟩ := E17.out j K (by omega) hlt hf
            obtain ⟨_, _, hv3, _, _, hcc⟩ := (RX.out.kept (HO.out.below (by omega) (fun k hk e => by omega))).up (show p3 ≤ wr.heap.size by omega)
            simp only [Value.slice.injEq, true_and] at hv3
            obtain ⟨rfl, rfl⟩ := hv3
            obtain ⟨b, off, rfl, hb, hc5⟩ := hcc (by intro h; rw [h] at e7; simp at e7; omega)
            obtain ⟨p0, p1, p2, p3, p4⟩ := hc5 j (by omega)
            generalize L[j] = r at s1 s3 p0 p1 p2 p3 p4
            have HKS := Hid.intro s1
            have HF2 := Hid.intro s3
            have hb12r := X12.out.hi
            have HS : Hid (∀ w', Below wr.heap.size wr w' → SCh K (.slice av2 K.e.length cv2) r p12 b (off + j * 5) w') := fun w' hw => by
              have c := (X12.out.kept hw).cell
              exact ⟨by rw [c]; rfl, by rw [c]; rfl, by rw [c]; rfl, by rw [c]; rfl, by rw [c]; rfl, by rw [c]; rfl, atCell hw p0 hb, atCell hw p1 hb, atCell hw p2 hb, atCell hw p3 hb, atCell hw p4 hb⟩
            have i1 : (0 : Int) ≤ (j : Int) ∧ (j : Int) < (L.length : Int) := by omega
            clear s1 s3 hcc hc5 p0 p1 p2 p3 p4
            go_upto_region 16 with fail
            refine wp_region_held_drew (S := SCh K (.slice av2 K.e.length cv2) r p12 b (off + j * 5)) (by kernel_rfl) (HS.out _ (Below.refl _ _).drew) (fun hHeld => ?_)
            have BWD : Below wr.heap.size wr wr.drew := (Below.refl _ _).drew
            generalize wr.drew = D at BWD hHeld ⊢
            refine take1 (i := 0) (d := some 99) (v := ?_) rfl rfl (by kernel_rfl) (by kernel_rfl) (by kernel_rfl) (fun _ _ _ h => h) (Or.inl ⟨by rfl, ?_⟩) (by assumption) ?_
            rotate_left 1
            · intro w hSw
              obtain ⟨q0, q1, q2, q3, q4, q5, q6, q7, q8, q9, q10⟩ := hSw
              go_simp <;> with_reducible rfl
            simp only [Act.put, List.setIfInBounds_toArray]
            try simp only [List.set_cons_succ]
            try simp only [List.set_cons_zero]
            refine take1 (i := 1) (d := some 100) (v := ?_) rfl rfl (by kernel_rfl) (by kernel_rfl) (by kernel_rfl) (fun _ _ _ h => h) (Or.inl ⟨by rfl, ?_⟩) (by assumption) ?_
            rotate_left 1
            · intro w hSw
              obtain ⟨q0, q1, q2, q3, q4, q5, q6, q7, q8, q9, q10⟩ := hSw
              go_simp <;> with_reducible rfl
            simp only [Act.put, List.setIfInBounds_toArray]
            try simp only [List.set_cons_succ]
            try simp only [List.set_cons_zero]
            refine take1 (i := 2) (d := some 101) (v := ?_) rfl rfl (by kernel_rfl) (by kernel_rfl) (by kernel_rfl) (fun _ _ _ h => h) (Or.inl ⟨by rfl, ?_⟩) (by assumption) ?_
            rotate_left 1
            · intro w hSw
              obtain ⟨q0, q1, q2, q3, q4, q5, q6, q7, q8, q9, q10⟩ := hSw
              go_simp <;> with_reducible rfl
            simp only [Act.put, List.setIfInBounds_toArray]
            try simp only [List.set_cons_succ]
            try simp only [List.set_cons_zero]
            refine take1 (i := 3) (d := some 102) (v := ?_) rfl rfl (by kernel_rfl) (by kernel_rfl) (by kernel_rfl) (fun _ _ _ h => h) (Or.inl ⟨by rfl, ?_⟩) (by assumption) ?_
            rotate_left 1
            · intro w hSw
              obtain ⟨q0, q1, q2, q3, q4, q5, q6, q7, q8, q9, q10⟩ := hSw
              go_simp <;> with_reducible rfl
            simp only [Act.put, List.setIfInBounds_toArray]
            try simp only [List.set_cons_succ]
            try simp only [List.set_cons_zero]
            refine take1 (i := 4) (d := some 103) (v := ?_) rfl rfl (by kernel_rfl) (by kernel_rfl) (by kernel_rfl) (fun _ _ _ h => h) (Or.inl ⟨by rfl, ?_⟩) (by assumption) ?_
            rotate_left 1
            · intro w hSw
              obtain ⟨q0, q1, q2, q3, q4, q5, q6, q7, q8, q9, q10⟩ := hSw
              go_simp <;> with_reducible rfl
            simp only [Act.put, List.setIfInBounds_toArray]
            try simp only [List.set_cons_succ]
            try simp only [List.set_cons_zero]
            refine wpAnyH_ready (rs := [5, 9]) (by kernel_rfl) (by simp) ?_
            refine AllReadyH.cons rfl (fun KK hKK => ?_) (AllReadyH.cons rfl (fun KK hKK => ?_) AllReadyH.nil)
            · skip
              go_simp
              refine (specKeptStep_any K (.slice av2 K.e.length cv2) wr.heap.size r _ BWD.size (RW.out.kept BWD)).mono ?_
              rintro e wC ⟨vC, rfl, oC, bwC⟩
              obtain ⟨aC, capC, rfl⟩ := oC.slice
              try rw [HKS.out]
              have HN : Hid (∀ k, (Value.slice aC (ksK K r).e.length capC).ownBlock = some k → ¬ k = wC.heap.size) := fun k hk h => by have := (oC.lt k hk).2; omega
              have HOC := Hid.intro (OwnE.lower oC BWD.size)
              clear oC
              have BWwC : Below wr.heap.size wr wC := BWD.trans (bwC.mono BWD.size)
              go_simp
              refine hKK.out _ _ (HS.out _ BWwC) (fun hHeld2 => ?_)
              clear hKK KK hHeld
              have hHeld := hHeld2
              clear hHeld2
              refine take1 (i := 6) (d := some 98) (v := ?_) rfl rfl (by kernel_rfl) (by kernel_rfl) (by kernel_rfl) (fun _ _ _ h => h) (Or.inl ⟨by rfl, ?_⟩) (by assumption) ?_
              rotate_left 1
              · intro w hSw
                obtain ⟨q0, q1, q2, q3, q4, q5, q6, q7, q8, q9, q10⟩ := hSw
                go_simp <;> with_reducible rfl
              simp only [Act.put, List.setIfInBounds_toArray]
              try simp only [List.set_cons_succ]
              try simp only [List.set_cons_zero]
              refine take1 (i := 7) (d := some 105) (v := ?_) rfl rfl (by kernel_rfl) (by kernel_rfl) (by kernel_rfl) (fun _ _ _ h => h) (Or.inl ⟨by rfl, ?_⟩) (by assumption) ?_
              rotate_left 1
              · intro w hSw
                obtain ⟨q0, q1, q2, q3, q4, q5, q6, q7, q8, q9, q10⟩ := hSw
                go_simp <;> with_reducible rfl
              simp only [Act.put, List.setIfInBounds_toArray]
              try simp only [List.set_cons_succ]
              try simp only [List.set_cons_zero]
              refine take1 (i := 8) (d := some 106) (v := ?_) rfl rfl (by kernel_rfl) (by kernel_rfl) (by kernel_rfl) (fun _ _ _ h => h) (Or.inl ⟨by rfl, ?_⟩) (by assumption) ?_
              rotate_left 1
              · intro w hSw
                obtain ⟨q0, q1, q2, q3, q4, q5, q6, q7, q8, q9, q10⟩ := hSw
                go_simp <;> with_reducible rfl
              simp only [Act.put, List.setIfInBounds_toArray]
              try simp only [List.set_cons_succ]
              try simp only [List.set_cons_zero]
              refine wpAnyH_ready (rs := [9]) (by kernel_rfl) (by simp) ?_
              refine AllReadyH.cons rfl (fun KK hKK => ?_) AllReadyH.nil
              go_simp
              have bX := (Below.refl wC.heap.size wC).alloc (Nat.le_refl _) (.cells #[.int .i64 0, .int .i64 0, .int .i64 0, .int .i64 0, .string ⟨#[]⟩, .slice none 0 0] 28)
              have zk6 : wC.heap.size < (wC.alloc (.cells #[.int .i64 0, .int .i64 0, .int .i64 0, .int .i64 0, .string ⟨#[]⟩, .slice none 0 0] 28)).heap.size := by simp
              have k6 : ∀ o, (wC.alloc (.cells #[.int .i64 0, .int .i64 0, .int .i64 0, .int .i64 0, .string ⟨#[]⟩, .slice none 0 0] 28)).cell? ⟨wC.heap.size, o, none⟩ = #[.int .i64 0, .int .i64 0, .int .i64 0, .int .i64 0, .string ⟨#[]⟩, .slice none 0 0][o]? := fun o => World.cell?_alloc_at _ _ _ _ rfl
              have g6 : ∀ o, (wC.alloc (.cells #[.int .i64 0, .int .i64 0, .int .i64 0, .int .i64 0, .string ⟨#[]⟩, .slice none 0 0] 28)).frozen? ⟨wC.heap.size, o, none⟩ = false := fun o => World.frozen?_alloc_at _ _ _ _ rfl
              generalize wC.alloc (.cells #[.int .i64 0, .int .i64 0, .int .i64 0, .int .i64 0, .string ⟨#[]⟩, .slice none 0 0] 28) = X at bX zk6 k6 g6 ⊢
              have BWX : Below wr.heap.size wr X := BWwC.trans (bX.mono BWwC.size)
              replace HOC := Hid.intro (HOC.out.kept bX)
              refine hKK.out _ _ (HS.out _ BWX) (fun hHeld2 => ?_)
              clear hKK KK hHeld
              have hHeld := hHeld2
              clear hHeld2
              refine wpAnyH_ready (rs := [10]) (by kernel_rfl) (by simp) ?_
              refine AllReadyH.cons rfl (fun KK hKK => ?_) AllReadyH.nil
              go_simp
              obtain ⟨Y, hY, cY, oY, zY, fY⟩ := put6 (x0 := .int .i64 (ksK K r).t) (x1 := .int .i64 (ksK K r).v) (x2 := .int .i64 (ksK K r).si) (x3 := .int .i64 (ksK K r).st) (x4 := .string (ksK K r).sd) (x5 := .slice aC (ksK K r).e.length capC) k6
              simp only [hY]
              have BWY := BWX.trans (oY.below BWX.size (fun k hk h => by have := BWwC.size; omega))
              refine hKK.out _ _ (HS.out _ BWY) (fun hHeld2 => ?_)
              clear hKK KK hHeld
              have hHeld := hHeld2
              clear hHeld2
              refine take1 (i := 11) (d := some 15) (v := ?_) rfl rfl (by kernel_rfl) (by kernel_rfl) (by kernel_rfl) (fun _ _ _ h => h) (Or.inl ⟨by rfl, ?_⟩) (by assumption) ?_
              rotate_left 1
              · intro w hSw
                obtain ⟨q0, q1, q2, q3, q4, q5, q6, q7, q8, q9, q10⟩ := hSw
                go_simp <;> with_reducible rfl
              simp only [Act.put, List.setIfInBounds_toArray]
              try simp only [List.set_cons_succ]
              try simp only [List.set_cons_zero]
              refine wpAnyH_done (by kernel_rfl) ?_ _
              have HOY := Hid.intro (HOC.out.only oY (fun k hk h => HN.out k hk h))
              have hyw : wr.heap.size ≤ wC.heap.size := BWwC.size
              have X12Y := Hid.intro (X12.out.kept BWY)
              have hzY := BWY.size
              have cy := cY
              obtain ⟨V, hV, kV, oV⟩ := X12Y.out.all6 (.int .i64 (ksK K r).t) (.int .i64 (ksK K r).v) (.int .i64 (ksK K r).si) (.int .i64 (ksK K r).st) (.string (ksK K r).sd) (.slice aC (ksK K r).e.length capC)
              have k9 := X12Y.out.cell
              have f9 := X12Y.out.fro
              go_wp2_with fail
              try simp only [hV]
              go_roundw
              case rel =>
                refine ⟨j + 1, ksK K r, _, by go_num, by omega, by omega, HF2.out, kV, ?_, ?_⟩
                · exact (HOY.out.only oV (fun k hk e => by have := (HOY.out.lt k hk).1; omega)).rowAll
                · exact (HO.out.trans (Below.any BWY)).trans oV
              case measure => simp [intOf]; omega
            · skip
              go_simp
              have bX := (Below.refl D.heap.size D).alloc (Nat.le_refl _) (.cells #[.int .i64 0, .int .i64 0, .int .i64 0, .int .i64 0, .string ⟨#[]⟩, .slice none 0 0] 28)
              have zk6 : D.heap.size < (D.alloc (.cells #[.int .i64 0, .int .i64 0, .int .i64 0, .int .i64 0, .string ⟨#[]⟩, .slice none 0 0] 28)).heap.size := by simp
              have k6 : ∀ o, (D.alloc (.cells #[.int .i64 0, .int .i64 0, .int .i64 0, .int .i64 0, .string ⟨#[]⟩, .slice none 0 0] 28)).cell? ⟨D.heap.size, o, none⟩ = #[.int .i64 0, .int .i64 0, .int .i64 0, .int .i64 0, .string ⟨#[]⟩, .slice none 0 0][o]? := fun o => World.cell?_alloc_at _ _ _ _ rfl
              have g6 : ∀ o, (D.alloc (.cells #[.int .i64 0, .int .i64 0, .int .i64 0, .int .i64 0, .string ⟨#[]⟩, .slice none 0 0] 28)).frozen? ⟨D.heap.size, o, none⟩ = false := fun o => World.frozen?_alloc_at _ _ _ _ rfl
              generalize D.alloc (.cells #[.int .i64 0, .int .i64 0, .int .i64 0, .int .i64 0, .string ⟨#[]⟩, .slice none 0 0] 28) = X at bX zk6 k6 g6 ⊢
              have BWX : Below wr.heap.size wr X := BWD.trans (bX.mono BWD.size)
              refine hKK.out _ _ (HS.out _ BWX) (fun hHeld2 => ?_)
              clear hKK KK hHeld
              have hHeld := hHeld2
              clear hHeld2
              refine wpAnyH_ready (rs := [5]) (by kernel_rfl) (by simp) ?_
              refine AllReadyH.cons rfl (fun KK hKK => ?_) AllReadyH.nil
              go_simp
              refine (specKeptStep_any K (.slice av2 K.e.length cv2) wr.heap.size r _ BWX.size (RW.out.kept BWX)).mono ?_
              rintro e wC ⟨vC, rfl, oC, bwC⟩
              obtain ⟨aC, capC, rfl⟩ := oC.slice
              try rw [HKS.out]
              have HN : Hid (∀ k, (Value.slice aC (ksK K r).e.length capC).ownBlock = some k → ¬ k = D.heap.size) := fun k hk h => by have := (oC.lt k hk).1; omega
              have HOC := Hid.intro (OwnE.lower oC BWX.size)
              clear oC
              have BWwC : Below wr.heap.size wr wC := BWX.trans (bwC.mono BWX.size)
              replace k6 := keepC bwC zk6 k6
              replace g6 := keepF bwC zk6 g6
              replace zk6 : D.heap.size < wC.heap.size := Nat.lt_of_lt_of_le zk6 bwC.size
              go_simp
              refine hKK.out _ _ (HS.out _ BWwC) (fun hHeld2 => ?_)
              clear hKK KK hHeld
              have hHeld := hHeld2
              clear hHeld2
              refine take1 (i := 6) (d := some 98) (v := ?_) rfl rfl (by kernel_rfl) (by kernel_rfl) (by kernel_rfl) (fun _ _ _ h => h) (Or.inl ⟨by rfl, ?_⟩) (by assumption) ?_
              rotate_left 1
              · intro w hSw
                obtain ⟨q0, q1, q2, q3, q4, q5, q6, q7, q8, q9, q10⟩ := hSw
                go_simp <;> with_reducible rfl
              simp only [Act.put, List.setIfInBounds_toArray]
              try simp only [List.set_cons_succ]
              try simp only [List.set_cons_zero]
              refine take1 (i := 7) (d := some 105) (v := ?_) rfl rfl (by kernel_rfl) (by kernel_rfl) (by kernel_rfl) (fun _ _ _ h => h) (Or.inl ⟨by rfl, ?_⟩) (by assumption) ?_
              rotate_left 1
              · intro w hSw
                obtain ⟨q0, q1, q2, q3, q4, q5, q6, q7, q8, q9, q10⟩ := hSw
                go_simp <;> with_reducible rfl
              simp only [Act.put, List.setIfInBounds_toArray]
              try simp only [List.set_cons_succ]
              try simp only [List.set_cons_zero]
              refine take1 (i := 8) (d := some 106) (v := ?_) rfl rfl (by kernel_rfl) (by kernel_rfl) (by kernel_rfl) (fun _ _ _ h => h) (Or.inl ⟨by rfl, ?_⟩) (by assumption) ?_
              rotate_left 1
              · intro w hSw
                obtain ⟨q0, q1, q2, q3, q4, q5, q6, q7, q8, q9, q10⟩ := hSw
                go_simp <;> with_reducible rfl
              simp only [Act.put, List.setIfInBounds_toArray]
              try simp only [List.set_cons_succ]
              try simp only [List.set_cons_zero]
              refine wpAnyH_ready (rs := [10]) (by kernel_rfl) (by simp) ?_
              refine AllReadyH.cons rfl (fun KK hKK => ?_) AllReadyH.nil
              go_simp
              obtain ⟨Y, hY, cY, oY, zY, fY⟩ := put6 (x0 := .int .i64 (ksK K r).t) (x1 := .int .i64 (ksK K r).v) (x2 := .int .i64 (ksK K r).si) (x3 := .int .i64 (ksK K r).st) (x4 := .string (ksK K r).sd) (x5 := .slice aC (ksK K r).e.length capC) k6
              simp only [hY]
              have BWY := BWwC.trans (oY.below BWwC.size (fun k hk h => by have := BWD.size; omega))
              refine hKK.out _ _ (HS.out _ BWY) (fun hHeld2 => ?_)
              clear hKK KK hHeld
              have hHeld := hHeld2
              clear hHeld2
              refine take1 (i := 11) (d := some 15) (v := ?_) rfl rfl (by kernel_rfl) (by kernel_rfl) (by kernel_rfl) (fun _ _ _ h => h) (Or.inl ⟨by rfl, ?_⟩) (by assumption) ?_
              rotate_left 1
              · intro w hSw
                obtain ⟨q0, q1, q2, q3, q4, q5, q6, q7, q8, q9, q10⟩ := hSw
                go_simp <;> with_reducible rfl
              simp only [Act.put, List.setIfInBounds_toArray]
              try simp only [List.set_cons_succ]
              try simp only [List.set_cons_zero]
              refine wpAnyH_done (by kernel_rfl) ?_ _
              have HOY := Hid.intro (HOC.out.only oY (fun k hk h => HN.out k hk h))
              have hyw : wr.heap.size ≤ D.heap.size := BWD.size
              have X12Y := Hid.intro (X12.out.kept BWY)
              have hzY := BWY.size
              have cy := cY
              obtain ⟨V, hV, kV, oV⟩ := X12Y.out.all6 (.int .i64 (ksK K r).t) (.int .i64 (ksK K r).v) (.int .i64 (ksK K r).si) (.int .i64 (ksK K r).st) (.string (ksK K r).sd) (.slice aC (ksK K r).e.length capC)
              have k9 := X12Y.out.cell
              have f9 := X12Y.out.fro
              go_wp2_with fail
              try simp only [hV]
              go_roundw
              case rel =>
                refine ⟨j + 1, ksK K r, _, by go_num, by omega, by omega, HF2.out, kV, ?_, ?_⟩
                · exact (HOY.out.only oV (fun k hk e => by have := (HOY.out.lt k hk).1; omega)).rowAll
                · exact (HO.out.trans (Below.any BWY)).trans oV
              case measure => simp [intOf]; omega
          · have hlk' : ¬ (j : Int) < (kp : Int) := by omega
            have hjm : j = min m kp := by omega
            have HLO := Hid.intro (E18.out j kp K hjm hf)
            have hbl : Hid (∀ N, N ≤ p12 → Below N W12 wr) := fun N hN => HO.out.below (by omega) (fun k hk e => by omega)
            replace RV := Hid.intro (RV.out.kept (hbl.out _ (by omega)))
            replace RU := Hid.intro (RU.out.kept (hbl.out _ (by omega)))
            replace R6 := Hid.intro (R6.out.kept (hbl.out _ (by omega)))
            replace U6 := Hid.intro (U6.out.kept (hbl.out _ (by omega)))
            replace R8 := Hid.intro (R8.out.kept (hbl.out _ (by omega)))
            replace U8 := Hid.intro (U8.out.kept (hbl.out _ (by omega)))
            replace R9 := Hid.intro (R9.out.kept (hbl.out _ (by omega)))
            replace U9 := Hid.intro (U9.out.kept (hbl.out _ (by omega)))
            replace B3 := Hid.intro (B3.out.only HO.out (by omega))
            replace B6 := Hid.intro (B6.out.only HO.out (by omega))
            replace B8 := Hid.intro (B8.out.only HO.out (by omega))
            replace B9 := Hid.intro (B9.out.only HO.out (by omega))
            have HBr := Hid.intro (HB.out.trans (HO.out.below HB.out.size (fun k hk e => by omega)))
            have k9 := B9.out.cell
            go_wp2_with fail
            clear k9
            refine (implLose_any ⟨H, LZ⟩ _ _ wr.heap.size (kp : Nat) wr (Nat.le_refl _) (R9.out.up (by omega)) (U9.out.up (by omega))).mono ?_
            rintro e w20 ⟨v16, u16, rfl, nv⟩
            rw [HLO.out] at nv ⊢
            have zw20 := nv.bel.size
            have bw20 := nv.bel
            have R16 := Hid.intro nv.e.rowAll
            have U16 := Hid.intro nv.r.rowAll
            obtain ⟨a16, c16, rfl⟩ := nv.e.slice
            obtain ⟨d16, e16, rfl⟩ := nv.r.slice
            clear nv
            replace RV := Hid.intro (RV.out.kept (bw20.mono (by omega)))
            replace RU := Hid.intro (RU.out.kept (bw20.mono (by omega)))
            replace R6 := Hid.intro (R6.out.kept (bw20.mono (by omega)))
            replace U6 := Hid.intro (U6.out.kept (bw20.mono (by omega)))
            replace R8 := Hid.intro (R8.out.kept (bw20.mono (by omega)))
            replace U8 := Hid.intro (U8.out.kept (bw20.mono (by omega)))
            replace R9 := Hid.intro (R9.out.kept (bw20.mono (by omega)))
            replace U9 := Hid.intro (U9.out.kept (bw20.mono (by omega)))
            replace RW := Hid.intro (RW.out.kept (bw20.mono (by omega)))
            replace B3 := Hid.intro (B3.out.kept bw20)
            replace B6 := Hid.intro (B6.out.kept bw20)
            replace B8 := Hid.intro (B8.out.kept bw20)
            replace B9 := Hid.intro (B9.out.kept bw20)
            replace X12 := Hid.intro (X12.out.kept bw20)
            replace HBr := Hid.intro (HBr.out.trans (bw20.mono HBr.out.size))
            clear bw20
            go_upto_region 21 with fail
            try simp only [List.length_nil]
            obtain ⟨W16, hW16, b16, zW16, kb16, fb16⟩ := boxed w20 #[.int .i64 K.t, .int .i64 K.v, .int .i64 K.si, .int .i64 K.st, .string K.sd, .slice a16 K.e.length c16, .slice d16 0 e16] 31
            try simp only [hW16]
            obtain ⟨p16, hp16⟩ : ∃ p, w20.heap.size = p := ⟨_, rfl⟩
            have B16 : Hid (Blk W16 w20.heap.size #[.int .i64 K.t, .int .i64 K.v, .int .i64 K.si, .int .i64 K.st, .string K.sd, .slice a16 K.e.length c16, .slice d16 0 e16]) := ⟨by omega, kb16, fb16⟩
            simp only [hp16] at B16 ⊢
            replace RV := Hid.intro (RV.out.kept (b16.mono (by omega)))
            replace RU := Hid.intro (RU.out.kept (b16.mono (by omega)))
            replace R6 := Hid.intro (R6.out.kept (b16.mono (by omega)))
            replace U6 := Hid.intro (U6.out.kept (b16.mono (by omega)))
            replace R8 := Hid.intro (R8.out.kept (b16.mono (by omega)))
            replace U8 := Hid.intro (U8.out.kept (b16.mono (by omega)))
            replace R9 := Hid.intro (R9.out.kept (b16.mono (by omega)))
            replace U9 := Hid.intro (U9.out.kept (b16.mono (by omega)))
            replace RW := Hid.intro (RW.out.kept (b16.mono (by omega)))
            replace R16 := Hid.intro (R16.out.kept (b16.mono (by omega)))
            replace U16 := Hid.intro (U16.out.kept (b16.mono (by omega)))
            replace B3 := Hid.intro (B3.out.kept b16)
            replace B6 := Hid.intro (B6.out.kept b16)
            replace B8 := Hid.intro (B8.out.kept b16)
            replace B9 := Hid.intro (B9.out.kept b16)
            replace X12 := Hid.intro (X12.out.kept b16)
            replace HBr := Hid.intro (HBr.out.trans (b16.mono HBr.out.size))
            clear hW16 b16 kb16 fb16
            replace RV := Hid.intro (RV.out.up (show _ ≤ W16.heap.size by omega))
            replace RU := Hid.intro (RU.out.up (show _ ≤ W16.heap.size by omega))
            replace R6 := Hid.intro (R6.out.up (show _ ≤ W16.heap.size by omega))
            replace U6 := Hid.intro (U6.out.up (show _ ≤ W16.heap.size by omega))
            replace R8 := Hid.intro (R8.out.up (show _ ≤ W16.heap.size by omega))
            replace U8 := Hid.intro (U8.out.up (show _ ≤ W16.heap.size by omega))
            replace R9 := Hid.intro (R9.out.up (show _ ≤ W16.heap.size by omega))
            replace U9 := Hid.intro (U9.out.up (show _ ≤ W16.heap.size by omega))
            replace RW := Hid.intro (RW.out.up (show _ ≤ W16.heap.size by omega))
            replace R16 := Hid.intro (R16.out.up (show _ ≤ W16.heap.size by omega))
            replace U16 := Hid.intro (U16.out.up (show _ ≤ W16.heap.size by omega))
            have HS : Hid (∀ u', Below W16.heap.size W16 u' → (fun u => (∀ o, u.cell? ⟨p6, o, none⟩ = (#[.int .i64 SX.k.t, .int .i64 SX.k.v, .int .i64 SX.k.si, .int .i64 SX.k.st, .string SX.k.sd, .slice a6 SX.k.e.length c6, .slice d6 SX.l.length e6] : Array Value)[o]?) ∧ (∀ o, u.cell? ⟨p9, o, none⟩ = (#[.int .i64 H.t, .int .i64 H.v, .int .i64 H.si, .int .i64 H.st, .string H.sd, .slice a9 H.e.length c9, .slice d9 LZ.length e9] : Array Value)[o]?) ∧ (∀ o, u.cell? ⟨p8, o, none⟩ = (#[.int .i64 H.t, .int .i64 H.v, .int .i64 H.si, .int .i64 H.st, .string H.sd, .slice a8 H.e.length c8, .slice d8 0 e8] : Array Value)[o]?) ∧ (∀ o, u.cell? ⟨p3, o, none⟩ = (#[.int .i64 S.k.t, .int .i64 S.k.v, .int .i64 S.k.si, .int .i64 S.k.st, .string S.k.sd, .slice a0 S.k.e.length c0, .slice au S.l.length cu] : Array Value)[o]?) ∧ (∀ o, u.cell? ⟨p16, o, none⟩ = (#[.int .i64 K.t, .int .i64 K.v, .int .i64 K.si, .int .i64 K.st, .string K.sd, .slice a16 K.e.length c16, .slice d16 0 e16] : Array Value)[o]?) ∧ (∀ o, u.cell? ⟨p12, o, none⟩ = (#[.int .i64 K.t, .int .i64 K.v, .int .i64 K.si, .int .i64 K.st, .string K.sd, .slice av2 K.e.length cv2] : Array Value)[o]?)) u') := fun u' hb => ⟨(B6.out.kept hb).cell, (B9.out.kept hb).cell, (B8.out.kept hb).cell, (B3.out.kept hb).cell, (B16.out.kept hb).cell, (X12.out.kept hb).cell⟩
            refine wp_region_held_drew (S := (fun u => (∀ o, u.cell? ⟨p6, o, none⟩ = (#[.int .i64 SX.k.t, .int .i64 SX.k.v, .int .i64 SX.k.si, .int .i64 SX.k.st, .string SX.k.sd, .slice a6 SX.k.e.length c6, .slice d6 SX.l.length e6] : Array Value)[o]?) ∧ (∀ o, u.cell? ⟨p9, o, none⟩ = (#[.int .i64 H.t, .int .i64 H.v, .int .i64 H.si, .int .i64 H.st, .string H.sd, .slice a9 H.e.length c9, .slice d9 LZ.length e9] : Array Value)[o]?) ∧ (∀ o, u.cell? ⟨p8, o, none⟩ = (#[.int .i64 H.t, .int .i64 H.v, .int .i64 H.si, .int .i64 H.st, .string H.sd, .slice a8 H.e.length c8, .slice d8 0 e8] : Array Value)[o]?) ∧ (∀ o, u.cell? ⟨p3, o, none⟩ = (#[.int .i64 S.k.t, .int .i64 S.k.v, .int .i64 S.k.si, .int .i64 S.k.st, .string S.k.sd, .slice a0 S.k.e.length c0, .slice au S.l.length cu] : Array Value)[o]?) ∧ (∀ o, u.cell? ⟨p16, o, none⟩ = (#[.int .i64 K.t, .int .i64 K.v, .int .i64 K.si, .int .i64 K.st, .string K.sd, .slice a16 K.e.length c16, .slice d16 0 e16] : Array Value)[o]?) ∧ (∀ o, u.cell? ⟨p12, o, none⟩ = (#[.int .i64 K.t, .int .i64 K.v, .int .i64 K.si, .int .i64 K.st, .string K.sd, .slice av2 K.e.length cv2] : Array Value)[o]?))) (by kernel_rfl) (HS.out _ (Below.refl _ _).drew) (fun hHeld => ?_)
            have BWD : Below W16.heap.size W16 W16.drew := (Below.refl _ _).drew
            generalize W16.drew = D at BWD hHeld ⊢
            refine take1 (i := 0) (d := some 113) (v := ?_) rfl rfl (by kernel_rfl) (by kernel_rfl) (by kernel_rfl) (fun _ _ _ h => h) (Or.inl ⟨by rfl, ?_⟩) (by assumption) ?_
            rotate_left 1
            · intro w hSw
              obtain ⟨q0, q1, q2, q3, q4, q5⟩ := hSw
              go_simp <;> with_reducible rfl
            simp only [Act.put, List.setIfInBounds_toArray]
            try simp only [List.set_cons_succ]
            try simp only [List.set_cons_zero]
            refine wpAnyH_ready (rs := [1]) (by kernel_rfl) (by simp) ?_
            refine AllReadyH.cons rfl (fun KK hKK => ?_) AllReadyH.nil
            go_simp
            refine (specStoreOk_any SX _ _ W16.heap.size D BWD.size (R6.out.kept BWD) (U6.out.kept BWD)).mono ?_
            rintro e wa ⟨rfl, bwa⟩
            rw [E13.out]
            have BWwa : Below W16.heap.size W16 wa := BWD.trans (bwa.mono BWD.size)
            go_simp
            refine hKK.out _ _ (HS.out _ BWwa) (fun hHeld2 => ?_)
            clear hKK KK hHeld
            have hHeld := hHeld2
            clear hHeld2
            refine take1 (i := 2) (d := some 115) (v := ?_) rfl rfl (by kernel_rfl) (by kernel_rfl) (by kernel_rfl) (fun _ _ _ h => h) (Or.inl ⟨by rfl, ?_⟩) (by assumption) ?_
            rotate_left 1
            · intro w hSw
              obtain ⟨q0, q1, q2, q3, q4, q5⟩ := hSw
              go_simp <;> with_reducible rfl
            simp only [Act.put, List.setIfInBounds_toArray]
            try simp only [List.set_cons_succ]
            try simp only [List.set_cons_zero]
            refine take1 (i := 3) (d := some 116) (v := ?_) rfl rfl (by kernel_rfl) (by kernel_rfl) (by kernel_rfl) (fun _ _ _ h => h) (Or.inl ⟨by rfl, ?_⟩) (by assumption) ?_
            rotate_left 1
            · intro w hSw
              obtain ⟨q0, q1, q2, q3, q4, q5⟩ := hSw
              go_simp <;> with_reducible rfl
            simp only [Act.put, List.setIfInBounds_toArray]
            try simp only [List.set_cons_succ]
            try simp only [List.set_cons_zero]
            refine wpAnyH_ready (rs := [4]) (by kernel_rfl) (by simp) ?_
            refine AllReadyH.cons rfl (fun KK hKK => ?_) AllReadyH.nil
            go_simp
            refine (specStoreOk_any ⟨H, LZ⟩ _ _ W16.heap.size wa BWwa.size (R9.out.kept BWwa) (U9.out.kept BWwa)).mono ?_
            rintro e wb ⟨rfl, bwb⟩
            rw [E8.out]
            have BWwb : Below W16.heap.size W16 wb := BWwa.trans (bwb.mono BWwa.size)
            go_simp
            refine hKK.out _ _ (HS.out _ BWwb) (fun hHeld2 => ?_)
            clear hKK KK hHeld
            have hHeld := hHeld2
            clear hHeld2
            refine take1 (i := 5) (d := some 118) (v := ?_) rfl rfl (by kernel_rfl) (by kernel_rfl) (by kernel_rfl) (fun _ _ _ h => h) (Or.inl ⟨by rfl, ?_⟩) (by assumption) ?_
            rotate_left 1
            · intro w hSw
              obtain ⟨q0, q1, q2, q3, q4, q5⟩ := hSw
              go_simp <;> with_reducible rfl
            simp only [Act.put, List.setIfInBounds_toArray]
            try simp only [List.set_cons_succ]
            try simp only [List.set_cons_zero]
            refine take1 (i := 6) (d := some 119) (v := ?_) rfl rfl (by kernel_rfl) (by kernel_rfl) (by kernel_rfl) (fun _ _ _ h => h) (Or.inl ⟨by rfl, ?_⟩) (by assumption) ?_
            rotate_left 1
            · intro w hSw
              obtain ⟨q0, q1, q2, q3, q4, q5⟩ := hSw
              go_simp <;> with_reducible rfl
            simp only [Act.put, List.setIfInBounds_toArray]
            try simp only [List.set_cons_succ]
            try simp only [List.set_cons_zero]
            refine take1 (i := 7) (d := some 120) (v := ?_) rfl rfl (by kernel_rfl) (by kernel_rfl) (by kernel_rfl) (fun _ _ _ h => h) (Or.inl ⟨by rfl, ?_⟩) (by assumption) ?_
            rotate_left 1
            · intro w hSw
              obtain ⟨q0, q1, q2, q3, q4, q5⟩ := hSw
              go_simp <;> with_reducible rfl
            simp only [Act.put, List.setIfInBounds_toArray]
            try simp only [List.set_cons_succ]
            try simp only [List.set_cons_zero]
            refine take1 (i := 8) (d := some 121) (v := ?_) rfl rfl (by kernel_rfl) (by kernel_rfl) (by kernel_rfl) (fun _ _ _ h => h) (Or.inl ⟨by rfl, ?_⟩) (by assumption) ?_
            rotate_left 1
            · intro w hSw
              obtain ⟨q0, q1, q2, q3, q4, q5⟩ := hSw
              go_simp <;> with_reducible rfl
            simp only [Act.put, List.setIfInBounds_toArray]
            try simp only [List.set_cons_succ]
            try simp only [List.set_cons_zero]
            refine take1 (i := 9) (d := some 122) (v := ?_) rfl rfl (by kernel_rfl) (by kernel_rfl) (by kernel_rfl) (fun _ _ _ h => h) (Or.inl ⟨by rfl, ?_⟩) (by assumption) ?_
            rotate_left 1
            · intro w hSw
              obtain ⟨q0, q1, q2, q3, q4, q5⟩ := hSw
              go_simp <;> with_reducible rfl
            simp only [Act.put, List.setIfInBounds_toArray]
            try simp only [List.set_cons_succ]
            try simp only [List.set_cons_zero]
            refine take1 (i := 10) (d := some 123) (v := ?_) rfl rfl (by kernel_rfl) (by kernel_rfl) (by kernel_rfl) (fun _ _ _ h => h) (Or.inl ⟨by rfl, ?_⟩) (by assumption) ?_
            rotate_left 1
            · intro w hSw
              obtain ⟨q0, q1, q2, q3, q4, q5⟩ := hSw
              go_simp <;> with_reducible rfl
            simp only [Act.put, List.setIfInBounds_toArray]
            try simp only [List.set_cons_succ]
            try simp only [List.set_cons_zero]
            refine take1 (i := 11) (d := some 124) (v := ?_) rfl rfl (by kernel_rfl) (by kernel_rfl) (by kernel_rfl) (fun _ _ _ h => h) (Or.inl ⟨by rfl, ?_⟩) (by assumption) ?_
            rotate_left 1
            · intro w hSw
              obtain ⟨q0, q1, q2, q3, q4, q5⟩ := hSw
              go_simp <;> with_reducible rfl
            simp only [Act.put, List.setIfInBounds_toArray]
            try simp only [List.set_cons_succ]
            try simp only [List.set_cons_zero]
            refine take1 (i := 12) (d := some 125) (v := ?_) rfl rfl (by kernel_rfl) (by kernel_rfl) (by kernel_rfl) (fun _ _ _ h => h) (Or.inl ⟨by rfl, ?_⟩) (by assumption) ?_
            rotate_left 1
            · intro w hSw
              obtain ⟨q0, q1, q2, q3, q4, q5⟩ := hSw
              go_simp <;> with_reducible rfl
            simp only [Act.put, List.setIfInBounds_toArray]
            try simp only [List.set_cons_succ]
            try simp only [List.set_cons_zero]
            refine take1 (i := 13) (d := some 126) (v := ?_) rfl rfl (by kernel_rfl) (by kernel_rfl) (by kernel_rfl) (fun _ _ _ h => h) (Or.inl ⟨by rfl, ?_⟩) (by assumption) ?_
            rotate_left 1
            · intro w hSw
              obtain ⟨q0, q1, q2, q3, q4, q5⟩ := hSw
              go_simp <;> with_reducible rfl
            simp only [Act.put, List.setIfInBounds_toArray]
            try simp only [List.set_cons_succ]
            try simp only [List.set_cons_zero]
            refine take1 (i := 15) (d := some 128) (v := ?_) rfl rfl (by kernel_rfl) (by kernel_rfl) (by kernel_rfl) (fun _ _ _ h => h) (Or.inl ⟨by rfl, ?_⟩) (by assumption) ?_
            rotate_left 1
            · intro w hSw
              obtain ⟨q0, q1, q2, q3, q4, q5⟩ := hSw
              go_simp <;> with_reducible rfl
            simp only [Act.put, List.setIfInBounds_toArray]
            try simp only [List.set_cons_succ]
            try simp only [List.set_cons_zero]
            refine wpAnyH_ready (rs := [14]) (by kernel_rfl) (by simp) ?_
            refine AllReadyH.cons rfl (fun KK hKK => ?_) AllReadyH.nil
            go_simp
            refine (specHeld_any ⟨H, []⟩ _ _ W16.heap.size wb BWwb.size (R8.out.kept BWwb) (U8.out.kept BWwb)).mono ?_
            rintro e wc ⟨vc, rfl, oc, bwc⟩
            rw [E3.out] at oc ⊢
            have HOc := Hid.intro oc.rowAll
            obtain ⟨ac, cc, rfl⟩ := oc.slice
            clear oc
            have BWwc : Below W16.heap.size W16 wc := BWwb.trans (bwc.mono BWwb.size)
            go_simp
            refine hKK.out _ _ (HS.out _ BWwc) (fun hHeld2 => ?_)
            clear hKK KK hHeld
            have hHeld := hHeld2
            clear hHeld2
            refine wpAnyH_ready (rs := [16]) (by kernel_rfl) (by simp) ?_
            refine AllReadyH.cons rfl (fun KK hKK => ?_) AllReadyH.nil
            go_simp
            refine (specHeld_any S _ _ W16.heap.size wc BWwc.size (RV.out.kept BWwc) (RU.out.kept BWwc)).mono ?_
            rintro e wd ⟨vd, rfl, od, bwd⟩
            rw [E1.out] at od ⊢
            have HOd := Hid.intro od.rowAll
            obtain ⟨ad, cd, rfl⟩ := od.slice
            clear od
            have BWwd : Below W16.heap.size W16 wd := BWwc.trans (bwd.mono BWwc.size)
            go_simp
            refine hKK.out _ _ (HS.out _ BWwd) (fun hHeld2 => ?_)
            clear hKK KK hHeld
            have hHeld := hHeld2
            clear hHeld2
            refine wpAnyH_ready (rs := [17]) (by kernel_rfl) (by simp) ?_
            refine AllReadyH.cons rfl (fun KK hKK => ?_) AllReadyH.nil
            go_simp
            refine (sameKept_same H _ _ wd.heap.size wd (Nat.le_refl _) ((HOc.out.kept bwd).up bwd.size) HOd.out).mono ?_
            rintro e wf ⟨rfl, bwf⟩
            have BWwf : Below W16.heap.size W16 wf := BWwd.trans (bwf.mono BWwd.size)
            go_simp
            refine hKK.out _ _ (HS.out _ BWwf) (fun hHeld2 => ?_)
            clear hKK KK hHeld
            have hHeld := hHeld2
            clear hHeld2
            refine take1 (i := 18) (d := some 131) (v := ?_) rfl rfl (by kernel_rfl) (by kernel_rfl) (by kernel_rfl) (fun _ _ _ h => h) (Or.inl ⟨by rfl, ?_⟩) (by assumption) ?_
            rotate_left 1
            · intro w hSw
              obtain ⟨q0, q1, q2, q3, q4, q5⟩ := hSw
              go_simp <;> with_reducible rfl
            simp only [Act.put, List.setIfInBounds_toArray]
            try simp only [List.set_cons_succ]
            try simp only [List.set_cons_zero]
            refine take1 (i := 19) (d := some 132) (v := ?_) rfl rfl (by kernel_rfl) (by kernel_rfl) (by kernel_rfl) (fun _ _ _ h => h) (Or.inl ⟨by rfl, ?_⟩) (by assumption) ?_
            rotate_left 1
            · intro w hSw
              obtain ⟨q0, q1, q2, q3, q4, q5⟩ := hSw
              go_simp <;> with_reducible rfl
            simp only [Act.put, List.setIfInBounds_toArray]
            try simp only [List.set_cons_succ]
            try simp only [List.set_cons_zero]
            refine take1 (i := 20) (d := some 133) (v := ?_) rfl rfl (by kernel_rfl) (by kernel_rfl) (by kernel_rfl) (fun _ _ _ h => h) (Or.inl ⟨by rfl, ?_⟩) (by assumption) ?_
            rotate_left 1
            · intro w hSw
              obtain ⟨q0, q1, q2, q3, q4, q5⟩ := hSw
              go_simp <;> with_reducible rfl
            simp only [Act.put, List.setIfInBounds_toArray]
            try simp only [List.set_cons_succ]
            try simp only [List.set_cons_zero]
            refine take1 (i := 21) (d := some 134) (v := ?_) rfl rfl (by kernel_rfl) (by kernel_rfl) (by kernel_rfl) (fun _ _ _ h => h) (Or.inl ⟨by rfl, ?_⟩) (by assumption) ?_
            rotate_left 1
            · intro w hSw
              obtain ⟨q0, q1, q2, q3, q4, q5⟩ := hSw
              go_simp <;> with_reducible rfl
            simp only [Act.put, List.setIfInBounds_toArray]
            try simp only [List.set_cons_succ]
            try simp only [List.set_cons_zero]
            refine take1 (i := 22) (d := some 135) (v := ?_) rfl rfl (by kernel_rfl) (by kernel_rfl) (by kernel_rfl) (fun _ _ _ h => h) (Or.inl ⟨by rfl, ?_⟩) (by assumption) ?_
            rotate_left 1
            · intro w hSw
              obtain ⟨q0, q1, q2, q3, q4, q5⟩ := hSw
              go_simp <;> with_reducible rfl
            simp only [Act.put, List.setIfInBounds_toArray]
            try simp only [List.set_cons_succ]
            try simp only [List.set_cons_zero]
            refine wpAnyH_ready (rs := [23]) (by kernel_rfl) (by simp) ?_
            refine AllReadyH.cons rfl (fun KK hKK => ?_) AllReadyH.nil
            go_simp
            refine (sameKept_same K _ _ W16.heap.size wf BWwf.size (R16.out.kept BWwf) (RW.out.kept BWwf)).mono ?_
            rintro e wg ⟨rfl, bwg⟩
            have BWwg : Below W16.heap.size W16 wg := BWwf.trans (bwg.mono BWwf.size)
            go_simp
            refine hKK.out _ _ (HS.out _ BWwg) (fun hHeld2 => ?_)
            clear hKK KK hHeld
            have hHeld := hHeld2
            clear hHeld2
            refine take1 (i := 24) (d := some 137) (v := ?_) rfl rfl (by kernel_rfl) (by kernel_rfl) (by kernel_rfl) (fun _ _ _ h => h) (Or.inl ⟨by rfl, ?_⟩) (by assumption) ?_
            rotate_left 1
            · intro w hSw
              obtain ⟨q0, q1, q2, q3, q4, q5⟩ := hSw
              go_simp <;> with_reducible rfl
            simp only [Act.put, List.setIfInBounds_toArray]
            try simp only [List.set_cons_succ]
            try simp only [List.set_cons_zero]
            refine take1 (i := 25) (d := some 138) (v := ?_) rfl rfl (by kernel_rfl) (by kernel_rfl) (by kernel_rfl) (fun _ _ _ h => h) (Or.inl ⟨by rfl, ?_⟩) (by assumption) ?_
            rotate_left 1
            · intro w hSw
              obtain ⟨q0, q1, q2, q3, q4, q5⟩ := hSw
              go_simp <;> with_reducible rfl
            simp only [Act.put, List.setIfInBounds_toArray]
            try simp only [List.set_cons_succ]
            try simp only [List.set_cons_zero]
            refine take1 (i := 26) (d := some 139) (v := ?_) rfl rfl (by kernel_rfl) (by kernel_rfl) (by kernel_rfl) (fun _ _ _ h => h) (Or.inl ⟨by rfl, ?_⟩) (by assumption) ?_
            rotate_left 1
            · intro w hSw
              obtain ⟨q0, q1, q2, q3, q4, q5⟩ := hSw
              go_simp <;> with_reducible rfl
            simp only [Act.put, List.setIfInBounds_toArray]
            try simp only [List.set_cons_succ]
            try simp only [List.set_cons_zero]
            refine take1 (i := 27) (d := some 140) (v := ?_) rfl rfl (by kernel_rfl) (by kernel_rfl) (by kernel_rfl) (fun _ _ _ h => h) (Or.inl ⟨by rfl, ?_⟩) (by assumption) ?_
            rotate_left 1
            · intro w hSw
              obtain ⟨q0, q1, q2, q3, q4, q5⟩ := hSw
              go_simp <;> with_reducible rfl
            simp only [Act.put, List.setIfInBounds_toArray]
            try simp only [List.set_cons_succ]
            try simp only [List.set_cons_zero]
            refine take1 (i := 28) (d := some 141) (v := ?_) rfl rfl (by kernel_rfl) (by kernel_rfl) (by kernel_rfl) (fun _ _ _ h => h) (Or.inl ⟨by rfl, ?_⟩) (by assumption) ?_
            rotate_left 1
            · intro w hSw
              obtain ⟨q0, q1, q2, q3, q4, q5⟩ := hSw
              go_simp <;> with_reducible rfl
            simp only [Act.put, List.setIfInBounds_toArray]
            try simp only [List.set_cons_succ]
            try simp only [List.set_cons_zero]
            refine take1 (i := 29) (d := some 142) (v := ?_) rfl rfl (by kernel_rfl) (by kernel_rfl) (by kernel_rfl) (fun _ _ _ h => h) (Or.inl ⟨by rfl, ?_⟩) (by assumption) ?_
            rotate_left 1
            · intro w hSw
              obtain ⟨q0, q1, q2, q3, q4, q5⟩ := hSw
              go_simp <;> with_reducible rfl
            simp only [Act.put, List.setIfInBounds_toArray]
            try simp only [List.set_cons_succ]
            try simp only [List.set_cons_zero]
            refine take1 (i := 30) (d := some 143) (v := ?_) rfl rfl (by kernel_rfl) (by kernel_rfl) (by kernel_rfl) (fun _ _ _ h => h) (Or.inl ⟨by rfl, ?_⟩) (by assumption) ?_
            rotate_left 1
            · intro w hSw
              obtain ⟨q0, q1, q2, q3, q4, q5⟩ := hSw
              go_simp <;> with_reducible rfl
            simp only [Act.put, List.setIfInBounds_toArray]
            try simp only [List.set_cons_succ]
            try simp only [List.set_cons_zero]
            refine take1 (i := 31) (d := some 144) (v := ?_) rfl rfl (by kernel_rfl) (by kernel_rfl) (by kernel_rfl) (fun _ _ _ h => h) (Or.inl ⟨by rfl, ?_⟩) (by assumption) ?_
            rotate_left 1
            · intro w hSw
              obtain ⟨q0, q1, q2, q3, q4, q5⟩ := hSw
              go_simp <;> with_reducible rfl
            simp only [Act.put, List.setIfInBounds_toArray]
            try simp only [List.set_cons_succ]
            try simp only [List.set_cons_zero]
            refine take1 (i := 32) (d := some 145) (v := ?_) rfl rfl (by kernel_rfl) (by kernel_rfl) (by kernel_rfl) (fun _ _ _ h => h) (Or.inl ⟨by rfl, ?_⟩) (by assumption) ?_
            rotate_left 1
            · intro w hSw
              obtain ⟨q0, q1, q2, q3, q4, q5⟩ := hSw
              go_simp <;> with_reducible rfl
            simp only [Act.put, List.setIfInBounds_toArray]
            try simp only [List.set_cons_succ]
            try simp only [List.set_cons_zero]
            refine take1 (i := 34) (d := some 147) (v := ?_) rfl rfl (by kernel_rfl) (by kernel_rfl) (by kernel_rfl) (fun _ _ _ h => h) (Or.inl ⟨by rfl, ?_⟩) (by assumption) ?_
            rotate_left 1
            · intro w hSw
              obtain ⟨q0, q1, q2, q3, q4, q5⟩ := hSw
              go_simp <;> with_reducible rfl
            simp only [Act.put, List.setIfInBounds_toArray]
            try simp only [List.set_cons_succ]
            try simp only [List.set_cons_zero]
            refine wpAnyH_ready (rs := [33]) (by kernel_rfl) (by simp) ?_
            refine AllReadyH.cons rfl (fun KK hKK => ?_) AllReadyH.nil
            go_simp
            refine (implHeld_any ⟨H, LZ⟩ _ _ W16.heap.size wg BWwg.size (R9.out.kept BWwg) (U9.out.kept BWwg)).mono ?_
            rintro e wh ⟨vh, rfl, oh, bwh⟩
            rw [E9.out] at oh ⊢
            have HOh := Hid.intro oh.rowAll
            obtain ⟨ah, ch, rfl⟩ := oh.slice
            clear oh
            have BWwh : Below W16.heap.size W16 wh := BWwg.trans (bwh.mono BWwg.size)
            go_simp
            refine hKK.out _ _ (HS.out _ BWwh) (fun hHeld2 => ?_)
            clear hKK KK hHeld
            have hHeld := hHeld2
            clear hHeld2
            refine wpAnyH_ready (rs := [35]) (by kernel_rfl) (by simp) ?_
            refine AllReadyH.cons rfl (fun KK hKK => ?_) AllReadyH.nil
            go_simp
            refine (implSync_any ⟨H, LZ⟩ _ _ W16.heap.size wh BWwh.size (R9.out.kept BWwh) (U9.out.kept BWwh)).mono ?_
            rintro e wi ⟨vi, ui, rfl, ni⟩
            rw [E10.out] at ni ⊢
            have HOi := Hid.intro ni.e.rowAll
            have bwi := ni.bel
            obtain ⟨ai, ci, rfl⟩ := ni.e.slice
            obtain ⟨di, ei, rfl⟩ := ni.r.slice
            clear ni
            have BWwi : Below W16.heap.size W16 wi := BWwh.trans (bwi.mono BWwh.size)
            go_simp
            refine hKK.out _ _ (HS.out _ BWwi) (fun hHeld2 => ?_)
            clear hKK KK hHeld
            have hHeld := hHeld2
            clear hHeld2
            refine take1 (i := 36) (d := some 149) (v := kpV Kz (.slice ai Kz.e.length ci)) rfl rfl (by kernel_rfl) (by kernel_rfl) (by kernel_rfl) (fun _ _ _ h => h) (Or.inl ⟨by rfl, ?_⟩) (by assumption) ?_
            · intro w hSw
              obtain ⟨q0, q1, q2, q3, q4, q5⟩ := hSw
              go_simp
              rfl
            simp only [Act.put, List.setIfInBounds_toArray]
            try simp only [List.set_cons_succ]
            try simp only [List.set_cons_zero]
            refine wpAnyH_ready (rs := [37]) (by kernel_rfl) (by simp) ?_
            refine AllReadyH.cons rfl (fun KK hKK => ?_) AllReadyH.nil
            go_simp
            refine (sameKept_same Kz _ _ wi.heap.size wi (Nat.le_refl _) ((HOh.out.kept bwi).up bwi.size) HOi.out).mono ?_
            rintro e wj ⟨rfl, bwj⟩
            have BWwj : Below W16.heap.size W16 wj := BWwi.trans (bwj.mono BWwi.size)
            go_simp
            refine hKK.out _ _ (HS.out _ BWwj) (fun hHeld2 => ?_)
            clear hKK KK hHeld
            have hHeld := hHeld2
            clear hHeld2
            have hsl : (S.l.length : Int) + (kx : Int) ≤ 1000 := by omega
            have hxi : (SX.l.length : Int) = (S.l.length : Int) + (kx : Int) := by have := E14.out; omega
            refine take1 (i := 38) (d := some 151) (v := ?_) rfl rfl (by kernel_rfl) (by kernel_rfl) (by kernel_rfl) (fun _ _ _ h => h) (Or.inl ⟨by rfl, ?_⟩) (by assumption) ?_
            rotate_left 1
            · intro w hSw
              obtain ⟨q0, q1, q2, q3, q4, q5⟩ := hSw
              go_simp <;> with_reducible rfl
            simp only [Act.put, List.setIfInBounds_toArray]
            try simp only [List.set_cons_succ]
            try simp only [List.set_cons_zero]
            refine take1 (i := 39) (d := some 152) (v := ?_) rfl rfl (by kernel_rfl) (by kernel_rfl) (by kernel_rfl) (fun _ _ _ h => h) (Or.inl ⟨by rfl, ?_⟩) (by assumption) ?_
            rotate_left 1
            · intro w hSw
              obtain ⟨q0, q1, q2, q3, q4, q5⟩ := hSw
              go_simp <;> with_reducible rfl
            simp only [Act.put, List.setIfInBounds_toArray]
            try simp only [List.set_cons_succ]
            try simp only [List.set_cons_zero]
            refine take1 (i := 40) (d := some 153) (v := ?_) rfl rfl (by kernel_rfl) (by kernel_rfl) (by kernel_rfl) (fun _ _ _ h => h) (Or.inl ⟨by rfl, ?_⟩) (by assumption) ?_
            rotate_left 1
            · intro w hSw
              obtain ⟨q0, q1, q2, q3, q4, q5⟩ := hSw
              go_simp <;> with_reducible rfl
            simp only [Act.put, List.setIfInBounds_toArray]
            try simp only [List.set_cons_succ]
            try simp only [List.set_cons_zero]
            refine take1 (i := 41) (d := some 154) (v := ?_) rfl rfl (by kernel_rfl) (by kernel_rfl) (by kernel_rfl) (fun _ _ _ h => h) (Or.inl ⟨by rfl, ?_⟩) (by assumption) ?_
            rotate_left 1
            · intro w hSw
              obtain ⟨q0, q1, q2, q3, q4, q5⟩ := hSw
              go_simp <;> with_reducible rfl
            simp only [Act.put, List.setIfInBounds_toArray]
            try simp only [List.set_cons_succ]
            try simp only [List.set_cons_zero]
            refine take1 (i := 42) (d := some 155) (v := ?_) rfl rfl (by kernel_rfl) (by kernel_rfl) (by kernel_rfl) (fun _ _ _ h => h) (Or.inl ⟨by rfl, ?_⟩) (by assumption) ?_
            rotate_left 1
            · intro w hSw
              obtain ⟨q0, q1, q2, q3, q4, q5⟩ := hSw
              go_simp <;> with_reducible rfl
            simp only [Act.put, List.setIfInBounds_toArray]
            try simp only [List.set_cons_succ]
            try simp only [List.set_cons_zero]
            refine take1 (i := 43) (d := some 156) (v := ?_) rfl rfl (by kernel_rfl) (by kernel_rfl) (by kernel_rfl) (fun _ _ _ h => h) (Or.inl ⟨by rfl, ?_⟩) (by assumption) ?_
            rotate_left 1
            · intro w hSw
              obtain ⟨q0, q1, q2, q3, q4, q5⟩ := hSw
              go_simp <;> with_reducible rfl
            simp only [Act.put, List.setIfInBounds_toArray]
            try simp only [List.set_cons_succ]
            try simp only [List.set_cons_zero]
            refine take1 (i := 44) (d := some 157) (v := ?_) rfl rfl (by kernel_rfl) (by kernel_rfl) (by kernel_rfl) (fun _ _ _ h => h) (Or.inl ⟨by rfl, ?_⟩) (by assumption) ?_
            rotate_left 1
            · intro w hSw
              obtain ⟨q0, q1, q2, q3, q4, q5⟩ := hSw
              go_simp <;> with_reducible rfl
            simp only [Act.put, List.setIfInBounds_toArray]
            try simp only [List.set_cons_succ]
            try simp only [List.set_cons_zero]
            refine take1 (i := 45) (d := some 158) (v := ?_) rfl rfl (by kernel_rfl) (by kernel_rfl) (by kernel_rfl) (fun _ _ _ h => h) (Or.inl ⟨by rfl, ?_⟩) (by assumption) ?_
            rotate_left 1
            · intro w hSw
              obtain ⟨q0, q1, q2, q3, q4, q5⟩ := hSw
              go_simp <;> with_reducible rfl
            simp only [Act.put, List.setIfInBounds_toArray]
            try simp only [List.set_cons_succ]
            try simp only [List.set_cons_zero]
            refine take1 (i := 46) (d := some 159) (v := ?_) rfl rfl (by kernel_rfl) (by kernel_rfl) (by kernel_rfl) (fun _ _ _ h => h) (Or.inl ⟨by rfl, ?_⟩) (by assumption) ?_
            rotate_left 1
            · intro w hSw
              obtain ⟨q0, q1, q2, q3, q4, q5⟩ := hSw
              go_simp <;> with_reducible rfl
            simp only [Act.put, List.setIfInBounds_toArray]
            try simp only [List.set_cons_succ]
            try simp only [List.set_cons_zero]
            refine take1 (i := 47) (d := some 160) (v := .int .i64 ((S.l.length : Int) + (kx : Int))) rfl rfl (by kernel_rfl) (by kernel_rfl) (by kernel_rfl) (fun _ _ _ h => h) (Or.inl ⟨by rfl, ?_⟩) (by assumption) ?_
            · intro w hSw
              obtain ⟨q0, q1, q2, q3, q4, q5⟩ := hSw
              go_simp
              first | exact wraps_i64 _ (by omega) (by omega) | (rw [IntKind.wrap_i64]; omega) | omega | rfl
            simp only [Act.put, List.setIfInBounds_toArray]
            try simp only [List.set_cons_succ]
            try simp only [List.set_cons_zero]
            refine take1 (i := 48) (d := some 161) (v := .bool true) rfl rfl (by kernel_rfl) (by kernel_rfl) (by kernel_rfl) (fun _ _ _ h => h) (Or.inl ⟨by rfl, ?_⟩) (by assumption) ?_
            · intro w hSw
              obtain ⟨q0, q1, q2, q3, q4, q5⟩ := hSw
              first | (go_simp; done) | (go_simp <;> omega) | (simp [go_sem, hxi]; done) | (go_simp; simp [hxi]; done) | (go_simp; rfl)
            simp only [Act.put, List.setIfInBounds_toArray]
            try simp only [List.set_cons_succ]
            try simp only [List.set_cons_zero]
            refine take1 (i := 49) (d := some 162) (v := ?_) rfl rfl (by kernel_rfl) (by kernel_rfl) (by kernel_rfl) (fun _ _ _ h => h) (Or.inl ⟨by rfl, ?_⟩) (by assumption) ?_
            rotate_left 1
            · intro w hSw
              obtain ⟨q0, q1, q2, q3, q4, q5⟩ := hSw
              go_simp <;> with_reducible rfl
            simp only [Act.put, List.setIfInBounds_toArray]
            try simp only [List.set_cons_succ]
            try simp only [List.set_cons_zero]
            refine take1 (i := 50) (d := some 2) (v := ?_) rfl rfl (by kernel_rfl) (by kernel_rfl) (by kernel_rfl) (fun _ _ _ h => h) (Or.inl ⟨by rfl, ?_⟩) (by assumption) ?_
            rotate_left 1
            · intro w hSw
              obtain ⟨q0, q1, q2, q3, q4, q5⟩ := hSw
              go_simp <;> with_reducible rfl
            simp only [Act.put, List.setIfInBounds_toArray]
            try simp only [List.set_cons_succ]
            try simp only [List.set_cons_zero]
            refine wpAnyH_done (by kernel_rfl) ?_ _
            have HBE := Hid.intro (HBr.out.trans (BWwj.mono HBr.out.size))
            have hx14 := E14.out
            go_wp2
            go_ret
            exact ⟨by first | rfl | (simp [hx14]; done) | (simp; omega), HBE.out⟩
        · have hlt' : ¬ (j : Int) < (m : Int) := by omega
          have hjm : j = min m kp := by omega
          have HLO := Hid.intro (E18.out j kp K hjm hf)
          have hbl : Hid (∀ N, N ≤ p12 → Below N W12 wr) := fun N hN => HO.out.below (by omega) (fun k hk e => by omega)
          replace RV := Hid.intro (RV.out.kept (hbl.out _ (by omega)))
          replace RU := Hid.intro (RU.out.kept (hbl.out _ (by omega)))
          replace R6 := Hid.intro (R6.out.kept (hbl.out _ (by omega)))
          replace U6 := Hid.intro (U6.out.kept (hbl.out _ (by omega)))
          replace R8 := Hid.intro (R8.out.kept (hbl.out _ (by omega)))
          replace U8 := Hid.intro (U8.out.kept (hbl.out _ (by omega)))
          replace R9 := Hid.intro (R9.out.kept (hbl.out _ (by omega)))
          replace U9 := Hid.intro (U9.out.kept (hbl.out _ (by omega)))
          replace B3 := Hid.intro (B3.out.only HO.out (by omega))
          replace B6 := Hid.intro (B6.out.only HO.out (by omega))
          replace B8 := Hid.intro (B8.out.only HO.out (by omega))
          replace B9 := Hid.intro (B9.out.only HO.out (by omega))
          have HBr := Hid.intro (HB.out.trans (HO.out.below HB.out.size (fun k hk e => by omega)))
          have k9 := B9.out.cell
          go_wp2_with fail
          clear k9
          refine (implLose_any ⟨H, LZ⟩ _ _ wr.heap.size (kp : Nat) wr (Nat.le_refl _) (R9.out.up (by omega)) (U9.out.up (by omega))).mono ?_
          rintro e w20 ⟨v16, u16, rfl, nv⟩
          rw [HLO.out] at nv ⊢
          have zw20 := nv.bel.size
          have bw20 := nv.bel
          have R16 := Hid.intro nv.e.rowAll
          have U16 := Hid.intro nv.r.rowAll
          obtain ⟨a16, c16, rfl⟩ := nv.e.slice
          obtain ⟨d16, e16, rfl⟩ := nv.r.slice
          clear nv
          replace RV := Hid.intro (RV.out.kept (bw20.mono (by omega)))
          replace RU := Hid.intro (RU.out.kept (bw20.mono (by omega)))
          replace R6 := Hid.intro (R6.out.kept (bw20.mono (by omega)))
          replace U6 := Hid.intro (U6.out.kept (bw20.mono (by omega)))
          replace R8 := Hid.intro (R8.out.kept (bw20.mono (by omega)))
          replace U8 := Hid.intro (U8.out.kept (bw20.mono (by omega)))
          replace R9 := Hid.intro (R9.out.kept (bw20.mono (by omega)))
          replace U9 := Hid.intro (U9.out.kept (bw20.mono (by omega)))
          replace RW := Hid.intro (RW.out.kept (bw20.mono (by omega)))
          replace B3 := Hid.intro (B3.out.kept bw20)
          replace B6 := Hid.intro (B6.out.kept bw20)
          replace B8 := Hid.intro (B8.out.kept bw20)
          replace B9 := Hid.intro (B9.out.kept bw20)
          replace X12 := Hid.intro (X12.out.kept bw20)
          replace HBr := Hid.intro (HBr.out.trans (bw20.mono HBr.out.size))
          clear bw20
          go_upto_region 21 with fail
          try simp only [List.length_nil]
          obtain ⟨W16, hW16, b16, zW16, kb16, fb16⟩ := boxed w20 #[.int .i64 K.t, .int .i64 K.v, .int .i64 K.si, .int .i64 K.st, .string K.sd, .slice a16 K.e.length c16, .slice d16 0 e16] 31
          try simp only [hW16]
          obtain ⟨p16, hp16⟩ : ∃ p, w20.heap.size = p := ⟨_, rfl⟩
          have B16 : Hid (Blk W16 w20.heap.size #[.int .i64 K.t, .int .i64 K.v, .int .i64 K.si, .int .i64 K.st, .string K.sd, .slice a16 K.e.length c16, .slice d16 0 e16]) := ⟨by omega, kb16, fb16⟩
          simp only [hp16] at B16 ⊢
          replace RV := Hid.intro (RV.out.kept (b16.mono (by omega)))
          replace RU := Hid.intro (RU.out.kept (b16.mono (by omega)))
          replace R6 := Hid.intro (R6.out.kept (b16.mono (by omega)))
          replace U6 := Hid.intro (U6.out.kept (b16.mono (by omega)))
          replace R8 := Hid.intro (R8.out.kept (b16.mono (by omega)))
          replace U8 := Hid.intro (U8.out.kept (b16.mono (by omega)))
          replace R9 := Hid.intro (R9.out.kept (b16.mono (by omega)))
          replace U9 := Hid.intro (U9.out.kept (b16.mono (by omega)))
          replace RW := Hid.intro (RW.out.kept (b16.mono (by omega)))
          replace R16 := Hid.intro (R16.out.kept (b16.mono (by omega)))
          replace U16 := Hid.intro (U16.out.kept (b16.mono (by omega)))
          replace B3 := Hid.intro (B3.out.kept b16)
          replace B6 := Hid.intro (B6.out.kept b16)
          replace B8 := Hid.intro (B8.out.kept b16)
          replace B9 := Hid.intro (B9.out.kept b16)
          replace X12 := Hid.intro (X12.out.kept b16)
          replace HBr := Hid.intro (HBr.out.trans (b16.mono HBr.out.size))
          clear hW16 b16 kb16 fb16
          replace RV := Hid.intro (RV.out.up (show _ ≤ W16.heap.size by omega))
          replace RU := Hid.intro (RU.out.up (show _ ≤ W16.heap.size by omega))
          replace R6 := Hid.intro (R6.out.up (show _ ≤ W16.heap.size by omega))
          replace U6 := Hid.intro (U6.out.up (show _ ≤ W16.heap.size by omega))
          replace R8 := Hid.intro (R8.out.up (show _ ≤ W16.heap.size by omega))
          replace U8 := Hid.intro (U8.out.up (show _ ≤ W16.heap.size by omega))
          replace R9 := Hid.intro (R9.out.up (show _ ≤ W16.heap.size by omega))
          replace U9 := Hid.intro (U9.out.up (show _ ≤ W16.heap.size by omega))
          replace RW := Hid.intro (RW.out.up (show _ ≤ W16.heap.size by omega))
          replace R16 := Hid.intro (R16.out.up (show _ ≤ W16.heap.size by omega))
          replace U16 := Hid.intro (U16.out.up (show _ ≤ W16.heap.size by omega))
          have HS : Hid (∀ u', Below W16.heap.size W16 u' → (fun u => (∀ o, u.cell? ⟨p6, o, none⟩ = (#[.int .i64 SX.k.t, .int .i64 SX.k.v, .int .i64 SX.k.si, .int .i64 SX.k.st, .string SX.k.sd, .slice a6 SX.k.e.length c6, .slice d6 SX.l.length e6] : Array Value)[o]?) ∧ (∀ o, u.cell? ⟨p9, o, none⟩ = (#[.int .i64 H.t, .int .i64 H.v, .int .i64 H.si, .int .i64 H.st, .string H.sd, .slice a9 H.e.length c9, .slice d9 LZ.length e9] : Array Value)[o]?) ∧ (∀ o, u.cell? ⟨p8, o, none⟩ = (#[.int .i64 H.t, .int .i64 H.v, .int .i64 H.si, .int .i64 H.st, .string H.sd, .slice a8 H.e.length c8, .slice d8 0 e8] : Array Value)[o]?) ∧ (∀ o, u.cell? ⟨p3, o, none⟩ = (#[.int .i64 S.k.t, .int .i64 S.k.v, .int .i64 S.k.si, .int .i64 S.k.st, .string S.k.sd, .slice a0 S.k.e.length c0, .slice au S.l.length cu] : Array Value)[o]?) ∧ (∀ o, u.cell? ⟨p16, o, none⟩ = (#[.int .i64 K.t, .int .i64 K.v, .int .i64 K.si, .int .i64 K.st, .string K.sd, .slice a16 K.e.length c16, .slice d16 0 e16] : Array Value)[o]?) ∧ (∀ o, u.cell? ⟨p12, o, none⟩ = (#[.int .i64 K.t, .int .i64 K.v, .int .i64 K.si, .int .i64 K.st, .string K.sd, .slice av2 K.e.length cv2] : Array Value)[o]?)) u') := fun u' hb => ⟨(B6.out.kept hb).cell, (B9.out.kept hb).cell, (B8.out.kept hb).cell, (B3.out.kept hb).cell, (B16.out.kept hb).cell, (X12.out.kept hb).cell⟩
          refine wp_region_held_drew (S := (fun u => (∀ o, u.cell? ⟨p6, o, none⟩ = (#[.int .i64 SX.k.t, .int .i64 SX.k.v, .int .i64 SX.k.si, .int .i64 SX.k.st, .string SX.k.sd, .slice a6 SX.k.e.length c6, .slice d6 SX.l.length e6] : Array Value)[o]?) ∧ (∀ o, u.cell? ⟨p9, o, none⟩ = (#[.int .i64 H.t, .int .i64 H.v, .int .i64 H.si, .int .i64 H.st, .string H.sd, .slice a9 H.e.length c9, .slice d9 LZ.length e9] : Array Value)[o]?) ∧ (∀ o, u.cell? ⟨p8, o, none⟩ = (#[.int .i64 H.t, .int .i64 H.v, .int .i64 H.si, .int .i64 H.st, .string H.sd, .slice a8 H.e.length c8, .slice d8 0 e8] : Array Value)[o]?) ∧ (∀ o, u.cell? ⟨p3, o, none⟩ = (#[.int .i64 S.k.t, .int .i64 S.k.v, .int .i64 S.k.si, .int .i64 S.k.st, .string S.k.sd, .slice a0 S.k.e.length c0, .slice au S.l.length cu] : Array Value)[o]?) ∧ (∀ o, u.cell? ⟨p16, o, none⟩ = (#[.int .i64 K.t, .int .i64 K.v, .int .i64 K.si, .int .i64 K.st, .string K.sd, .slice a16 K.e.length c16, .slice d16 0 e16] : Array Value)[o]?) ∧ (∀ o, u.cell? ⟨p12, o, none⟩ = (#[.int .i64 K.t, .int .i64 K.v, .int .i64 K.si, .int .i64 K.st, .string K.sd, .slice av2 K.e.length cv2] : Array Value)[o]?))) (by kernel_rfl) (HS.out _ (Below.refl _ _).drew) (fun hHeld => ?_)
          have BWD : Below W16.heap.size W16 W16.drew := (Below.refl _ _).drew
          generalize W16.drew = D at BWD hHeld ⊢
          refine take1 (i := 0) (d := some 113) (v := ?_) rfl rfl (by kernel_rfl) (by kernel_rfl) (by kernel_rfl) (fun _ _ _ h => h) (Or.inl ⟨by rfl, ?_⟩) (by assumption) ?_
          rotate_left 1
          · intro w hSw
            obtain ⟨q0, q1, q2, q3, q4, q5⟩ := hSw
            go_simp <;> with_reducible rfl
          simp only [Act.put, List.setIfInBounds_toArray]
          try simp only [List.set_cons_succ]
          try simp only [List.set_cons_zero]
          refine wpAnyH_ready (rs := [1]) (by kernel_rfl) (by simp) ?_
          refine AllReadyH.cons rfl (fun KK hKK => ?_) AllReadyH.nil
          go_simp
          refine (specStoreOk_any SX _ _ W16.heap.size D BWD.size (R6.out.kept BWD) (U6.out.kept BWD)).mono ?_
          rintro e wa ⟨rfl, bwa⟩
          rw [E13.out]
          have BWwa : Below W16.heap.size W16 wa := BWD.trans (bwa.mono BWD.size)
          go_simp
          refine hKK.out _ _ (HS.out _ BWwa) (fun hHeld2 => ?_)
          clear hKK KK hHeld
          have hHeld := hHeld2
          clear hHeld2
          refine take1 (i := 2) (d := some 115) (v := ?_) rfl rfl (by kernel_rfl) (by kernel_rfl) (by kernel_rfl) (fun _ _ _ h => h) (Or.inl ⟨by rfl, ?_⟩) (by assumption) ?_
          rotate_left 1
          · intro w hSw
            obtain ⟨q0, q1, q2, q3, q4, q5⟩ := hSw
            go_simp <;> with_reducible rfl
          simp only [Act.put, List.setIfInBounds_toArray]
          try simp only [List.set_cons_succ]
          try simp only [List.set_cons_zero]
          refine take1 (i := 3) (d := some 116) (v := ?_) rfl rfl (by kernel_rfl) (by kernel_rfl) (by kernel_rfl) (fun _ _ _ h => h) (Or.inl ⟨by rfl, ?_⟩) (by assumption) ?_
          rotate_left 1
          · intro w hSw
            obtain ⟨q0, q1, q2, q3, q4, q5⟩ := hSw
            go_simp <;> with_reducible rfl
          simp only [Act.put, List.setIfInBounds_toArray]
          try simp only [List.set_cons_succ]
          try simp only [List.set_cons_zero]
          refine wpAnyH_ready (rs := [4]) (by kernel_rfl) (by simp) ?_
          refine AllReadyH.cons rfl (fun KK hKK => ?_) AllReadyH.nil
          go_simp
          refine (specStoreOk_any ⟨H, LZ⟩ _ _ W16.heap.size wa BWwa.size (R9.out.kept BWwa) (U9.out.kept BWwa)).mono ?_
          rintro e wb ⟨rfl, bwb⟩
          rw [E8.out]
          have BWwb : Below W16.heap.size W16 wb := BWwa.trans (bwb.mono BWwa.size)
          go_simp
          refine hKK.out _ _ (HS.out _ BWwb) (fun hHeld2 => ?_)
          clear hKK KK hHeld
          have hHeld := hHeld2
          clear hHeld2
          refine take1 (i := 5) (d := some 118) (v := ?_) rfl rfl (by kernel_rfl) (by kernel_rfl) (by kernel_rfl) (fun _ _ _ h => h) (Or.inl ⟨by rfl, ?_⟩) (by assumption) ?_
          rotate_left 1
          · intro w hSw
            obtain ⟨q0, q1, q2, q3, q4, q5⟩ := hSw
            go_simp <;> with_reducible rfl
          simp only [Act.put, List.setIfInBounds_toArray]
          try simp only [List.set_cons_succ]
          try simp only [List.set_cons_zero]
          refine take1 (i := 6) (d := some 119) (v := ?_) rfl rfl (by kernel_rfl) (by kernel_rfl) (by kernel_rfl) (fun _ _ _ h => h) (Or.inl ⟨by rfl, ?_⟩) (by assumption) ?_
          rotate_left 1
          · intro w hSw
            obtain ⟨q0, q1, q2, q3, q4, q5⟩ := hSw
            go_simp <;> with_reducible rfl
          simp only [Act.put, List.setIfInBounds_toArray]
          try simp only [List.set_cons_succ]
          try simp only [List.set_cons_zero]
          refine take1 (i := 7) (d := some 120) (v := ?_) rfl rfl (by kernel_rfl) (by kernel_rfl) (by kernel_rfl) (fun _ _ _ h => h) (Or.inl ⟨by rfl, ?_⟩) (by assumption) ?_
          rotate_left 1
          · intro w hSw
            obtain ⟨q0, q1, q2, q3, q4, q5⟩ := hSw
            go_simp <;> with_reducible rfl
          simp only [Act.put, List.setIfInBounds_toArray]
          try simp only [List.set_cons_succ]
          try simp only [List.set_cons_zero]
          refine take1 (i := 8) (d := some 121) (v := ?_) rfl rfl (by kernel_rfl) (by kernel_rfl) (by kernel_rfl) (fun _ _ _ h => h) (Or.inl ⟨by rfl, ?_⟩) (by assumption) ?_
          rotate_left 1
          · intro w hSw
            obtain ⟨q0, q1, q2, q3, q4, q5⟩ := hSw
            go_simp <;> with_reducible rfl
          simp only [Act.put, List.setIfInBounds_toArray]
          try simp only [List.set_cons_succ]
          try simp only [List.set_cons_zero]
          refine take1 (i := 9) (d := some 122) (v := ?_) rfl rfl (by kernel_rfl) (by kernel_rfl) (by kernel_rfl) (fun _ _ _ h => h) (Or.inl ⟨by rfl, ?_⟩) (by assumption) ?_
          rotate_left 1
          · intro w hSw
            obtain ⟨q0, q1, q2, q3, q4, q5⟩ := hSw
            go_simp <;> with_reducible rfl
          simp only [Act.put, List.setIfInBounds_toArray]
          try simp only [List.set_cons_succ]
          try simp only [List.set_cons_zero]
          refine take1 (i := 10) (d := some 123) (v := ?_) rfl rfl (by kernel_rfl) (by kernel_rfl) (by kernel_rfl) (fun _ _ _ h => h) (Or.inl ⟨by rfl, ?_⟩) (by assumption) ?_
          rotate_left 1
          · intro w hSw
            obtain ⟨q0, q1, q2, q3, q4, q5⟩ := hSw
            go_simp <;> with_reducible rfl
          simp only [Act.put, List.setIfInBounds_toArray]
          try simp only [List.set_cons_succ]
          try simp only [List.set_cons_zero]
          refine take1 (i := 11) (d := some 124) (v := ?_) rfl rfl (by kernel_rfl) (by kernel_rfl) (by kernel_rfl) (fun _ _ _ h => h) (Or.inl ⟨by rfl, ?_⟩) (by assumption) ?_
          rotate_left 1
          · intro w hSw
            obtain ⟨q0, q1, q2, q3, q4, q5⟩ := hSw
            go_simp <;> with_reducible rfl
          simp only [Act.put, List.setIfInBounds_toArray]
          try simp only [List.set_cons_succ]
          try simp only [List.set_cons_zero]
          refine take1 (i := 12) (d := some 125) (v := ?_) rfl rfl (by kernel_rfl) (by kernel_rfl) (by kernel_rfl) (fun _ _ _ h => h) (Or.inl ⟨by rfl, ?_⟩) (by assumption) ?_
          rotate_left 1
          · intro w hSw
            obtain ⟨q0, q1, q2, q3, q4, q5⟩ := hSw
            go_simp <;> with_reducible rfl
          simp only [Act.put, List.setIfInBounds_toArray]
          try simp only [List.set_cons_succ]
          try simp only [List.set_cons_zero]
          refine take1 (i := 13) (d := some 126) (v := ?_) rfl rfl (by kernel_rfl) (by kernel_rfl) (by kernel_rfl) (fun _ _ _ h => h) (Or.inl ⟨by rfl, ?_⟩) (by assumption) ?_
          rotate_left 1
          · intro w hSw
            obtain ⟨q0, q1, q2, q3, q4, q5⟩ := hSw
            go_simp <;> with_reducible rfl
          simp only [Act.put, List.setIfInBounds_toArray]
          try simp only [List.set_cons_succ]
          try simp only [List.set_cons_zero]
          refine take1 (i := 15) (d := some 128) (v := ?_) rfl rfl (by kernel_rfl) (by kernel_rfl) (by kernel_rfl) (fun _ _ _ h => h) (Or.inl ⟨by rfl, ?_⟩) (by assumption) ?_
          rotate_left 1
          · intro w hSw
            obtain ⟨q0, q1, q2, q3, q4, q5⟩ := hSw
            go_simp <;> with_reducible rfl
          simp only [Act.put, List.setIfInBounds_toArray]
          try simp only [List.set_cons_succ]
          try simp only [List.set_cons_zero]
          refine wpAnyH_ready (rs := [14]) (by kernel_rfl) (by simp) ?_
          refine AllReadyH.cons rfl (fun KK hKK => ?_) AllReadyH.nil
          go_simp
          refine (specHeld_any ⟨H, []⟩ _ _ W16.heap.size wb BWwb.size (R8.out.kept BWwb) (U8.out.kept BWwb)).mono ?_
          rintro e wc ⟨vc, rfl, oc, bwc⟩
          rw [E3.out] at oc ⊢
          have HOc := Hid.intro oc.rowAll
          obtain ⟨ac, cc, rfl⟩ := oc.slice
          clear oc
          have BWwc : Below W16.heap.size W16 wc := BWwb.trans (bwc.mono BWwb.size)
          go_simp
          refine hKK.out _ _ (HS.out _ BWwc) (fun hHeld2 => ?_)
          clear hKK KK hHeld
          have hHeld := hHeld2
          clear hHeld2
          refine wpAnyH_ready (rs := [16]) (by kernel_rfl) (by simp) ?_
          refine AllReadyH.cons rfl (fun KK hKK => ?_) AllReadyH.nil
          go_simp
          refine (specHeld_any S _ _ W16.heap.size wc BWwc.size (RV.out.kept BWwc) (RU.out.kept BWwc)).mono ?_
          rintro e wd ⟨vd, rfl, od, bwd⟩
          rw [E1.out] at od ⊢
          have HOd := Hid.intro od.rowAll
          obtain ⟨ad, cd, rfl⟩ := od.slice
          clear od
          have BWwd : Below W16.heap.size W16 wd := BWwc.trans (bwd.mono BWwc.size)
          go_simp
          refine hKK.out _ _ (HS.out _ BWwd) (fun hHeld2 => ?_)
          clear hKK KK hHeld
          have hHeld := hHeld2
          clear hHeld2
          refine wpAnyH_ready (rs := [17]) (by kernel_rfl) (by simp) ?_
          refine AllReadyH.cons rfl (fun KK hKK => ?_) AllReadyH.nil
          go_simp
          refine (sameKept_same H _ _ wd.heap.size wd (Nat.le_refl _) ((HOc.out.kept bwd).up bwd.size) HOd.out).mono ?_
          rintro e wf ⟨rfl, bwf⟩
          have BWwf : Below W16.heap.size W16 wf := BWwd.trans (bwf.mono BWwd.size)
          go_simp
          refine hKK.out _ _ (HS.out _ BWwf) (fun hHeld2 => ?_)
          clear hKK KK hHeld
          have hHeld := hHeld2
          clear hHeld2
          refine take1 (i := 18) (d := some 131) (v := ?_) rfl rfl (by kernel_rfl) (by kernel_rfl) (by kernel_rfl) (fun _ _ _ h => h) (Or.inl ⟨by rfl, ?_⟩) (by assumption) ?_
          rotate_left 1
          · intro w hSw
            obtain ⟨q0, q1, q2, q3, q4, q5⟩ := hSw
            go_simp <;> with_reducible rfl
          simp only [Act.put, List.setIfInBounds_toArray]
          try simp only [List.set_cons_succ]
          try simp only [List.set_cons_zero]
          refine take1 (i := 19) (d := some 132) (v := ?_) rfl rfl (by kernel_rfl) (by kernel_rfl) (by kernel_rfl) (fun _ _ _ h => h) (Or.inl ⟨by rfl, ?_⟩) (by assumption) ?_
          rotate_left 1
          · intro w hSw
            obtain ⟨q0, q1, q2, q3, q4, q5⟩ := hSw
            go_simp <;> with_reducible rfl
          simp only [Act.put, List.setIfInBounds_toArray]
          try simp only [List.set_cons_succ]
          try simp only [List.set_cons_zero]
          refine take1 (i := 20) (d := some 133) (v := ?_) rfl rfl (by kernel_rfl) (by kernel_rfl) (by kernel_rfl) (fun _ _ _ h => h) (Or.inl ⟨by rfl, ?_⟩) (by assumption) ?_
          rotate_left 1
          · intro w hSw
            obtain ⟨q0, q1, q2, q3, q4, q5⟩ := hSw
            go_simp <;> with_reducible rfl
          simp only [Act.put, List.setIfInBounds_toArray]
          try simp only [List.set_cons_succ]
          try simp only [List.set_cons_zero]
          refine take1 (i := 21) (d := some 134) (v := ?_) rfl rfl (by kernel_rfl) (by kernel_rfl) (by kernel_rfl) (fun _ _ _ h => h) (Or.inl ⟨by rfl, ?_⟩) (by assumption) ?_
          rotate_left 1
          · intro w hSw
            obtain ⟨q0, q1, q2, q3, q4, q5⟩ := hSw
            go_simp <;> with_reducible rfl
          simp only [Act.put, List.setIfInBounds_toArray]
          try simp only [List.set_cons_succ]
          try simp only [List.set_cons_zero]
          refine take1 (i := 22) (d := some 135) (v := ?_) rfl rfl (by kernel_rfl) (by kernel_rfl) (by kernel_rfl) (fun _ _ _ h => h) (Or.inl ⟨by rfl, ?_⟩) (by assumption) ?_
          rotate_left 1
          · intro w hSw
            obtain ⟨q0, q1, q2, q3, q4, q5⟩ := hSw
            go_simp <;> with_reducible rfl
          simp only [Act.put, List.setIfInBounds_toArray]
          try simp only [List.set_cons_succ]
          try simp only [List.set_cons_zero]
          refine wpAnyH_ready (rs := [23]) (by kernel_rfl) (by simp) ?_
          refine AllReadyH.cons rfl (fun KK hKK => ?_) AllReadyH.nil
          go_simp
          refine (sameKept_same K _ _ W16.heap.size wf BWwf.size (R16.out.kept BWwf) (RW.out.kept BWwf)).mono ?_
          rintro e wg ⟨rfl, bwg⟩
          have BWwg : Below W16.heap.size W16 wg := BWwf.trans (bwg.mono BWwf.size)
          go_simp
          refine hKK.out _ _ (HS.out _ BWwg) (fun hHeld2 => ?_)
          clear hKK KK hHeld
          have hHeld := hHeld2
          clear hHeld2
          refine take1 (i := 24) (d := some 137) (v := ?_) rfl rfl (by kernel_rfl) (by kernel_rfl) (by kernel_rfl) (fun _ _ _ h => h) (Or.inl ⟨by rfl, ?_⟩) (by assumption) ?_
          rotate_left 1
          · intro w hSw
            obtain ⟨q0, q1, q2, q3, q4, q5⟩ := hSw
            go_simp <;> with_reducible rfl
          simp only [Act.put, List.setIfInBounds_toArray]
          try simp only [List.set_cons_succ]
          try simp only [List.set_cons_zero]
          refine take1 (i := 25) (d := some 138) (v := ?_) rfl rfl (by kernel_rfl) (by kernel_rfl) (by kernel_rfl) (fun _ _ _ h => h) (Or.inl ⟨by rfl, ?_⟩) (by assumption) ?_
          rotate_left 1
          · intro w hSw
            obtain ⟨q0, q1, q2, q3, q4, q5⟩ := hSw
            go_simp <;> with_reducible rfl
          simp only [Act.put, List.setIfInBounds_toArray]
          try simp only [List.set_cons_succ]
          try simp only [List.set_cons_zero]
          refine take1 (i := 26) (d := some 139) (v := ?_) rfl rfl (by kernel_rfl) (by kernel_rfl) (by kernel_rfl) (fun _ _ _ h => h) (Or.inl ⟨by rfl, ?_⟩) (by assumption) ?_
          rotate_left 1
          · intro w hSw
            obtain ⟨q0, q1, q2, q3, q4, q5⟩ := hSw
            go_simp <;> with_reducible rfl
          simp only [Act.put, List.setIfInBounds_toArray]
          try simp only [List.set_cons_succ]
          try simp only [List.set_cons_zero]
          refine take1 (i := 27) (d := some 140) (v := ?_) rfl rfl (by kernel_rfl) (by kernel_rfl) (by kernel_rfl) (fun _ _ _ h => h) (Or.inl ⟨by rfl, ?_⟩) (by assumption) ?_
          rotate_left 1
          · intro w hSw
            obtain ⟨q0, q1, q2, q3, q4, q5⟩ := hSw
            go_simp <;> with_reducible rfl
          simp only [Act.put, List.setIfInBounds_toArray]
          try simp only [List.set_cons_succ]
          try simp only [List.set_cons_zero]
          refine take1 (i := 28) (d := some 141) (v := ?_) rfl rfl (by kernel_rfl) (by kernel_rfl) (by kernel_rfl) (fun _ _ _ h => h) (Or.inl ⟨by rfl, ?_⟩) (by assumption) ?_
          rotate_left 1
          · intro w hSw
            obtain ⟨q0, q1, q2, q3, q4, q5⟩ := hSw
            go_simp <;> with_reducible rfl
          simp only [Act.put, List.setIfInBounds_toArray]
          try simp only [List.set_cons_succ]
          try simp only [List.set_cons_zero]
          refine take1 (i := 29) (d := some 142) (v := ?_) rfl rfl (by kernel_rfl) (by kernel_rfl) (by kernel_rfl) (fun _ _ _ h => h) (Or.inl ⟨by rfl, ?_⟩) (by assumption) ?_
          rotate_left 1
          · intro w hSw
            obtain ⟨q0, q1, q2, q3, q4, q5⟩ := hSw
            go_simp <;> with_reducible rfl
          simp only [Act.put, List.setIfInBounds_toArray]
          try simp only [List.set_cons_succ]
          try simp only [List.set_cons_zero]
          refine take1 (i := 30) (d := some 143) (v := ?_) rfl rfl (by kernel_rfl) (by kernel_rfl) (by kernel_rfl) (fun _ _ _ h => h) (Or.inl ⟨by rfl, ?_⟩) (by assumption) ?_
          rotate_left 1
          · intro w hSw
            obtain ⟨q0, q1, q2, q3, q4, q5⟩ := hSw
            go_simp <;> with_reducible rfl
          simp only [Act.put, List.setIfInBounds_toArray]
          try simp only [List.set_cons_succ]
          try simp only [List.set_cons_zero]
          refine take1 (i := 31) (d := some 144) (v := ?_) rfl rfl (by kernel_rfl) (by kernel_rfl) (by kernel_rfl) (fun _ _ _ h => h) (Or.inl ⟨by rfl, ?_⟩) (by assumption) ?_
          rotate_left 1
          · intro w hSw
            obtain ⟨q0, q1, q2, q3, q4, q5⟩ := hSw
            go_simp <;> with_reducible rfl
          simp only [Act.put, List.setIfInBounds_toArray]
          try simp only [List.set_cons_succ]
          try simp only [List.set_cons_zero]
          refine take1 (i := 32) (d := some 145) (v := ?_) rfl rfl (by kernel_rfl) (by kernel_rfl) (by kernel_rfl) (fun _ _ _ h => h) (Or.inl ⟨by rfl, ?_⟩) (by assumption) ?_
          rotate_left 1
          · intro w hSw
            obtain ⟨q0, q1, q2, q3, q4, q5⟩ := hSw
            go_simp <;> with_reducible rfl
          simp only [Act.put, List.setIfInBounds_toArray]
          try simp only [List.set_cons_succ]
          try simp only [List.set_cons_zero]
          refine take1 (i := 34) (d := some 147) (v := ?_) rfl rfl (by kernel_rfl) (by kernel_rfl) (by kernel_rfl) (fun _ _ _ h => h) (Or.inl ⟨by rfl, ?_⟩) (by assumption) ?_
          rotate_left 1
          · intro w hSw
            obtain ⟨q0, q1, q2, q3, q4, q5⟩ := hSw
            go_simp <;> with_reducible rfl
          simp only [Act.put, List.setIfInBounds_toArray]
          try simp only [List.set_cons_succ]
          try simp only [List.set_cons_zero]
          refine wpAnyH_ready (rs := [33]) (by kernel_rfl) (by simp) ?_
          refine AllReadyH.cons rfl (fun KK hKK => ?_) AllReadyH.nil
          go_simp
          refine (implHeld_any ⟨H, LZ⟩ _ _ W16.heap.size wg BWwg.size (R9.out.kept BWwg) (U9.out.kept BWwg)).mono ?_
          rintro e wh ⟨vh, rfl, oh, bwh⟩
          rw [E9.out] at oh ⊢
          have HOh := Hid.intro oh.rowAll
          obtain ⟨ah, ch, rfl⟩ := oh.slice
          clear oh
          have BWwh : Below W16.heap.size W16 wh := BWwg.trans (bwh.mono BWwg.size)
          go_simp
          refine hKK.out _ _ (HS.out _ BWwh) (fun hHeld2 => ?_)
          clear hKK KK hHeld
          have hHeld := hHeld2
          clear hHeld2
          refine wpAnyH_ready (rs := [35]) (by kernel_rfl) (by simp) ?_
          refine AllReadyH.cons rfl (fun KK hKK => ?_) AllReadyH.nil
          go_simp
          refine (implSync_any ⟨H, LZ⟩ _ _ W16.heap.size wh BWwh.size (R9.out.kept BWwh) (U9.out.kept BWwh)).mono ?_
          rintro e wi ⟨vi, ui, rfl, ni⟩
          rw [E10.out] at ni ⊢
          have HOi := Hid.intro ni.e.rowAll
          have bwi := ni.bel
          obtain ⟨ai, ci, rfl⟩ := ni.e.slice
          obtain ⟨di, ei, rfl⟩ := ni.r.slice
          clear ni
          have BWwi : Below W16.heap.size W16 wi := BWwh.trans (bwi.mono BWwh.size)
          go_simp
          refine hKK.out _ _ (HS.out _ BWwi) (fun hHeld2 => ?_)
          clear hKK KK hHeld
          have hHeld := hHeld2
          clear hHeld2
          refine take1 (i := 36) (d := some 149) (v := kpV Kz (.slice ai Kz.e.length ci)) rfl rfl (by kernel_rfl) (by kernel_rfl) (by kernel_rfl) (fun _ _ _ h => h) (Or.inl ⟨by rfl, ?_⟩) (by assumption) ?_
          · intro w hSw
            obtain ⟨q0, q1, q2, q3, q4, q5⟩ := hSw
            go_simp
            rfl
          simp only [Act.put, List.setIfInBounds_toArray]
          try simp only [List.set_cons_succ]
          try simp only [List.set_cons_zero]
          refine wpAnyH_ready (rs := [37]) (by kernel_rfl) (by simp) ?_
          refine AllReadyH.cons rfl (fun KK hKK => ?_) AllReadyH.nil
          go_simp
          refine (sameKept_same Kz _ _ wi.heap.size wi (Nat.le_refl _) ((HOh.out.kept bwi).up bwi.size) HOi.out).mono ?_
          rintro e wj ⟨rfl, bwj⟩
          have BWwj : Below W16.heap.size W16 wj := BWwi.trans (bwj.mono BWwi.size)
          go_simp
          refine hKK.out _ _ (HS.out _ BWwj) (fun hHeld2 => ?_)
          clear hKK KK hHeld
          have hHeld := hHeld2
          clear hHeld2
          have hsl : (S.l.length : Int) + (kx : Int) ≤ 1000 := by omega
          have hxi : (SX.l.length : Int) = (S.l.length : Int) + (kx : Int) := by have := E14.out; omega
          refine take1 (i := 38) (d := some 151) (v := ?_) rfl rfl (by kernel_rfl) (by kernel_rfl) (by kernel_rfl) (fun _ _ _ h => h) (Or.inl ⟨by rfl, ?_⟩) (by assumption) ?_
          rotate_left 1
          · intro w hSw
            obtain ⟨q0, q1, q2, q3, q4, q5⟩ := hSw
            go_simp <;> with_reducible rfl
          simp only [Act.put, List.setIfInBounds_toArray]
          try simp only [List.set_cons_succ]
          try simp only [List.set_cons_zero]
          refine take1 (i := 39) (d := some 152) (v := ?_) rfl rfl (by kernel_rfl) (by kernel_rfl) (by kernel_rfl) (fun _ _ _ h => h) (Or.inl ⟨by rfl, ?_⟩) (by assumption) ?_
          rotate_left 1
          · intro w hSw
            obtain ⟨q0, q1, q2, q3, q4, q5⟩ := hSw
            go_simp <;> with_reducible rfl
          simp only [Act.put, List.setIfInBounds_toArray]
          try simp only [List.set_cons_succ]
          try simp only [List.set_cons_zero]
          refine take1 (i := 40) (d := some 153) (v := ?_) rfl rfl (by kernel_rfl) (by kernel_rfl) (by kernel_rfl) (fun _ _ _ h => h) (Or.inl ⟨by rfl, ?_⟩) (by assumption) ?_
          rotate_left 1
          · intro w hSw
            obtain ⟨q0, q1, q2, q3, q4, q5⟩ := hSw
            go_simp <;> with_reducible rfl
          simp only [Act.put, List.setIfInBounds_toArray]
          try simp only [List.set_cons_succ]
          try simp only [List.set_cons_zero]
          refine take1 (i := 41) (d := some 154) (v := ?_) rfl rfl (by kernel_rfl) (by kernel_rfl) (by kernel_rfl) (fun _ _ _ h => h) (Or.inl ⟨by rfl, ?_⟩) (by assumption) ?_
          rotate_left 1
          · intro w hSw
            obtain ⟨q0, q1, q2, q3, q4, q5⟩ := hSw
            go_simp <;> with_reducible rfl
          simp only [Act.put, List.setIfInBounds_toArray]
          try simp only [List.set_cons_succ]
          try simp only [List.set_cons_zero]
          refine take1 (i := 42) (d := some 155) (v := ?_) rfl rfl (by kernel_rfl) (by kernel_rfl) (by kernel_rfl) (fun _ _ _ h => h) (Or.inl ⟨by rfl, ?_⟩) (by assumption) ?_
          rotate_left 1
          · intro w hSw
            obtain ⟨q0, q1, q2, q3, q4, q5⟩ := hSw
            go_simp <;> with_reducible rfl
          simp only [Act.put, List.setIfInBounds_toArray]
          try simp only [List.set_cons_succ]
          try simp only [List.set_cons_zero]
          refine take1 (i := 43) (d := some 156) (v := ?_) rfl rfl (by kernel_rfl) (by kernel_rfl) (by kernel_rfl) (fun _ _ _ h => h) (Or.inl ⟨by rfl, ?_⟩) (by assumption) ?_
          rotate_left 1
          · intro w hSw
            obtain ⟨q0, q1, q2, q3, q4, q5⟩ := hSw
            go_simp <;> with_reducible rfl
          simp only [Act.put, List.setIfInBounds_toArray]
          try simp only [List.set_cons_succ]
          try simp only [List.set_cons_zero]
          refine take1 (i := 44) (d := some 157) (v := ?_) rfl rfl (by kernel_rfl) (by kernel_rfl) (by kernel_rfl) (fun _ _ _ h => h) (Or.inl ⟨by rfl, ?_⟩) (by assumption) ?_
          rotate_left 1
          · intro w hSw
            obtain ⟨q0, q1, q2, q3, q4, q5⟩ := hSw
            go_simp <;> with_reducible rfl
          simp only [Act.put, List.setIfInBounds_toArray]
          try simp only [List.set_cons_succ]
          try simp only [List.set_cons_zero]
          refine take1 (i := 45) (d := some 158) (v := ?_) rfl rfl (by kernel_rfl) (by kernel_rfl) (by kernel_rfl) (fun _ _ _ h => h) (Or.inl ⟨by rfl, ?_⟩) (by assumption) ?_
          rotate_left 1
          · intro w hSw
            obtain ⟨q0, q1, q2, q3, q4, q5⟩ := hSw
            go_simp <;> with_reducible rfl
          simp only [Act.put, List.setIfInBounds_toArray]
          try simp only [List.set_cons_succ]
          try simp only [List.set_cons_zero]
          refine take1 (i := 46) (d := some 159) (v := ?_) rfl rfl (by kernel_rfl) (by kernel_rfl) (by kernel_rfl) (fun _ _ _ h => h) (Or.inl ⟨by rfl, ?_⟩) (by assumption) ?_
          rotate_left 1
          · intro w hSw
            obtain ⟨q0, q1, q2, q3, q4, q5⟩ := hSw
            go_simp <;> with_reducible rfl
          simp only [Act.put, List.setIfInBounds_toArray]
          try simp only [List.set_cons_succ]
          try simp only [List.set_cons_zero]
          refine take1 (i := 47) (d := some 160) (v := .int .i64 ((S.l.length : Int) + (kx : Int))) rfl rfl (by kernel_rfl) (by kernel_rfl) (by kernel_rfl) (fun _ _ _ h => h) (Or.inl ⟨by rfl, ?_⟩) (by assumption) ?_
          · intro w hSw
            obtain ⟨q0, q1, q2, q3, q4, q5⟩ := hSw
            go_simp
            first | exact wraps_i64 _ (by omega) (by omega) | (rw [IntKind.wrap_i64]; omega) | omega | rfl
          simp only [Act.put, List.setIfInBounds_toArray]
          try simp only [List.set_cons_succ]
          try simp only [List.set_cons_zero]
          refine take1 (i := 48) (d := some 161) (v := .bool true) rfl rfl (by kernel_rfl) (by kernel_rfl) (by kernel_rfl) (fun _ _ _ h => h) (Or.inl ⟨by rfl, ?_⟩) (by assumption) ?_
          · intro w hSw
            obtain ⟨q0, q1, q2, q3, q4, q5⟩ := hSw
            first | (go_simp; done) | (go_simp <;> omega) | (simp [go_sem, hxi]; done) | (go_simp; simp [hxi]; done) | (go_simp; rfl)
          simp only [Act.put, List.setIfInBounds_toArray]
          try simp only [List.set_cons_succ]
          try simp only [List.set_cons_zero]
          refine take1 (i := 49) (d := some 162) (v := ?_) rfl rfl (by kernel_rfl) (by kernel_rfl) (by kernel_rfl) (fun _ _ _ h => h) (Or.inl ⟨by rfl, ?_⟩) (by assumption) ?_
          rotate_left 1
          · intro w hSw
            obtain ⟨q0, q1, q2, q3, q4, q5⟩ := hSw
            go_simp <;> with_reducible rfl
          simp only [Act.put, List.setIfInBounds_toArray]
          try simp only [List.set_cons_succ]
          try simp only [List.set_cons_zero]
          refine take1 (i := 50) (d := some 2) (v := ?_) rfl rfl (by kernel_rfl) (by kernel_rfl) (by kernel_rfl) (fun _ _ _ h => h) (Or.inl ⟨by rfl, ?_⟩) (by assumption) ?_
          rotate_left 1
          · intro w hSw
            obtain ⟨q0, q1, q2, q3, q4, q5⟩ := hSw
            go_simp <;> with_reducible rfl
          simp only [Act.put, List.setIfInBounds_toArray]
          try simp only [List.set_cons_succ]
          try simp only [List.set_cons_zero]
          refine wpAnyH_done (by kernel_rfl) ?_ _
          have HBE := Hid.intro (HBr.out.trans (BWwj.mono HBr.out.size))
          have hx14 := E14.out
          go_wp2
          go_ret
          exact ⟨by first | rfl | (simp [hx14]; done) | (simp; omega), HBE.out⟩
  · go_enter Try.func3, Try.ntmps3
    go_wp2_with (go_at_call 9; refine (big_yes _ _ _ _ hl hm).mono ?_; rintro e w' ⟨rfl, rfl⟩)
    go_ret
    exact ⟨rfl, Below.refl _ _⟩
end Go.Proofs.Ytkilepoimocoeaa
