/- CredOf on both sides; rows of ints that are marked hold their marks; the law CredOf. -/
import Derived.Test.YtmioanleeaimmaaPLawB
import Derived.Deep.Cut
namespace Go.Proofs.Ytmioanleeaimmaa
open Go.RowKit
set_option linter.unusedVariables false
/-- Who a client is. -/
def credO (c : Int) : Cr := if c = 1 then ⟨0, 0, []⟩ else if c = 2 then ⟨2, 2, [5]⟩ else if c = 3 then ⟨3, 2, []⟩ else ⟨1000, 1000, []⟩
theorem credO_one : credO 1 = ⟨0, 0, []⟩ := rfl
theorem credO_two : credO 2 = ⟨2, 2, [5]⟩ := rfl
theorem credO_three : credO 3 = ⟨3, 2, []⟩ := rfl
theorem credO_else {c : Int} (h1 : ¬ c = 1) (h2 : ¬ c = 2) (h3 : ¬ c = 3) : credO c = ⟨1000, 1000, []⟩ := by simp [credO, h1, h2, h3]
theorem credO_len (c : Int) : (credO c).l.length ≤ 1 := by unfold credO; repeat (first | split | simp)
def CredP (c : Int) (w : World) (e : Ending) (w' : World) : Prop := ∃ v, e = .returned (crV (credO c) v) ∧ Own intE 3 w' w.heap.size v (credO c).l ∧ Below w.heap.size w w'
theorem lit5 (w : World) : Own intE 3 (w.alloc (.cells #[.int .i64 5] 3)) w.heap.size (.slice (some ⟨w.heap.size, 0, none⟩) 1 1) [5] :=
  World.ownsRow_lit (base := w.heap.size) (e := 3) (size := 1) w #[.int .i64 5] 1 (Nat.le_refl _) (by decide) rfl
theorem lit5b (w : World) (X : Obj) : Own intE 3 ((w.alloc X).alloc (.cells #[.int .i64 5] 3)) w.heap.size (.slice (some ⟨w.heap.size + 1, 0, none⟩) 1 1) [5] := by
  have h := lit5 (w.alloc X)
  have e : (w.alloc X).heap.size = w.heap.size + 1 := by simp
  rw [e] at h
  exact h.lower (by omega)
set_option maxHeartbeats 1000000 in
theorem implCredOf_any (c : Int) (w : World) : Calls Try.prog 16 #[.int .i64 c] w fun e w' => CredP c w e w' := by
  by_cases h1 : c = 1
  · subst h1
    go_enter Try.func16, Try.ntmps16
    go_wp2
    refine bodyPost_ret (v := crV (credO 1) (.slice none 0 0)) (by simp [results, Try.results16, go_sem, credO_one]) rfl ⟨_, rfl, Own.nil _ _, ?_⟩
    first | exact Below.refl _ _ | exact one_below _ _ | exact two_below _ _ _
  · by_cases h2 : c = 2
    · subst h2
      go_enter Try.func16, Try.ntmps16
      go_wp2
      refine bodyPost_ret (v := crV (credO 2) (.slice (some ⟨w.heap.size + 1, 0, none⟩) 1 1)) (by simp [results, Try.results16, go_sem, credO_two]) rfl ⟨_, rfl, lit5b w _, ?_⟩
      first | exact Below.refl _ _ | exact one_below _ _ | exact two_below _ _ _
    · by_cases h3 : c = 3
      · subst h3
        go_enter Try.func16, Try.ntmps16
        go_wp2
        refine bodyPost_ret (v := crV (credO 3) (.slice none 0 0)) (by simp [results, Try.results16, go_sem, credO_three]) rfl ⟨_, rfl, Own.nil _ _, ?_⟩
        first | exact Below.refl _ _ | exact one_below _ _ | exact two_below _ _ _
      · have n1 : (c == 1) = false := by simpa using h1
        have n2 : (c == 2) = false := by simpa using h2
        have n3 : (c == 3) = false := by simpa using h3
        have he := credO_else h1 h2 h3
        have HE := Hid.intro he
        clear h1 h2 h3 he
        go_enter Try.func16, Try.ntmps16
        go_wp2
        refine bodyPost_ret (v := crV (credO c) (.slice none 0 0)) (by simp [results, Try.results16, go_sem, HE.out]) rfl ⟨_, rfl, by rw [HE.out]; exact Own.nil _ _, ?_⟩
        first | exact Below.refl _ _ | exact one_below _ _ | exact two_below _ _ _
set_option maxHeartbeats 1000000 in
theorem specCredOf_any (c : Int) (w : World) : Calls Try.prog 15 #[.int .i64 c] w fun e w' => CredP c w e w' := by
  by_cases h1 : c = 1
  · subst h1
    go_enter Try.func15, Try.ntmps15
    go_wp2
    refine bodyPost_ret (v := crV (credO 1) (.slice none 0 0)) (by simp [results, Try.results15, go_sem, credO_one]) rfl ⟨_, rfl, Own.nil _ _, ?_⟩
    first | exact Below.refl _ _ | exact one_below _ _ | exact two_below _ _ _
  · by_cases h2 : c = 2
    · subst h2
      go_enter Try.func15, Try.ntmps15
      go_wp2
      refine bodyPost_ret (v := crV (credO 2) (.slice (some ⟨w.heap.size + 1, 0, none⟩) 1 1)) (by simp [results, Try.results15, go_sem, credO_two]) rfl ⟨_, rfl, lit5b w _, ?_⟩
      first | exact Below.refl _ _ | exact one_below _ _ | exact two_below _ _ _
    · by_cases h3 : c = 3
      · subst h3
        go_enter Try.func15, Try.ntmps15
        go_wp2
        refine bodyPost_ret (v := crV (credO 3) (.slice none 0 0)) (by simp [results, Try.results15, go_sem, credO_three]) rfl ⟨_, rfl, Own.nil _ _, ?_⟩
        first | exact Below.refl _ _ | exact one_below _ _ | exact two_below _ _ _
      · have n1 : (c == 1) = false := by simpa using h1
        have n2 : (c == 2) = false := by simpa using h2
        have n3 : (c == 3) = false := by simpa using h3
        have he := credO_else h1 h2 h3
        have HE := Hid.intro he
        clear h1 h2 h3 he
        go_enter Try.func15, Try.ntmps15
        go_wp2
        refine bodyPost_ret (v := crV (credO c) (.slice none 0 0)) (by simp [results, Try.results15, go_sem, HE.out]) rfl ⟨_, rfl, by rw [HE.out]; exact Own.nil _ _, ?_⟩
        first | exact Below.refl _ _ | exact one_below _ _ | exact two_below _ _ _
def markIL (q : Int) (L : List Int) : Nat → List Int
  | 0 => L
  | j + 1 => (markIL q L j).set j (q + j)
theorem markIL_len (q : Int) (L : List Int) (j : Nat) : (markIL q L j).length = L.length := by
  induction j with
  | zero => rfl
  | succ j ih => simp [markIL, ih]
theorem markIL_get (q : Int) (L : List Int) (n i : Nat) (hi : i < n) (hL : i < (markIL q L n).length) : (markIL q L n)[i] = q + i := by
  induction n with
  | zero => omega
  | succ n ih =>
    simp only [markIL, List.getElem_set]
    split
    · rename_i h; subst h; rfl
    · exact ih (by omega) (by rw [markIL_len] at hL ⊢; exact hL)
set_option maxRecDepth 100000 in
set_option maxHeartbeats 2000000 in
theorem markIntS_any (L : List Int) (v : Value) (base : Nat) (q : Int) (w : World) (hb : base ≤ w.heap.size) (ho : Own intE 3 w base v L) (hl : L.length ≤ 2000000) (h1 : 1 ≤ q) (h2 : q ≤ 100000000) :
    Calls Try.prog 46 #[v, .int .i64 q] w fun e w' => e = .returned (.int .i64 (q + (L.length : Nat))) ∧ Own intE 3 w' base v (markIL q L L.length) ∧ Only (fun k => some k = v.ownBlock) w w' := by
  rcases ho.look with ⟨rfl, rfl⟩ | ⟨g, cap, rfl, hg1, hg2, hc1, hc2⟩
  · go_enter Try.func46, Try.ntmps46
    go_wp2
    refine wp_loop_rounds 1 ?_
    rw [rounds_succ]
    go_wp2
    go_ret
    exact ⟨ret_int (by simp), ho, Only.refl _ _⟩
  · obtain ⟨n, hn⟩ : ∃ n, L.length = n := ⟨_, rfl⟩
    have HO := Hid.intro ho
    have HN := Hid.intro hn
    rw [hn] at hl hc1 HO ⊢
    clear ho hn
    go_enter Try.func46, Try.ntmps46
    go_wp2
    go_loopw [1, 5] (fun x i wr => ∃ (j : Nat), i = .int .i64 j ∧ x = .int .i64 (q + (j : Nat)) ∧ j ≤ n ∧ Hid (Own intE 3 wr base (.slice (some ⟨g, 0, none⟩) n cap) (markIL q L j)) ∧ Only (fun k => some k = some g) w wr) (fun _ i _ => n - (intOf i).toNat)
    case atStart => exact ⟨0, rfl, by simp, Nat.zero_le _, HO, Only.refl _ _⟩
    case round =>
      obtain ⟨j, rfl, rfl, hj, HR, hO⟩ := hrel
      by_cases hlt : j < n
      · have hml : (markIL q L j).length = n := by rw [markIL_len]; exact HN.out
        have HML := Hid.intro hml
        have hgw : g < wr.heap.size := (HR.out.lt g rfl).2
        have HG := Hid.intro hgw
        clear hml
        obtain ⟨y0, q0⟩ := HR.out.has HML.out hlt (i := 0) (by decide)
        simp only [Nat.add_zero, show intE.n = 1 from rfl, Nat.mul_one] at q0
        have f0 := HR.out.frozen HML.out
        have HS : Hid (Own intE 3 (wr.setCell ⟨g, j, none⟩ (.int .i64 (q + (j : Nat)))) base (.slice (some ⟨g, 0, none⟩) n cap) (markIL q L (j + 1))) := by
          have := HR.out.store HML.out hlt (q + (j : Nat))
          simp only [show intE.n = 1 from rfl, Nat.mul_one] at this
          exact this
        clear HR
        go_wp2
        go_roundw
        case rel => exact ⟨j + 1, by go_num, by go_num, by omega, HS, hO.setCell rfl _⟩
        case measure => simp [intOf]; omega
      · obtain rfl : j = n := by omega
        go_wp2
        go_ret
        exact ⟨rfl, HR.out, hO⟩
set_option maxRecDepth 100000 in
set_option maxHeartbeats 2000000 in
theorem heldIntS_any (M : List Int) (v : Value) (N : Nat) (q : Int) (w : World) (hN : N ≤ w.heap.size) (hr : Row intE w N v M) (hM : ∀ i (h : i < M.length), M[i] = q + i) (hl : M.length ≤ 2000000) (h1 : 1 ≤ q) (h2 : q ≤ 100000000) :
    Calls Try.prog 47 #[v, .int .i64 q] w fun e w' => e = .returned (.int .i64 (q + (M.length : Nat))) ∧ Below w.heap.size w w' := by
  obtain ⟨a, cap, rfl, lc, hm, hcells⟩ := intE_cell hr
  have HC := Hid.intro hcells
  have HM := Hid.intro hM
  clear hcells hM
  go_enter Try.func47, Try.ntmps47
  go_wp2
  go_loopw [1, 5] (fun x i wr => ∃ (j : Nat), i = .int .i64 j ∧ x = .int .i64 (q + (j : Nat)) ∧ j ≤ M.length ∧ Below w.heap.size w wr) (fun _ i _ => M.length - (intOf i).toNat)
  case atStart => exact ⟨0, rfl, by simp, Nat.zero_le _, Below.refl _ _⟩
  case round =>
    obtain ⟨j, rfl, rfl, hj, hbel⟩ := hrel
    by_cases hlt : j < M.length
    · obtain ⟨b, off, rfl, hbN, hcc⟩ := HC.out (by intro h; rw [h] at hlt; simp at hlt)
      have c0 := hcc j hlt
      rw [HM.out j hlt] at c0
      have g0 := atCell hbel c0 (by omega)
      have i1 : (0 : Int) ≤ (j : Int) ∧ (j : Int) < (M.length : Int) := by omega
      have i2 : (j : Int) < (M.length : Int) := by omega
      clear hcc c0
      go_wp2
      go_roundw
      case rel => exact ⟨j + 1, by go_num, by go_num, by omega, hbel⟩
      case measure => simp [intOf]; omega
    · obtain rfl : j = M.length := by omega
      go_wp2
      go_ret
      exact ⟨rfl, hbel⟩
set_option maxHeartbeats 1000000 in
theorem markCred_any (c : Cr) (v : Value) (base : Nat) (q : Int) (w : World) (hb : base ≤ w.heap.size) (ho : Own intE 3 w base v c.l) (hl : c.l.length ≤ 2000000) (h1 : 1 ≤ q) (h2 : q ≤ 100000000) :
    Calls Try.prog 18 #[crV c v, .int .i64 q] w fun e w' => e = .returned (.int .i64 (q + (c.l.length : Nat))) ∧ Own intE 3 w' base v (markIL q c.l c.l.length) ∧ Only (fun k => some k = v.ownBlock) w w' := by
  have HO := Hid.intro ho
  clear ho
  go_enter Try.func18, Try.ntmps18
  go_wp2_with fail
  obtain ⟨W, hW, bW, zW, c1, f1⟩ := boxed w #[.int .i64 c.u, .int .i64 c.g, v] 46
  try simp only [hW]
  refine (markIntS_any c.l v base q W (by omega) (HO.out.kept bW) hl h1 h2).mono ?_
  rintro e w1 ⟨rfl, o1, n1⟩
  have HO1 := Hid.intro o1
  have HN1 := Hid.intro ((Below.any bW : Only (fun k => some k = v.ownBlock) w W).trans n1)
  clear hW bW o1 n1 c1 f1
  go_wp2
  go_ret
  exact ⟨rfl, HO1.out, HN1.out⟩
set_option maxHeartbeats 1000000 in
theorem heldCred_any (c : Cr) (v : Value) (N : Nat) (q : Int) (w : World) (hN : N ≤ w.heap.size) (hr : Row intE w N v c.l) (hM : ∀ i (h : i < c.l.length), c.l[i] = q + i) (hl : c.l.length ≤ 2000000) (h1 : 1 ≤ q) (h2 : q ≤ 100000000) :
    Calls Try.prog 19 #[crV c v, .int .i64 q] w fun e w' => e = .returned (.int .i64 (q + (c.l.length : Nat))) ∧ Below w.heap.size w w' := by
  have HR := Hid.intro hr
  have HM := Hid.intro hM
  clear hr hM
  go_enter Try.func19, Try.ntmps19
  go_wp2_with fail
  obtain ⟨W, hW, bW, zW, c1, f1⟩ := boxed w #[.int .i64 c.u, .int .i64 c.g, v] 46
  try simp only [hW]
  refine (heldIntS_any c.l v N q W (by omega) (HR.out.kept (bW.mono hN)) HM.out hl h1 h2).mono ?_
  rintro e w1 ⟨rfl, b1⟩
  have HB := Hid.intro (bW.trans (b1.mono (by omega)))
  clear hW bW b1 c1 f1
  have hz : ¬ (q + (c.l.length : Int)) < 0 := by omega
  go_wp2
  go_ret
  exact ⟨rfl, HB.out⟩
set_option maxRecDepth 100000 in
set_option maxHeartbeats 8000000 in
theorem credOf_law (c : Int) (w : World) :
    Calls Try.prog 5 #[.int .i64 c] w fun e w' => e = .returned (.bool true) ∧ Below w.heap.size w w' := by
  go_enter Try.func5, Try.ntmps5
  go_wp2_with fail
  refine (specCredOf_any c w).mono ?_
  rintro e w1 ⟨v1, rfl, o1, b1⟩
  obtain ⟨a1, k1, rfl⟩ := o1.slice
  have hln := credO_len c
  generalize hcr : credO c = cr at *
  have HCR := Hid.intro hcr
  clear hcr
  have HR1 := Hid.intro o1.rowAll
  have z1 := b1.size
  go_wp2_with fail
  obtain ⟨W2, hW2, bW2, zW2, cW2, fW2⟩ := boxed w1 #[.int .i64 cr.u, .int .i64 cr.g, .slice a1 cr.l.length k1] 46
  try simp only [hW2]
  replace HR1 := Hid.intro (HR1.out.kept bW2)
  have HB := Hid.intro (b1.trans (bW2.mono z1))
  clear hW2 bW2 fW2 o1 b1
  refine (implCredOf_any c W2).mono ?_
  rintro e w3 ⟨v3, rfl, o3, b3⟩
  obtain ⟨a3, k3, rfl⟩ := o3.slice
  rw [HCR.out] at o3 ⊢
  have HO3 := Hid.intro o3
  have c3 := keepC b3 (by omega) cW2
  replace HR1 := Hid.intro (HR1.out.kept (b3.mono (by omega)))
  replace HB := Hid.intro (HB.out.trans (b3.mono HB.out.size))
  have z3 := b3.size
  clear o3 b3 cW2
  go_upto_region 3 with fail
  obtain ⟨W4, hW4, bW4, zW4, cW4, fW4⟩ := boxed w3 #[.int .i64 cr.u, .int .i64 cr.g, .slice a3 cr.l.length k3] 46
  try simp only [hW4]
  replace c3 := keepC bW4 (by omega) c3
  replace HR1 := Hid.intro (HR1.out.kept (bW4.mono (by omega)))
  have HO4 := Hid.intro (HO3.out.kept bW4)
  replace HB := Hid.intro (HB.out.trans (bW4.mono HB.out.size))
  clear hW4 bW4 fW4
  have HV3 : Hid (∀ k, (Value.slice a3 cr.l.length k3).ownBlock = some k → W2.heap.size ≤ k ∧ k < w3.heap.size) := fun k hk => HO3.out.lt k hk
  clear HO3
  go_wp2_with fail
  refine (eqCred_any cr _ _ W4.heap.size W4 (Nat.le_refl _) HO4.out.rowAll (HR1.out.up (by omega))).mono ?_
  rintro e w5 ⟨rfl, b5⟩
  replace c3 := keepC b5 (by omega) c3
  have c5 := keepC b5 (by omega) cW4
  replace HR1 := Hid.intro (HR1.out.kept (b5.mono (by omega)))
  replace HO4 := Hid.intro (HO4.out.kept b5)
  replace HB := Hid.intro (HB.out.trans (b5.mono HB.out.size))
  have z5 := b5.size
  clear b5 cW4
  go_wp2_with fail
  refine (markCred_any cr _ W2.heap.size 1 w5 (by omega) HO4.out (by omega) (by omega) (by omega)).mono ?_
  rintro e w6 ⟨rfl, o6, n6⟩
  have hs6 : ∀ k, some k = (Value.slice a3 cr.l.length k3).ownBlock → W2.heap.size ≤ k ∧ k < w3.heap.size := fun k hk => HV3.out k hk.symm
  replace c3 : ∀ o, w6.cell? ⟨w1.heap.size, o, none⟩ = _ := fun o => (n6.cell (by omega) (fun h => by have := hs6 _ h; omega)).trans (c3 o)
  replace c5 : ∀ o, w6.cell? ⟨w3.heap.size, o, none⟩ = _ := fun o => (n6.cell (by omega) (fun h => by have := hs6 _ h; omega)).trans (c5 o)
  replace HR1 := Hid.intro (HR1.out.kept (n6.below (by omega) (fun k hk h => by have := hs6 _ h; omega)))
  replace HB := Hid.intro (HB.out.trans (n6.below HB.out.size (fun k hk h => by have := hs6 _ h; omega)))
  have HO6 := Hid.intro o6
  have HML : Hid ((markIL 1 cr.l cr.l.length).length = cr.l.length) := markIL_len _ _ _
  have HMG : Hid (∀ i (h : i < (markIL 1 cr.l cr.l.length).length), (markIL 1 cr.l cr.l.length)[i] = 1 + i) := fun i h => markIL_get _ _ _ i (by rw [markIL_len] at h; exact h) h
  generalize hmk : markIL 1 cr.l cr.l.length = mk at *
  have z6 := n6.size
  clear hmk HO4 o6 n6 hs6
  have R6 : Hid (Row intE w6 w6.heap.size (.slice a3 cr.l.length k3) mk) := HO6.out.rowAll
  have e6 : (crV cr (.slice a3 cr.l.length k3)) = crV ⟨cr.u, cr.g, mk⟩ (.slice a3 cr.l.length k3) := rfl
  go_wp2_with fail
  have HLC : Hid (∀ w' : World, w6.heap.size ≤ w'.heap.size → Row intE w' w6.heap.size (.slice a3 cr.l.length k3) mk → Calls Try.prog 19 #[crV cr (.slice a3 cr.l.length k3), .int .i64 1] w' fun e w'' => e = .returned (.int .i64 (1 + (cr.l.length : Nat))) ∧ Below w'.heap.size w' w'') := fun w' hs hr => by
    have := heldCred_any ⟨cr.u, cr.g, mk⟩ (.slice a3 cr.l.length k3) w6.heap.size 1 w' hs hr HMG.out (by rw [show (⟨cr.u, cr.g, mk⟩ : Cr).l = mk from rfl, HML.out]; omega) (by omega) (by omega)
    rw [show (⟨cr.u, cr.g, mk⟩ : Cr).l = mk from rfl, HML.out] at this
    exact this
  refine (HLC.out w6 (Nat.le_refl _) R6.out).mono ?_
  rintro e w7 ⟨rfl, b7⟩
  replace c3 := keepC b7 (by omega) c3
  replace c5 := keepC b7 (by omega) c5
  replace HR1 := Hid.intro (HR1.out.kept (b7.mono (by omega)))
  replace R6 := Hid.intro (R6.out.kept b7)
  replace HB := Hid.intro (HB.out.trans (b7.mono HB.out.size))
  have z7 := b7.size
  clear b7
  have hm0 : ¬ (1 + (cr.l.length : Int)) < 0 := by omega
  have hme : ((1 + (cr.l.length : Int)) != (1 + (cr.l.length : Int))) = false := by simp
  go_wp2_with fail
  refine (implCredOf_any c w7).mono ?_
  rintro e w8 ⟨v8, rfl, o8, b8⟩
  obtain ⟨a8, k8, rfl⟩ := o8.slice
  rw [HCR.out] at o8 ⊢
  replace c3 := keepC b8 (by omega) c3
  replace c5 := keepC b8 (by omega) c5
  replace HR1 := Hid.intro (HR1.out.kept (b8.mono (by omega)))
  replace R6 := Hid.intro (R6.out.kept (b8.mono (by omega)))
  replace HB := Hid.intro (HB.out.trans (b8.mono HB.out.size))
  have HO8 := Hid.intro o8.rowAll
  have z8 := b8.size
  clear b8 o8
  go_upto_region 14 with fail
  obtain ⟨W9, hW9, bW9, zW9, cW9, fW9⟩ := boxed w8 #[.int .i64 cr.u, .int .i64 cr.g, .slice a8 cr.l.length k8] 46
  try simp only [hW9]
  replace c5 := keepC bW9 (by omega) c5
  replace c3 := keepC bW9 (by omega) c3
  replace HR1 := Hid.intro (HR1.out.kept (bW9.mono (by omega)))
  replace R6 := Hid.intro (R6.out.kept (bW9.mono (by omega)))
  replace HB := Hid.intro (HB.out.trans (bW9.mono HB.out.size))
  replace HO8 := Hid.intro ((HO8.out.kept bW9).up bW9.size)
  clear hW9 bW9 fW9
  go_wp2_with fail
  refine (eqCred_any cr _ _ W9.heap.size W9 (Nat.le_refl _) HO8.out (HR1.out.up (by omega))).mono ?_
  rintro e wa ⟨rfl, ba⟩
  replace c5 := keepC ba (by omega) c5
  replace R6 := Hid.intro (R6.out.kept (ba.mono (by omega)))
  replace HB := Hid.intro (HB.out.trans (ba.mono HB.out.size))
  have za := ba.size
  clear ba HR1 HO8 c3 cW9
  go_wp2_with fail
  refine (HLC.out wa (by omega) R6.out).mono ?_
  rintro e wb ⟨rfl, bb⟩
  replace HB := Hid.intro (HB.out.trans (bb.mono HB.out.size))
  clear bb c5
  go_wp2
  go_ret
  exact ⟨rfl, HB.out⟩
end Go.Proofs.Ytmioanleeaimmaa
