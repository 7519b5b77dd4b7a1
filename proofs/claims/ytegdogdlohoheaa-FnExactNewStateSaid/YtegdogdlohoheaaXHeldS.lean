/- A state that is marked holds its marks. -/
import Derived.Test.YtegdogdlohoheaaXSta
import Derived.Test.YtegdogdlohoheaaXMarkT
import Derived.Test.YtegdogdlohoheaaTMarkH
namespace Go.Proofs.Ytegdogdlohoheaa
open Go.RowKit
set_option linter.unusedVariables false
def endU (q : Int) (t : Ten) : Int := kqI (q + 1) t.L t.L.length + 1 + 5 * (t.A.length : Nat) + 5 * (t.S.length : Nat)
/-- A tenant that is marked from q on. -/
def mkU (q : Int) (t : Ten) : Ten := ⟨q, markNL (q + 1) t.L t.L.length, t.ua, t.uc, kqI (q + 1) t.L t.L.length, markTL (kqI (q + 1) t.L t.L.length + 1) t.A t.A.length, t.aa, t.ac, markSL (kqI (q + 1) t.L t.L.length + 1 + 5 * (t.A.length : Nat)) t.S t.S.length, t.sa, t.sc⟩
theorem mkU_u (q : Int) (t : Ten) : (mkU q t).u = t.u := by simp only [Ten.u, mkU, markNL_len]
theorem mkU_va (q : Int) (t : Ten) : (mkU q t).va = t.va := by simp only [Ten.va, mkU, markTL_len]
theorem mkU_vs (q : Int) (t : Ten) : (mkU q t).vs = t.vs := by simp only [Ten.vs, mkU, markSL_len]
def qAt (q : Int) (L : List Ten) : Nat → Int
 | 0 => q
 | j + 1 => endU (qAt q L j) (L.getD j tnE.z)
def markUL (q : Int) (L : List Ten) : Nat → List Ten
 | 0 => L
 | j + 1 => (markUL q L j).set j (mkU (qAt q L j) (L.getD j tnE.z))
theorem markUL_len (q : Int) (L : List Ten) (j : Nat) : (markUL q L j).length = L.length := by
 induction j with
 | zero => rfl
 | succ j ih => simp [markUL, ih]
theorem getD_ten {L : List Ten} {j : Nat} (h : j < L.length) : L.getD j tnE.z = L[j] := by simp [List.getD_eq_getElem?_getD, h]
theorem markUL_get (q : Int) (L : List Ten) (n i : Nat) (hi : i < n) (hL : i < (markUL q L n).length) : (markUL q L n)[i] = mkU (qAt q L i) (L.getD i tnE.z) := by
 induction n with
 | zero => omega
 | succ n ih =>
  simp only [markUL, List.getElem_set]
  split
  ·rename_i h; subst h; rfl
  ·exact ih (by omega) (by rw [markUL_len] at hL ⊢; exact hL)
theorem markUL_late (q : Int) (L : List Ten) (n i : Nat) (hi : n ≤ i) (hL : i < (markUL q L n).length) : (markUL q L n)[i] = L[i]'(by rw [markUL_len] at hL; exact hL) := by
 induction n with
 | zero => rfl
 | succ n ih =>
  simp only [markUL, List.getElem_set]
  rw [if_neg (by omega)]
  exact ih (by omega) (by rw [markUL_len] at hL ⊢; exact hL)
/-- One cell of one element is stored. -/
theorem Enc.f_put {α : Type} (E : Enc α) (M : List α) (j i : Nat) (hj : j < M.length) (hi : i < E.n) (u : Value) (e : α) (he : E.c e = (E.c M[j]).set i u) : E.f (M.set j e) = (E.f M).set (j * E.n + i) u := by
 apply List.ext_getElem?
 intro q
 rw [List.getElem?_set]
 by_cases hq : q < M.length * E.n
 ·obtain ⟨p, i', hp, hi', rfl, e2⟩ := E.place M q hq
  rw [E.f_at (M.set j e) p (by simpa using hp) i' hi']
  have hlen : j * E.n + i < (E.f M).length := by
   rw [E.f_len]
   have := Nat.mul_le_mul_right E.n (show j + 1 ≤ M.length from hj)
   rw [Nat.add_mul, Nat.one_mul] at this
   omega
  by_cases hjp : j = p
  ·subst hjp
   rw [List.getElem_set_self, he, List.getElem?_set, e2]
   by_cases hii : i = i'
   ·subst hii
    rw [if_pos rfl, if_pos rfl, if_pos (by rw [E.len]; exact hi), if_pos hlen]
   ·rw [if_neg hii, if_neg (by omega)]
  ·rw [List.getElem_set_ne hjp, e2, if_neg]
   intro hc
   rcases Nat.lt_or_gt_of_ne hjp with hlt | hlt
   ·have := Nat.mul_le_mul_right E.n (show j + 1 ≤ p from hlt)
    rw [Nat.add_mul, Nat.one_mul] at this; omega
   ·have := Nat.mul_le_mul_right E.n (show p + 1 ≤ j from hlt)
    rw [Nat.add_mul, Nat.one_mul] at this; omega
 ·rw [List.getElem?_eq_none (by rw [E.f_len, List.length_set]; omega), List.getElem?_eq_none (by rw [E.f_len]; omega)]
  split <;> (try split) <;> first | rfl | (rename_i h1 h2; rw [E.f_len] at h2; omega)
theorem Own.put1 {α : Type} {E : Enc α} {T : TypeId} {w : World} {base g cap n j : Nat} {M : List α} (h : Own E T w base (.slice (some ⟨g, 0, none⟩) n cap) M) (hn : M.length = n) (hj : j < M.length) (i : Nat) (hi : i < E.n) (u : Value) (e : α) (he : E.c e = (E.c M[j]).set i u) :
  Own E T (w.setCell ⟨g, j * E.n + i, none⟩ u) base (.slice (some ⟨g, 0, none⟩) n cap) (M.set j e) := by
 unfold Own at h ⊢
 rw [List.length_set, hn, E.f_put M j i hj hi u e he]
 rw [hn] at h
 exact (World.ownsRow.stored h (j * E.n + i) u).1
theorem Own.same {α : Type} {E : Enc α} {T : TypeId} {w : World} {base j : Nat} {v : Value} {M : List α} {a b : α} (h : Own E T w base v (M.set j a)) (hj : j < M.length) (he : E.c a = E.c b) : Own E T w base v (M.set j b) := by
 unfold Own at h ⊢
 rw [E.f_set M j b hj, ← he, ← E.f_set M j a hj, List.length_set]
 rw [List.length_set] at h
 exact h
theorem TenM.onlyR {w w' : World} {b t v0 v1 : Nat} {x : Ten} {S : Nat → Prop} (h : TenM w b t v0 v1 x) (ho : Only S w w') (hs : ∀ k, b ≤ k → k < t → ¬ S k) : TenM w' b t v0 v1 x :=
 ⟨h.lo, h.mid, h.hi, ⟨h.vol.own.only ho (fun k hk => hs k (by have := (h.vol.own.lt k hk).1; have := h.lo; omega) (by have := h.vt k hk; have := h.hi; omega)), fun p hp => (h.vol.nms p hp).only ho (fun k hk => hs k (by have := ((h.vol.nms p hp).lt k hk).1; have := h.lo; omega) (by have := h.vn p hp k hk; have := h.hi; omega))⟩, h.vt, h.vn, h.aud.only ho (fun k hk => hs k (h.aud.lt k hk).1 (h.at' k hk).1), h.ses.only ho (fun k hk => hs k (h.ses.lt k hk).1 (h.st k hk).1), h.at', h.st⟩
/-- A state's memory: the i-th tenant's from b i to t i. -/
structure StM (w : World) (base : Nat) (v : Value) (L : List Ten) (b t v0 v1 : Nat → Nat) : Prop where
 own : Own tnE 28 w base v L
 ten : ∀ i (h : i < L.length), TenM w (b i) (t i) (v0 i) (v1 i) L[i]
 low : ∀ i, i < L.length → base ≤ b i
 top : ∀ i, i < L.length → t i ≤ w.heap.size
 dis : ∀ i j, i < L.length → j < L.length → i ≠ j → ∀ k, b i ≤ k → k < t i → ¬ (b j ≤ k ∧ k < t j)
 row : ∀ k, v.ownBlock = some k → ∀ i, i < L.length → ¬ (b i ≤ k ∧ k < t i)
theorem StM.kept {w w' : World} {base : Nat} {v : Value} {L : List Ten} {b t v0 v1 : Nat → Nat} (h : StM w base v L b t v0 v1) (hb : Below w.heap.size w w') : StM w' base v L b t v0 v1 :=
 ⟨h.own.kept hb, fun i hi => (h.ten i hi).kept hb, h.low, fun i hi => Nat.le_trans (h.top i hi) hb.size, h.dis, h.row⟩
theorem StM.rowAll {w : World} {base : Nat} {v : Value} {L : List Ten} {b t v0 v1 : Nat → Nat} (h : StM w base v L b t v0 v1) : StR w w.heap.size v L :=
 ⟨h.own.rowAll, fun x hx => by obtain ⟨i, hi, rfl⟩ := List.getElem_of_mem hx; exact (h.ten i hi).own.rowAll⟩
/-- The blocks of a state. -/
def StB (v : Value) (n : Nat) (b t : Nat → Nat) (k : Nat) : Prop := v.ownBlock = some k ∨ ∃ i, i < n ∧ b i ≤ k ∧ k < t i
set_option maxRecDepth 100000 in
set_option maxHeartbeats 16000000 in
theorem markTenantS_any (L : List Ten) (v : Value) (base : Nat) (b t v0 v1 : Nat → Nat) (q : Int) (w : World) (ho : StM w base v L b t v0 v1) (hg : ∀ x ∈ L, Gd x) (h1 : 1 ≤ q) (hq : ∀ i, i < L.length → 1 ≤ qAt q L i ∧ qAt q L i ≤ 900) :
  Calls Try.prog 19 #[v, .int .i64 q] w fun e w' => e = .returned (.int .i64 (qAt q L L.length)) ∧ StM w' base v (markUL q L L.length) b t v0 v1 ∧ Only (StB v L.length b t) w w' := by
 rcases ho.own.look with ⟨rfl, rfl⟩ | ⟨g, cap, rfl, hg1, hg2, hc1, hc2⟩
 ·go_enter Try.func19, Try.ntmps19
  go_wp2
  refine wp_loop_rounds 1 ?_
  rw [rounds_succ]
  go_wp2
  go_ret
  exact ⟨rfl, ho, Only.refl _ _⟩
 ·obtain ⟨n, hn⟩ : ∃ n, L.length = n := ⟨_, rfl⟩
  have HO := Hid.intro ho
  have HN := Hid.intro hn
  have HQ := Hid.intro hq
  have HG := Hid.intro hg
  have HROW : Hid (∀ i, i < n → ¬ (b i ≤ g ∧ g < t i)) := fun i hi => ho.row g rfl i (by omega)
  rw [hn] at hc1 HO ⊢
  clear ho hn hq hg
  go_enter Try.func19, Try.ntmps19
  go_wp2
  go_loopw [1, 5] (fun x i wr => ∃ (j : Nat), i = .int .i64 j ∧ x = .int .i64 (qAt q L j) ∧ j ≤ n ∧ Hid (StM wr base (.slice (some ⟨g, 0, none⟩) n cap) (markUL q L j) b t v0 v1) ∧ Hid (Only (StB (.slice (some ⟨g, 0, none⟩) n cap) n b t) w wr)) (fun _ i _ => n - (intOf i).toNat)
  case atStart => exact ⟨0, rfl, rfl, Nat.zero_le _, HO, Only.refl _ _⟩
  case round =>
   obtain ⟨j, rfl, rfl, hj, HR, hO⟩ := hrel
   by_cases hlt : j < n
   ·have hml : (markUL q L j).length = n := by rw [markUL_len]; exact HN.out
    have HML := Hid.intro hml
    have hjL : j < L.length := by have := HN.out; omega
    have hjM : j < (markUL q L j).length := by omega
    have hx0 : (markUL q L j)[j] = L[j] := markUL_late q L j j (Nat.le_refl _) hjM
    have hgd := HG.out L[j] (List.getElem_mem hjL)
    have htm := HR.out.ten j hjM
    rw [hx0] at htm
    have hqj := HQ.out j hjL
    have hnext : qAt q L (j + 1) = endU (qAt q L j) L[j] := by rw [qAt, getD_ten hjL]
    have hmset : markUL q L (j + 1) = (markUL q L j).set j (mkU (qAt q L j) L[j]) := by rw [markUL, getD_ten hjL]
    generalize hq0 : qAt q L j = q0 at hqj hnext hmset ⊢
    generalize hx : L[j] = x at hx0 hgd htm hnext hmset
    have hgw : g < wr.heap.size := (HR.out.own.lt g rfl).2
    have hcl : ∀ i (hi : i < 5), wr.cell? ⟨g, j * 5 + i, none⟩ = (tnE.c x)[i]? := fun i hi => by have := HR.out.own.at j hjM i hi; rw [hx0] at this; exact this
    have q0c : wr.cell? ⟨g, j * 5, none⟩ = some (.int .i64 x.nx) := hcl 0 (by omega)
    have q1c : wr.cell? ⟨g, j * 5 + 1, none⟩ = some (.slice x.ua x.L.length x.uc) := hcl 1 (by omega)
    have q2c : wr.cell? ⟨g, j * 5 + 2, none⟩ = some (.int .i64 x.tk) := hcl 2 (by omega)
    have q3c : wr.cell? ⟨g, j * 5 + 3, none⟩ = some (.slice x.aa x.A.length x.ac) := hcl 3 (by omega)
    have q4c : wr.cell? ⟨g, j * 5 + 4, none⟩ = some (.slice x.sa x.S.length x.sc) := hcl 4 (by omega)
    have fr : ∀ o, wr.frozen? ⟨g, o, none⟩ = false := HR.out.own.frozen hml
    have hkb := kqI_bd (q := q0 + 1) hgd.n x.L.length
    have hl24 := hgd.l
    have ha20 := hgd.a
    have hs3 := hgd.s
    have HK0 : Hid (endU q0 x = kqI (q0 + 1) x.L x.L.length + 1 + 5 * (x.A.length : Nat) + 5 * (x.S.length : Nat)) := rfl
    have HMU : Hid (mkU q0 x = ⟨q0, markNL (q0 + 1) x.L x.L.length, x.ua, x.uc, kqI (q0 + 1) x.L x.L.length, markTL (kqI (q0 + 1) x.L x.L.length + 1) x.A x.A.length, x.aa, x.ac, markSL (kqI (q0 + 1) x.L x.L.length + 1 + 5 * (x.A.length : Nat)) x.S x.S.length, x.sa, x.sc⟩) := rfl
    have hqa := hqj.1
    have hqb := hqj.2
    have hgb : ¬ (b j ≤ g ∧ g < t j) := HROW.out j hlt
    have HTM := Hid.intro htm
    have hlo := htm.lo
    have hmid := htm.mid
    have hhi := htm.hi
    have HGD := Hid.intro hgd
    have HOW : Hid (Own tnE 28 wr base (.slice (some ⟨g, 0, none⟩) n cap) (markUL q L j)) := HR.out.own
    have HX0 := Hid.intro hx0
    have HNX := Hid.intro hnext
    have HMS := Hid.intro hmset
    have htop := HR.out.top j hjM
    clear hml hq0 hx hcl hqj htm hgd hx0 hnext hmset
    obtain ⟨K, hK⟩ : ∃ K, kqI (q0 + 1) x.L x.L.length = K := ⟨_, rfl⟩
    rw [hK] at hkb HK0 HMU
    have HK := Hid.intro hK
    clear hK
    -- the first number
    obtain ⟨V1, hV1⟩ : ∃ V1, V1 = wr.setCell ⟨g, j * 5, none⟩ (.int .i64 q0) := ⟨_, rfl⟩
    have o1 : Only (fun k => k = g) wr V1 := by rw [hV1]; exact (Only.refl (fun k => k = g) wr).setCell (p := ⟨g, j * 5, none⟩) rfl _
    have HO1 : Hid (Own tnE 28 V1 base (.slice (some ⟨g, 0, none⟩) n cap) ((markUL q L j).set j ⟨q0, x.L, x.ua, x.uc, x.tk, x.A, x.aa, x.ac, x.S, x.sa, x.sc⟩)) := by
     unfold Hid; rw [hV1]
     have := HOW.out.put1 HML.out hjM 0 (by decide) (.int .i64 q0) ⟨q0, x.L, x.ua, x.uc, x.tk, x.A, x.aa, x.ac, x.S, x.sa, x.sc⟩ (by rw [HX0.out]; rfl)
     exact this
    have HT1 : Hid (TenM V1 (b j) (t j) (v0 j) (v1 j) x) := HTM.out.onlyR o1 (fun k h1 h2 e => hgb (by rw [← e]; exact ⟨h1, h2⟩))
    have r1 : V1.cell? ⟨g, j * 5 + 1, none⟩ = some (.slice x.ua x.L.length x.uc) := by rw [hV1]; simp [go_sem, q1c]
    have r2 : V1.cell? ⟨g, j * 5 + 2, none⟩ = some (.int .i64 x.tk) := by rw [hV1]; simp [go_sem, q2c]
    have r3 : V1.cell? ⟨g, j * 5 + 3, none⟩ = some (.slice x.aa x.A.length x.ac) := by rw [hV1]; simp [go_sem, q3c]
    have r4 : V1.cell? ⟨g, j * 5 + 4, none⟩ = some (.slice x.sa x.S.length x.sc) := by rw [hV1]; simp [go_sem, q4c]
    have fr1 : ∀ o, V1.frozen? ⟨g, o, none⟩ = false := fun o => by rw [hV1]; simp [fr]
    have z1 := o1.size
    have OB : Hid (Only (fun k => k = g ∨ (b j ≤ k ∧ k < t j)) wr V1) := o1.mono (fun k _ h => .inl h)
    have hgV1 : g < V1.heap.size := Nat.lt_of_lt_of_le hgw z1
    go_upto_region 6 with fail
    simp only [← hV1]
    clear hV1 q0c q1c q2c q3c q4c fr o1 HTM HOW
    go_wp2_with fail
    clear r1
    refine (markN_any x.L x.u (v0 j) (v1 j) (q0 + 1) V1 (by omega) HT1.out.vol HGD.out.inc HT1.out.vt HT1.out.vn HGD.out.l HGD.out.n (by omega) (by omega)).mono ?_
    rintro e w1 ⟨rfl, p1, n1⟩
    rw [HK.out]
    have z2 := n1.size
    have hgv : ¬ (v0 j ≤ g ∧ g < v1 j) := fun h => hgb ⟨by omega, by omega⟩
    replace r2 := (n1.cell (o := j * 5 + 2) hgV1 hgv).trans r2
    replace r3 := (n1.cell (o := j * 5 + 3) hgV1 hgv).trans r3
    replace r4 := (n1.cell (o := j * 5 + 4) hgV1 hgv).trans r4
    have fr2 : ∀ o, w1.frozen? ⟨g, o, none⟩ = false := fun o => (n1.frozen hgV1 hgv).trans (fr1 o)
    have HO2 := Hid.intro (HO1.out.only n1 (fun k hk h => by simp [Value.ownBlock] at hk; subst hk; exact hgv h))
    have HA2 : Hid (Own ntE 53 w1 (b j) x.va x.A) := HT1.out.aud.only n1 (fun k hk h => (HT1.out.at' k hk).2 ⟨h.1, h.2⟩)
    have HS2 : Hid (Own seE 59 w1 (b j) x.vs x.S) := HT1.out.ses.only n1 (fun k hk h => (HT1.out.st k hk).2 ⟨h.1, h.2⟩)
    replace OB : Hid (Only (fun k => k = g ∨ (b j ≤ k ∧ k < t j)) wr w1) := OB.out.trans (n1.mono (fun k _ h => .inr ⟨by omega, by omega⟩))
    have HV2 := Hid.intro p1
    have hgw1 : g < w1.heap.size := Nat.lt_of_lt_of_le hgV1 z2
    clear p1 n1 HO1 fr1
    -- the second number
    obtain ⟨V2, hV2⟩ : ∃ V2, V2 = w1.setCell ⟨g, j * 5 + 2, none⟩ (.int .i64 K) := ⟨_, rfl⟩
    have o2 : Only (fun k => k = g) w1 V2 := by rw [hV2]; exact (Only.refl (fun k => k = g) w1).setCell (p := ⟨g, j * 5 + 2, none⟩) rfl _
    have HO3 : Hid (Own tnE 28 V2 base (.slice (some ⟨g, 0, none⟩) n cap) ((markUL q L j).set j ⟨q0, x.L, x.ua, x.uc, K, x.A, x.aa, x.ac, x.S, x.sa, x.sc⟩)) := by
     unfold Hid; rw [hV2]
     have := HO2.out.put1 (by rw [List.length_set]; exact HML.out) (by rw [List.length_set]; exact hjM) 2 (by decide) (.int .i64 K) ⟨q0, x.L, x.ua, x.uc, K, x.A, x.aa, x.ac, x.S, x.sa, x.sc⟩ (by rw [List.getElem_set_self]; rfl)
     rw [List.set_set] at this
     exact this
    have s3 : V2.cell? ⟨g, j * 5 + 3, none⟩ = some (.slice x.aa x.A.length x.ac) := by rw [hV2]; simp [go_sem, r3]
    have s4 : V2.cell? ⟨g, j * 5 + 4, none⟩ = some (.slice x.sa x.S.length x.sc) := by rw [hV2]; simp [go_sem, r4]
    have fr3 : ∀ o, V2.frozen? ⟨g, o, none⟩ = false := fun o => by rw [hV2]; simp [fr2]
    have z3 := o2.size
    have hng : ∀ k, b j ≤ k → k < t j → ¬ k = g := fun k h1 h2 e => hgb (by rw [← e]; exact ⟨h1, h2⟩)
    have HV3 : Hid (VolO V2 (v0 j) x.u (markNL (q0 + 1) x.L x.L.length)) := HV2.out.at' o2 (fun k hk => hng k (by have := (HV2.out.own.lt k hk).1; omega) (by have := HT1.out.vt k hk; omega)) (fun p hp k hk => hng k (by have := ((HV2.out.nms p hp).lt k hk).1; omega) (by
     obtain ⟨i, hi, rfl⟩ := List.getElem_of_mem hp
     rw [markNL_v] at hk
     have := HT1.out.vn _ (List.getElem_mem (show i < x.L.length by rw [markNL_len] at hi; exact hi)) k hk
     omega))
    have HA3 : Hid (Own ntE 53 V2 (b j) x.va x.A) := HA2.out.only o2 (fun k hk => hng k (HA2.out.lt k hk).1 (HT1.out.at' k hk).1)
    have HS3 : Hid (Own seE 59 V2 (b j) x.vs x.S) := HS2.out.only o2 (fun k hk => hng k (HS2.out.lt k hk).1 (HT1.out.st k hk).1)
    replace OB : Hid (Only (fun k => k = g ∨ (b j ≤ k ∧ k < t j)) wr V2) := OB.out.trans (o2.mono (fun k _ h => .inl h))
    have hgV2 : g < V2.heap.size := Nat.lt_of_lt_of_le hgw1 z3
    go_upto_region 9 with fail
    simp only [← hV2]
    clear hV2 r2 r3 r4 fr2 o2 HO2 HV2 HA2 HS2
    go_wp2_with fail
    clear s3
    refine (markNoteS_any x.A x.va (b j) (K + 1) V2 (by omega) HA3.out (by omega) (by omega) (by omega)).mono ?_
    rintro e w2 ⟨rfl, p2, n2⟩
    have z4 := n2.size
    have hgn : ¬ some g = x.va.ownBlock := fun h => hng g (HA3.out.lt g h.symm).1 (HT1.out.at' g h.symm).1 rfl
    replace s4 := (n2.cell (o := j * 5 + 4) hgV2 hgn).trans s4
    have fr4 : ∀ o, w2.frozen? ⟨g, o, none⟩ = false := fun o => (n2.frozen hgV2 hgn).trans (fr3 o)
    have HO4 := Hid.intro (HO3.out.only n2 (fun k hk h => by simp [Value.ownBlock] at hk; subst hk; exact hgn h))
    have HV4 : Hid (VolO w2 (v0 j) x.u (markNL (q0 + 1) x.L x.L.length)) := HV3.out.at' n2 (fun k hk h => own_apart (T := 96) (U := 53) (by decide) HV3.out.own HA3.out hk h.symm) (fun p hp k hk h => own_apart (T := 130) (U := 53) (by decide) (HV3.out.nms p hp) HA3.out hk h.symm)
    have HS4 : Hid (Own seE 59 w2 (b j) x.vs x.S) := HS3.out.only n2 (fun k hk h => own_apart (T := 59) (U := 53) (by decide) HS3.out HA3.out hk h.symm)
    replace OB : Hid (Only (fun k => k = g ∨ (b j ≤ k ∧ k < t j)) wr w2) := OB.out.trans (n2.mono (fun k _ h => .inr ⟨(HA3.out.lt k h.symm).1, (HT1.out.at' k h.symm).1⟩))
    have HA4 := Hid.intro p2
    have hgw2 : g < w2.heap.size := Nat.lt_of_lt_of_le hgV2 z4
    clear p2 n2 HO3 HV3 HA3 HS3 fr3
    go_wp2_with fail
    clear s4
    refine (markSessionS_any x.S x.vs (b j) (K + 1 + 5 * (x.A.length : Nat)) w2 (by omega) HS4.out (by omega) (by omega) (by omega)).mono ?_
    rintro e w3 ⟨rfl, p3, n3⟩
    have hgs : ¬ some g = x.vs.ownBlock := fun h => hng g (HS4.out.lt g h.symm).1 (HT1.out.st g h.symm).1 rfl
    have HO5 : Hid (Own tnE 28 w3 base (.slice (some ⟨g, 0, none⟩) n cap) (markUL q L (j + 1))) := by
     have h := HO4.out.only n3 (fun k hk h => by simp [Value.ownBlock] at hk; subst hk; exact hgs h)
     unfold Hid
     rw [HMS.out]
     refine h.same hjM ?_
     rw [HMU.out]
     simp only [tnE, markNL_len, markTL_len, markSL_len]
    have HV5 : Hid (VolO w3 (v0 j) x.u (markNL (q0 + 1) x.L x.L.length)) := HV4.out.at' n3 (fun k hk h => own_apart (T := 96) (U := 59) (by decide) HV4.out.own HS4.out hk h.symm) (fun p hp k hk h => own_apart (T := 130) (U := 59) (by decide) (HV4.out.nms p hp) HS4.out hk h.symm)
    have HA5 : Hid (Own ntE 53 w3 (b j) x.va (markTL (K + 1) x.A x.A.length)) := HA4.out.only n3 (fun k hk h => own_apart (T := 53) (U := 59) (by decide) HA4.out HS4.out hk h.symm)
    replace OB : Hid (Only (fun k => k = g ∨ (b j ≤ k ∧ k < t j)) wr w3) := OB.out.trans (n3.mono (fun k _ h => .inr ⟨(HS4.out.lt k h.symm).1, (HT1.out.st k h.symm).1⟩))
    have hz3 := n3.size
    have HTJ : Hid (TenM w3 (b j) (t j) (v0 j) (v1 j) (mkU q0 x)) := by
     have e1 := mkU_u q0 x
     have e2 := mkU_va q0 x
     have e3 := mkU_vs q0 x
     refine ⟨hlo, hmid, hhi, ?_, ?_, ?_, ?_, ?_, ?_, ?_⟩
     ·rw [e1, HMU.out]; exact HV5.out
     ·rw [e1]; exact HT1.out.vt
     ·intro p hp k hk
      rw [HMU.out] at hp
      obtain ⟨i, hi, rfl⟩ := List.getElem_of_mem hp
      rw [markNL_v] at hk
      exact HT1.out.vn _ (List.getElem_mem (show i < x.L.length by rw [markNL_len] at hi; exact hi)) k hk
     ·rw [e2, HMU.out]; exact HA5.out
     ·rw [e3, HMU.out]; exact p3
     ·rw [e2]; exact HT1.out.at'
     ·rw [e3]; exact HT1.out.st
    have HST : Hid (StM w3 base (.slice (some ⟨g, 0, none⟩) n cap) (markUL q L (j + 1)) b t v0 v1) := by
     have hln : (markUL q L (j + 1)).length = (markUL q L j).length := by rw [markUL_len, markUL_len]
     have hsz := OB.out.size
     refine ⟨HO5.out, fun i hi => ?_, fun i hi => HR.out.low i (by omega), fun i hi => by have := HR.out.top i (by omega); omega, fun i i2 hi hi2 => HR.out.dis i i2 (by omega) (by omega), fun k hk i hi => HR.out.row k hk i (by omega)⟩
     by_cases hij : i = j
     ·subst hij
      have : (markUL q L (i + 1))[i] = mkU q0 x := by simp only [HMS.out, List.getElem_set_self]
      rw [this]
      exact HTJ.out
     ·have : (markUL q L (j + 1))[i] = (markUL q L j)[i]'(by omega) := by simp only [HMS.out]; rw [List.getElem_set_ne (by omega)]
      rw [this]
      refine (HR.out.ten i (by omega)).onlyR OB.out (fun k h1 h2 h3 => ?_)
      rcases h3 with h3 | h3
      ·subst h3
       have h4 := HML.out
       exact HROW.out i (by omega) ⟨h1, h2⟩
      ·exact HR.out.dis i j (by omega) hjM hij k h1 h2 h3
    have HOW : Hid (Only (StB (.slice (some ⟨g, 0, none⟩) n cap) n b t) w w3) := hO.out.trans (OB.out.mono (fun k _ h => by
     rcases h with h | h
     ·exact .inl (by rw [h]; rfl)
     ·exact .inr ⟨j, hlt, h⟩))
    clear n3 p3 HO4 HV4 HA4 HS4 HO5 HV5 HA5 OB HTJ fr4
    go_wp2
    go_roundw
    case rel => exact ⟨j + 1, by go_num, by rw [HNX.out, HK0.out], by omega, HST, HOW⟩
    case measure => simp [intOf]; omega
   ·obtain rfl : j = n := by omega
    go_wp2
    go_ret
    exact ⟨rfl, HR.out, hO.out⟩
end Go.Proofs.Ytegdogdlohoheaa
namespace Go.Proofs.Ytegdogdlohoheaa
open Go.RowKit
set_option linter.unusedVariables false
set_option maxRecDepth 100000 in
set_option maxHeartbeats 8000000 in
theorem heldTenantS_any (L P : List Ten) (v : Value) (N : Nat) (q : Int) (w : World) (hN : N ≤ w.heap.size) (hr : StR w N v P) (hP : P = markUL q L L.length) (hg : ∀ x ∈ L, Gd x) (hq : ∀ i, i < L.length → 1 ≤ qAt q L i ∧ qAt q L i ≤ 900) :
  Calls Try.prog 20 #[v, .int .i64 q] w fun e w' => e = .returned (.int .i64 (qAt q L P.length)) ∧ Below w.heap.size w w' := by
 obtain ⟨a, cap, rfl, lc, hm, hcells⟩ := tnE_cell hr.row
 have HC := Hid.intro hcells
 have HT := Hid.intro hr.ten
 have HG := Hid.intro hg
 have HQ := Hid.intro hq
 have hpl : P.length = L.length := by rw [hP, markUL_len]
 have HPL := Hid.intro hpl
 have HPE : Hid (∀ i (h : i < P.length) (h2 : i < L.length), P[i] = mkU (qAt q L i) L[i]) := fun i h h2 => by
  subst hP
  rw [markUL_get q L L.length i h2 h, getD_ten h2]
 clear hcells hr hg hq hP hpl
 go_enter Try.func20, Try.ntmps20
 go_wp2
 go_loopw [1, 5] (fun x i wr => ∃ (j : Nat), i = .int .i64 j ∧ x = .int .i64 (qAt q L j) ∧ j ≤ P.length ∧ Below w.heap.size w wr) (fun _ i _ => P.length - (intOf i).toNat)
 case atStart => exact ⟨0, rfl, rfl, Nat.zero_le _, Below.refl _ _⟩
 case round =>
  obtain ⟨j, rfl, rfl, hj, hbel⟩ := hrel
  by_cases hlt : j < P.length
  ·obtain ⟨bb, off, rfl, hbN, hcc⟩ := HC.out (by intro h; rw [h] at hlt; simp at hlt)
   have hjL : j < L.length := by have := HPL.out; omega
   have hd := (hcc j hlt).at hbel (by omega)
   have htr := (HT.out _ (List.getElem_mem hlt)).kept (hbel.mono hN)
   have hgd := HG.out L[j] (List.getElem_mem hjL)
   have hqj := HQ.out j hjL
   have hnext : qAt q L (j + 1) = endU (qAt q L j) L[j] := by rw [qAt, getD_ten hjL]
   rw [HPE.out j hlt hjL] at hd htr
   generalize hq0 : qAt q L j = q0 at hqj hnext hd htr ⊢
   generalize L[j] = x at hd htr hgd hnext
   have hkb := kqI_bd (q := q0 + 1) hgd.n x.L.length
   have hl24 := hgd.l
   have ha20 := hgd.a
   have hs3 := hgd.s
   have hvr := htr.vol
   have har := htr.aud
   have hsr := htr.ses
   rw [mkU_u] at hvr
   rw [mkU_va] at har
   rw [mkU_vs] at hsr
   obtain ⟨g0, g1, g2, g3, g4⟩ := hd
   simp only [mkU, markNL_len, markTL_len, markSL_len] at g0 g1 g2 g3 g4 hvr har hsr
   have HK0 : Hid (endU q0 x = kqI (q0 + 1) x.L x.L.length + 1 + 5 * (x.A.length : Nat) + 5 * (x.S.length : Nat)) := rfl
   have hqa := hqj.1
   have hqb := hqj.2
   have HNX := Hid.intro hnext
   have HGD := Hid.intro hgd
   have HV := Hid.intro hvr
   have HA := Hid.intro har
   have HS := Hid.intro hsr
   have HMK : Hid (∀ i (h : i < (markNL (q0 + 1) x.L x.L.length).length), (markNL (q0 + 1) x.L x.L.length)[i] = mkAt (q0 + 1) x.L i) := fun i h => markNL_get (q0 + 1) x.L x.L.length i (by rw [markNL_len] at h; exact h) h
   have HML : Hid ((markNL (q0 + 1) x.L x.L.length).length = x.L.length) := markNL_len _ _ _
   have i1 : (0 : Int) ≤ (j : Int) ∧ (j : Int) < (P.length : Int) := by omega
   have i2 : (j : Int) < (P.length : Int) := by omega
   have hs := hbel.size
   clear hq0 hnext hqj htr hgd hvr har hsr hcc
   obtain ⟨K, hK⟩ : ∃ K, kqI (q0 + 1) x.L x.L.length = K := ⟨_, rfl⟩
   rw [hK] at g2 HA HS HK0 hkb
   have HK := Hid.intro hK
   clear hK
   have HW2 : Hid (∀ w', Below wr.heap.size wr w' → TnC w' bb (off + j * 5) ⟨q0, x.L, x.ua, x.uc, K, x.A, x.aa, x.ac, x.S, x.sa, x.sc⟩) := fun w' hb => TnC.at (B := wr.heap.size) ⟨g0, g1, g2, g3, g4⟩ hb (by omega)
   go_wp2_with fail
   clear g0 g1 g2 g3 g4
   refine (heldN_any (markNL (q0 + 1) x.L x.L.length) x.L x.u N (q0 + 1) wr (by omega) HV.out HMK.out (by rw [HML.out]; exact HGD.out.l) HGD.out.n (by omega) (by omega)).mono ?_
   rintro e w1 ⟨rfl, b1⟩
   rw [HML.out, HK.out]
   have hK0 : ¬ K < 0 := by omega
   obtain ⟨g0, g1, g2, g3, g4⟩ := HW2.out w1 b1
   simp only at g0 g1 g2 g3 g4
   go_wp2_with fail
   clear g0 g1 g2 g3 g4
   refine (heldNoteS_any _ x.va N (K + 1) w1 (by have := b1.size; omega) (HA.out.kept (b1.mono (by omega))) (fun i h => markTL_get (K + 1) x.A x.A.length i (by rw [markTL_len] at h; exact h) h) (by rw [markTL_len]; omega) (by omega) (by omega)).mono ?_
   rintro e w2 ⟨rfl, b2⟩
   rw [markTL_len]
   have B2 : Below wr.heap.size wr w2 := b1.trans (b2.mono b1.size)
   have hK1 : ¬ K + 1 + 5 * (x.A.length : Nat) < 0 := by omega
   obtain ⟨g0, g1, g2, g3, g4⟩ := HW2.out w2 B2
   simp only at g0 g1 g2 g3 g4
   clear b1 b2
   go_wp2_with fail
   clear g0 g1 g2 g3 g4
   refine (heldSessionS_any _ x.vs N (K + 1 + 5 * (x.A.length : Nat)) w2 (by have := B2.size; omega) (HS.out.kept (B2.mono (by omega))) (fun i h => markSL_get (K + 1 + 5 * (x.A.length : Nat)) x.S x.S.length i (by rw [markSL_len] at h; exact h) h) (by rw [markSL_len]; omega) (by omega) (by omega)).mono ?_
   rintro e w3 ⟨rfl, b3⟩
   rw [markSL_len]
   have HB3 : Hid (Below w.heap.size w w3) := hbel.trans ((B2.trans (b3.mono B2.size)).mono hs)
   have hK2 : ¬ K + 1 + 5 * (x.A.length : Nat) + 5 * (x.S.length : Nat) < 0 := by omega
   clear b3 B2 HW2
   go_wp2
   go_roundw
   case rel => exact ⟨j + 1, by go_num, by rw [HNX.out, HK0.out], by omega, HB3.out⟩
   case measure => simp [intOf]; omega
  ·obtain rfl : j = P.length := by omega
   go_wp2
   go_ret
   exact ⟨rfl, hbel⟩
end Go.Proofs.Ytegdogdlohoheaa
