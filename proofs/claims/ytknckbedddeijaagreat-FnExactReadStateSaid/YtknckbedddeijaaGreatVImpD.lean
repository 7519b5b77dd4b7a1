/- used, over, full: how much is below a directory. -/
import Derived.Test.YtknckbedddeijaaGreatVImpC
namespace Go.Proofs.YtknckbedddeijaaGreat
open Go.RowKit
set_option linter.unusedVariables false
theorem usB_set {L : List Nd} : ∀ {v : List Bool} {x : Nat}, L.length = v.length → (hx : x < L.length) → ¬ isT v x → usB L (v.set x true) = usB L v + L[x].data.size := by
 induction L with
 | nil => intro v x _ hx; simp at hx
 | cons n L ih =>
  intro v x hl hx hn
  cases v with
  | nil => simp at hl
  | cons a v =>
   cases x with
   | zero =>
    have ha : a = false := by
     cases a with
     | false => rfl
     | true => exact absurd rfl hn
    subst ha
    simp [usB]; omega
   | succ x =>
    have h1 := ih (v := v) (x := x) (by simpa using hl) (by simpa using hx) (by simpa [isT] using hn)
    simp only [usB, List.set_cons_succ, List.zip_cons_cons, List.map_cons, List.sum_cons, List.getElem_cons_succ] at h1 ⊢
    rw [h1]; omega
theorem usB_le {L : List Nd} (k : Nat) : ∀ {v : List Bool}, (∀ n ∈ L, n.data.size ≤ k) → 0 ≤ usB L v ∧ usB L v ≤ L.length * (k : Int) := by
 induction L with
 | nil => intro v _; simp [usB]
 | cons n L ih =>
  intro v h
  cases v with
  | nil =>
   have : usB (n :: L) [] = 0 := by simp [usB]
   rw [this]
   exact ⟨Int.le_refl _, Int.mul_nonneg (by omega) (by omega)⟩
  | cons a v =>
   have h1 := ih (v := v) fun m hm => h m (List.mem_cons_of_mem _ hm)
   have h2 := h n (by simp)
   have e : ((L.length + 1 : Nat) : Int) * (k : Int) = L.length * (k : Int) + k := by rw [Int.natCast_add, Int.add_mul]; simp
   have e2 : usB (n :: L) (a :: v) = (if a = true then (n.data.size : Int) else 0) + usB L v := by simp [usB]
   rw [e2, List.length_cons, e]
   split <;> omega
theorem usB_zero (L : List Nd) : usB L (List.replicate L.length false) = 0 := by
 induction L with
 | nil => simp [usB]
 | cons n L ih =>
  simp only [usB, List.length_cons, List.replicate_succ, List.zip_cons_cons, List.map_cons, List.sum_cons] at ih ⊢
  rw [ih]; simp
set_option maxRecDepth 100000 in
set_option maxHeartbeats 4000000 in
theorem used_any (L : List Np) (tb b off N : Nat) (hI : IdsD (L.map Np.n)) (hLd : Leads L) (hn : L.length ≤ 24) (h64 : ∀ p ∈ L, p.n.data.size ≤ 64) (i : Nat) (hi : i < L.length) (w : World) (h : TC w tb b off N L) :
  Calls Tryz.prog 95 #[.map (some tb), ptrJ b off i] w fun e w' => e = .returned (.tuple #[.int .i64 (usB (L.map Np.n) (belowB (L.map Np.n) i)), .int .i64 (usI (belowB (L.map Np.n) i))]) ∧ Below w.heap.size w w' := by
 have HT := Hid.intro h
 have HI := Hid.intro hI
 have H64 : Hid (∀ n ∈ L.map Np.n, n.data.size ≤ 64) := fun n hn => by
  obtain ⟨p, hp, rfl⟩ := List.mem_map.1 hn
  exact h64 p hp
 have htl := h.lt
 have hbN := h.bN
 have hNT := h.NT
 go_enter Tryz.func95, Tryz.ntmps95
 go_upto_region 2 with (go_at_call 94; refine (below_any L tb b off N hI hLd hn i hi w h).mono ?_; rintro e w1 ⟨mb, rfl, hmb, hM, b1⟩; have HM := Hid.intro hM; have HB1 := Hid.intro b1; clear hM b1)
 have hsl : (belowB (L.map Np.n) i).length = L.length := by rw [belowB_len]; simp
 obtain ⟨s, hs⟩ : ∃ s, belowB (L.map Np.n) i = s := ⟨_, rfl⟩
 rw [hs] at HM hsl
 have HSS := Hid.intro hs
 obtain ⟨LN, hLN⟩ : ∃ LN, L.map Np.n = LN := ⟨_, rfl⟩
 rw [hLN] at HM HI H64
 have HLN := Hid.intro hLN
 have HSS' : Hid (belowB LN i = s) := by unfold Hid; rw [← hLN]; exact HSS.out
 have HLEN : Hid (LN.length = L.length) := by unfold Hid; rw [← hLN]; simp
 have hml := HM.out.lt
 have HA := Hid.intro (HT.out.kept HB1.out htl).at_
 have hz1 := HB1.out.size
 clear hs hLN hLd hI h HT h64
 go_wp2_with (at_range; refine wpList_range_tree rfl _ rfl HI.out rfl HM.out ?_; intro w2 hTR hB2 hz2; have HTR := Hid.intro hTR; have HB2 := Hid.intro hB2; clear hTR hB2)
 go_frame
 go_loopw [7] (fun q wr => ∃ (x : Int) (v : List Bool) (cnt : Nat), q = .int .i64 x ∧ Hid (x = usB LN v) ∧ Hid (v.length = LN.length) ∧ Hid (∀ y, isT v y → isT s y) ∧ Hid (TR wr mb w1.heap.size b off LN s v (s.count true) cnt) ∧ Hid (Below w1.heap.size w1 wr)) (fun _ wr => wr.rangeLeft mb w1.heap.size)
 case atStart =>
  exact ⟨0, List.replicate LN.length false, _, rfl, (usB_zero LN).symm, by unfold Hid; simp, fun y hy => by unfold isT at hy; rw [List.getElem?_replicate] at hy; split at hy <;> simp at hy, HTR, HB2⟩
 case round =>
  obtain ⟨x, v, cnt, rfl, HX, HV, HS, HR, HB⟩ := hrel
  have hx := usB_le 64 (v := v) H64.out
  rw [← HX.out, HLEN.out] at hx
  have hx0 := hx.1
  have hx1 := hx.2
  clear hx
  go_wp2_with (at_next; refine wpList_next_tree rfl _ rfl HI.out HV.out rfl HR.out ?_ ?_)
  ·intro hall
   have hvs : v = s := Sub.anti ⟨by rw [HV.out, hsl, HLEN.out], HS.out⟩ ⟨by rw [HV.out, hsl, HLEN.out], fun y hy => hall y (by rw [HLEN.out, ← hsl]; exact (List.getElem?_eq_some_iff.1 hy).1) hy⟩
   have HXS : Hid (x = usB LN s) := by unfold Hid; rw [HX.out, hvs]
   have hl := HR.out.tm.len
   have HBE := Hid.intro (HB1.out.trans (HB.out.mono hz1))
   clear hall hvs HV HS HX
   go_wp2_with fail
   go_ret2
   exact ⟨by rw [HLN.out, HSS'.out, ← HXS.out]; rfl, HBE.out⟩
  ·intro y hy w3 cnt3 hsy hny hTR hlt hO hsz hen
   have hyl : y < L.length := by rw [← HLEN.out]; exact hy
   have hb3 : Below w1.heap.size w1 w3 := HB.out.trans (hO.below HB.out.size (fun k hk e => by omega))
   have hc := (HA.out y hyl).kept hb3 (by omega)
   have hLy : LN[y] = L[y].n := by
    have := map_get hyl
    rw [HLN.out, List.getElem?_eq_getElem hy] at this
    exact Option.some.inj this
   have hus := usB_set (v := v) HV.out.symm hy hny
   have h64y := H64.out _ (List.getElem_mem hy)
   rw [hLy] at hus hen h64y ⊢
   generalize L[y] = p at hc hus hen h64y
   have g5 := hc.c5
   have HUS := Hid.intro hus
   have HR3 := Hid.intro hTR
   have HB3 := Hid.intro hb3
   have HV3 : Hid ((v.set y true).length = LN.length) := by unfold Hid; rw [List.length_set]; exact HV.out
   have HS3 : Hid (∀ z, isT (v.set y true) z → isT s z) := fun z hz => by
    rcases isT_set.1 hz with ⟨rfl, _⟩ | hz
    ·exact hsy
    ·exact HS.out z hz
   have HLT : Hid (w3.rangeLeft mb w1.heap.size < wr.rangeLeft mb w1.heap.size) := by unfold Hid; rw [hTR.left, HR.out.left]; exact hlt
   clear hus hTR hb3 hO hsz hc hny hsy hlt hLy
   go_wp2_with fail
   go_roundw
   case rel => exact ⟨x + p.n.data.size, v.set y true, cnt3, by go_num, by unfold Hid; rw [HUS.out, HX.out], HV3, HS3, HR3, HB3⟩
   case measure => exact HLT.out
end Go.Proofs.YtknckbedddeijaaGreat
