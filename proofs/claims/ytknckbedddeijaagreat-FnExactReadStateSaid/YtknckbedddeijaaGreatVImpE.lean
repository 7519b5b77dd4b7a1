/- over: is a directory over? -/
import Derived.Test.YtknckbedddeijaaGreatVImpD
namespace Go.Proofs.YtknckbedddeijaaGreat
open Go.RowKit
set_option linter.unusedVariables false
/-- More than it may have is below the inode at place i. -/
def ovI (L : List Nd) (i : Nat) (n : Nd) : Bool := (decide (0 < n.maxb) && decide (n.maxb < usB L (belowB L i))) || (decide (0 < n.maxi) && decide (n.maxi < usI (belowB L i)))
set_option maxRecDepth 100000 in
set_option maxHeartbeats 4000000 in
theorem over_any (L : List Np) (tb b off N : Nat) (hI : IdsD (L.map Np.n)) (hLd : Leads L) (hn : L.length ≤ 24) (h64 : ∀ p ∈ L, p.n.data.size ≤ 64) (i : Nat) (hi : i < L.length) (w : World) (h : TC w tb b off N L) :
  Calls Tryz.prog 96 #[.map (some tb), ptrJ b off i] w fun e w' => e = .returned (.bool (ovI (L.map Np.n) i L[i].n)) ∧ Below w.heap.size w w' := by
 have hc := h.at_ i hi
 have hus := used_any L tb b off N hI hLd hn h64 i hi w h
 generalize L[i] = p at hc
 have g7 := hc.c7
 have g8 := hc.c8
 have hbl : b < w.heap.size := by have := h.bN; have := h.NT; have := h.lt; omega
 have HOV : Hid (ovI (L.map Np.n) i p.n = ((decide (0 < p.n.maxb) && decide (p.n.maxb < usB (L.map Np.n) (belowB (L.map Np.n) i))) || (decide (0 < p.n.maxi) && decide (p.n.maxi < usI (belowB (L.map Np.n) i))))) := rfl
 have HUS := Hid.intro hus
 have HC := Hid.intro hc
 clear hus hI hLd h64 h hc
 by_cases hz : p.n.maxb = 0 ∧ p.n.maxi = 0
 ·have q1 : (p.n.maxb == 0) = true := by simp [hz.1]
  have q2 : (p.n.maxi == 0) = true := by simp [hz.2]
  have HE : Hid (ovI (L.map Np.n) i p.n = false) := by unfold Hid; rw [HOV.out, hz.1, hz.2]; simp
  clear hz
  go_enter Tryz.func96, Tryz.ntmps96
  go_wp2_with fail
  go_ret
  exact ⟨ret_bool HE.out.symm, Below.refl _ _⟩
 ·have hq : ((p.n.maxb == 0) = false) ∨ ((p.n.maxb == 0) = true ∧ (p.n.maxi == 0) = false) := by
   by_cases h0 : p.n.maxb = 0
   ·exact .inr ⟨by simp [h0], by have : ¬ p.n.maxi = 0 := fun h => hz ⟨h0, h⟩; simpa using this⟩
   ·exact .inl (by simpa using h0)
  clear hz
  rcases hq with q1 | ⟨q1, q2⟩
  all_goals
   go_enter Tryz.func96, Tryz.ntmps96
   go_wp2_with fail
   refine HUS.out.mono ?_
   rintro e w2 ⟨rfl, b2⟩
   obtain ⟨-, -, -, -, -, -, -, k7, k8⟩ := HC.out.kept b2 hbl
   generalize usB (L.map Np.n) (belowB (L.map Np.n) i) = ub at HOV
   generalize usI (belowB (L.map Np.n) i) = ui at HOV
   have HB2 := Hid.intro b2
   clear b2 g7 g8
   by_cases p1 : 0 < p.n.maxb
   ·by_cases p2 : p.n.maxb < ub
    ·go_wp2_with fail
     go_ret
     exact ⟨ret_bool (by rw [HOV.out, Bool.eq_iff_iff]; simp <;> omega), HB2.out⟩
    ·by_cases p3 : 0 < p.n.maxi
     ·by_cases p4 : p.n.maxi < ui
      ·go_wp2_with fail
       go_ret
       exact ⟨ret_bool (by rw [HOV.out, Bool.eq_iff_iff]; simp <;> omega), HB2.out⟩
      ·go_wp2_with fail
       go_ret
       exact ⟨ret_bool (by rw [HOV.out, Bool.eq_iff_iff]; simp <;> omega), HB2.out⟩
     ·go_wp2_with fail
      go_ret
      exact ⟨ret_bool (by rw [HOV.out, Bool.eq_iff_iff]; simp <;> omega), HB2.out⟩
   ·by_cases p3 : 0 < p.n.maxi
    ·by_cases p4 : p.n.maxi < ui
     ·go_wp2_with fail
      go_ret
      exact ⟨ret_bool (by rw [HOV.out, Bool.eq_iff_iff]; simp <;> omega), HB2.out⟩
     ·go_wp2_with fail
      go_ret
      exact ⟨ret_bool (by rw [HOV.out, Bool.eq_iff_iff]; simp <;> omega), HB2.out⟩
    ·go_wp2_with fail
     go_ret
     exact ⟨ret_bool (by rw [HOV.out, Bool.eq_iff_iff]; simp <;> omega), HB2.out⟩
/-- Is one over, or are there too many bytes? -/
def fullB (L : List Nd) : Bool := (List.range L.length).any (fun i => (L[i]?.map fun n => decide (n.kind = 2) && ovI L i n).getD false) || decide (400 < usB L (belowB L 0))
def ovA (L : List Nd) (i : Nat) : Bool := (L[i]?.map fun n => decide (n.kind = 2) && ovI L i n).getD false
theorem ovA_at {L : List Np} {i : Nat} (h : i < L.length) : ovA (L.map Np.n) i = (decide (L[i].n.kind = 2) && ovI (L.map Np.n) i L[i].n) := by
 unfold ovA
 rw [map_get h]
 rfl
theorem fullB_yes {L : List Nd} {i : Nat} (h : i < L.length) (ho : ovA L i = true) : fullB L = true := by
 have : (List.range L.length).any (ovA L) = true := List.any_eq_true.2 ⟨i, List.mem_range.2 h, ho⟩
 show ((List.range L.length).any (ovA L) || _) = true
 rw [this]
 rfl
theorem fullB_no {L : List Nd} (h : ∀ i, i < L.length → ovA L i = false) : fullB L = decide (400 < usB L (belowB L 0)) := by
 have : (List.range L.length).any (ovA L) = false := List.any_eq_false.2 fun i hi => by rw [h i (List.mem_range.1 hi)]; simp
 show ((List.range L.length).any (ovA L) || _) = _
 rw [this]
 rfl
theorem count_allT (L : List Nd) : (allT L).count true = L.length := by simp [allT]
theorem TC.mapT {w : World} {tb b off N : Nat} {L : List Np} (h : TC w tb b off N L) : TM w tb b off (FS (L.map Np.n) (allT (L.map Np.n))) L.length ((allT (L.map Np.n)).count true) := by
 have := h.map
 rw [count_allT]
 simpa using this
def hvB (L : List Nd) : Bool := decide (400 < usB L (belowB L 0))
def anyB (L : List Nd) : Bool := (List.range L.length).any (ovA L)
theorem fullB_two (L : List Nd) : fullB L = (anyB L || hvB L) := rfl
theorem anyB_yes {L : List Nd} {i : Nat} (h : i < L.length) (ho : ovA L i = true) : anyB L = true := List.any_eq_true.2 ⟨i, List.mem_range.2 h, ho⟩
theorem anyB_no {L : List Nd} (h : ∀ i, i < L.length → ovA L i = false) : anyB L = false := List.any_eq_false.2 fun i hi => by rw [h i (List.mem_range.1 hi)]; simp
set_option maxRecDepth 100000 in
set_option maxHeartbeats 4000000 in
theorem heavy_any (L : List Np) (tb b off N : Nat) (hI : IdsD (L.map Np.n)) (hLd : Leads L) (hn : L.length ≤ 24) (h64 : ∀ p ∈ L, p.n.data.size ≤ 64) (h0 : 0 < L.length) (h1 : L[0].n.id = 1) (w : World) (h : TC w tb b off N L) :
  Calls Tryz.prog 82 #[.map (some tb)] w fun e w' => e = .returned (.bool (hvB (L.map Np.n))) ∧ Below w.heap.size w w' := by
 have hat1 : atN (L.map Np.n) 1 = some 0 := by
  have := hI.at_ 0 (by simpa using h0)
  rw [List.getElem_map, h1] at this
  exact this
 have hlk := h.look (id := 1) (by decide)
 rw [hat1] at hlk
 simp only [ptrO] at hlk
 have HUS := Hid.intro (used_any L tb b off N hI hLd hn h64 0 h0 w h)
 clear hI hLd h64 h hat1 h1
 go_enter Tryz.func82, Tryz.ntmps82
 go_wp2_with fail
 refine HUS.out.mono ?_
 rintro e w5 ⟨rfl, b5⟩
 have HBE := Hid.intro b5
 clear b5 hlk
 go_wp2_with fail
 go_ret
 exact ⟨ret_bool rfl, HBE.out⟩
set_option maxRecDepth 100000 in
set_option maxHeartbeats 4000000 in
theorem anyOver_any (L : List Np) (tb b off N : Nat) (hI : IdsD (L.map Np.n)) (hLd : Leads L) (hn : L.length ≤ 24) (h64 : ∀ p ∈ L, p.n.data.size ≤ 64) (h0 : 0 < L.length) (h1 : L[0].n.id = 1) (w : World) (h : TC w tb b off N L) :
  Calls Tryz.prog 83 #[.map (some tb)] w fun e w' => e = .returned (.bool (anyB (L.map Np.n))) ∧ Below w.heap.size w w' := by
 have hat1 : atN (L.map Np.n) 1 = some 0 := by
  have := hI.at_ 0 (by simpa using h0)
  rw [List.getElem_map, h1] at this
  exact this
 have HT := Hid.intro h
 have HI := Hid.intro hI
 have HM := Hid.intro h.mapT
 have htl := h.lt
 have hbN := h.bN
 have hNT := h.NT
 have HOV : Hid (∀ (i : Nat) (hi : i < L.length) (y : World), TC y tb b off N L → Calls Tryz.prog 96 #[.map (some tb), ptrJ b off i] y fun e w' => e = .returned (.bool (ovI (L.map Np.n) i L[i].n)) ∧ Below y.heap.size y w') := fun i hi y hy => over_any L tb b off N hI hLd hn h64 i hi y hy
 have HUS : Hid (∀ y : World, TC y tb b off N L → Calls Tryz.prog 95 #[.map (some tb), ptrJ b off 0] y fun e w' => e = .returned (.tuple #[.int .i64 (usB (L.map Np.n) (belowB (L.map Np.n) 0)), .int .i64 (usI (belowB (L.map Np.n) 0))]) ∧ Below y.heap.size y w') := fun y hy => used_any L tb b off N hI hLd hn h64 0 h0 y hy
 have HA1 := Hid.intro hat1
 obtain ⟨LN, hLN⟩ : ∃ LN, L.map Np.n = LN := ⟨_, rfl⟩
 rw [hLN] at HM HI HUS HOV HA1 ⊢
 have HLN := Hid.intro hLN
 have HLEN : Hid (LN.length = L.length) := by unfold Hid; rw [← hLN]; simp
 clear hI hLd h64 h hat1 h1 hLN
 go_enter Tryz.func83, Tryz.ntmps83
 go_wp2_with (at_range; refine wpList_range_tree rfl _ rfl HI.out rfl HM.out ?_; intro w2 hTR hB2 hz2; have HTR := Hid.intro hTR; have HB2 := Hid.intro hB2; clear hTR hB2)
 go_frame
 go_loopw [4] (fun _ wr => ∃ (v : List Bool) (cnt : Nat), Hid (v.length = LN.length) ∧ Hid (∀ y, y < LN.length → isT v y → ovA LN y = false) ∧ Hid (TR wr tb w.heap.size b off LN (allT LN) v L.length cnt) ∧ Hid (Below w.heap.size w wr)) (fun _ wr => wr.rangeLeft tb w.heap.size)
 case atStart =>
  exact ⟨List.replicate LN.length false, _, by unfold Hid; simp, fun y _ hy => by unfold isT at hy; rw [List.getElem?_replicate] at hy; split at hy <;> simp at hy, HTR, HB2⟩
 case round =>
  obtain ⟨v, cnt, HV, HS, HR, HB⟩ := hrel
  go_wp2_with (at_next; refine wpList_next_tree rfl _ rfl HI.out HV.out rfl HR.out ?_ ?_)
  ·intro hall
   have HFB : Hid (anyB LN = false) := anyB_no fun y hy => HS.out y hy (hall y hy (isT_all.2 hy))
   clear hall
   go_wp2_with fail
   go_ret
   exact ⟨ret_bool HFB.out.symm, HB.out⟩
  ·intro y hy w3 cnt3 hsy hny hTR hlt hO hsz hen
   have hyl : y < L.length := by rw [← HLEN.out]; exact hy
   have hb3 : Below w.heap.size w w3 := HB.out.trans (hO.below HB.out.size (fun k hk e => by omega))
   have htc := HT.out.kept hb3 htl
   have hc := htc.at_ y hyl
   have hLy : LN[y] = L[y].n := by
    have := map_get hyl
    rw [HLN.out, List.getElem?_eq_getElem hy] at this
    exact Option.some.inj this
   have hoa : ovA LN y = (decide (L[y].n.kind = 2) && ovI LN y L[y].n) := by
    have := ovA_at hyl
    rw [HLN.out] at this
    exact this
   have hov := HOV.out y hyl w3 htc
   rw [hLy] at hen ⊢
   generalize L[y] = p at hc hen hoa hov
   have g1 := hc.c1
   have HR3 := Hid.intro hTR
   have HB3 := Hid.intro hb3
   have hz3 := hb3.size
   have HV3 : Hid ((v.set y true).length = LN.length) := by unfold Hid; rw [List.length_set]; exact HV.out
   have HS3 : Hid (ovA LN y = false → ∀ z, z < LN.length → isT (v.set y true) z → ovA LN z = false) := fun h z hz hz2 => by
    rcases isT_set.1 hz2 with ⟨rfl, _⟩ | hz2
    ·exact h
    ·exact HS.out z hz hz2
   have HLT : Hid (cnt3 < wr.rangeLeft tb w.heap.size) := by unfold Hid; rw [HR.out.left]; exact hlt
   have HYL := Hid.intro hy
   have HOA := Hid.intro hoa
   have HOO := Hid.intro hov
   have hit := hTR.iter
   have hit1 := hit.1
   have hit2 := hit.2
   clear hTR hb3 hO hsz hc hny hsy hlt hLy htc hoa hov hit
   by_cases hk : p.n.kind = 2
   ·have k2 : (p.n.kind == 2) = true := by simpa using hk
    have HK := Hid.intro hk
    clear hk
    go_wp2_with fail
    refine HOO.out.mono ?_
    rintro e w5 ⟨rfl, b5⟩
    have HB5 := Hid.intro (HB3.out.trans (b5.mono hz3))
    have HR5 := Hid.intro (HR3.out.kept (b5.block tb (by omega)) (b5.block w.heap.size (by omega)))
    clear b5 g1
    cases ho : ovI LN y p.n with
    | true =>
     have HFF : Hid (anyB LN = true) := anyB_yes HYL.out (by rw [HOA.out, ho, HK.out]; rfl)
     go_wp2_with fail
     go_ret
     exact ⟨ret_bool HFF.out.symm, HB5.out⟩
    | false =>
     have HS4 := Hid.intro (HS3.out (by rw [HOA.out, ho]; simp))
     go_wp2_with fail
     go_roundw
     case rel => exact ⟨v.set y true, cnt3, HV3, HS4, HR5, HB5⟩
     case measure => rw [HR5.out.left]; exact HLT.out
   ·have k2 : (p.n.kind == 2) = false := by simpa using hk
    have HS4 := Hid.intro (HS3.out (by rw [HOA.out, decide_eq_false hk]; rfl))
    clear hk
    go_wp2_with fail
    go_roundw
    case rel => exact ⟨v.set y true, cnt3, HV3, HS4, HR3, HB3⟩
    case measure => rw [HR3.out.left]; exact HLT.out
end Go.Proofs.YtknckbedddeijaaGreat
