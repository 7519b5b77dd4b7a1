/- Parent, on both sides. -/
import Derived.Test.YtmkegmndcbpblaaGreatDoorVUse
namespace Go.Proofs.YtmkegmndcbpblaaGreatDoor
open Go.RowKit Go.Maps
set_option linter.unusedVariables false
def hasE (l : List Di) (id : Int) : Bool := l.any fun e => decide (e.id = id)
def parX (L : List Nd) (id : Int) : Option Nat := L.findIdx? fun n => hasE n.names id
def parI (L : List Nd) (id : Int) : Int := match parX L id with | some x => (L[x]?.map Nd.id).getD 1 | none => 1
def parentI (next : Int) (L : List Nd) (id : Int) : Int := if volB next L = true then (if (dirO L id).isSome = true then parI L id else 0) else 0
theorem parX_hit {L : List Np} {id : Int} {j : Nat} (hj : j < L.length) (h : ∀ p ∈ L.take j, hasE p.n.names id = false) (he : hasE L[j].n.names id = true) : parX (L.map Np.n) id = some j := by
 unfold parX
 rw [List.findIdx?_eq_some_iff_getElem]
 refine ⟨by simpa using hj, by simpa using he, fun i hi => ?_⟩
 have := h (L[i]'(by omega)) (by rw [List.mem_take_iff_getElem]; exact ⟨i, by omega, rfl⟩)
 simpa using this
theorem parX_miss {L : List Np} {id : Int} (h : ∀ p ∈ L, hasE p.n.names id = false) : parX (L.map Np.n) id = none := by
 unfold parX
 rw [List.findIdx?_eq_none_iff]
 intro n hn
 obtain ⟨p, hp, rfl⟩ := List.mem_map.1 hn
 exact h p hp
theorem parI_hit {L : List Np} {id : Int} {j : Nat} (hj : j < L.length) (h : parX (L.map Np.n) id = some j) : parI (L.map Np.n) id = L[j].n.id := by
 unfold parI
 rw [h]
 simp only
 rw [map_get hj]
 rfl
theorem parI_miss {L : List Nd} {id : Int} (h : parX L id = none) : parI L id = 1 := by
 unfold parI
 rw [h]
theorem hasE_step {nn : List Di} {j : Nat} {id : Int} (hj : j < nn.length) (h : hasE (nn.take j) id = false) (he : ¬ nn[j].id = id) : hasE (nn.take (j + 1)) id = false := by
 unfold hasE at h ⊢
 rw [List.take_succ_eq_append_getElem hj, List.any_append, h]
 simp [he]
theorem hasE_yes {nn : List Di} {j : Nat} {id : Int} (hj : j < nn.length) (he : nn[j].id = id) : hasE nn id = true := by
 unfold hasE
 rw [List.any_eq_true]
 exact ⟨_, List.getElem_mem hj, by simp [he]⟩
set_option maxRecDepth 100000 in
set_option maxHeartbeats 4000000 in
theorem l4Parent_any (next : Int) (L : List Np) (u : Value) (N : Nat) (id : Int) (w : World) (hN : N ≤ w.heap.size) (hr : VolR w N u L) :
  Calls Tryz.prog 36 #[volV next u, .int .i64 id] w fun e w' => e = .returned (.int .i64 (parI (L.map Np.n) id)) ∧ Below w.heap.size w w' := by
 obtain ⟨a, cap, rfl, hl, hm, hcells⟩ := ndE_cell hr.row
 have HC := Hid.intro hcells
 have HM := Hid.intro hr.nms
 clear hcells hr
 go_enter Tryz.func36, Tryz.ntmps36
 go_wp2_with fail
 obtain ⟨W, hW, bW, zW, cW, fW⟩ := boxed w #[.int .i64 next, .slice a L.length cap] 35
 try simp only [hW]
 clear hW fW
 go_loopw [4, 5, 6] (fun _ i _ wr => ∃ (j : Nat), i = .int .i64 j ∧ j ≤ L.length ∧ Hid (∀ p ∈ L.take j, hasE p.n.names id = false) ∧ W = wr) (fun _ i _ _ => L.length - (intOf i).toNat)
 case atStart => exact ⟨0, rfl, Nat.zero_le _, by unfold Hid; simp, rfl⟩
 case round =>
  obtain ⟨j, rfl, hj, HF, rfl⟩ := hrel
  by_cases hlt : j < L.length
  ·obtain ⟨b, off, rfl, hbN, hcc⟩ := HC.out (by intro h; rw [h] at hlt; simp at hlt)
   have hc := hcc j hlt
   have hrow := HM.out _ (List.getElem_mem hlt)
   have hhit := fun h => parI_hit (id := id) hlt (parX_hit hlt HF.out h)
   have hmiss := @take_step L (fun p => hasE p.n.names id = false) j hlt HF.out
   generalize L[j] = ej at hc hrow hhit hmiss
   have hck := hc.kept bW (by omega)
   have g6 := hck.c6
   have g0 := hck.c0
   obtain ⟨a2, cap2, hv2, l2, m2, hdc⟩ := diE_cell (hrow.kept (bW.mono hN))
   rw [hv2] at g6
   have HH := Hid.intro hhit
   have HMI := Hid.intro hmiss
   have HD := Hid.intro hdc
   have hi1 : (0 : Int) ≤ (j : Int) ∧ (j : Int) < (L.length : Int) := by omega
   have hjl : (j : Int) < (L.length : Int) := by omega
   clear hcc hc hrow hv2 hdc hhit hmiss hck
   generalize ej.n.names = nn at g6 l2 HH HMI HD
   go_wp2_with fail
   go_loopw [4, 6] (fun _ i wr => ∃ (k : Nat), i = .int .i64 k ∧ k ≤ nn.length ∧ Hid (hasE (nn.take k) id = false) ∧ W = wr) (fun _ i _ => nn.length - (intOf i).toNat)
   case atStart => exact ⟨0, rfl, Nat.zero_le _, rfl, rfl⟩
   case round =>
    obtain ⟨k, rfl, hk, HY, rfl⟩ := hrel
    by_cases hkt : k < nn.length
    ·obtain ⟨b2, o2, rfl, hb2, hdd⟩ := HD.out (by intro h; rw [h] at hkt; simp at hkt)
     obtain ⟨d0, d1⟩ := hdd k hkt
     have hyes := @hasE_yes nn k id hkt
     have hst := @hasE_step nn k id hkt HY.out
     generalize nn[k] = ek at d0 d1 hyes hst
     have HYE := Hid.intro hyes
     have HST := Hid.intro hst
     clear hdd hyes hst
     by_cases he : ek.id = id
     ·have n1 : (ek.id == id) = true := by simpa using he
      have HE := Hid.intro (HH.out (HYE.out he))
      clear he
      go_wp2_with fail
      go_ret
      exact ⟨by rw [HE.out]; rfl, bW⟩
     ·have n1 : (ek.id == id) = false := by simpa using he
      have HE := Hid.intro (HST.out he)
      clear he
      go_wp2_with fail
      go_roundw
      case rel => exact ⟨k + 1, by go_num, by omega, HE, by first | rfl | trivial⟩
      case measure => simp [intOf]; omega
    ·obtain rfl : k = nn.length := by omega
     have HE := Hid.intro (HMI.out (by have := HY.out; rwa [List.take_length] at this))
     go_wp2_with fail
     go_roundw
     case rel => exact ⟨j + 1, by go_num, by omega, HE, by first | rfl | trivial⟩
     case measure => simp [intOf]; omega
  ·obtain rfl : j = L.length := by omega
   have HE : Hid (parI (L.map Np.n) id = 1) := parI_miss (parX_miss (by have := HF.out; rwa [List.take_length] at this))
   go_wp2_with fail
   go_ret
   exact ⟨by rw [HE.out]; rfl, bW⟩
set_option maxRecDepth 100000 in
set_option maxHeartbeats 4000000 in
theorem parent_any (L : List Np) (tb b off N : Nat) (hI : IdsD (L.map Np.n)) (id : Int) (h0 : 0 < L.length) (h1 : L[0].n.id = 1) (hU : ∀ p q, p ∈ L → q ∈ L → hasE p.n.names id = true → hasE q.n.names id = true → p.n.id = q.n.id) (w : World) (h : TC w tb b off N L) :
  Calls Tryz.prog 74 #[.map (some tb), .int .i64 id] w fun e w' => ∃ x, ∃ hx : x < L.length, e = .returned (ptrJ b off x) ∧ L[x].n.id = parI (L.map Np.n) id ∧ Below w.heap.size w w' := by
 have hat1 : atN (L.map Np.n) 1 = some 0 := by
  have := hI.at_ 0 (by simpa using h0)
  rw [List.getElem_map, h1] at this
  exact this
 have HT := Hid.intro h
 have HI := Hid.intro hI
 have HM := Hid.intro h.mapT
 have HH1 := Hid.intro h1
 have htl := h.lt
 have hbN := h.bN
 have hNT := h.NT
 have HPY : Hid (∀ x (hx : x < L.length), hasE L[x].n.names id = true → L[x].n.id = parI (L.map Np.n) id) := fun x hx hh => by
  cases hp : parX (L.map Np.n) id with
  | none =>
   unfold parX at hp
   rw [List.findIdx?_eq_none_iff] at hp
   have := hp _ (List.mem_map_of_mem (List.getElem_mem hx))
   rw [hh] at this
   cases this
  | some z =>
   have hp2 := hp
   unfold parX at hp2
   rw [List.findIdx?_eq_some_iff_getElem] at hp2
   obtain ⟨hz, hz2, _⟩ := hp2
   have hzl : z < L.length := by simpa using hz
   rw [parI_hit hzl hp]
   exact hU _ _ (List.getElem_mem hx) (List.getElem_mem hzl) hh (by simpa using hz2)
 have HPN : Hid ((∀ p ∈ L, hasE p.n.names id = false) → parI (L.map Np.n) id = 1) := fun h => parI_miss (parX_miss h)
 have HA1 := Hid.intro hat1
 obtain ⟨LN, hLN⟩ : ∃ LN, L.map Np.n = LN := ⟨_, rfl⟩
 rw [hLN] at HM HI HA1 HPY HPN ⊢
 have HLN := Hid.intro hLN
 have HLEN : Hid (LN.length = L.length) := by unfold Hid; rw [← hLN]; simp
 clear hI h hat1 h1 hLN hU
 go_enter Tryz.func74, Tryz.ntmps74
 go_wp2_with (at_range; refine wpList_range_tree rfl _ rfl HI.out rfl HM.out ?_; intro w2 hTR hB2 hz2; have HTR := Hid.intro hTR; have HB2 := Hid.intro hB2; clear hTR hB2)
 go_frame
 have hz2' : w.heap.size < w2.heap.size := by omega
 clear hz2
 go_loopw [4, 6] (fun _ _ wr => ∃ (v : List Bool) (cnt : Nat), Hid (v.length = LN.length) ∧ Hid (∀ y (hy : y < L.length), isT v y → hasE L[y].n.names id = false) ∧ Hid (TR wr tb w.heap.size b off LN (allT LN) v L.length cnt) ∧ Hid (Below w.heap.size w wr)) (fun _ _ wr => wr.rangeLeft tb w.heap.size)
 case atStart =>
  exact ⟨List.replicate LN.length false, _, by unfold Hid; simp, fun y _ hy => by unfold isT at hy; rw [List.getElem?_replicate] at hy; split at hy <;> simp at hy, HTR, HB2⟩
 case round =>
  obtain ⟨v, cnt, HV, HS, HR, HB⟩ := hrel
  go_wp2_with (at_next; refine wpList_next_tree rfl _ rfl HI.out HV.out rfl HR.out ?_ ?_)
  ·intro hall
   have HPE : Hid (L[0].n.id = parI LN id) := by
    unfold Hid
    rw [HPN.out fun p hp => by
     obtain ⟨y, hy, rfl⟩ := List.getElem_of_mem hp
     exact HS.out y hy (hall y (by rw [HLEN.out]; exact hy) (isT_all.2 (by rw [HLEN.out]; exact hy)))]
    exact HH1.out
   have htc := HT.out.kept HB.out htl
   have hlk := htc.look (id := 1) (by decide)
   rw [HLN.out, HA1.out] at hlk
   simp only [ptrO] at hlk
   clear hall htc
   go_wp2_with fail
   go_ret
   exact ⟨0, h0, rfl, HPE.out, HB.out⟩
  ·intro y hy w3 cnt3 hsy hny hTR hlt hO hsz hen
   have hyl : y < L.length := by rw [← HLEN.out]; exact hy
   have hb3 : Below w.heap.size w w3 := HB.out.trans (hO.below HB.out.size (fun k hk e => by omega))
   have htc := HT.out.kept hb3 htl
   have hc := htc.at_ y hyl
   have hrow := htc.nms _ (List.getElem_mem hyl)
   have hLy : LN[y] = L[y].n := by
    have := map_get hyl
    rw [HLN.out, List.getElem?_eq_getElem hy] at this
    exact Option.some.inj this
   have hpy := HPY.out y hyl
   have HPYL : Hid (hasE L[y].n.names id = true → ∃ x, ∃ hx : x < L.length, ptrJ b off y = ptrJ b off x ∧ L[x].n.id = parI LN id) := fun h => ⟨y, hyl, rfl, hpy h⟩
   have HS3 : Hid (hasE L[y].n.names id = false → ∀ z (hz : z < L.length), isT (v.set y true) z → hasE L[z].n.names id = false) := fun h z hz hz2 => by
    rcases isT_set.1 hz2 with ⟨rfl, _⟩ | hz2
    ·exact h
    ·exact HS.out z hz hz2
   rw [hLy] at hen ⊢
   generalize L[y] = p at hc hen hrow HPYL HS3
   obtain ⟨a2, cap2, hv2, l2, m2, hdc⟩ := diE_cell hrow
   have g6 := hc.c6
   rw [hv2] at g6
   have HD := Hid.intro hdc
   have HR3 := Hid.intro hTR
   have HB3 := Hid.intro hb3
   have hz3 : w.heap.size < w3.heap.size := hTR.iter.1
   have HV3 : Hid ((v.set y true).length = LN.length) := by unfold Hid; rw [List.length_set]; exact HV.out
   have HLT : Hid (cnt3 < wr.rangeLeft tb w.heap.size) := by unfold Hid; rw [HR.out.left]; exact hlt
   clear hTR hb3 hO hsz hc hny hsy hlt hLy htc hrow hdc hv2 hpy
   generalize p.n.names = nn at l2 g6 HD HPYL HS3
   obtain ⟨wo, rfl⟩ : ∃ wo : World, wo = wr := ⟨_, rfl⟩
   go_wp2_with fail
   clear g6
   go_loopw [4, 20] (fun _ q wr => ∃ (j : Nat), q = .int .i64 j ∧ j ≤ nn.length ∧ Hid (hasE (nn.take j) id = false) ∧ Hid (TR wr tb w.heap.size b off LN (allT LN) (v.set y true) L.length cnt3) ∧ Hid (Below w3.heap.size w3 wr)) (fun _ q _ => nn.length - (intOf q).toNat)
   case atStart => exact ⟨0, rfl, Nat.zero_le _, rfl, HR3, Below.refl _ _⟩
   case round =>
    obtain ⟨j, rfl, hj, HY, HRJ, HBJ⟩ := hrel
    have hzj := HBJ.out.size
    by_cases hlt : j < nn.length
    ·obtain ⟨b2, o2, rfl, hb2, hdd⟩ := HD.out (by intro h; rw [h] at hlt; simp at hlt)
     obtain ⟨d0, d1⟩ := hdd j hlt
     have hyes := @hasE_yes nn j id hlt
     have hst := @hasE_step nn j id hlt HY.out
     generalize nn[j] = e at d0 d1 hyes hst
     replace d0 := atCell HBJ.out d0 (by omega)
     replace d1 := atCell HBJ.out d1 (by omega)
     have hjl : (j : Int) < (nn.length : Int) := by omega
     have i1 : (0 : Int) ≤ (j : Int) ∧ (j : Int) < (nn.length : Int) := by omega
     have HYE := Hid.intro hyes
     have HST := Hid.intro hst
     clear hdd hyes hst
     go_upto_region 7 with fail
     obtain ⟨X, hX, bX, zX, cX, fX⟩ := boxed wr #[.string e.nm, .int .i64 e.id] 85
     simp only [hX]
     have htw := HRJ.out.tm.lt
     have HRX := Hid.intro (HRJ.out.kept (bX.block tb htw) (bX.block w.heap.size (by omega)))
     have HBX : Hid (Below w3.heap.size w3 X) := HBJ.out.trans (bX.mono hzj)
     clear hX fX d0 d1 bX htw
     by_cases he : e.id = id
     ·have n1 : (e.id == id) = true := by simpa using he
      obtain ⟨x, hx, hxe, hxp⟩ := HPYL.out (HYE.out he)
      have HXE := Hid.intro hxe
      have HXP := Hid.intro hxp
      have HBE := Hid.intro (HB3.out.trans (HBX.out.mono HB3.out.size))
      clear he hxe hxp
      go_wp2_with fail
      go_ret
      exact ⟨x, hx, by rw [← HXE.out]; rfl, HXP.out, HBE.out⟩
     ·have n1 : (e.id == id) = false := by simpa using he
      have HE := Hid.intro (HST.out he)
      clear he
      go_wp2_with fail
      go_roundw
      case rel => exact ⟨j + 1, by go_num, by omega, HE, HRX, HBX⟩
      case measure => simp [intOf]; omega
    ·obtain rfl : j = nn.length := by omega
     have HS4 := Hid.intro (HS3.out (by have := HY.out; rwa [List.take_length] at this))
     have HBE := Hid.intro (HB3.out.trans (HBJ.out.mono HB3.out.size))
     go_wp2_with fail
     go_roundw
     case rel => exact ⟨v.set y true, cnt3, HV3, HS4, HRJ, HBE⟩
     case measure => rw [HRJ.out.left]; exact HLT.out
theorem hasE_ids {l : List Di} {id : Int} (h : hasE l id = true) : 1 ≤ idsN l id := by
 unfold hasE at h
 rw [List.any_eq_true] at h
 unfold idsN
 exact List.countP_pos_iff.2 h
theorem named_one {L : List Nd} {id : Int} : ∀ {i : Nat} (hi : i < L.length), idsN L[i].names id ≤ namedN L id := by
 induction L with
 | nil => intro i hi; simp at hi
 | cons n L ih =>
  intro i hi
  have e : namedN (n :: L) id = idsN n.names id + namedN L id := by simp [namedN]
  rw [e]
  cases i with
  | zero => simp
  | succ i =>
   have := ih (i := i) (by simpa using hi)
   simp only [List.getElem_cons_succ]
   omega
theorem named_two {L : List Nd} {id : Int} : ∀ {i j : Nat} (hi : i < L.length) (hj : j < L.length), i < j → idsN L[i].names id + idsN L[j].names id ≤ namedN L id := by
 induction L with
 | nil => intro i j hi; simp at hi
 | cons n L ih =>
  intro i j hi hj hlt
  have e : namedN (n :: L) id = idsN n.names id + namedN L id := by simp [namedN]
  rw [e]
  cases j with
  | zero => omega
  | succ j =>
   cases i with
   | zero =>
    have := named_one (L := L) (id := id) (i := j) (by simpa using hj)
    simp only [List.getElem_cons_zero, List.getElem_cons_succ]
    omega
   | succ i =>
    have := ih (i := i) (j := j) (by simpa using hi) (by simpa using hj) (by omega)
    simp only [List.getElem_cons_succ]
    omega
theorem good_one {L : List Np} (h : Good L) {id : Int} (hd : (dirO (L.map Np.n) id).isSome = true) : ∀ p q, p ∈ L → q ∈ L → hasE p.n.names id = true → hasE q.n.names id = true → p.n.id = q.n.id := by
 obtain ⟨x, hx⟩ := Option.isSome_iff_exists.1 hd
 have hat := dirO_at hx
 have hxl : x < L.length := by have := atN_lt hat; simpa using this
 have hid : L[x].n.id = id := by have := (atN_some.1 hat).2.1; simpa using this
 have hk : L[x].n.kind = 2 := by
  have := dirO_some hat (map_get hxl)
  rw [hx] at this
  split at this
  ·assumption
  ·cases this
 intro p q hp hq h1 h2
 by_cases hi1 : id = 1
 ·subst hi1
  unfold hasE at h1
  rw [List.any_eq_true] at h1
  obtain ⟨e, he, he2⟩ := h1
  exact absurd (by simpa using he2) (node_names (each_node h.each p hp) e he).1
 ·have hw := h.whole
  unfold wholeI at hw
  rw [Bool.and_eq_true, List.all_eq_true] at hw
  have hok := hw.1 x (List.mem_range.2 (by simpa using hxl))
  rw [okW_at hxl, hid, hk] at hok
  have hn1 : namedN (L.map Np.n) id = 1 := by simpa [hi1] using hok
  obtain ⟨i, hi, rfl⟩ := List.getElem_of_mem hp
  obtain ⟨j, hj, rfl⟩ := List.getElem_of_mem hq
  have e1 := hasE_ids h1
  have e2 := hasE_ids h2
  rcases Nat.lt_trichotomy i j with hlt | rfl | hlt
  ·have := named_two (L := L.map Np.n) (id := id) (i := i) (j := j) (by simpa using hi) (by simpa using hj) hlt
   simp only [List.getElem_map] at this
   omega
  ·rfl
  ·have := named_two (L := L.map Np.n) (id := id) (i := j) (j := i) (by simpa using hj) (by simpa using hi) hlt
   simp only [List.getElem_map] at this
   omega
theorem parentI_no {next : Int} {L : List Nd} {id : Int} (h : volB next L = false) : parentI next L id = 0 := by simp [parentI, h]
theorem parentI_none {next : Int} {L : List Nd} {id : Int} (h : dirO L id = none) : parentI next L id = 0 := by simp [parentI, h]
theorem parentI_some {next : Int} {L : List Nd} {id : Int} {x : Nat} (h : volB next L = true) (hx : dirO L id = some x) : parentI next L id = parI L id := by simp [parentI, h, hx]
end Go.Proofs.YtmkegmndcbpblaaGreatDoor
