/- whole: do all inodes hang together? -/
import Derived.Test.YtmkegmndcbpblaaGreatDoorVImpG
namespace Go.Proofs.YtmkegmndcbpblaaGreatDoor
open Go.RowKit Go.Maps
set_option linter.unusedVariables false
def okW (L : List Nd) (i : Nat) : Bool := (L[i]?.map fun n => decide (n.id = 1) || !decide (n.kind = 2) || decide (namedN L n.id = 1)).getD true
def wholeI (L : List Nd) : Bool := (List.range L.length).all (okW L) && decide ((belowB L 0).count true = L.length - 1)
theorem okW_at {L : List Np} {i : Nat} (h : i < L.length) : okW (L.map Np.n) i = (decide (L[i].n.id = 1) || !decide (L[i].n.kind = 2) || decide (namedN (L.map Np.n) L[i].n.id = 1)) := by
 unfold okW
 rw [map_get h]
 rfl
theorem wholeI_no {L : List Nd} {i : Nat} (h : i < L.length) (ho : okW L i = false) : wholeI L = false := by
 have : (List.range L.length).all (okW L) = false := List.all_eq_false.2 ⟨i, List.mem_range.2 h, by rw [ho]; simp⟩
 unfold wholeI
 rw [this]
 rfl
theorem wholeI_yes {L : List Nd} (h : ∀ i, i < L.length → okW L i = true) : wholeI L = decide ((belowB L 0).count true = L.length - 1) := by
 have : (List.range L.length).all (okW L) = true := List.all_eq_true.2 fun i hi => h i (List.mem_range.1 hi)
 unfold wholeI
 rw [this]
 rfl
set_option maxRecDepth 100000 in
set_option maxHeartbeats 4000000 in
theorem whole_any (L : List Np) (tb b off N : Nat) (hI : IdsD (L.map Np.n)) (hLd : Leads L) (hn : L.length ≤ 24) (hW : ∀ p ∈ L, IdW p.n.names ∧ p.n.names.length ≤ 12) (h0 : 0 < L.length) (h1 : L[0].n.id = 1) (w : World) (h : TC w tb b off N L) :
  Calls Tryz.prog 52 #[.map (some tb)] w fun e w' => e = .returned (.bool (wholeI (L.map Np.n))) ∧ Below w.heap.size w w' := by
 have hat1 : atN (L.map Np.n) 1 = some 0 := by
  have := hI.at_ 0 (by simpa using h0)
  rw [List.getElem_map, h1] at this
  exact this
 have HT := Hid.intro h
 have HI := Hid.intro hI
 have HM := Hid.intro h.mapT
 have htl := h.lt
 have hbN := h.bN
 have hNT := h.NT
 have HNA := Hid.intro (names_any L tb b off N hI hn hW w h)
 have HBE : Hid (∀ y : World, TC y tb b off N L → Calls Tryz.prog 68 #[.map (some tb), ptrJ b off 0] y fun e w' => ∃ mb, e = .returned (.map (some mb)) ∧ y.heap.size ≤ mb ∧ TM w' mb b off (FS (L.map Np.n) (belowB (L.map Np.n) 0)) ((belowB (L.map Np.n) 0).count true) ((belowB (L.map Np.n) 0).count true) ∧ Below y.heap.size y w') := fun y hy => below_any L tb b off N hI hLd hn 0 h0 y hy
 have HDI : Hid (∀ (id : Int), (Lit.int .i64 id).wf = true → ∀ y : World, TC y tb b off N L → Calls Tryz.prog 66 #[.map (some tb), .int .i64 id] y fun e w' => e = .returned (ptrO b off (dirO (L.map Np.n) id)) ∧ y = w') := fun id hw y hy => dir_any L tb b off N id y hy hw
 have HA1 := Hid.intro hat1
 obtain ⟨LN, hLN⟩ : ∃ LN, L.map Np.n = LN := ⟨_, rfl⟩
 rw [hLN] at HM HI HNA HBE HDI HA1 ⊢
 have HLN := Hid.intro hLN
 have HLEN : Hid (LN.length = L.length) := by unfold Hid; rw [← hLN]; simp
 clear hI hLd hW h hat1 h1 hLN
 go_enter Tryz.func52, Tryz.ntmps52
 go_upto_region 2 with (go_at_call 67; refine HNA.out.mono ?_; rintro e w1 ⟨cb, nc, rfl, hcb, hG, b1⟩; have HG1 := Hid.intro hG; have HB1 := Hid.intro b1; clear hG b1)
 have hcl := HG1.out.lt
 have hz1 := HB1.out.size
 replace HM := Hid.intro (HM.out.below HB1.out htl)
 go_wp2_with (at_range; refine wpList_range_tree rfl _ rfl HI.out rfl HM.out ?_; intro w2 hTR hB2 hz2; have HTR := Hid.intro hTR; have HB2 := Hid.intro hB2; clear hTR hB2)
 go_frame
 go_loopw [4] (fun _ wr => ∃ (v : List Bool) (cnt : Nat), Hid (v.length = LN.length) ∧ Hid (∀ y, y < LN.length → isT v y → okW LN y = true) ∧ Hid (TR wr tb w1.heap.size b off LN (allT LN) v L.length cnt) ∧ Hid (Below w1.heap.size w1 wr)) (fun _ wr => wr.rangeLeft tb w1.heap.size)
 case atStart =>
  exact ⟨List.replicate LN.length false, _, by unfold Hid; simp, fun y _ hy => by unfold isT at hy; rw [List.getElem?_replicate] at hy; split at hy <;> simp at hy, HTR, HB2⟩
 case round =>
  obtain ⟨v, cnt, HV, HS, HR, HB⟩ := hrel
  have HBW := Hid.intro (HB1.out.trans (HB.out.mono hz1))
  go_wp2_with (at_next; refine wpList_next_tree rfl _ rfl HI.out HV.out rfl HR.out ?_ ?_)
  ·intro hall
   have HFB : Hid (wholeI LN = decide ((belowB LN 0).count true = L.length - 1)) := by
    have := wholeI_yes (L := LN) fun y hy => HS.out y hy (hall y hy (isT_all.2 hy))
    rw [HLEN.out] at this
    exact this
   have htc := HT.out.kept HBW.out htl
   have hlk := htc.look (id := 1) (by decide)
   rw [HLN.out, HA1.out] at hlk
   simp only [ptrO] at hlk
   have HTC := Hid.intro htc
   clear hall htc
   go_wp2_with fail
   refine (HBE.out _ HTC.out).mono ?_
   rintro e w5 ⟨mb, rfl, hmb, hM5, b5⟩
   have hl5 := hM5.len
   have hlt5 := (HTC.out.kept b5 HTC.out.lt).map.len
   have HBE5 := Hid.intro (HBW.out.trans (b5.mono HBW.out.size))
   have hcnt := List.count_le_length (a := true) (l := belowB LN 0)
   rw [belowB_len, HLEN.out] at hcnt
   generalize (belowB LN 0).count true = c at HFB hl5 hcnt
   clear b5 hM5 hlk
   by_cases hcc : c = L.length - 1
   ·have hq : ((c : Int) == (L.length : Int) - 1) = true := by rw [beq_iff_eq]; omega
    have HFF : Hid (wholeI LN = true) := by unfold Hid; rw [HFB.out, decide_eq_true hcc]
    clear hcc
    go_wp2_with fail
    go_ret
    exact ⟨ret_bool HFF.out.symm, HBE5.out⟩
   ·have hq : ((c : Int) == (L.length : Int) - 1) = false := by rw [beq_eq_false_iff_ne]; omega
    have HFF : Hid (wholeI LN = false) := by unfold Hid; rw [HFB.out, decide_eq_false hcc]
    clear hcc
    go_wp2_with fail
    go_ret
    exact ⟨ret_bool HFF.out.symm, HBE5.out⟩
  ·intro y hy w3 cnt3 hsy hny hTR hlt hO hsz hen
   have hyl : y < L.length := by rw [← HLEN.out]; exact hy
   have hb3 : Below w1.heap.size w1 w3 := HB.out.trans (hO.below HB.out.size (fun k hk e => by omega))
   have hbw3 := HB1.out.trans (hb3.mono hz1)
   have htc := HT.out.kept hbw3 htl
   have hLy : LN[y] = L[y].n := by
    have := map_get hyl
    rw [HLN.out, List.getElem?_eq_getElem hy] at this
    exact Option.some.inj this
   have hwf := HI.out.wf _ (List.getElem_mem hy)
   have hdo : dirO LN LN[y].id = if LN[y].kind = 2 then some y else none := dirO_some (HI.out.at_ y hy) (List.getElem?_eq_getElem hy)
   have hoa : okW LN y = (decide (L[y].n.id = 1) || !decide (L[y].n.kind = 2) || decide (namedN LN L[y].n.id = 1)) := by
    have := okW_at hyl
    rw [HLN.out] at this
    exact this
   have hdi := HDI.out _ hwf w3 htc
   have hlk := (HG1.out.kept (hb3.block cb hcl)).look hwf
   rw [hLy] at hen hdo hdi hlk ⊢
   generalize L[y] = p at hen hoa hdo hdi hlk
   rw [hdo] at hdi
   have HR3 := Hid.intro hTR
   have HB3 := Hid.intro hb3
   have HV3 : Hid ((v.set y true).length = LN.length) := by unfold Hid; rw [List.length_set]; exact HV.out
   have HS3 : Hid (okW LN y = true → ∀ z, z < LN.length → isT (v.set y true) z → okW LN z = true) := fun h z hz hz2 => by
    rcases isT_set.1 hz2 with ⟨rfl, _⟩ | hz2
    ·exact h
    ·exact HS.out z hz hz2
   have HLT : Hid (cnt3 < wr.rangeLeft tb w1.heap.size) := by unfold Hid; rw [HR.out.left]; exact hlt
   have HYL := Hid.intro hy
   have HOA := Hid.intro hoa
   have HBE3 := Hid.intro hbw3
   have HDD := Hid.intro hdi
   clear hTR hb3 hO hsz hny hsy hlt hLy htc hoa hbw3 hdo hdi
   by_cases hi1 : p.n.id = 1
   ·have t1 : (p.n.id != 1) = false := by simp [hi1]
    have HS4 := Hid.intro (HS3.out (by rw [HOA.out, decide_eq_true hi1]; rfl))
    clear hi1 hlk
    go_wp2_with fail
    go_roundw
    case rel => exact ⟨v.set y true, cnt3, HV3, HS4, HR3, HB3⟩
    case measure => rw [HR3.out.left]; exact HLT.out
   ·have t1 : (p.n.id != 1) = true := by simpa using hi1
    by_cases hk : p.n.kind = 2
    ·rw [if_pos hk] at HDD
     simp only [ptrO] at HDD
     by_cases hnm : namedN LN p.n.id = 1
     ·have t2 : ((namedN LN p.n.id : Int) != 1) = false := by simp [hnm]
      have HS4 := Hid.intro (HS3.out (by rw [HOA.out, decide_eq_true hnm]; simp))
      clear hi1 hk hnm
      go_wp2_with (go_at_call 66; refine HDD.out.mono ?_; rintro e9 w9 ⟨rfl, rfl⟩)
      go_roundw
      case rel => exact ⟨v.set y true, cnt3, HV3, HS4, HR3, HB3⟩
      case measure => rw [HR3.out.left]; exact HLT.out
     ·have t2 : ((namedN LN p.n.id : Int) != 1) = true := by rw [bne_iff_ne]; omega
      have HFF : Hid (wholeI LN = false) := wholeI_no HYL.out (by rw [HOA.out, decide_eq_false hi1, decide_eq_true hk, decide_eq_false hnm]; rfl)
      clear hi1 hk hnm
      go_wp2_with (go_at_call 66; refine HDD.out.mono ?_; rintro e9 w9 ⟨rfl, rfl⟩)
      go_ret
      exact ⟨ret_bool HFF.out.symm, HBE3.out⟩
    ·rw [if_neg hk] at HDD
     simp only [ptrO] at HDD
     have HS4 := Hid.intro (HS3.out (by rw [HOA.out, decide_eq_false hk]; simp))
     clear hi1 hk hlk
     go_wp2_with (go_at_call 66; refine HDD.out.mono ?_; rintro e9 w9 ⟨rfl, rfl⟩)
     go_roundw
     case rel => exact ⟨v.set y true, cnt3, HV3, HS4, HR3, HB3⟩
     case measure => rw [HR3.out.left]; exact HLT.out
end Go.Proofs.YtmkegmndcbpblaaGreatDoor
