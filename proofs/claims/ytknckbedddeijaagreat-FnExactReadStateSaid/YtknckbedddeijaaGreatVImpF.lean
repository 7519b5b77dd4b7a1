/- eachOk: is each inode right, and where do its names lead? -/
import Derived.Test.YtknckbedddeijaaGreatVImpE
namespace Go.Proofs.YtknckbedddeijaaGreat
open Go.RowKit
set_option linter.unusedVariables false
def nodeA (L : List Nd) (i : Nat) : Bool := (L[i]?.map fun n => nodeB L n).getD true
def eachB (L : List Nd) : Bool := (List.range L.length).all (nodeA L) && (dirO L 1).isSome
theorem nodeA_at {L : List Np} {i : Nat} (h : i < L.length) : nodeA (L.map Np.n) i = (aloneB L[i].n && nmsB (L.map Np.n) none L[i].n.names) := by
 unfold nodeA
 rw [map_get h, ← nodeB_alone]
 rfl
theorem eachB_no {L : List Nd} {i : Nat} (h : i < L.length) (ho : nodeA L i = false) : eachB L = false := by
 have : (List.range L.length).all (nodeA L) = false := List.all_eq_false.2 ⟨i, List.mem_range.2 h, by rw [ho]; simp⟩
 unfold eachB
 rw [this]
 rfl
theorem eachB_yes {L : List Nd} (h : ∀ i, i < L.length → nodeA L i = true) : eachB L = (dirO L 1).isSome := by
 have : (List.range L.length).all (nodeA L) = true := List.all_eq_true.2 fun i hi => h i (List.mem_range.1 hi)
 unfold eachB
 rw [this]
 rfl
/-- The texts and numbers of an inode are such as there can be. -/
def NdW (n : Nd) : Prop := NdSz n ∧ IdW n.names
set_option maxRecDepth 100000 in
set_option maxHeartbeats 4000000 in
theorem eachOk_any (L : List Np) (tb b off N : Nat) (hI : IdsD (L.map Np.n)) (hz : ∀ p ∈ L, NdW p.n) (w : World) (h : TC w tb b off N L) :
  Calls Tryz.prog 80 #[.map (some tb)] w fun e w' => e = .returned (.bool (eachB (L.map Np.n))) ∧ Below w.heap.size w w' := by
 have HT := Hid.intro h
 have HZ := Hid.intro hz
 have HI := Hid.intro hI
 have HM := Hid.intro h.mapT
 have htl := h.lt
 have hbN := h.bN
 have hNT := h.NT
 have HDI : Hid (∀ y : World, TC y tb b off N L → Calls Tryz.prog 92 #[.map (some tb), .int .i64 1] y fun e w' => e = .returned (ptrO b off (dirO (L.map Np.n) 1)) ∧ y = w') := fun y hy => dir_any L tb b off N 1 y hy (by decide)
 have HLE : Hid (∀ (p : Np), p ∈ L → ∀ y : World, TC y tb b off N L → Calls Tryz.prog 91 #[.map (some tb), p.v] y fun e w' => e = .returned (.bool (nmsB (L.map Np.n) none p.n.names)) ∧ Below y.heap.size y w') := fun p hp y hy => lead_any L tb b off N p.n.names p.v y hy (hy.nms p hp) (hz p hp).2 (hz p hp).1.2
 obtain ⟨LN, hLN⟩ : ∃ LN, L.map Np.n = LN := ⟨_, rfl⟩
 rw [hLN] at HM HI HDI HLE ⊢
 have HLN := Hid.intro hLN
 have HLEN : Hid (LN.length = L.length) := by unfold Hid; rw [← hLN]; simp
 clear hI hz h hLN
 go_enter Tryz.func80, Tryz.ntmps80
 go_wp2_with (at_range; refine wpList_range_tree rfl _ rfl HI.out rfl HM.out ?_; intro w2 hTR hB2 hz2; have HTR := Hid.intro hTR; have HB2 := Hid.intro hB2; clear hTR hB2)
 go_frame
 go_loopw [4] (fun _ wr => ∃ (v : List Bool) (cnt : Nat), Hid (v.length = LN.length) ∧ Hid (∀ y, y < LN.length → isT v y → nodeA LN y = true) ∧ Hid (TR wr tb w.heap.size b off LN (allT LN) v L.length cnt) ∧ Hid (Below w.heap.size w wr)) (fun _ wr => wr.rangeLeft tb w.heap.size)
 case atStart =>
  exact ⟨List.replicate LN.length false, _, by unfold Hid; simp, fun y _ hy => by unfold isT at hy; rw [List.getElem?_replicate] at hy; split at hy <;> simp at hy, HTR, HB2⟩
 case round =>
  obtain ⟨v, cnt, HV, HS, HR, HB⟩ := hrel
  go_wp2_with (at_next; refine wpList_next_tree rfl _ rfl HI.out HV.out rfl HR.out ?_ ?_)
  ·intro hall
   have HFB : Hid (eachB LN = (dirO LN 1).isSome) := eachB_yes fun y hy => HS.out y hy (hall y hy (isT_all.2 hy))
   have HTC := Hid.intro (HT.out.kept HB.out htl)
   clear hall
   go_wp2_with fail
   refine (HDI.out _ HTC.out).mono ?_
   rintro e w5 ⟨rfl, rfl⟩
   cases hd : dirO LN 1 with
   | none =>
    simp only [ptrO]
    go_wp2_with fail
    go_ret
    exact ⟨ret_bool (by rw [HFB.out, hd]; rfl), HB.out⟩
   | some x =>
    simp only [ptrO]
    go_wp2_with fail
    go_ret
    exact ⟨ret_bool (by rw [HFB.out, hd]; rfl), HB.out⟩
  ·intro y hy w3 cnt3 hsy hny hTR hlt hO hsz hen
   have hyl : y < L.length := by rw [← HLEN.out]; exact hy
   have hb3 : Below w.heap.size w w3 := HB.out.trans (hO.below HB.out.size (fun k hk e => by omega))
   have htc := HT.out.kept hb3 htl
   have hc := htc.at_ y hyl
   have hmem := List.getElem_mem hyl
   have hLy : LN[y] = L[y].n := by
    have := map_get hyl
    rw [HLN.out, List.getElem?_eq_getElem hy] at this
    exact Option.some.inj this
   have hoa : nodeA LN y = (aloneB L[y].n && nmsB LN none L[y].n.names) := by
    have := nodeA_at hyl
    rw [HLN.out] at this
    exact this
   rw [hLy] at hen ⊢
   generalize L[y] = p at hc hen hoa hmem
   have hzz := (HZ.out p hmem).1.1
   have g6 := hc.c6
   have HR3 := Hid.intro hTR
   have HB3 := Hid.intro hb3
   have hz3 := hb3.size
   have HV3 : Hid ((v.set y true).length = LN.length) := by unfold Hid; rw [List.length_set]; exact HV.out
   have HS3 : Hid (nodeA LN y = true → ∀ z, z < LN.length → isT (v.set y true) z → nodeA LN z = true) := fun h z hz hz2 => by
    rcases isT_set.1 hz2 with ⟨rfl, _⟩ | hz2
    ·exact h
    ·exact HS.out z hz hz2
   have HLT : Hid (cnt3 < wr.rangeLeft tb w.heap.size) := by unfold Hid; rw [HR.out.left]; exact hlt
   have HYL := Hid.intro hy
   have HOA := Hid.intro hoa
   have HNC := Hid.intro hc
   have HLL := Hid.intro (HLE.out p hmem w3 htc)
   have hit := hTR.iter
   have hit1 := hit.1
   have hit2 := hit.2
   clear hTR hb3 hO hsz hc hny hsy hlt hLy htc hoa hit hmem
   cases hal : aloneB p.n with
   | false =>
    have HFF : Hid (eachB LN = false) := eachB_no HYL.out (by rw [HOA.out, hal]; rfl)
    go_wp2_with (go_at_call 90; refine (inodeOk_any p.n p.v b (off + y * 9) _ HNC.out ⟨_, _, rfl⟩ hzz).mono ?_; rintro e9 w9 ⟨rfl, rfl⟩; simp only [hal])
    go_ret
    exact ⟨ret_bool HFF.out.symm, HB3.out⟩
   | true =>
    go_wp2_with (go_at_call 90; refine (inodeOk_any p.n p.v b (off + y * 9) _ HNC.out ⟨_, _, rfl⟩ hzz).mono ?_; rintro e9 w9 ⟨rfl, rfl⟩; simp only [hal])
    refine HLL.out.mono ?_
    rintro e w5 ⟨rfl, b5⟩
    have HB5 := Hid.intro (HB3.out.trans (b5.mono hz3))
    have HR5 := Hid.intro (HR3.out.kept (b5.block tb (by omega)) (b5.block w.heap.size (by omega)))
    clear b5 g6
    cases ho : nmsB LN none p.n.names with
    | false =>
     have HFF : Hid (eachB LN = false) := eachB_no HYL.out (by rw [HOA.out, hal, ho]; rfl)
     go_wp2_with fail
     go_ret
     exact ⟨ret_bool HFF.out.symm, HB5.out⟩
    | true =>
     have HS4 := Hid.intro (HS3.out (by rw [HOA.out, hal, ho]; rfl))
     go_wp2_with fail
     go_roundw
     case rel => exact ⟨v.set y true, cnt3, HV3, HS4, HR5, HB5⟩
     case measure => rw [HR5.out.left]; exact HLT.out
end Go.Proofs.YtknckbedddeijaaGreat
