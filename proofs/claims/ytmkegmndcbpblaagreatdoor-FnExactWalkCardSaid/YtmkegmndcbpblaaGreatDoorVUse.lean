/- Usage, on both sides. -/
import Derived.Test.YtmkegmndcbpblaaGreatDoorVImpJ
import Derived.Test.YtmkegmndcbpblaaGreatDoorVSpecE
namespace Go.Proofs.YtmkegmndcbpblaaGreatDoor
open Go.RowKit Go.Maps
set_option linter.unusedVariables false
theorem dirNil_any (id : Int) (w : World) (hw : (Lit.int .i64 id).wf = true) :
  Calls Tryz.prog 66 #[.map none, .int .i64 id] w fun e w' => e = .returned (.pointer none) ∧ w = w' := by
 have hl := Maps.look_nil (P := Tryz.prog) (w := w) (t := 77) (e := 92) false int_law Tryz.underlying77 (zeroP w) (key_int hw)
 simp only [Bool.false_eq_true, if_false] at hl
 go_enter Tryz.func66, Tryz.ntmps66
 go_wp2
 go_ret
 exact ⟨rfl, rfl⟩
/-- What a right volume is good for. -/
structure Good (L : List Np) : Prop where
 ids : IdsD (L.map Np.n)
 ld : Leads L
 n24 : L.length ≤ 24
 sm : ∀ p ∈ L, p.n.data.size ≤ 64 ∧ p.n.names.length ≤ 12
 pos : 0 < L.length
 root : ∀ h : 0 < L.length, L[0].n.id = 1
 each : eachB (L.map Np.n) = true
 whole : wholeI (L.map Np.n) = true
theorem good_of {next : Int} {L : List Np} (hw : ∀ p ∈ L, NdW p.n) (h : rightB next (L.map Np.n) = true) : Good L := by
 unfold rightB at h
 simp only [Bool.and_eq_true] at h
 obtain ⟨⟨⟨hib, heb⟩, hwb⟩, -⟩ := h
 unfold idsB at hib
 simp only [Bool.and_eq_true] at hib
 obtain ⟨⟨⟨i1, i2⟩, i3⟩, i4⟩ := hib
 have hnx : 2 ≤ next ∧ next ≤ 100000 := by simpa [inB] using i1
 have hlw : (1 : Int) ≤ (L.length : Int) ∧ (L.length : Int) ≤ 24 := by simpa [inB] using i2
 refine ⟨ids_of i4 hnx.2, each_leads hw heb, by omega, fun p hp => (nodeB_small (each_node heb p hp)).1, by omega, fun h0 => ?_, heb, hwb⟩
 unfold headI at i3
 rw [List.head?_map, List.head?_eq_getElem?, List.getElem?_eq_getElem h0] at i3
 simpa using i3
def usageB (next : Int) (L : List Nd) (id : Int) : Int × Int := if volB next L = true then (match dirO L id with | some x => (usB L (belowB L x), usI (belowB L x)) | none => (0, 0)) else (0, 0)
theorem usageB_no {next : Int} {L : List Nd} {id : Int} (h : volB next L = false) : usageB next L id = (0, 0) := by simp [usageB, h]
theorem usageB_none {next : Int} {L : List Nd} {id : Int} (h : dirO L id = none) : usageB next L id = (0, 0) := by simp [usageB, h]
theorem usageB_some {next : Int} {L : List Nd} {id : Int} {x : Nat} (h : volB next L = true) (hx : dirO L id = some x) : usageB next L id = (usB L (belowB L x), usI (belowB L x)) := by simp [usageB, h, hx]
theorem dirO_at {L : List Nd} {id : Int} {x : Nat} (h : dirO L id = some x) : atN L id = some x := by
 unfold dirO at h
 cases ha : atN L id with
 | none => rw [ha] at h; cases h
 | some y =>
  rw [ha] at h
  simp only [Option.bind_some] at h
  split at h
  ·cases h; rfl
  ·cases h
end Go.Proofs.YtmkegmndcbpblaaGreatDoor
