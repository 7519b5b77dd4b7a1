/- A cursor's letter, and what is left of it. -/
import Derived.Test.YthicdhjipebghaaTCurP
namespace Go.Proofs.Ythicdhjipebghaa
open Go.RowKit
set_option linter.unusedVariables false
theorem first_byteL {q : ByteArray} {c : UInt8} {r : List UInt8} (h : q.data.toList = c :: r) : (q.extract 0 1).data.toList = [c] ∧ (q.extract 1 q.size).data.toList = r := by
  rw [extract0_toList, extract_toList, h]
  exact ⟨rfl, rfl⟩
theorem whole_extract (q : ByteArray) : q.extract 0 q.size = q := by
  have h : (q.extract 0 q.size).data.toList = q.data.toList := by
    rw [extract0_toList]
    exact List.take_of_length_le (by simp)
  have h2 := congrArg (fun l => (⟨l.toArray⟩ : ByteArray)) h
  simp only [ba_of] at h2
  exact h2
theorem rest_extract (q : ByteArray) : (q.extract q.size q.size).size = 0 := by simp
theorem toList_one (c : UInt8) : (⟨#[c]⟩ : ByteArray).toList = [c] := by rw [ByteArray.toList_eq]
/-- What a cursor's letter hands back. -/
def LetC (b : Nat) (q : ByteArray) (c : UInt8) (w : World) (e : Ending) (w' : World) : Prop :=
  (∃ q' : ByteArray, e = .returned (.tuple #[]) ∧ Hid (q.data.toList = c :: q'.data.toList) ∧ CurAt w' b q' ∧ q'.size ≤ 1048576 ∧ Only (fun k => k = b) w w') ∨ (Lack e ∧ Hid (∀ r, q.data.toList ≠ c :: r) ∧ Only (fun k => k = b) w w')
set_option maxRecDepth 100000 in
set_option maxHeartbeats 4000000 in
theorem letterC_any (b : Nat) (q0 : ByteArray) (c : UInt8) (w : World) (hc : CurAt w b q0) (s0 : q0.size ≤ 1048576) :
    Calls Try.prog 38 #[.pointer (some ⟨b, 0, none⟩), .string ⟨#[c]⟩] w (LetC b q0 c w) := by
  have hlt := hc.lt
  go_enter Try.func38, Try.ntmps38
  go_wp2_with fail
  refine (bytes_any b q0 1 w hc s0).mono ?_
  rintro e W1 (⟨w1, hn, rfl, b1, rfl⟩ | ⟨⟨pv, rfl⟩, hn, rfl⟩)
  rotate_left 1
  · have HP : Hid (∀ r, q0.data.toList ≠ c :: r) := by
      have h0 : q0.data.toList = [] := List.eq_nil_of_length_eq_zero (by have e : q0.data.toList.length = q0.size := (by simp); omega)
      unfold Hid
      rw [h0]
      intro r h
      cases h
    go_wp2
    exact ⟨rfl, .inr ⟨⟨_, rfl⟩, HP, Only.refl _ _⟩⟩
  obtain ⟨c', r, hcr⟩ : ∃ c r, q0.data.toList = c :: r := by
    cases h : q0.data.toList with
    | nil =>
      have e : q0.data.toList.length = q0.size := by simp
      rw [h, List.length_nil] at e
      omega
    | cons c r => exact ⟨c, r, rfl⟩
  obtain ⟨e1, e2⟩ := first_byteL hcr
  have c1 : CurAt (w1.setCell ⟨b, 0, none⟩ (.string (q0.extract 1 q0.size))) b (q0.extract 1 q0.size) := (hc.kept b1).set
  have o1 : Only (fun k => k = b) w (w1.setCell ⟨b, 0, none⟩ (.string (q0.extract 1 q0.size))) := (ob_any b1).trans (ob_set b _ _)
  have s1 : (q0.extract 1 q0.size).size ≤ 1048576 := by simp; omega
  generalize w1.setCell ⟨b, 0, none⟩ (.string (q0.extract 1 q0.size)) = W1 at c1 o1 ⊢
  generalize q0.extract 1 q0.size = q1 at c1 s1 e2
  have HCR := Hid.intro hcr
  clear hc b1 hcr
  by_cases hf : c' = c
  · have y1 : ((q0.extract 0 1).toList == [c]) = true := by rw [ByteArray.toList_eq, e1, hf, beq_self_eq_true]
    have y2 : ((q0.extract 0 1).toList == (⟨#[c]⟩ : ByteArray).toList) = true := by rw [toList_one]; exact y1
    have HR : Hid (q0.data.toList = c :: q1.data.toList) := by
      unfold Hid
      rw [HCR.out, e2, hf]
    clear HCR
    generalize q0.extract 0 1 = f0 at y1 y2 ⊢
    clear e1 e2 hf
    go_wp2
    go_end0
    exact .inl ⟨q1, rfl, HR, c1, s1, o1⟩
  · have y1 : ((q0.extract 0 1).toList == [c]) = false := by
      rw [ByteArray.toList_eq, e1, beq_eq_false_iff_ne]
      intro h
      simp at h
      exact hf h
    have y2 : ((q0.extract 0 1).toList == (⟨#[c]⟩ : ByteArray).toList) = false := by rw [toList_one]; exact y1
    have HP : Hid (∀ r, q0.data.toList ≠ c :: r) := by
      unfold Hid
      rw [HCR.out]
      intro r h
      exact hf (List.cons.inj h).1
    clear HCR
    generalize q0.extract 0 1 = f0 at y1 y2 ⊢
    clear e1 e2 c1
    go_wp2
    exact ⟨rfl, .inr ⟨⟨_, rfl⟩, HP, o1⟩⟩
set_option maxRecDepth 100000 in
set_option maxHeartbeats 2000000 in
theorem restC_any (b : Nat) (q : ByteArray) (w : World) (hc : CurAt w b q) (s1 : q.size ≤ 1048576) :
    Calls Try.prog 31 #[.pointer (some ⟨b, 0, none⟩)] w fun e w' => ∃ q' : ByteArray, e = .returned (.string q) ∧ q'.size = 0 ∧ CurAt w' b q' ∧ Only (fun k => k = b) w w' := by
  have hlt := hc.lt
  have k1 := hc.cell
  go_enter Try.func31, Try.ntmps31
  go_wp2_with fail
  clear k1
  refine (bytes_any b q q.size _ hc s1).mono ?_
  rintro e w2 (⟨w3, hx, rfl, b3, rfl⟩ | ⟨⟨pv, rfl⟩, hx, rfl⟩)
  rotate_left 1
  · exact absurd (Nat.le_refl _) hx
  rw [whole_extract]
  have c3 : CurAt (w3.setCell ⟨b, 0, none⟩ (.string (q.extract q.size q.size))) b (q.extract q.size q.size) := (hc.kept b3).set
  have b4 : Only (fun k => k = b) w (w3.setCell ⟨b, 0, none⟩ (.string (q.extract q.size q.size))) := (ob_any b3).trans (ob_set _ _ _)
  have hz := rest_extract q
  revert c3 b4 hz
  generalize q.extract q.size q.size = q'
  generalize World.setCell _ ⟨b, 0, none⟩ (.string q') = W3
  intro c3 b4 hz
  clear hc b3 hx
  go_wp2
  go_ret
  exact ⟨q', rfl, hz, c3, b4⟩
end Go.Proofs.Ythicdhjipebghaa
