/- KeptOk, both. -/
import Derived.Test.YtkilepoimocoeaaLeafB
namespace Go.Proofs.Ytkilepoimocoeaa
open Go.RowKit
set_option linter.unusedVariables false

theorem inB_out {x a b : Int} (h : inB x a b = true) : a ≤ x ∧ x ≤ b := by
  simp only [inB, Bool.and_eq_true, decide_eq_true_eq] at h; exact h
theorem inB_not {x a b : Int} (h : inB x a b = false) : ¬ (a ≤ x ∧ x ≤ b) := by
  simp only [inB, Bool.and_eq_false_iff, decide_eq_false_iff_not] at h; omega
theorem keptB_split (K : Kp) : keptB K = (hardB K.t K.v && (snapB K.si K.st K.sd K.t && (decide (K.e.length ≤ 60 ∧ K.si + K.e.length ≤ 100000) && entsB (max K.st 1) K.t K.e))) := by
  rw [Bool.eq_iff_iff]
  simp only [keptB, hardB, snapB, inB, Bool.and_eq_true, Bool.or_eq_true, decide_eq_true_eq, beq_iff_eq]
  constructor
  · rintro ⟨h, h2⟩
    exact ⟨by omega, by omega, by omega, h2⟩
  · rintro ⟨h, h2, h3, h4⟩
    exact ⟨by unfold headP; omega, h4⟩

set_option maxHeartbeats 2000000 in
theorem keptOk_any (K : Kp) (v : Value) (N : Nat) (w : World) (hN : N ≤ w.heap.size) (hr : RowE w N v K.e) :
    Calls Try.prog 28 #[kpV K v] w fun e w' => e = .returned (.bool (keptB K)) ∧ Below w.heap.size w w' := by
  rw [keptB_split]
  have HR := Hid.intro hr
  clear hr
  cases h1 : hardB K.t K.v with
  | false =>
    go_enter Try.func28, Try.ntmps28
    go_wp2_with (go_at_call 67; refine (hardOk_any _ _ _).mono ?_; rintro e w' ⟨rfl, rfl⟩)
    go_ret
    exact ⟨rfl, (Below.refl _ _).alloc (Nat.le_refl _) _⟩
  | true =>
    go_enter Try.func28, Try.ntmps28
    go_wp2_with fail
    obtain ⟨W, hW, bW, zW, cW, _⟩ := boxed w #[.int .i64 K.t, .int .i64 K.v, .int .i64 K.si, .int .i64 K.st, .string K.sd, v] 28
    simp only [hW]
    have k0 := cW 0
    have k2 := cW 2
    have k3 := cW 3
    have k4 := cW 4
    simp at k0 k2 k3 k4
    have HW := Hid.intro cW
    have hzW : w.heap.size < W.heap.size := by omega
    clear cW
    refine (hardOk_any _ _ _).mono ?_
    rintro e w' ⟨rfl, rfl⟩
    go_wp2_with fail
    refine (snapOk_any _ _ _ _ _).mono ?_
    rintro e w2 ⟨rfl, b2⟩
    have hz2 := b2.size
    have B2 := bW.trans (b2.mono (by omega))
    cases h2 : snapB K.si K.st K.sd K.t with
    | false =>
      clear k0 k2 k3 k4
      go_wp2
      go_ret
      exact ⟨ret_bool (by rw [h2]; rfl), B2⟩
    | true =>
      have hsi : 0 ≤ K.si ∧ K.si ≤ 100000 := by
        simp only [snapB, inB, Bool.and_eq_true, Bool.or_eq_true, decide_eq_true_eq, beq_iff_eq] at h2
        omega
      have k0 := atCell b2 (HW.out 0) (by omega)
      have k1 := atCell b2 (HW.out 1) (by omega)
      have k2 := atCell b2 (HW.out 2) (by omega)
      have k3 := atCell b2 (HW.out 3) (by omega)
      have k4 := atCell b2 (HW.out 4) (by omega)
      have k5 := atCell b2 (HW.out 5) (by omega)
      simp at k0 k1 k2 k3 k4 k5
      go_wp2_with fail
      refine (entriesOk_any K v N w2 (by omega) (HR.out.kept (B2.mono hN)) hsi.1 hsi.2).mono ?_
      rintro e w3 ⟨rfl, b3⟩
      go_wp2
      go_ret
      exact ⟨ret_bool (by rw [h2]; simp), B2.trans (b3.mono (by omega))⟩

theorem placeB_out {i t : Int} (h : placeB i t = true) : (i = 0 ∧ t = 0) ∨ (1 ≤ i ∧ i ≤ 100000 ∧ 1 ≤ t ∧ t ≤ 100000) := by
  unfold placeB at h
  split at h
  · exact .inl ⟨‹_›, of_decide_eq_true h⟩
  · simp only [Bool.and_eq_true] at h
    have h1 := inB_out h.1
    have h2 := inB_out h.2
    omega
theorem placeB_mk {i t : Int} (h : (i = 0 ∧ t = 0) ∨ (1 ≤ i ∧ i ≤ 100000 ∧ 1 ≤ t ∧ t ≤ 100000)) : placeB i t = true := by
  unfold placeB
  split
  · exact decide_eq_true (by omega)
  · rw [inB_true (by omega), inB_true (by omega)]; rfl
theorem size_of_nil {d : ByteArray} (h : d.toList = []) : d.size = 0 := by
  rw [toList_go] at h
  have := congrArg List.length h
  simpa using this
theorem head_of {K : Kp} (a : inB K.t 0 100000 = true) (b : inB K.v (-1) 4 = true) (c : placeB K.si K.st = true) (d : ¬ (K.si = 0 ∧ ¬ K.sd.toList = [])) (e : (K.sd.size : Int) ≤ 20000) (f : K.st ≤ K.t) (g : (K.e.length : Int) ≤ 60) (h : K.si + K.e.length ≤ 100000) : headP K := by
  have a := inB_out a
  have b := inB_out b
  have c := placeB_out c
  have d' : K.si = 0 → K.sd.size = 0 := fun h0 => by
    by_cases hd : K.sd.toList = []
    · exact size_of_nil hd
    · exact absurd ⟨h0, hd⟩ d
  refine ⟨a.1, a.2, b.1, b.2, ?_, by omega, h⟩
  by_cases h0 : K.si = 0
  · have := d' h0; exact .inl ⟨h0, by omega, this⟩
  · exact .inr (by omega)

set_option maxHeartbeats 4000000 in
theorem specKeptOk_no (K : Kp) (a : Option Addr) (cap : Nat) (w : World) (hh : Hid (¬ headP K)) :
    Calls Try.prog 26 #[kpV K (.slice a K.e.length cap)] w fun e w' => e = .returned (.bool false) ∧ Below w.heap.size w w' := by
  by_cases hp : 0 ≤ K.si ∧ K.si ≤ 100000 ∧ K.e.length ≤ 60
  · obtain ⟨hp1, hp2, hp3⟩ := hp
    go_enter Try.func26, Try.ntmps26
    go_wp2_with first | (go_at_call 63; refine (l1In_any _ _ _ _).mono ?_; rintro e w' ⟨rfl, rfl⟩) | (go_at_call 64; refine (l3Place_any _ _ _).mono ?_; rintro e w' ⟨rfl, rfl⟩)
    all_goals first
      | (go_ret; exact ⟨rfl, (Below.refl _ _).alloc (Nat.le_refl _) _⟩)
      | (refine absurd (head_of ‹_› ‹_› ‹_› ?_ ?_ ?_ ?_ ?_) hh.out <;> first | omega | (simp_all; done))
  · have hp' : placeB K.si K.st = false ∨ (60 < K.e.length) := by
      cases hb : placeB K.si K.st with
      | false => exact .inl rfl
      | true => have := placeB_out hb; exact .inr (by omega)
    rcases hp' with hp' | hp'
    · go_enter Try.func26, Try.ntmps26
      go_wp2_with first | (go_at_call 63; refine (l1In_any _ _ _ _).mono ?_; rintro e w' ⟨rfl, rfl⟩) | (go_at_call 64; refine (l3Place_any _ _ _).mono ?_; rintro e w' ⟨rfl, rfl⟩)
      all_goals (go_ret; exact ⟨rfl, (Below.refl _ _).alloc (Nat.le_refl _) _⟩)
    · go_enter Try.func26, Try.ntmps26
      go_wp2_with first | (go_at_call 63; refine (l1In_any _ _ _ _).mono ?_; rintro e w' ⟨rfl, rfl⟩) | (go_at_call 64; refine (l3Place_any _ _ _).mono ?_; rintro e w' ⟨rfl, rfl⟩)
      all_goals (go_ret; exact ⟨rfl, (Below.refl _ _).alloc (Nat.le_refl _) _⟩)
end Go.Proofs.Ytkilepoimocoeaa
