/- The laws' helpers over rows of records: how great, copies, equal. -/
import Derived.Test.YtkilepoimocoeaaMark
namespace Go.Proofs.Ytkilepoimocoeaa
open Go.RowKit
set_option linter.unusedVariables false
def NewR (w w' : World) (v : Value) (L : List Rc) : Prop := OwnR w' w.heap.size v L ∧ Below w.heap.size w w'
set_option maxHeartbeats 1000000 in
theorem eqRec_any (r : Rc) (w : World) :
    Calls Try.prog 74 #[rcV r, rcV r] w fun e w' => e = .returned (.bool true) ∧ Below w.heap.size w w' := by
  go_enter Try.func74, Try.ntmps74
  go_wp2
  go_ret
  exact ⟨rfl, two_below _ _ _⟩
set_option maxRecDepth 100000 in
set_option maxHeartbeats 2000000 in
theorem eqRecS_any (L : List Rc) (v1 v2 : Value) (N : Nat) (w : World) (hN : N ≤ w.heap.size) (h1 : RowR w N v1 L) (h2 : RowR w N v2 L) :
    Calls Try.prog 35 #[v1, v2] w fun e w' => e = .returned (.bool true) ∧ Below w.heap.size w w' := by
  obtain ⟨a1, cap1, rfl, l1, m1, hc1⟩ := h1
  obtain ⟨a2, cap2, rfl, l2, m2, hc2⟩ := h2
  have H1 := Hid.intro hc1
  have H2 := Hid.intro hc2
  clear hc1 hc2
  go_enter Try.func35, Try.ntmps35
  go_wp2
  go_loopw [5] (fun i wr => ∃ (j : Nat), i = .int .i64 j ∧ j ≤ L.length ∧ Below w.heap.size w wr) (fun i _ => L.length - (intOf i).toNat)
  case atStart => exact ⟨0, rfl, Nat.zero_le _, Below.refl _ _⟩
  case round =>
    obtain ⟨j, rfl, hj, hbel⟩ := hrel
    by_cases hlt : j < L.length
    · have hne : L ≠ [] := by intro h; rw [h] at hlt; simp at hlt
      obtain ⟨b1, o1, rfl, hb1, cc1⟩ := H1.out hne
      obtain ⟨b2, o2, rfl, hb2, cc2⟩ := H2.out hne
      obtain ⟨p0, p1, p2, p3, p4⟩ := cc1 j hlt
      obtain ⟨q0, q1, q2, q3, q4⟩ := cc2 j hlt
      generalize L[j] = ej at p0 p1 p2 p3 p4 q0 q1 q2 q3 q4
      have hs := hbel.size
      have HC : Hid (∀ w', Below wr.heap.size wr w' → Below w.heap.size w w') := fun w' hb => hbel.trans (hb.mono hs)
      have hp0 := atCell hbel p0 (by omega)
      have hp1 := atCell hbel p1 (by omega)
      have hp2 := atCell hbel p2 (by omega)
      have hp3 := atCell hbel p3 (by omega)
      have hp4 := atCell hbel p4 (by omega)
      have hq0 := atCell hbel q0 (by omega)
      have hq1 := atCell hbel q1 (by omega)
      have hq2 := atCell hbel q2 (by omega)
      have hq3 := atCell hbel q3 (by omega)
      have hq4 := atCell hbel q4 (by omega)
      have i1 : (0 : Int) ≤ (j : Int) ∧ (j : Int) < (L.length : Int) := by omega
      have HJ : Hid (j < L.length) := hlt
      have hjl : (j : Int) < (L.length : Int) := by omega
      clear cc1 cc2 p0 p1 p2 p3 p4 q0 q1 q2 q3 q4 hne
      go_wp2
      go_region_with (go_at_call 74; refine (eqRec_any ej _).mono ?_; rintro e w2 ⟨rfl, b2⟩; have B2 := HC.out w2 (by first | exact b2 | exact ((Below.refl _ _).drew).trans b2 | exact ((Below.refl _ _).drew.drew).trans b2); clear b2)
      all_goals
        clear HC
        go_wp2
        go_roundw
        case rel => exact ⟨j + 1, by go_num, by omega, B2⟩
        case measure => simp [intOf]; omega
    · obtain rfl : j = L.length := by omega
      go_wp2
      go_ret
      exact ⟨rfl, hbel⟩
end Go.Proofs.Ytkilepoimocoeaa
