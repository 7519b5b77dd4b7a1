/- The laws' helpers over rows of numbers and of names: how great, copies, equal. -/
import Derived.Test.YtegdogdlohoheaaGreatPMath
import Derived.Deep.RegionWith
import Derived.OwnWalk
import Derived.RegionTactic
import Derived.ChangeAlike
namespace Go.Proofs.YtegdogdlohoheaaGreat
open Go.RowKit
set_option linter.unusedVariables false
/-- What is left of a measure: never more than there was; it is below 0 or the things counted fit. -/
def SzP (left n : Int) (m : Nat) : Prop := n ≤ left ∧ -1 ≤ n ∧ (0 ≤ n → (m : Int) ≤ left)
theorem info_parts {t : TypeId} {z : Option Value} {s b : Nat} (h : (Tryz.prog.info? t).map (fun i => (i.zero, i.size, i.bytes)) = some (z, s, b)) : ∃ i, Tryz.prog.info? t = some i ∧ i.zero = z ∧ i.size = s ∧ i.bytes = b := by
  cases hi : Tryz.prog.info? t with
  | none => rw [hi] at h; cases h
  | some i =>
    rw [hi] at h
    simp only [Option.map_some, Option.some.injEq, Prod.mk.injEq] at h
    exact ⟨i, rfl, h.1, h.2.1, h.2.2⟩
theorem infoI' : (Tryz.prog.info? 3).map (fun i => (i.zero, i.size, i.bytes)) = some (some (.int .i64 0), 1, 8) := by kernel_rfl
theorem infoD' : (Tryz.prog.info? 102).map (fun i => (i.zero, i.size, i.bytes)) = some (some (.agg #[.string ⟨#[]⟩, .int .i64 0]), 2, 24) := by kernel_rfl
theorem infoI : ∃ i, Tryz.prog.info? 3 = some i ∧ i.zero = some (.int .i64 0) ∧ i.size = 1 ∧ i.bytes = 8 := info_parts infoI'
theorem infoD : ∃ i, Tryz.prog.info? 102 = some i ∧ i.zero = some (.agg #[.string ⟨#[]⟩, .int .i64 0]) ∧ i.size = 2 ∧ i.bytes = 24 := info_parts infoD'
set_option maxHeartbeats 1000000 in
theorem eqDirent_any (d : Di) (w : World) :
    Calls Tryz.prog 96 #[.agg #[.string d.nm, .int .i64 d.id], .agg #[.string d.nm, .int .i64 d.id]] w fun e w' => e = .returned (.bool true) ∧ Below w.heap.size w w' := by
  go_enter Tryz.func96, Tryz.ntmps96
  go_wp2
  go_ret
  exact ⟨rfl, two_below _ _ _⟩
set_option maxRecDepth 100000 in
set_option maxHeartbeats 2000000 in
theorem eqDirentS_any (L : List Di) (v1 v2 : Value) (N : Nat) (w : World) (hN : N ≤ w.heap.size) (h1 : Row diE w N v1 L) (h2 : Row diE w N v2 L) :
    Calls Tryz.prog 83 #[v1, v2] w fun e w' => e = .returned (.bool true) ∧ Below w.heap.size w w' := by
  obtain ⟨a1, cap1, rfl, l1, m1, hc1⟩ := diE_cell h1
  obtain ⟨a2, cap2, rfl, l2, m2, hc2⟩ := diE_cell h2
  have H1 := Hid.intro hc1
  have H2 := Hid.intro hc2
  clear hc1 hc2 h1 h2
  go_enter Tryz.func83, Tryz.ntmps83
  go_wp2
  go_loopw [5] (fun i wr => ∃ (j : Nat), i = .int .i64 j ∧ j ≤ L.length ∧ Below w.heap.size w wr) (fun i _ => L.length - (intOf i).toNat)
  case atStart => exact ⟨0, rfl, Nat.zero_le _, Below.refl _ _⟩
  case round =>
    obtain ⟨j, rfl, hj, hbel⟩ := hrel
    by_cases hlt : j < L.length
    · have hne : L ≠ [] := by intro h; rw [h] at hlt; simp at hlt
      obtain ⟨b1, o1, rfl, hb1, cc1⟩ := H1.out hne
      obtain ⟨b2, o2, rfl, hb2, cc2⟩ := H2.out hne
      obtain ⟨p0, p1⟩ := cc1 j hlt
      obtain ⟨q0, q1⟩ := cc2 j hlt
      generalize L[j] = ej at p0 p1 q0 q1
      have hs := hbel.size
      have HC : Hid (∀ w', Below wr.heap.size wr w' → Below w.heap.size w w') := fun w' hb => hbel.trans (hb.mono hs)
      have hp0 := atCell hbel p0 (by omega)
      have hp1 := atCell hbel p1 (by omega)
      have hq0 := atCell hbel q0 (by omega)
      have hq1 := atCell hbel q1 (by omega)
      have i1 : (0 : Int) ≤ (j : Int) ∧ (j : Int) < (L.length : Int) := by omega
      have HJ : Hid (j < L.length) := hlt
      have hjl : (j : Int) < (L.length : Int) := by omega
      clear cc1 cc2 p0 p1 q0 q1 hne
      go_wp2
      go_region_with (go_at_call 96; refine (eqDirent_any _ _).mono ?_; rintro e w2 ⟨rfl, b2⟩; have B2 := HC.out w2 (by first | exact b2 | exact ((Below.refl _ _).drew).trans b2 | exact ((Below.refl _ _).drew.drew).trans b2); clear b2)
      all_goals
        clear HC
        go_wp2
        go_roundw
        case rel => exact ⟨j + 1, by go_num, by omega, B2⟩
        case measure => simp [intOf]; omega
    · obtain rfl : j = L.length := by omega
      go_wp2
      go_ret
      exact ⟨rfl, hbel⟩
end Go.Proofs.YtegdogdlohoheaaGreat
