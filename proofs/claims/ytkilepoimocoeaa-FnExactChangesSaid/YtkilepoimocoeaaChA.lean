/- alike. -/
import Derived.Test.YtkilepoimocoeaaChM
import Derived.Deep.QuietTactic
import Derived.BigQuiet
namespace Go.Proofs.Ytkilepoimocoeaa
open Go.RowKit
set_option linter.unusedVariables false
theorem below_drewN9 {B : Nat} {w w' : World} (h : Below B w w') (n : Nat) : Below B w (w'.drewN n) := ⟨h.os, h.tape, h.output, h.size, h.block⟩
theorem bytes_eq9 {a b : ByteArray} (h : a.toList = b.toList) : a = b := by
  rw [ByteArray.toList_eq, ByteArray.toList_eq] at h
  exact ByteArray.ext (Array.ext' h)
set_option maxRecDepth 100000 in
set_option maxHeartbeats 4000000 in
theorem alike_any (L M : List En) (v u : Value) (N : Nat) (w : World) (hN : N ≤ w.heap.size) (h1 : RowE w N v L) (h2 : RowE w N u M) :
    Calls Try.prog 57 #[v, u] w fun e w' => e = .returned (.int .i64 (alikeN L M)) ∧ Below w.heap.size w w' := by
  obtain ⟨a1, cap1, rfl, l1, m1, hc1⟩ := h1
  obtain ⟨a2, cap2, rfl, l2, m2, hc2⟩ := h2
  have H1 := Hid.intro hc1
  have H2 := Hid.intro hc2
  clear hc1 hc2
  go_enter Try.func57, Try.ntmps57
  go_wp2
  go_loopw [5] (fun i wr => ∃ (j : Nat), i = .int .i64 j ∧ j ≤ L.length ∧ j ≤ M.length ∧ Hid (alikeN L M = j + alikeN (L.drop j) (M.drop j)) ∧ Below w.heap.size w wr) (fun i _ => L.length - (intOf i).toNat)
  case atStart => exact ⟨0, rfl, Nat.zero_le _, Nat.zero_le _, by unfold Hid; simp, Below.refl _ _⟩
  case round =>
    obtain ⟨j, rfl, hj1, hj2, HE, hbel⟩ := hrel
    have HB := Hid.intro hbel
    clear hbel
    by_cases hl1 : j < L.length
    · by_cases hl2 : j < M.length
      · have hne1 : L ≠ [] := by intro h; rw [h] at hl1; simp at hl1
        have hne2 : M ≠ [] := by intro h; rw [h] at hl2; simp at hl2
        obtain ⟨b1, o1, rfl, hb1, cc1⟩ := H1.out hne1
        obtain ⟨b2, o2, rfl, hb2, cc2⟩ := H2.out hne2
        obtain ⟨p0, p1⟩ := cc1 j hl1
        obtain ⟨q0, q1⟩ := cc2 j hl2
        have hat := alikeN_at L M j hl1 hl2
        generalize L[j] = ea at p0 p1 hat
        generalize M[j] = eb at q0 q1 hat
        have hp0 := atCell HB.out p0 (by omega)
        have hp1 := atCell HB.out p1 (by omega)
        have hq0 := atCell HB.out q0 (by omega)
        have hq1 := atCell HB.out q1 (by omega)
        have HAT := Hid.intro hat
        have i1 : (j : Int) < (L.length : Int) := by omega
        have i2 : (j : Int) < (M.length : Int) := by omega
        clear cc1 cc2 p0 p1 q0 q1 hne1 hne2 hat
        by_cases ht : ea.t = eb.t
        · by_cases hd : ea.d = eb.d
          · obtain ⟨t1, d1⟩ := ea
            obtain ⟨t2, d2⟩ := eb
            simp only at ht hd hp0 hp1 hq0 hq1
            subst ht
            subst hd
            go_wp2
            go_quiet (fail)
            go_wp2
            go_roundw
            case rel => exact ⟨j + 1, by go_num, by omega, by omega, by have h1 := HE.out; have h2 := HAT.out; unfold Hid; rw [h1, h2]; simp [eqE]; omega, by first | exact HB.out | exact below_drewN9 HB.out _⟩
            case measure => simp [intOf]; omega
          · have n1 : ¬ ea.d.toList = eb.d.toList := fun h => hd (bytes_eq9 h)
            have n2 : (ea.d.toList == eb.d.toList) = false := by simpa using n1
            have hz : eqE ea eb = false := by simp [eqE, hd]
            have HZ := Hid.intro hz
            clear hd hz
            obtain ⟨t1, d1⟩ := ea
            obtain ⟨t2, d2⟩ := eb
            simp only at ht hp0 hp1 hq0 hq1 n1 n2
            subst ht
            go_wp2
            go_quiet (fail)
            go_wp2
            go_ret
            exact ⟨ret_int (by have h1 := HE.out; have h2 := HAT.out; rw [h1, h2, HZ.out]; simp), by first | exact HB.out | exact below_drewN9 HB.out _⟩
        · have n1 : (ea.t == eb.t) = false := by simpa using ht
          have hz : eqE ea eb = false := by simp [eqE, ht]
          have HZ := Hid.intro hz
          clear hz
          go_wp2
          go_quiet (fail)
          go_wp2
          go_ret
          exact ⟨ret_int (by have h1 := HE.out; have h2 := HAT.out; rw [h1, h2, HZ.out]; simp), by first | exact HB.out | exact below_drewN9 HB.out _⟩
      · have i1 : (j : Int) < (L.length : Int) := by omega
        have i2 : decide ((j : Int) < (M.length : Int)) = false := decide_eq_false (by omega)
        have HN := Hid.intro (alikeN_end L M j (by omega))
        go_wp2
        go_quiet (fail)
        go_wp2
        go_ret
        exact ⟨ret_int (by have h1 := HE.out; rw [h1, HN.out]; simp), by first | exact HB.out | exact below_drewN9 HB.out _⟩
    · have i1 : decide ((j : Int) < (L.length : Int)) = false := decide_eq_false (by omega)
      have HN := Hid.intro (alikeN_end L M j (by omega))
      go_wp2
      go_quiet (fail)
      go_wp2
      go_ret
      exact ⟨ret_int (by have h1 := HE.out; rw [h1, HN.out]; simp), by first | exact HB.out | exact below_drewN9 HB.out _⟩
end Go.Proofs.Ytkilepoimocoeaa
