/- spec.KeptOk. -/
import Derived.Test.YtkilepoimocoeaaLeafC
namespace Go.Proofs.Ytkilepoimocoeaa
open Go.RowKit
set_option linter.unusedVariables false

theorem head_facts {K : Kp} (h : headP K) : inB K.t 0 100000 = true ∧ inB K.v (-1) 4 = true ∧ placeB K.si K.st = true ∧ K.sd.size ≤ 20000 ∧ K.st ≤ K.t ∧ K.e.length ≤ 60 ∧ K.si + K.e.length ≤ 100000 ∧ 0 ≤ K.si ∧ 0 ≤ K.st := by
  unfold headP at h
  exact ⟨inB_true (by omega), inB_true (by omega), placeB_mk (by omega), by omega, by omega, by omega, by omega, by omega, by omega⟩
set_option maxHeartbeats 4000000 in
theorem specKeptOk_yes (K : Kp) (v : Value) (N : Nat) (w : World) (hN : N ≤ w.heap.size) (hr : RowE w N v K.e) (hh : headP K) :
    Calls Try.prog 26 #[kpV K v] w fun e w' => e = .returned (.bool (entsB (max K.st 1) K.t K.e)) ∧ Below w.heap.size w w' := by
  obtain ⟨f1, f2, f3, f4, f5, f6, f7, f8, f9⟩ := head_facts hh
  obtain ⟨a, cap, rfl, hl, hm, hcells⟩ := hr
  have HC := Hid.intro hcells
  have HH := Hid.intro hh
  clear hcells hh
  have hsd : (K.si = 0 ∧ K.sd = ⟨#[]⟩) ∨ ((K.si == 0) = false) := by
    by_cases h0 : K.si = 0
    · exact .inl ⟨h0, empty_of (by have := HH.out; unfold headP at this; omega)⟩
    · exact .inr (by simpa using h0)
  have key : ∀ w0, Below w.heap.size w w0 → Calls Try.prog 26 #[kpV K (.slice a K.e.length cap)] w0 fun e w' => e = .returned (.bool (entsB (max K.st 1) K.t K.e)) ∧ Below w0.heap.size w0 w' := by
    intro w0 hw0
    have hz0 := hw0.size
    have HW := Hid.intro hw0
    clear hw0
    go_enter Try.func26, Try.ntmps26
    go_wp2_with fail
    obtain ⟨W, hW, bW, zW, cW, _⟩ := boxed w0 #[.int .i64 K.t, .int .i64 K.v, .int .i64 K.si, .int .i64 K.st, .string K.sd, .slice a K.e.length cap] 28
    simp only [hW]
    have k0 := cW 0
    have k1 := cW 1
    have k2 := cW 2
    have k3 := cW 3
    have k4 := cW 4
    have k5 := cW 5
    simp at k0 k1 k2 k3 k4 k5
    have hz1 : w0.heap.size < W.heap.size := by omega
    have HB := Hid.intro bW
    clear hW bW zW cW
    refine (l1In_any _ _ _ _).mono ?_
    rintro e w' ⟨rfl, rfl⟩
    rcases hsd with ⟨hs1, hs2⟩ | hs1
    rw [hs1] at f3
    all_goals
      go_wp2_with first | (go_at_call 63; refine (l1In_any _ _ _ _).mono ?_; rintro e w' ⟨rfl, rfl⟩) | (go_at_call 64; refine (l3Place_any _ _ _).mono ?_; rintro e w' ⟨rfl, rfl⟩)
      go_loopw [3, 4] (fun lo i wr => ∃ (j : Nat) (x : Int), i = .int .i64 j ∧ lo = .int .i64 x ∧ j ≤ K.e.length ∧ Hid (entsB (max K.st 1) K.t K.e = entsB (max x 1) K.t (K.e.drop j)) ∧ Below W.heap.size W wr) (fun _ i _ => K.e.length - (intOf i).toNat)
      case atStart => exact ⟨0, _, rfl, rfl, Nat.zero_le _, by unfold Hid; rw [List.drop_zero], Below.refl _ _⟩
      case round =>
        obtain ⟨j, x, rfl, rfl, hj, HE, hbel⟩ := hrel
        have hs2 := hbel.size
        have hz2 : w0.heap.size < wr.heap.size := by omega
        have j0 := atCell hbel k0 hz1
        have j5 := atCell hbel k5 hz1
        clear k0 k1 k2 k3 k4 k5 f1 f2 f3 f4 f5 f7 f8 f9
        by_cases hlt : j < K.e.length
        · obtain ⟨b, off, rfl, hbN, hcc⟩ := HC.out (by intro h; rw [h] at hlt; simp at hlt)
          have hE := entsB_at (lo := max x 1) (top := K.t) hlt
          obtain ⟨c0, c1⟩ := hcc j hlt
          generalize K.e[j] = ej at c0 c1 hE
          have HX := Hid.intro hE
          have hbw : b < wr.heap.size := by omega
          have g0 := atCell hbel (atCell HB.out (atCell HW.out c0 (by omega)) (by omega)) (by omega)
          have g1 := atCell hbel (atCell HB.out (atCell HW.out c1 (by omega)) (by omega)) (by omega)
          clear hE hcc c0 c1
          by_cases hok : max x 1 ≤ ej.t ∧ ej.t ≤ K.t ∧ ej.d.size ≤ 1600
          · obtain ⟨o1, o2, o3⟩ := hok
            have o4 : 1 ≤ ej.t := by omega
            have o5 : x ≤ ej.t := by omega
            have HO := Hid.intro o1
            clear o1
            go_wp2
            go_roundw
            case rel => exact ⟨j + 1, _, by go_num, rfl, by omega, by unfold Hid; rw [HE.out, HX.out, decide_eq_true ⟨HO.out, o2, o3⟩, Int.max_eq_left o4]; rfl, hbel.alloc hs2 _⟩
            case measure => simp [intOf]; omega
          · have HO := Hid.intro hok
            clear hok
            go_wp2
            all_goals first
              | (go_ret; exact ⟨ret_bool (by rw [HE.out, HX.out, decide_eq_false HO.out]; rfl), (HB.out.trans (hbel.mono (by omega))).alloc (by omega) _⟩)
              | (exact absurd (by omega) HO.out)
        · obtain rfl : j = K.e.length := by omega
          go_wp2
          go_ret
          exact ⟨ret_bool (by rw [HE.out, entsB_end (Nat.le_refl _)]), HB.out.trans (hbel.mono (by omega))⟩
  exact key w (Below.refl _ _)

theorem specKeptOk_any (K : Kp) (v : Value) (N : Nat) (w : World) (hN : N ≤ w.heap.size) (hr : RowE w N v K.e) :
    Calls Try.prog 26 #[kpV K v] w fun e w' => e = .returned (.bool (keptB K)) ∧ Below w.heap.size w w' := by
  by_cases hh : headP K
  · rw [keptB_eq hh]
    exact specKeptOk_yes K v N w hN hr hh
  · rw [keptB_no hh]
    obtain ⟨a, cap, rfl, _⟩ := hr
    exact specKeptOk_no K a cap w hh
end Go.Proofs.Ytkilepoimocoeaa
