/- Does a record fit: l3LastTerm, l3Fits; lastTerm, has. -/
import Derived.Test.YtkilepoimocoeaaOwn
import Derived.Deep.RegionWith
namespace Go.Proofs.Ytkilepoimocoeaa
open Go.RowKit
set_option linter.unusedVariables false
theorem wraps_i64 (n : Int) (h₀ : -9223372036854775808 ≤ n) (h₁ : n ≤ 9223372036854775807) : IntKind.i64.wrap n = n := by rw [IntKind.wrap_i64]; omega
theorem lastT_nil {K : Kp} (h : K.e = []) : lastT K = K.st := by unfold lastT; rw [h]; rfl
theorem lastT_at {K : Kp} (h : K.e.length - 1 < K.e.length) : lastT K = K.e[K.e.length - 1].t := by
  unfold lastT; rw [List.getLast?_eq_getElem?, List.getElem?_eq_getElem h]
set_option maxHeartbeats 1000000 in
theorem lastTerm_any (K : Kp) (v : Value) (N : Nat) (w : World) (hN : N ≤ w.heap.size) (hr : RowE w N v K.e) (hl : K.e.length ≤ 2000000) :
    Calls Try.prog 92 #[kpV K v] w fun e w' => e = .returned (.int .i64 (lastT K)) ∧ Below w.heap.size w w' := by
  obtain ⟨a, cap, rfl, h1, h2, h3⟩ := hr
  by_cases h0 : K.e = []
  · have hl0 : K.e.length = 0 := by rw [h0]; rfl
    rw [lastT_nil h0]
    go_enter Try.func92, Try.ntmps92
    go_wp2
    go_ret
    exact ⟨rfl, (Below.refl _ _).alloc (Nat.le_refl _) _⟩
  · obtain ⟨b, off, rfl, hb, h4⟩ := h3 h0
    have hp := List.length_pos_iff.2 h0
    have hlt : K.e.length - 1 < K.e.length := by omega
    rw [lastT_at hlt]
    obtain ⟨c0, c1⟩ := h4 _ hlt
    obtain ⟨m, hm⟩ : ∃ m, K.e.length = m + 1 := ⟨K.e.length - 1, by omega⟩
    have hm' : K.e.length - 1 = m := by omega
    generalize K.e[K.e.length - 1] = ej at c0 c1 ⊢
    rw [hm'] at c0 c1
    have hbw : b < w.heap.size := by omega
    clear h3 h4 hlt hm' h0 hp
    rw [hm] at h1 hl ⊢
    go_enter Try.func92, Try.ntmps92
    go_wp2
    go_ret
    exact ⟨rfl, (Below.refl _ _).alloc (Nat.le_refl _) _⟩
set_option maxHeartbeats 1000000 in
theorem l3LastTerm_any (K : Kp) (v : Value) (N : Nat) (w : World) (hN : N ≤ w.heap.size) (hr : RowE w N v K.e) (hl : K.e.length ≤ 2000000) :
    Calls Try.prog 91 #[kpV K v] w fun e w' => e = .returned (.int .i64 (lastT K)) ∧ Below w.heap.size w w' := by
  obtain ⟨a, cap, rfl, h1, h2, h3⟩ := hr
  by_cases h0 : K.e = []
  · have hl0 : K.e.length = 0 := by rw [h0]; rfl
    rw [lastT_nil h0]
    go_enter Try.func91, Try.ntmps91
    go_wp2
    go_ret
    exact ⟨rfl, (Below.refl _ _).alloc (Nat.le_refl _) _⟩
  · obtain ⟨b, off, rfl, hb, h4⟩ := h3 h0
    have hp := List.length_pos_iff.2 h0
    have hlt : K.e.length - 1 < K.e.length := by omega
    rw [lastT_at hlt]
    obtain ⟨c0, c1⟩ := h4 _ hlt
    obtain ⟨m, hm⟩ : ∃ m, K.e.length = m + 1 := ⟨K.e.length - 1, by omega⟩
    have hm' : K.e.length - 1 = m := by omega
    generalize K.e[K.e.length - 1] = ej at c0 c1 ⊢
    rw [hm'] at c0 c1
    have hbw : b < w.heap.size := by omega
    clear h3 h4 hlt hm' h0 hp
    rw [hm] at h1 hl ⊢
    go_enter Try.func91, Try.ntmps91
    go_wp2
    go_ret
    exact ⟨rfl, (Below.refl _ _).alloc (Nat.le_refl _) _⟩

set_option maxHeartbeats 1000000 in
theorem has_any (K : Kp) (a : Option Addr) (len cap : Nat) (i : Int) (w : World) (hlen : len = K.e.length) (hs : Sm K) :
    Calls Try.prog 93 #[kpV K (.slice a len cap), .int .i64 i] w fun e w' => e = .returned (.bool (inB i (K.si + 1) (K.si + K.e.length))) ∧ Below w.heap.size w w' := by
  obtain ⟨s1, s2, s3⟩ := hs
  subst hlen
  go_enter Try.func93, Try.ntmps93
  go_wp2
  obtain ⟨W, hW, bW, zW, cW, fW⟩ := boxed w #[.int .i64 K.t, .int .i64 K.v, .int .i64 K.si, .int .i64 K.st, .string K.sd, .slice a K.e.length cap] 28
  simp only [hW]
  have k0 := cW 0
  have k1 := cW 1
  have k2 := cW 2
  have k3 := cW 3
  have k4 := cW 4
  have k5 := cW 5
  simp at k0 k1 k2 k3 k4 k5
  have hz : w.heap.size < W.heap.size := by omega
  have hw : IntKind.i64.wrap (K.si + 1) = K.si + 1 := wraps_i64 _ (by omega) (by omega)
  have HC : Hid (∀ w', Below W.heap.size W w' → w'.cell? ⟨w.heap.size, 2, none⟩ = some (.int .i64 K.si) ∧ Below w.heap.size w w') := fun w' hb => ⟨atCell hb k2 hz, bW.trans (hb.mono (by omega))⟩
  clear hW bW cW fW zW
  go_region_with (first
    | (go_at_call 88; refine (last_any K _ _ _ _ rfl (by omega) (by omega) (by omega)).mono ?_; rintro e w2 ⟨rfl, b2⟩; obtain ⟨j2, B2⟩ := HC.out w2 (by first | exact b2 | exact ((Below.refl _ _).drew).trans b2 | exact ((Below.refl _ _).drew.drew).trans b2); clear b2)
    | (go_at_call 85; refine (within_any _ _ _ _).mono ?_; rintro e w3 ⟨rfl, rfl⟩))
  all_goals
    clear HC
    go_wp2
    go_ret
    exact ⟨rfl, B2⟩
end Go.Proofs.Ytkilepoimocoeaa
