/- Contracts of the small functions of chapter 3. -/
import Derived.Test.YtkilepoimocoeaaRows
import Derived.Test.YtkilepoimocoeaaMath
import Derived.WalkKit
import Derived.WalkSpells
import Derived.WalkLawsBesides
import Derived.Deep.QuietTactic
import Derived.BigQuiet
import Derived.OpenShut
import Derived.Below
namespace Go.Proofs.Ytkilepoimocoeaa
open Go.RowKit
set_option linter.unusedVariables false

theorem ret_bool {a b : Bool} (h : a = b) : Ending.returned (.bool a) = .returned (.bool b) := by rw [h]
theorem ret_int {k : IntKind} {a b : Int} (h : a = b) : Ending.returned (.int k a) = .returned (.int k b) := by rw [h]
theorem bcell {W w1 : World} (hb : Below W.heap.size W w1) : (∀ b o, b < W.heap.size → w1.cell? ⟨b, o, none⟩ = W.cell? ⟨b, o, none⟩) ∧ (∀ b o, b < W.heap.size → w1.frozen? ⟨b, o, none⟩ = W.frozen? ⟨b, o, none⟩) :=
  ⟨fun b o h => hb.cell (p := ⟨b, o, none⟩) h, fun b o h => hb.frozen (p := ⟨b, o, none⟩) h⟩

theorem atCell {B : Nat} {w w' : World} (hb : Below B w w') {b o : Nat} {x : Value} (h : w.cell? ⟨b, o, none⟩ = some x) (hB : b < B) : w'.cell? ⟨b, o, none⟩ = some x := (hb.cell (p := ⟨b, o, none⟩) hB).trans h
theorem atFrozen {B : Nat} {w w' : World} (hb : Below B w w') {b o : Nat} {x : Bool} (h : w.frozen? ⟨b, o, none⟩ = x) (hB : b < B) : w'.frozen? ⟨b, o, none⟩ = x := (hb.frozen (p := ⟨b, o, none⟩) hB).trans h
/-- A block of cells that was just laid. -/
theorem boxed (w : World) (A : Array Value) (T : TypeId) : ∃ W, w.alloc (.cells A T) = W ∧ Below w.heap.size w W ∧ W.heap.size = w.heap.size + 1 ∧ (∀ o, W.cell? ⟨w.heap.size, o, none⟩ = A[o]?) ∧ (∀ o, W.frozen? ⟨w.heap.size, o, none⟩ = false) :=
  ⟨_, rfl, (Below.refl _ _).alloc (Nat.le_refl _) _, by simp, fun o => World.cell?_alloc_at _ _ _ _ rfl, fun o => World.frozen?_alloc_at _ _ _ _ rfl⟩

/-- Is x from a to b? -/
def inB (x a b : Int) : Bool := decide (a ≤ x) && decide (x ≤ b)
theorem inB_true {x a b : Int} (h : a ≤ x ∧ x ≤ b) : inB x a b = true := by simp [inB, h]
theorem inB_false {x a b : Int} (h : ¬ (a ≤ x ∧ x ≤ b)) : inB x a b = false := by
  simp only [inB, Bool.and_eq_false_iff, decide_eq_false_iff_not]; omega

theorem within_any (x a b : Int) (w : World) :
    Calls Try.prog 85 #[.int .i64 x, .int .i64 a, .int .i64 b] w fun e w' => e = .returned (.bool (inB x a b)) ∧ w = w' := by
  by_cases h1 : a ≤ x
  · by_cases h2 : x ≤ b
    · rw [inB_true ⟨h1, h2⟩]
      go_enter Try.func85, Try.ntmps85
      go_wp2
      go_ret
      exact ⟨rfl, rfl⟩
    · rw [inB_false (by omega)]
      go_enter Try.func85, Try.ntmps85
      go_wp2
      go_ret
      exact ⟨rfl, rfl⟩
  · rw [inB_false (by omega)]
    go_enter Try.func85, Try.ntmps85
    go_wp2
    go_ret
    exact ⟨rfl, rfl⟩
theorem l1In_any (x a b : Int) (w : World) :
    Calls Try.prog 63 #[.int .i64 x, .int .i64 a, .int .i64 b] w fun e w' => e = .returned (.bool (inB x a b)) ∧ w = w' := by
  by_cases h1 : a ≤ x
  · by_cases h2 : x ≤ b
    · rw [inB_true ⟨h1, h2⟩]
      go_enter Try.func63, Try.ntmps63
      go_wp2
      go_ret
      exact ⟨rfl, rfl⟩
    · rw [inB_false (by omega)]
      go_enter Try.func63, Try.ntmps63
      go_wp2
      go_ret
      exact ⟨rfl, rfl⟩
  · rw [inB_false (by omega)]
    go_enter Try.func63, Try.ntmps63
    go_wp2
    go_ret
    exact ⟨rfl, rfl⟩

def hardB (t v : Int) : Bool := inB t 0 100000 && inB v (-1) 4
set_option maxHeartbeats 400000 in
theorem hardOk_any (t v : Int) (w : World) :
    Calls Try.prog 67 #[.int .i64 t, .int .i64 v] w fun e w' => e = .returned (.bool (hardB t v)) ∧ w = w' := by
  cases h1 : inB t 0 100000 with
  | true =>
    go_enter Try.func67, Try.ntmps67
    go_wp2_with (go_at_call 85; refine (within_any _ _ _ _).mono ?_; rintro e w' ⟨rfl, rfl⟩)
    go_ret
    exact ⟨by simp [hardB, h1], rfl⟩
  | false =>
    go_enter Try.func67, Try.ntmps67
    go_wp2_with (go_at_call 85; refine (within_any _ _ _ _).mono ?_; rintro e w' ⟨rfl, rfl⟩)
    go_ret
    exact ⟨by simp [hardB, h1], rfl⟩

def placeP (i t : Int) : Prop := (i = 0 ∧ t = 0) ∨ (1 ≤ i ∧ i ≤ 100000 ∧ 1 ≤ t ∧ t ≤ 100000)
def placeB (i t : Int) : Bool := if i = 0 then decide (t = 0) else inB i 1 100000 && inB t 1 100000
set_option maxHeartbeats 400000 in
theorem l3Place_any (i t : Int) (w : World) :
    Calls Try.prog 64 #[.int .i64 i, .int .i64 t] w fun e w' => e = .returned (.bool (placeB i t)) ∧ w = w' := by
  by_cases h0 : i = 0
  · subst h0
    go_enter Try.func64, Try.ntmps64
    go_wp2
    go_ret
    exact ⟨by simp [placeB]; rfl, rfl⟩
  · have hb : (i == 0) = false := by simpa using h0
    cases h1 : inB i 1 100000 with
    | true =>
      go_enter Try.func64, Try.ntmps64
      go_wp2_with (go_at_call 63; refine (l1In_any _ _ _ _).mono ?_; rintro e w' ⟨rfl, rfl⟩)
      go_ret
      exact ⟨by simp [placeB, h1, h0], rfl⟩
    | false =>
      go_enter Try.func64, Try.ntmps64
      go_wp2_with (go_at_call 63; refine (l1In_any _ _ _ _).mono ?_; rintro e w' ⟨rfl, rfl⟩)
      go_ret
      exact ⟨by simp [placeB, h1, h0], rfl⟩

/-- The slice v, in memory below block N, holds the entries L. -/
def RowE (w : World) (N : Nat) (v : Value) (L : List En) : Prop := ∃ a cap, v = .slice a L.length cap ∧ L.length ≤ cap ∧ cap ≤ 9223372036854775807 ∧
  (L ≠ [] → ∃ b off, a = some ⟨b, off, none⟩ ∧ b < N ∧ ∀ j (h : j < L.length), w.cell? ⟨b, off + j * 2, none⟩ = some (.int .i64 L[j].t) ∧ w.cell? ⟨b, off + j * 2 + 1, none⟩ = some (.string L[j].d))
theorem RowE.kept {w w' : World} {N : Nat} {v : Value} {L : List En} (h : RowE w N v L) (hb : Below N w w') : RowE w' N v L := by
  obtain ⟨a, cap, rfl, h1, h2, h3⟩ := h
  refine ⟨a, cap, rfl, h1, h2, fun hL => ?_⟩
  obtain ⟨b, off, rfl, hbN, hc⟩ := h3 hL
  exact ⟨b, off, rfl, hbN, fun j hj => ⟨(hb.cell (p := ⟨b, off + j * 2, none⟩) hbN).trans (hc j hj).1, (hb.cell (p := ⟨b, off + j * 2 + 1, none⟩) hbN).trans (hc j hj).2⟩⟩
theorem RowE.up {w : World} {N N' : Nat} {v : Value} {L : List En} (h : RowE w N v L) (hN : N ≤ N') : RowE w N' v L := by
  obtain ⟨a, cap, rfl, h1, h2, h3⟩ := h
  refine ⟨a, cap, rfl, h1, h2, fun hL => ?_⟩
  obtain ⟨b, off, rfl, hbN, hc⟩ := h3 hL
  exact ⟨b, off, rfl, by omega, hc⟩

abbrev kpV (K : Kp) (v : Value) : Value := .agg #[.int .i64 K.t, .int .i64 K.v, .int .i64 K.si, .int .i64 K.st, .string K.sd, v]

theorem last_any (K : Kp) (a : Option Addr) (len cap : Nat) (w : World) (hl : len = K.e.length) (h1 : -1000000 ≤ K.si) (h2 : K.si ≤ 1000000) (h3 : len ≤ 2000000) :
    Calls Try.prog 88 #[kpV K (.slice a len cap)] w fun e w' => e = .returned (.int .i64 (K.si + K.e.length)) ∧ Below w.heap.size w w' := by
  subst hl
  go_enter Try.func88, Try.ntmps88
  go_wp2
  go_ret
  exact ⟨rfl, (Below.refl _ _).alloc (Nat.le_refl _) _⟩

end Go.Proofs.Ytkilepoimocoeaa
