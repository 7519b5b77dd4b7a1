/- KeptOk, both. -/
import Derived.Test.YtkilepoimocoeaaLeaf
namespace Go.Proofs.Ytkilepoimocoeaa
open Go.RowKit
set_option linter.unusedVariables false

theorem bytes_eq {a b : ByteArray} (h : a.data.toList = b.data.toList) : a = b := by
  cases a; cases b; simp at h; rw [h]
theorem toList_go (s : ByteArray) : s.toList = s.data.toList := by rw [ByteArray.toList_eq]
theorem toList_inj {a b : ByteArray} (h : a.toList = b.toList) : a = b := by
  rw [toList_go, toList_go] at h
  exact bytes_eq h
theorem empty_of {d : ByteArray} (h : d.size = 0) : d = ⟨#[]⟩ := by
  apply bytes_eq
  have : d.data.toList.length = 0 := by simpa using h
  rw [List.eq_nil_of_length_eq_zero this]
theorem empty_ne {d : ByteArray} (h : ¬ d.size = 0) : ¬ d.toList = [] := by
  intro e
  rw [toList_go] at e
  exact h (by have := congrArg List.length e; simpa using this)
theorem empty_is {d : ByteArray} (h : ¬ d.size = 0) : d.toList.isEmpty = false := by
  rw [List.isEmpty_eq_false_iff]
  exact empty_ne h

def snapB (i t : Int) (d : ByteArray) (term : Int) : Bool := (i == 0 && t == 0 && decide (d.size = 0)) || (inB i 1 100000 && (inB t 1 term && decide ((d.size : Int) ≤ 20000)))
set_option maxHeartbeats 1000000 in
theorem snapOk_any (i t : Int) (d : ByteArray) (term : Int) (w : World) :
    Calls Try.prog 68 #[.agg #[.int .i64 i, .int .i64 t, .string d], .int .i64 term] w fun e w' => e = .returned (.bool (snapB i t d term)) ∧ Below w.heap.size w w' := by
  by_cases hz : i = 0 ∧ t = 0 ∧ d.size = 0
  · obtain ⟨rfl, rfl, hd⟩ := hz
    obtain rfl := empty_of hd
    go_enter Try.func68, Try.ntmps68
    go_wp2
    go_ret
    exact ⟨rfl, (Below.refl _ _).alloc (Nat.le_refl _) _⟩
  · have hz2 : (i == 0 && t == 0 && decide (d.size = 0)) = false := by
      rw [Bool.eq_false_iff]
      simpa [Bool.and_eq_true, and_assoc] using hz
    have hq : ¬ (i = 0 ∧ t = 0 ∧ d.toList = []) := by
      rintro ⟨h1, h2, h3⟩
      exact hz ⟨h1, h2, by rw [toList_go] at h3; have := congrArg List.length h3; simpa using this⟩
    cases h1 : inB i 1 100000 with
    | false =>
      go_enter Try.func68, Try.ntmps68
      go_wp2_with (go_at_call 85; refine (within_any _ _ _ _).mono ?_; rintro e w' ⟨rfl, rfl⟩)
      all_goals try (exact absurd ⟨‹_›, ‹_›, ‹_›⟩ hq)
      all_goals go_ret
      all_goals exact ⟨ret_bool (by unfold snapB; rw [hz2]; first | (rw [h1, h2]; rfl) | (rw [h1]; rfl) | (exfalso; simp_all; done)), (Below.refl _ _).alloc (Nat.le_refl _) _⟩
    | true =>
      cases h2 : inB t 1 term with
      | false =>
        go_enter Try.func68, Try.ntmps68
        go_wp2_with (go_at_call 85; refine (within_any _ _ _ _).mono ?_; rintro e w' ⟨rfl, rfl⟩)
        all_goals try (exact absurd ⟨‹_›, ‹_›, ‹_›⟩ hq)
        all_goals go_ret
        all_goals exact ⟨ret_bool (by unfold snapB; rw [hz2]; first | (rw [h1, h2]; rfl) | (rw [h1]; rfl) | (exfalso; simp_all; done)), (Below.refl _ _).alloc (Nat.le_refl _) _⟩
      | true =>
        go_enter Try.func68, Try.ntmps68
        go_wp2_with (go_at_call 85; refine (within_any _ _ _ _).mono ?_; rintro e w' ⟨rfl, rfl⟩)
        all_goals try (exact absurd ⟨‹_›, ‹_›, ‹_›⟩ hq)
        all_goals go_ret
        all_goals exact ⟨ret_bool (by unfold snapB; rw [hz2]; first | (rw [h1, h2]; rfl) | (rw [h1]; rfl) | (exfalso; simp_all; done)), (Below.refl _ _).alloc (Nat.le_refl _) _⟩

def entAt (lo top : Int) (e : En) : Bool := decide (lo ≤ e.t ∧ e.t ≤ top ∧ e.d.size ≤ 1600)
theorem entsB_at {lo top : Int} {L : List En} {j : Nat} (h : j < L.length) : entsB lo top (L.drop j) = (decide (lo ≤ L[j].t ∧ L[j].t ≤ top ∧ L[j].d.size ≤ 1600) && entsB L[j].t top (L.drop (j + 1))) := by
  rw [List.drop_eq_getElem_cons h]; rfl
theorem entsB_end {lo top : Int} {L : List En} {j : Nat} (h : L.length ≤ j) : entsB lo top (L.drop j) = true := by
  rw [List.drop_eq_nil_of_le h]; rfl

set_option maxHeartbeats 2000000 in
theorem followOk_any (L : List En) (lo top : Int) (v : Value) (N : Nat) (w : World) (hN : N ≤ w.heap.size) (hr : RowE w N v L) :
    Calls Try.prog 89 #[v, .int .i64 lo, .int .i64 top] w fun e w' => e = .returned (.bool (entsB (max lo 1) top L)) ∧ Below w.heap.size w w' := by
  obtain ⟨a, cap, rfl, hl, hm, hcells⟩ := hr
  have HC := Hid.intro hcells
  clear hcells
  go_enter Try.func89, Try.ntmps89
  go_wp2
  all_goals
    go_loopw [7, 14] (fun lo' i wr => ∃ (j : Nat) (x : Int), i = .int .i64 j ∧ lo' = .int .i64 x ∧ j ≤ L.length ∧ Hid (entsB (max lo 1) top L = entsB x top (L.drop j)) ∧ Below w.heap.size w wr) (fun _ i _ => L.length - (intOf i).toNat)
    case atStart => exact ⟨0, _, rfl, rfl, Nat.zero_le _, by unfold Hid; rw [List.drop_zero]; congr 1; omega, Below.refl _ _⟩
    case round =>
      obtain ⟨j, x, rfl, rfl, hj, HE, hbel⟩ := hrel
      have hs2 := hbel.size
      by_cases hlt : j < L.length
      · obtain ⟨b, off, rfl, hbN, hcc⟩ := HC.out (by intro h; rw [h] at hlt; simp at hlt)
        have hE := entsB_at (lo := x) (top := top) hlt
        obtain ⟨c0, c1⟩ := hcc j hlt
        generalize L[j] = ej at c0 c1 hE
        have HX := Hid.intro hE
        have g0 := atCell hbel c0 (by omega)
        have g1 := atCell hbel c1 (by omega)
        clear hE hcc c0 c1
        by_cases hok : x ≤ ej.t ∧ ej.t ≤ top
        · have hok' := inB_true hok
          by_cases hsz : ej.d.size ≤ 1600
          · go_wp2_with (go_at_call 85; refine (within_any _ _ _ _).mono ?_; rintro e w' ⟨rfl, rfl⟩)
            go_roundw
            case rel => exact ⟨j + 1, _, by go_num, rfl, by omega, by unfold Hid; rw [HE.out, HX.out, decide_eq_true ⟨hok.1, hok.2, hsz⟩]; rfl, hbel.alloc hs2 _⟩
            case measure => simp [intOf]; omega
          · go_wp2_with (go_at_call 85; refine (within_any _ _ _ _).mono ?_; rintro e w' ⟨rfl, rfl⟩)
            go_ret
            exact ⟨ret_bool (by rw [HE.out, HX.out, decide_eq_false (p := x ≤ ej.t ∧ ej.t ≤ top ∧ ej.d.size ≤ 1600) (fun h => hsz h.2.2)]; simp), hbel.alloc hs2 _⟩
        · have hok' := inB_false hok
          go_wp2_with (go_at_call 85; refine (within_any _ _ _ _).mono ?_; rintro e w' ⟨rfl, rfl⟩)
          go_ret
          exact ⟨ret_bool (by rw [HE.out, HX.out, decide_eq_false (p := x ≤ ej.t ∧ ej.t ≤ top ∧ ej.d.size ≤ 1600) (fun h => hok ⟨h.1, h.2.1⟩)]; simp), hbel.alloc hs2 _⟩
      · obtain rfl : j = L.length := by omega
        go_wp2
        go_ret
        exact ⟨ret_bool (by rw [HE.out, entsB_end (Nat.le_refl _)]), hbel⟩
set_option maxHeartbeats 2000000 in
theorem entriesOk_any (K : Kp) (v : Value) (N : Nat) (w : World) (hN : N ≤ w.heap.size) (hr : RowE w N v K.e) (h1 : 0 ≤ K.si) (h2 : K.si ≤ 100000) :
    Calls Try.prog 69 #[kpV K v] w fun e w' => e = .returned (.bool (decide (K.e.length ≤ 60 ∧ K.si + K.e.length ≤ 100000) && entsB (max K.st 1) K.t K.e)) ∧ Below w.heap.size w w' := by
  have HR := Hid.intro hr
  obtain ⟨a, cap, rfl, hl, hm, _⟩ := hr
  by_cases h3 : 60 < K.e.length
  · go_enter Try.func69, Try.ntmps69
    go_wp2
    go_ret
    exact ⟨ret_bool (by rw [decide_eq_false (by omega)]; rfl), (Below.refl _ _).alloc (Nat.le_refl _) _⟩
  · have g3 : (K.e.length : Int) ≤ 60 := by omega
    go_enter Try.func69, Try.ntmps69
    go_wp2_with fail
    obtain ⟨W, hW, bW, zW, cW, _⟩ := boxed w #[.int .i64 K.t, .int .i64 K.v, .int .i64 K.si, .int .i64 K.st, .string K.sd, .slice a K.e.length cap] 28
    simp only [hW]
    refine (last_any K _ _ _ _ rfl (by omega) (by omega) (by omega)).mono ?_
    rintro e w1 ⟨rfl, b1⟩
    have cW1 : ∀ o, w1.cell? ⟨w.heap.size, o, none⟩ = (#[.int .i64 K.t, .int .i64 K.v, .int .i64 K.si, .int .i64 K.st, .string K.sd, .slice a K.e.length cap] : Array Value)[o]? := fun o => (b1.cell (p := ⟨w.heap.size, o, none⟩) (by simp only; omega)).trans (cW o)
    have hz1 : w.heap.size < w1.heap.size := by have := b1.size; omega
    have hN1 : N ≤ w1.heap.size := by omega
    have B1 : Below w.heap.size w w1 := bW.trans (b1.mono (by omega))
    have HB := Hid.intro B1
    replace HR := Hid.intro (HR.out.kept (B1.mono hN))
    clear hW bW zW cW b1 B1
    by_cases h4 : 100000 < K.si + K.e.length
    · have g4 : ¬ K.si + (K.e.length : Int) ≤ 100000 := by omega
      go_wp2_with fail
      go_ret
      exact ⟨ret_bool (by have hq : decide (K.si + (K.e.length : Int) ≤ 100000) = false := decide_eq_false (by omega); first | (rw [hq]; simp) | (rw [decide_eq_false (p := K.e.length ≤ 60 ∧ K.si + K.e.length ≤ 100000) (by omega)]; rfl)), HB.out⟩
    · have g4 : K.si + (K.e.length : Int) ≤ 100000 := by omega
      go_wp2_with fail
      refine (followOk_any K.e K.st K.t _ N w1 (by omega) HR.out).mono ?_
      rintro e w2 ⟨rfl, b2⟩
      replace HB := Hid.intro (HB.out.trans (b2.mono (by omega)))
      clear b2 cW1
      go_wp2
      go_ret
      exact ⟨ret_bool (by rw [decide_eq_true (by omega)]; rfl), HB.out⟩
end Go.Proofs.Ytkilepoimocoeaa
