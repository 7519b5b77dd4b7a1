/- The sentence's MsgOk: entries that follow one another, messages that are alike. -/
import Derived.Test.YtdnngbdkmdphoaaEMsgI
namespace Go.Proofs.Ytdnngbdkmdphoaa
open Go.RowKit
set_option linter.unusedVariables false
set_option maxHeartbeats 2000000 in
theorem l12Run_any (L : List En) (lo top : Int) (v : Value) (N : Nat) (w : World) (hN : N ≤ w.heap.size) (hr : Row enE w N v L) :
    Calls Try.prog 21 #[v, .int .i64 lo, .int .i64 top] w fun e w' => e = .returned (.bool (runB (max lo 1) top L)) ∧ Below w.heap.size w w' := by
  obtain ⟨a, cap, rfl, hl, hm, hcells⟩ := enE_cell hr
  have HC := Hid.intro hcells
  clear hcells hr
  by_cases hlo : lo < 1
  · have hq : decide (lo < 1) = true := decide_eq_true hlo
    have HX0 := Hid.intro hlo
    go_enter Try.func21, Try.ntmps21
    go_wp2
    clear hq hlo
    go_loopw [1, 7] (fun lo' i wr => ∃ (j : Nat) (x : Int), i = .int .i64 j ∧ lo' = .int .i64 x ∧ j ≤ L.length ∧ Hid (runB (max lo 1) top L = runB x top (L.drop j)) ∧ Below w.heap.size w wr) (fun _ i _ => L.length - (intOf i).toNat)
    case atStart => exact ⟨0, _, rfl, rfl, Nat.zero_le _, by unfold Hid; rw [List.drop_zero]; congr 1; have := HX0.out; omega, Below.refl _ _⟩
    case round =>
      obtain ⟨j, x, rfl, rfl, hj, HE, hbel⟩ := hrel
      have hs2 := hbel.size
      by_cases hlt : j < L.length
      · obtain ⟨b, off, rfl, hbN, hcc⟩ := HC.out (by intro h; rw [h] at hlt; simp at hlt)
        have hE := runB_at (lo := x) (top := top) hlt
        obtain ⟨c0, c1⟩ := hcc j hlt
        generalize L[j] = ej at c0 c1 hE
        have HX := Hid.intro hE
        have g0 := atCell hbel c0 (by omega)
        have g1 := atCell hbel c1 (by omega)
        clear hE hcc c0 c1
        by_cases hok : x ≤ ej.t ∧ ej.t ≤ top
        · have hok' := inB_true hok
          by_cases hsz : ej.d.size ≤ 1600
          · have hsz' : ¬ (1600 : Int) < (ej.d.size : Int) := by omega
            go_wp2_with (go_at_call 19; refine (l1In_any _ _ _ _).mono ?_; rintro e w' ⟨rfl, rfl⟩)
            go_roundw
            case rel => exact ⟨j + 1, _, by go_num, rfl, by omega, by unfold Hid; rw [HE.out, HX.out, decide_eq_true ⟨hok.1, hok.2, hsz⟩]; rfl, hbel⟩
            case measure => simp [intOf]; omega
          · have hsz' : (1600 : Int) < (ej.d.size : Int) := by omega
            go_wp2_with (go_at_call 19; refine (l1In_any _ _ _ _).mono ?_; rintro e w' ⟨rfl, rfl⟩)
            go_ret
            exact ⟨ret_bool (by rw [HE.out, HX.out, decide_eq_false (p := x ≤ ej.t ∧ ej.t ≤ top ∧ ej.d.size ≤ 1600) (fun h => hsz h.2.2)]; simp), hbel⟩
        · have hok' := inB_false hok
          go_wp2_with (go_at_call 19; refine (l1In_any _ _ _ _).mono ?_; rintro e w' ⟨rfl, rfl⟩)
          go_ret
          exact ⟨ret_bool (by rw [HE.out, HX.out, decide_eq_false (p := x ≤ ej.t ∧ ej.t ≤ top ∧ ej.d.size ≤ 1600) (fun h => hok ⟨h.1, h.2.1⟩)]; simp), hbel⟩
      · obtain rfl : j = L.length := by omega
        go_wp2
        go_ret
        exact ⟨ret_bool (by rw [HE.out, runB_end (Nat.le_refl _)]), hbel⟩
  · have hq : decide (lo < 1) = false := decide_eq_false hlo
    have HX0 := Hid.intro hlo
    go_enter Try.func21, Try.ntmps21
    go_wp2
    clear hq hlo
    go_loopw [1, 7] (fun lo' i wr => ∃ (j : Nat) (x : Int), i = .int .i64 j ∧ lo' = .int .i64 x ∧ j ≤ L.length ∧ Hid (runB (max lo 1) top L = runB x top (L.drop j)) ∧ Below w.heap.size w wr) (fun _ i _ => L.length - (intOf i).toNat)
    case atStart => exact ⟨0, _, rfl, rfl, Nat.zero_le _, by unfold Hid; rw [List.drop_zero]; congr 1; have := HX0.out; omega, Below.refl _ _⟩
    case round =>
      obtain ⟨j, x, rfl, rfl, hj, HE, hbel⟩ := hrel
      have hs2 := hbel.size
      by_cases hlt : j < L.length
      · obtain ⟨b, off, rfl, hbN, hcc⟩ := HC.out (by intro h; rw [h] at hlt; simp at hlt)
        have hE := runB_at (lo := x) (top := top) hlt
        obtain ⟨c0, c1⟩ := hcc j hlt
        generalize L[j] = ej at c0 c1 hE
        have HX := Hid.intro hE
        have g0 := atCell hbel c0 (by omega)
        have g1 := atCell hbel c1 (by omega)
        clear hE hcc c0 c1
        by_cases hok : x ≤ ej.t ∧ ej.t ≤ top
        · have hok' := inB_true hok
          by_cases hsz : ej.d.size ≤ 1600
          · have hsz' : ¬ (1600 : Int) < (ej.d.size : Int) := by omega
            go_wp2_with (go_at_call 19; refine (l1In_any _ _ _ _).mono ?_; rintro e w' ⟨rfl, rfl⟩)
            go_roundw
            case rel => exact ⟨j + 1, _, by go_num, rfl, by omega, by unfold Hid; rw [HE.out, HX.out, decide_eq_true ⟨hok.1, hok.2, hsz⟩]; rfl, hbel⟩
            case measure => simp [intOf]; omega
          · have hsz' : (1600 : Int) < (ej.d.size : Int) := by omega
            go_wp2_with (go_at_call 19; refine (l1In_any _ _ _ _).mono ?_; rintro e w' ⟨rfl, rfl⟩)
            go_ret
            exact ⟨ret_bool (by rw [HE.out, HX.out, decide_eq_false (p := x ≤ ej.t ∧ ej.t ≤ top ∧ ej.d.size ≤ 1600) (fun h => hsz h.2.2)]; simp), hbel⟩
        · have hok' := inB_false hok
          go_wp2_with (go_at_call 19; refine (l1In_any _ _ _ _).mono ?_; rintro e w' ⟨rfl, rfl⟩)
          go_ret
          exact ⟨ret_bool (by rw [HE.out, HX.out, decide_eq_false (p := x ≤ ej.t ∧ ej.t ≤ top ∧ ej.d.size ≤ 1600) (fun h => hok ⟨h.1, h.2.1⟩)]; simp), hbel⟩
      · obtain rfl : j = L.length := by omega
        go_wp2
        go_ret
        exact ⟨ret_bool (by rw [HE.out, runB_end (Nat.le_refl _)]), hbel⟩
set_option maxRecDepth 100000 in
set_option maxHeartbeats 2000000 in
/-- Rows of the same entries are alike. -/
theorem l12SameE_yes (L : List En) (v1 v2 : Value) (N : Nat) (w : World) (hN : N ≤ w.heap.size) (h1 : Row enE w N v1 L) (h2 : Row enE w N v2 L) :
    Calls Try.prog 46 #[v1, v2] w fun e w' => e = .returned (.bool true) ∧ Below w.heap.size w w' := by
  obtain ⟨a1, cap1, rfl, l1, m1, hc1⟩ := enE_cell h1
  obtain ⟨a2, cap2, rfl, l2, m2, hc2⟩ := enE_cell h2
  have H1 := Hid.intro hc1
  have H2 := Hid.intro hc2
  clear hc1 hc2 h1 h2
  go_enter Try.func46, Try.ntmps46
  go_wp2
  go_loopw [5] (fun i wr => ∃ (j : Nat), i = .int .i64 j ∧ j ≤ L.length ∧ Below w.heap.size w wr) (fun i _ => L.length - (intOf i).toNat)
  case atStart => exact ⟨0, rfl, Nat.zero_le _, Below.refl _ _⟩
  case round =>
    obtain ⟨j, rfl, hj, hbel⟩ := hrel
    by_cases hlt : j < L.length
    · have hne : L ≠ [] := by intro h; rw [h] at hlt; simp at hlt
      obtain ⟨b1, o1, rfl, hb1, cc1⟩ := H1.out hne
      obtain ⟨b2, o2, rfl, hb2, cc2⟩ := H2.out hne
      obtain ⟨p0, p1⟩ := cc1 j hlt
      obtain ⟨q0, q1⟩ := cc2 j hlt
      generalize L[j] = ej at p0 p1 q0 q1
      have hs := hbel.size
      replace p0 := atCell hbel p0 (by omega)
      replace p1 := atCell hbel p1 (by omega)
      replace q0 := atCell hbel q0 (by omega)
      replace q1 := atCell hbel q1 (by omega)
      have i1 : (0 : Int) ≤ (j : Int) ∧ (j : Int) < (L.length : Int) := by omega
      have hjl : (j : Int) < (L.length : Int) := by omega
      clear cc1 cc2 hne
      go_wp2
      go_region
      go_wp2
      go_roundw
      case rel => exact ⟨j + 1, by go_num, by omega, hbel.drew⟩
      case measure => simp [intOf]; omega
    · obtain rfl : j = L.length := by omega
      go_wp2
      go_ret
      exact ⟨rfl, hbel⟩
set_option maxHeartbeats 1000000 in
theorem l12SameE_no (n m : Nat) (a1 a2 : Option Addr) (k1 k2 : Nat) (w : World) (h : ¬ n = m) :
    Calls Try.prog 46 #[.slice a1 n k1, .slice a2 m k2] w fun e w' => e = .returned (.bool false) ∧ Below w.heap.size w w' := by
  have h' : ((n : Int) != (m : Int)) = true := by simp; omega
  go_enter Try.func46, Try.ntmps46
  go_wp2
  all_goals first | omega | (go_ret; exact ⟨rfl, Below.refl _ _⟩)
def sameP (a b : Ms) : Prop := a.k = b.k ∧ a.f = b.f ∧ a.g = b.g ∧ a.m = b.m ∧ hasP a b
instance (a b : Ms) : Decidable (sameP a b) := by unfold sameP; infer_instance
/-- What is asked of the entries of two messages that are compared. -/
def SameE (w : World) (a b : Ms) (v1 v2 : Value) : Prop := ∀ w', Below w.heap.size w w' → Calls Try.prog 46 #[v1, v2] w' fun e w'' => e = .returned (.bool (decide (a.es.length = b.es.length))) ∧ Below w'.heap.size w' w''
set_option maxRecDepth 100000 in
set_option maxHeartbeats 8000000 in
theorem l12Same_any (a b : Ms) (v1 v2 : Value) (w : World) (hs : SameE w a b v1 v2) :
    Calls Try.prog 22 #[msV a v1, msV b v2] w fun e w' => e = .returned (.bool (decide (sameP a b))) ∧ Below w.heap.size w w' := by
  have HS := Hid.intro hs
  clear hs
  go_enter Try.func22, Try.ntmps22
  go_upto_region 1 with fail
  obtain ⟨W, hW, bW, zW, c1, f1, c2, f2⟩ := boxed2 w (msA a v1) (msA b v2) 29 29
  try simp only [hW]
  have HB := Hid.intro bW
  have hz1 : w.heap.size + 1 < W.heap.size := by omega
  clear hW bW f1 f2
  go_wp2_with fail
  all_goals first
    | (go_ret
       refine ⟨ret_bool (eq_dec ?_), HB.out⟩
       unfold sameP hasP
       simp only [bi_eq]
       simp_all [bl_iff]
       done)
    | (refine (HS.out W HB.out).mono ?_
       rintro e w2 ⟨rfl, b2⟩
       have HB2 := Hid.intro (HB.out.trans (b2.mono (by omega)))
       obtain ⟨q, hq⟩ : ∃ q, decide (a.es.length = b.es.length) = q := ⟨_, rfl⟩
       try simp only
       rw [hq]
       have HQ := Hid.intro hq
       clear hq b2 c1 c2
       go_wp2
       go_ret
       refine ⟨ret_bool (HQ.out.symm.trans (eq_dec ?_)), HB2.out⟩
       clear HQ HB HB2 HS
       unfold sameP hasP
       simp only [bi_eq, decide_eq_true_eq]
       simp_all [bl_iff]
       done)
theorem row_len0 {w : World} {N : Nat} {v : Value} {L : List En} (h : Row enE w N v L) (hl : L.length = 0) : Row enE w N v [] := by
  cases L with
  | nil => exact h
  | cons a l => simp at hl
/-- Beside no entries. -/
theorem sameE_none (a b : Ms) (v : Value) (N : Nat) (w : World) (hN : N ≤ w.heap.size) (hr : Row enE w N v a.es) (hb : b.es = []) : SameE w a b v (.slice none 0 0) := by
  intro w' bw
  have hr' := hr.kept (bw.mono hN)
  have hs := bw.size
  by_cases h : a.es.length = b.es.length
  · refine (l12SameE_yes [] v (.slice none 0 0) N w' (by omega) (row_len0 hr' (by rw [h, hb]; rfl)) Row.nil).mono ?_
    rintro e w2 ⟨rfl, b2⟩
    exact ⟨by rw [decide_eq_true h], b2⟩
  · obtain ⟨x, cap, rfl, _, _⟩ := hr.slice
    refine (l12SameE_no a.es.length 0 x none cap 0 w' (by rw [hb] at h; simpa using h)).mono ?_
    rintro e w2 ⟨rfl, b2⟩
    exact ⟨by rw [decide_eq_false h], b2⟩
theorem sameE_self (a b : Ms) (v : Value) (N : Nat) (w : World) (hN : N ≤ w.heap.size) (hr : Row enE w N v a.es) (hb : b.es = a.es) : SameE w a b v v := by
  intro w' bw
  have hr' := hr.kept (bw.mono hN)
  have hs := bw.size
  refine (l12SameE_yes a.es v v N w' (by omega) hr' hr').mono ?_
  rintro e w2 ⟨rfl, b2⟩
  exact ⟨by rw [decide_eq_true (by rw [hb])], b2⟩
theorem same_has {a b : Ms} (hk : a.k = b.k) (hf : a.f = b.f) (hg : a.g = b.g) (hm : a.m = b.m) : sameP a b ↔ hasP a b := by
  unfold sameP
  exact ⟨fun h => h.2.2.2.2, fun h => ⟨hk, hf, hg, hm, h⟩⟩
end Go.Proofs.Ytdnngbdkmdphoaa
