/- Contracts of CredOk and In, both sides. -/
import Derived.Test.YtmkegmndcbpblaaGreatDoorPMath
namespace Go.Proofs.YtmkegmndcbpblaaGreatDoor
open Go.RowKit
set_option linter.unusedVariables false
theorem within_any (x a b : Int) (w : World) :
  Calls Tryz.prog 55 #[.int .i64 x, .int .i64 a, .int .i64 b] w fun e w' => e = .returned (.bool (inB x a b)) ∧ w = w' := by
 by_cases h1 : a ≤ x
 ·by_cases h2 : x ≤ b
  ·rw [inB_true ⟨h1, h2⟩]
   go_enter Tryz.func55, Tryz.ntmps55
   go_wp2
   go_ret
   exact ⟨rfl, rfl⟩
  ·rw [inB_false (by omega)]
   go_enter Tryz.func55, Tryz.ntmps55
   go_wp2
   go_ret
   exact ⟨rfl, rfl⟩
 ·rw [inB_false (by omega)]
  go_enter Tryz.func55, Tryz.ntmps55
  go_wp2
  go_ret
  exact ⟨rfl, rfl⟩
theorem l1In_any (x a b : Int) (w : World) :
  Calls Tryz.prog 26 #[.int .i64 x, .int .i64 a, .int .i64 b] w fun e w' => e = .returned (.bool (inB x a b)) ∧ w = w' := by
 by_cases h1 : a ≤ x
 ·by_cases h2 : x ≤ b
  ·rw [inB_true ⟨h1, h2⟩]
   go_enter Tryz.func26, Tryz.ntmps26
   go_wp2
   go_ret
   exact ⟨rfl, rfl⟩
  ·rw [inB_false (by omega)]
   go_enter Tryz.func26, Tryz.ntmps26
   go_wp2
   go_ret
   exact ⟨rfl, rfl⟩
 ·rw [inB_false (by omega)]
  go_enter Tryz.func26, Tryz.ntmps26
  go_wp2
  go_ret
  exact ⟨rfl, rfl⟩
theorem withinU_any (x : Int) (w : World) : Calls Tryz.prog 55 #[.int .i64 x, .int .i64 0, .int .i64 1000] w fun e w' => e = .returned (.bool (uidB x)) ∧ w = w' := within_any x 0 1000 w
theorem l1InU_any (x : Int) (w : World) : Calls Tryz.prog 26 #[.int .i64 x, .int .i64 0, .int .i64 1000] w fun e w' => e = .returned (.bool (uidB x)) ∧ w = w' := l1In_any x 0 1000 w

set_option maxHeartbeats 1000000 in
theorem implCredOk_any (c : Cr) (v : Value) (N : Nat) (w : World) (hN : N ≤ w.heap.size) (hr : Row intE w N v c.l) :
  Calls Tryz.prog 40 #[crV c v] w fun e w' => e = .returned (.bool (credB c)) ∧ Below w.heap.size w w' := by
 obtain ⟨a, cap, rfl, hl, hm, hcells⟩ := intE_cell hr
 have HC := Hid.intro hcells
 clear hcells hr
 cases h1 : uidB c.u with
 | false =>
  go_enter Tryz.func40, Tryz.ntmps40
  go_wp2_with (go_at_call 55; refine (withinU_any _ _).mono ?_; rintro e w' ⟨rfl, rfl⟩)
  go_ret
  exact ⟨by simp [credB, h1], one_below _ _⟩
 | true =>
  cases h2 : uidB c.g with
  | false =>
   go_enter Tryz.func40, Tryz.ntmps40
   go_wp2_with (go_at_call 55; refine (withinU_any _ _).mono ?_; rintro e w' ⟨rfl, rfl⟩)
   go_ret
   exact ⟨by simp [credB, h1, h2], one_below _ _⟩
  | true =>
   by_cases h3 : c.l.length ≤ 4
   ·go_enter Tryz.func40, Tryz.ntmps40
    go_wp2_with (go_at_call 55; refine (withinU_any _ _).mono ?_; rintro e w' ⟨rfl, rfl⟩)
    obtain ⟨W, hW, bW, zW, cW, fW⟩ := boxed w #[.int .i64 c.u, .int .i64 c.g, .slice a c.l.length cap] 37
    simp only [hW]
    clear hW cW fW
    have HB := Hid.intro bW
    clear bW
    go_loopw [24] (fun i wr => ∃ (j : Nat), i = .int .i64 j ∧ j ≤ c.l.length ∧ Hid (c.l.all uidB = (c.l.drop j).all uidB) ∧ W = wr) (fun i _ => c.l.length - (intOf i).toNat)
    case atStart => exact ⟨0, rfl, Nat.zero_le _, rfl, rfl⟩
    case round =>
     obtain ⟨j, rfl, hj, HD, rfl⟩ := hrel
     by_cases hlt : j < c.l.length
     ·obtain ⟨b, off, rfl, hbN, hcc⟩ := HC.out (by intro h; rw [h] at hlt; simp at hlt)
      have c0 := atCell (HB.out.mono hN) (hcc j hlt) hbN
      have hs := Hid.intro (all_drop c.l j hlt)
      clear hcc
      generalize c.l[j] = x at c0 hs
      cases hx : uidB x with
      | true =>
       go_wp2_with (go_at_call 55; refine (withinU_any _ _).mono ?_; rintro e w' ⟨rfl, rfl⟩)
       go_roundw
       case rel => exact ⟨j + 1, by go_num, by omega, by unfold Hid; rw [HD.out, hs.out, hx, Bool.true_and], by first | rfl | trivial⟩
       case measure => simp [intOf]; omega
      | false =>
       go_wp2_with (go_at_call 55; refine (withinU_any _ _).mono ?_; rintro e w' ⟨rfl, rfl⟩)
       go_ret
       exact ⟨by rw [credB, HD.out, hs.out, hx]; simp, HB.out⟩
     ·obtain rfl : j = c.l.length := by omega
      go_wp2
      go_ret
      exact ⟨by rw [credB, HD.out]; simp [h1, h2, h3], HB.out⟩
   ·go_enter Tryz.func40, Tryz.ntmps40
    go_wp2_with (go_at_call 55; refine (withinU_any _ _).mono ?_; rintro e w' ⟨rfl, rfl⟩)
    go_ret
    exact ⟨by simp [credB, h1, h2]; omega, one_below _ _⟩
set_option maxHeartbeats 1000000 in
theorem specCredOk_any (c : Cr) (v : Value) (N : Nat) (w : World) (hN : N ≤ w.heap.size) (hr : Row intE w N v c.l) :
  Calls Tryz.prog 16 #[crV c v] w fun e w' => e = .returned (.bool (credB c)) ∧ Below w.heap.size w w' := by
 obtain ⟨a, cap, rfl, hl, hm, hcells⟩ := intE_cell hr
 have HC := Hid.intro hcells
 clear hcells hr
 cases h1 : uidB c.u with
 | false =>
  go_enter Tryz.func16, Tryz.ntmps16
  go_wp2_with (go_at_call 26; refine (l1InU_any _ _).mono ?_; rintro e w' ⟨rfl, rfl⟩)
  go_ret
  exact ⟨by simp [credB, h1], one_below _ _⟩
 | true =>
  cases h2 : uidB c.g with
  | false =>
   go_enter Tryz.func16, Tryz.ntmps16
   go_wp2_with (go_at_call 26; refine (l1InU_any _ _).mono ?_; rintro e w' ⟨rfl, rfl⟩)
   go_ret
   exact ⟨by simp [credB, h1, h2], one_below _ _⟩
  | true =>
   by_cases h3 : c.l.length ≤ 4
   ·go_enter Tryz.func16, Tryz.ntmps16
    go_wp2_with (go_at_call 26; refine (l1InU_any _ _).mono ?_; rintro e w' ⟨rfl, rfl⟩)
    obtain ⟨W, hW, bW, zW, cW, fW⟩ := boxed w #[.int .i64 c.u, .int .i64 c.g, .slice a c.l.length cap] 37
    simp only [hW]
    clear hW fW
    have HB := Hid.intro bW
    clear bW
    go_loopw [3] (fun i wr => ∃ (j : Nat), i = .int .i64 j ∧ j ≤ c.l.length ∧ Hid (c.l.all uidB = (c.l.drop j).all uidB) ∧ W = wr) (fun i _ => c.l.length - (intOf i).toNat)
    case atStart => exact ⟨0, rfl, Nat.zero_le _, rfl, rfl⟩
    case round =>
     obtain ⟨j, rfl, hj, HD, rfl⟩ := hrel
     by_cases hlt : j < c.l.length
     ·obtain ⟨b, off, rfl, hbN, hcc⟩ := HC.out (by intro h; rw [h] at hlt; simp at hlt)
      have c0 := atCell (HB.out.mono hN) (hcc j hlt) hbN
      have hs := Hid.intro (all_drop c.l j hlt)
      clear hcc
      generalize c.l[j] = x at c0 hs
      cases hx : uidB x with
      | true =>
       go_wp2_with (go_at_call 26; refine (l1InU_any _ _).mono ?_; rintro e w' ⟨rfl, rfl⟩)
       go_roundw
       case rel => exact ⟨j + 1, by go_num, by omega, by unfold Hid; rw [HD.out, hs.out, hx, Bool.true_and], by first | rfl | trivial⟩
       case measure => simp [intOf]; omega
      | false =>
       go_wp2_with (go_at_call 26; refine (l1InU_any _ _).mono ?_; rintro e w' ⟨rfl, rfl⟩)
       go_ret
       exact ⟨by rw [credB, HD.out, hs.out, hx]; simp, HB.out⟩
     ·obtain rfl : j = c.l.length := by omega
      go_wp2
      go_ret
      exact ⟨by rw [credB, HD.out]; simp [h1, h2, h3], HB.out⟩
   ·go_enter Tryz.func16, Tryz.ntmps16
    go_wp2_with (go_at_call 26; refine (l1InU_any _ _).mono ?_; rintro e w' ⟨rfl, rfl⟩)
    go_ret
    exact ⟨by simp [credB, h1, h2]; omega, one_below _ _⟩
set_option maxHeartbeats 1000000 in
theorem index_any (l : List Int) (v : Value) (x : Int) (N : Nat) (w : World) (hN : N ≤ w.heap.size) (hr : Row intE w N v l) :
  Calls Tryz.prog 90 #[v, .int .i64 x] w fun e w' => (∃ n : Int, e = .returned (.int .i64 n) ∧ -1 ≤ n ∧ (0 ≤ n ↔ memB l x = true)) ∧ w = w' := by
 obtain ⟨a, cap, rfl, hl, hm, hcells⟩ := intE_cell hr
 have HC := Hid.intro hcells
 clear hcells hr
 go_enter Tryz.func90, Tryz.ntmps90
 go_wp2
 go_loopw [8] (fun i wr => ∃ (j : Nat), i = .int .i64 j ∧ j ≤ l.length ∧ Hid (memB l x = memB (l.drop j) x) ∧ w = wr) (fun i _ => l.length - (intOf i).toNat)
 case atStart => exact ⟨0, rfl, Nat.zero_le _, rfl, rfl⟩
 case round =>
  obtain ⟨j, rfl, hj, HD, rfl⟩ := hrel
  by_cases hlt : j < l.length
  ·obtain ⟨b, off, rfl, hbN, hcc⟩ := HC.out (by intro h; rw [h] at hlt; simp at hlt)
   have c0 := hcc j hlt
   have hs := Hid.intro (memB_drop l x j hlt)
   clear hcc
   generalize l[j] = y at c0 hs
   by_cases hx : x = y
   ·subst hx
    go_wp2
    go_ret
    exact ⟨⟨_, rfl, by omega, by rw [HD.out, hs.out]; simp⟩, rfl⟩
   ·have hb : (x == y) = false := by simpa using hx
    go_wp2
    go_roundw
    case rel => exact ⟨j + 1, by go_num, by omega, by unfold Hid; rw [HD.out, hs.out, show decide (y = x) = false by simpa using fun h => hx h.symm, Bool.false_or], by first | rfl | trivial⟩
    case measure => simp [intOf]; omega
  ·obtain rfl : j = l.length := by omega
   go_wp2
   go_ret
   exact ⟨⟨_, rfl, by omega, by rw [HD.out]; simp [memB]⟩, rfl⟩
theorem contains_any (l : List Int) (v : Value) (x : Int) (N : Nat) (w : World) (hN : N ≤ w.heap.size) (hr : Row intE w N v l) :
  Calls Tryz.prog 89 #[v, .int .i64 x] w fun e w' => e = .returned (.bool (memB l x)) ∧ w = w' := by
 have HR := Hid.intro hr
 clear hr
 go_enter Tryz.func89, Tryz.ntmps89
 go_wp2_with fail
 refine (index_any l v x N w hN HR.out).mono ?_
 rintro e w1 ⟨⟨n, rfl, h1, h2⟩, rfl⟩
 have H2 := Hid.intro h2
 clear h2
 by_cases h0 : 0 ≤ n
 ·go_wp2
  go_ret
  exact ⟨ret_bool (by rw [H2.out.1 h0]), rfl⟩
 ·go_wp2
  go_ret
  exact ⟨ret_bool (by cases hm : memB l x with | true => exact absurd (H2.out.2 hm) (by omega) | false => first | rfl | simpa using h0), rfl⟩
set_option maxHeartbeats 1000000 in
theorem implIn_any (c : Cr) (v : Value) (x : Int) (N : Nat) (w : World) (hN : N ≤ w.heap.size) (hr : Row intE w N v c.l) :
  Calls Tryz.prog 87 #[crV c v, .int .i64 x] w fun e w' => e = .returned (.bool (inGB c x)) ∧ Below w.heap.size w w' := by
 obtain ⟨a, cap, rfl, hl, hm⟩ := hr.slice
 have HR := Hid.intro hr
 clear hr
 obtain ⟨W, hW, bW, zW, cW, fW⟩ := boxed w #[.int .i64 c.u, .int .i64 c.g, .slice a c.l.length cap] 37
 cases hc : credB c with
 | false =>
  go_enter Tryz.func87, Tryz.ntmps87
  go_wp2_with fail
  try simp only [hW]
  refine (implCredOk_any c _ N W (by omega) (HR.out.kept (bW.mono hN))).mono ?_
  rintro e w1 ⟨rfl, b1⟩
  have B1 := bW.trans (b1.mono (by omega))
  rw [hc]
  go_wp2
  go_ret
  exact ⟨by simp [inGB, hc], B1⟩
 | true =>
  by_cases hg : x = c.g
  ·subst hg
   go_enter Tryz.func87, Tryz.ntmps87
   go_wp2_with fail
   try simp only [hW]
   refine (implCredOk_any c _ N W (by omega) (HR.out.kept (bW.mono hN))).mono ?_
   rintro e w1 ⟨rfl, b1⟩
   have B1 := bW.trans (b1.mono (by omega))
   have c1 := keepC b1 (by omega) cW
   clear cW fW hW
   rw [hc]
   go_wp2
   go_ret
   exact ⟨by simp [inGB, hc], B1⟩
  ·have hb : (x == c.g) = false := by simpa using hg
   go_enter Tryz.func87, Tryz.ntmps87
   go_wp2_with fail
   try simp only [hW]
   refine (implCredOk_any c _ N W (by omega) (HR.out.kept (bW.mono hN))).mono ?_
   rintro e w1 ⟨rfl, b1⟩
   have B1 := bW.trans (b1.mono (by omega))
   have c1 := keepC b1 (by omega) cW
   have z1 := b1.size
   clear cW fW hW b1
   rw [hc]
   go_wp2_with (go_at_call 89; refine (contains_any c.l _ x N _ (by omega) (HR.out.kept (B1.mono hN))).mono ?_; rintro e w' ⟨rfl, rfl⟩)
   go_ret
   exact ⟨by simp [inGB, hc, show c.g ≠ x from fun h => hg h.symm], B1⟩
set_option maxHeartbeats 1000000 in
theorem specIn_any (c : Cr) (v : Value) (x : Int) (N : Nat) (w : World) (hN : N ≤ w.heap.size) (hr : Row intE w N v c.l) :
  Calls Tryz.prog 48 #[crV c v, .int .i64 x] w fun e w' => e = .returned (.bool (inGB c x)) ∧ Below w.heap.size w w' := by
 obtain ⟨a, cap, rfl, hl, hm⟩ := hr.slice
 have HR := Hid.intro hr
 obtain ⟨_, _, hv, _, _, hcells⟩ := intE_cell hr
 simp only [Value.slice.injEq, true_and] at hv
 obtain ⟨rfl, rfl⟩ := hv
 have HC := Hid.intro hcells
 clear hr hcells
 obtain ⟨W, hW, bW, zW, cW, fW⟩ := boxed w #[.int .i64 c.u, .int .i64 c.g, .slice a c.l.length cap] 37
 cases hc : credB c with
 | false =>
  go_enter Tryz.func48, Tryz.ntmps48
  go_wp2_with fail
  try simp only [hW]
  refine (specCredOk_any c _ N W (by omega) (HR.out.kept (bW.mono hN))).mono ?_
  rintro e w1 ⟨rfl, b1⟩
  have B1 := bW.trans (b1.mono (by omega))
  rw [hc]
  go_wp2
  go_ret
  exact ⟨by simp [inGB, hc], B1⟩
 | true =>
  go_enter Tryz.func48, Tryz.ntmps48
  go_wp2_with fail
  try simp only [hW]
  refine (specCredOk_any c _ N W (by omega) (HR.out.kept (bW.mono hN))).mono ?_
  rintro e w1 ⟨rfl, b1⟩
  have B1 := bW.trans (b1.mono (by omega))
  have c1 := keepC b1 (by omega) cW
  have z1 := b1.size
  clear cW fW hW b1
  rw [hc]
  go_wp2
  go_loopw [5, 6] (fun y i wr => ∃ (j : Nat) (q : Bool), i = .int .i64 j ∧ y = .bool q ∧ j ≤ c.l.length ∧ Hid (q = (decide (c.g = x) || memB (c.l.take j) x)) ∧ w1 = wr) (fun _ i _ => c.l.length - (intOf i).toNat)
  case atStart => exact ⟨0, _, rfl, rfl, Nat.zero_le _, by unfold Hid; simp [memB]; rfl, rfl⟩
  case round =>
   obtain ⟨j, q, rfl, rfl, hj, HQ, rfl⟩ := hrel
   by_cases hlt : j < c.l.length
   ·obtain ⟨b, off, rfl, hbN, hcc⟩ := HC.out (by intro h; rw [h] at hlt; simp at hlt)
    have c0 := atCell (B1.mono hN) (hcc j hlt) hbN
    have hs := Hid.intro (memB_take_succ c.l x j hlt)
    clear hcc
    generalize c.l[j] = y at c0 hs
    cases q with
    | true =>
     go_wp2
     go_roundw
     case rel => exact ⟨j + 1, true, by go_num, rfl, by omega, by have := HQ.out; unfold Hid; rw [hs.out, ← Bool.or_assoc, ← this]; rfl, by first | rfl | trivial⟩
     case measure => simp [intOf]; omega
    | false =>
     go_wp2
     go_roundw
     case rel => exact ⟨j + 1, _, by go_num, rfl, by omega, by have := HQ.out; unfold Hid; rw [hs.out, ← Bool.or_assoc, ← this]; simp; rfl, by first | rfl | trivial⟩
     case measure => simp [intOf]; omega
   ·obtain rfl : j = c.l.length := by omega
    have HE : Hid (q = inGB c x) := by
     have := HQ.out
     unfold Hid
     rw [this, inGB, hc, List.take_length, Bool.true_and]
    go_wp2
    go_ret
    exact ⟨ret_bool HE.out, B1⟩
end Go.Proofs.YtmkegmndcbpblaaGreatDoor
