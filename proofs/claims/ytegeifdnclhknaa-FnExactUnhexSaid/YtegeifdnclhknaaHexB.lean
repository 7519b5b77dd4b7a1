/- The contract of the program's Hex, and the law. -/
import Derived.Test.YtegeifdnclhknaaHex
namespace Go.Proofs.Ytegeifdnclhknaa
open Go.RowKit
set_option linter.unusedVariables false

theorem make_room (n : Nat) (w : World) (h : n ≤ 2097152) : (Instr.makeSlice 36 (.int .i64 0) (.int .i64 n)).run Try.prog w = .ok (.slice (some ⟨w.heap.size, 0, none⟩) 0 n) (w.alloc (.cells (madeCells #[.int .u8 0] n) 5)) := by
  obtain ⟨i0, hi, hz0, hz1, hz2⟩ := info_parts Try.info5
  have h := run_make (P := Try.prog) w 36 5 i0 (.int .u8 0) Try.underlying36 hi hz0 .i64 .i64 0 n (by omega) (by omega) (by rw [hz2]; omega) (by omega)
  rw [h, hz1]
  simp only [Int.toNat_natCast, Nat.mul_one, Int.toNat_zero]
  rfl

theorem room_own (n : Nat) (w : World) (h : n ≤ 2097152) : (w.alloc (.cells (madeCells #[.int .u8 0] n) 5)).ownsRow w.heap.size 5 1 (.slice (some ⟨w.heap.size, 0, none⟩) 0 n) (2 * 0) (cellsOf (hexL [])) :=
  World.ownsRow_made w _ n (Nat.le_refl _) (by unfold maxLen; omega) (by rw [size_madeCells]; omega)

set_option maxHeartbeats 400000 in
theorem implHex_any (s : ByteArray) (w : World) (hs : s.size ≤ 1048576) :
    Calls Try.prog 18 #[.string s] w fun e w' => e = .returned (.string (hexS s)) ∧ Below w.heap.size w w' := by
  obtain ⟨i0, hi, hz0, hz1, hz2⟩ := info_parts Try.info5
  have hmk := make_room (2 * s.size) w (by omega)
  have e2 : ((2 * s.size : Nat) : Int) = 2 * (s.size : Int) := by omega
  rw [e2] at hmk
  clear e2
  go_enter Try.func18, Try.ntmps18
  go_wp2
  go_loopw [3, 11] (fun v c wr => ∃ k : Nat, k ≤ s.size ∧ c = .int .i64 k ∧ wr.ownsRow w.heap.size 5 1 v (2 * k) (cellsOf (hexL (s.data.toList.take k))) ∧ Below w.heap.size w wr) (fun _ c _ => s.size - (intOf c).toNat)
  case atStart => exact ⟨0, Nat.zero_le _, rfl, room_own (2 * s.size) w (by omega), (Below.refl _ _).alloc (Nat.le_refl _) _⟩
  case round =>
    obtain ⟨k, hk, rfl, hown, hbel⟩ := hrel
    have hbs := hbel.size
    clear hmk
    by_cases hlt : k < s.size
    · have hb := (s[k]).toNat_lt
      have q1 : 0 ≤ (s[k].toNat : Int) / 16 := by omega
      have q2 : (s[k].toNat : Int) / 16 < 16 := by omega
      have q3 : bits .and .u8 (s[k].toNat : Int) 15 = (s[k].toNat : Int) % 16 := u8_and15 _ (by omega) (by omega)
      have q4 : 0 ≤ (s[k].toNat : Int) % 16 := by omega
      have q5 : (s[k].toNat : Int) % 16 < 16 := by omega
      have a1 := fun o => (hown.alloc o).drew
      have a2 : ∀ x y, ∀ j u, [x, y][j]? = some u → ((wr.alloc (.cells #[x, y] 5)).drew).cell? ((⟨wr.heap.size, 0, none⟩ : Addr).add j) = some u := fun x y => cell_two_new wr x y 5
      have a3 : ∀ o, w.heap.size ≤ ((wr.alloc o).drew).heap.size := fun o => by
        show w.heap.size ≤ (wr.alloc o).heap.size
        simp; omega
      have a4 : 2 * k + 2 ≤ maxLen := by unfold maxLen; omega
      have a5 : (2 * k + 2) * 1 ≤ 140737488355328 := by omega
      have A1 := Hid.intro a1
      have A2 := Hid.intro a2
      have A3 := Hid.intro a3
      have A4 := Hid.intro a4
      have A5 := Hid.intro a5
      clear a1 a2 a3 a4 a5
      go_wp2
      go_region_law (refine step_append_own rfl (.tmp 14) (.tmp 25) 36 rfl w.heap.size 5 i0 (.int .u8 0) 1 1 Try.underlying36 hi hz0 hz1 hz2 rfl (by decide) u3 (2 * k) (cellsOf (hexL (s.data.toList.take k))) rfl (A1.out _) ⟨wr.heap.size, 0, none⟩ 2 2 [_, _] rfl rfl (A2.out _ _) (two_oneCell _ _ _) A4.out A5.out (A3.out _) ?_; intro v' w1 hown' hgrow)
      all_goals
        have hb' := hbel.trans (((Below.refl _ _).alloc hbs _).drew.grown hgrow (A3.out _) (fun k hk => (hown.lt k hk).1))
        simp only [hexC_at] at hown'
        rw [hex_nat, hex_nat', cellsOf_two, ← hexL_take s k hlt] at hown'
        clear hgrow A1 A2 A3 A4 A5 q3
        go_wp2
        go_roundw
        case rel => exact ⟨k + 1, by omega, by go_num, hown', hb'⟩
        case measure => simp [intOf]; omega
    · have e : s.data.toList.take k = s.data.toList := List.take_of_length_le (by simp; omega)
      rw [e] at hown
      have hcv := conv_own hown
      clear hown
      go_wp2
      go_ret
      exact ⟨rfl, hbel⟩

set_option maxHeartbeats 400000 in
theorem hex_law (s : ByteArray) (w : World) (hs : s.size ≤ maxLen) :
    Calls Try.prog 7 #[.string s] w fun e w' => e = .returned (.bool true) ∧ Below w.heap.size w w' := by
  unfold maxLen at hs
  by_cases hb : (1048576 : Int) < (s.size : Int)
  · go_enter Try.func7, Try.ntmps7
    go_wp2
    go_ret
    exact ⟨rfl, Below.refl _ _⟩
  · go_enter Try.func7, Try.ntmps7
    go_wp2_with fail
    refine (specHex_any s _ (by omega)).mono ?_
    rintro e w1 ⟨rfl, b1⟩
    go_wp2_with fail
    refine (implHex_any s _ (by omega)).mono ?_
    rintro e w2 ⟨rfl, b2⟩
    go_wp2
    go_ret
    exact ⟨rfl, b1.trans (b2.mono b1.size)⟩

end Go.Proofs.Ytegeifdnclhknaa
