/- The contract of the program's Unhex, and the law. -/
import Derived.Test.YtegeifdnclhknaaUnhexB
namespace Go.Proofs.Ytegeifdnclhknaa
open Go.RowKit
set_option linter.unusedVariables false

theorem index_hex (c : UInt8) : Lib.indexByte (ByteArray.mk #[48, 49, 50, 51, 52, 53, 54, 55, 56, 57, 97, 98, 99, 100, 101, 102]).data.toList c = fromHex c := rfl

theorem make_uh (s : ByteArray) (m : Nat) (w : World) (h : m ≤ 1048576) : (Instr.makeSlice 36 (.int .i64 m) (.int .i64 m)).run Try.prog w = .ok (.slice (some ⟨w.heap.size, 0, none⟩) m m) (w.alloc (.cells (uhArr s m 0) 5)) := by
  obtain ⟨i0, hi, hz0, hz1, hz2⟩ := info_parts Try.info5
  have h := run_make (P := Try.prog) w 36 5 i0 (.int .u8 0) Try.underlying36 hi hz0 .i64 .i64 m m (by omega) (by omega) (by rw [hz2]; omega) (by omega)
  rw [h, hz1]
  simp only [Int.toNat_natCast, Nat.mul_one]
  rw [show (Value.int .u8 0).cells = #[Value.int .u8 0] from rfl, uhArr_zero s m]

theorem conv_uh (s : ByteArray) (m : Nat) (w : World) : (convert 36 9 (.slice (some ⟨w.heap.size, 0, none⟩) m m)).run Try.prog (w.alloc (.cells (uhArr s m m) 5)) = .ok (.string ⟨(ubs s m).toArray⟩) (w.alloc (.cells (uhArr s m m) 5)) := by
  have h := run_convert_bytes_arg (P := Try.prog) (w.alloc (.cells (uhArr s m m) 5)) 36 5 Try.underlying36 Try.underlying5 w.heap.size 0 m m ((ubs s m).map (fun c => (c.toNat : Int))) (by simp [ubs_length]) (fun i hi => by
    rw [World.cell?_alloc_at _ _ _ _ rfl, Nat.zero_add]; exact uhArr_done s m i hi) 9 Try.underlying9
  rw [h, strOfNums_bytes]

theorem i64_or4 (a b : Int) (h0 : 0 ≤ a) (h1 : a ≤ 15) (h2 : 0 ≤ b) (h3 : b ≤ 15) : bits .or .i64 (a * 16) b = a * 16 + b :=
  bits_join .i64 63 (by decide) wraps_i64 4 (a * 16) b (by omega) (by omega) (by omega) h2 (by omega) (by omega)

set_option maxHeartbeats 800000 in
set_option maxRecDepth 100000 in
theorem implUnhex_odd (s : ByteArray) (w : World) (hs : s.size ≤ 1048576) (ho : s.size % 2 = 1) :
    Calls Try.prog 20 #[.string s] w fun e w' => ∃ r ok, e = .returned (.tuple #[.string r, .bool ok]) ∧ UH s r ok ∧ Below w.heap.size w w' := by
  have h1 : (((s.size : Int) % 2) != 0) = true := by rw [bne_iff_ne]; omega
  go_enter Try.func20, Try.ntmps20
  go_wp2
  go_ret2
  exact ⟨ByteArray.empty, false, rfl, uh_odd ho, Below.refl _ _⟩

set_option maxHeartbeats 800000 in
set_option maxRecDepth 100000 in
theorem implUnhex_even (s : ByteArray) (m : Nat) (w : World) (hs : s.size ≤ 1048576) (hm : Hid (s.size = 2 * m)) :
    Calls Try.prog 20 #[.string s] w fun e w' => ∃ r ok, e = .returned (.tuple #[.string r, .bool ok]) ∧ UH s r ok ∧ Below w.heap.size w w' := by
  have h1 : (((s.size : Int) % 2) != 0) = false := by have := hm.out; simp; omega
  have hq : (s.size : Int) / 2 = (m : Int) := by have := hm.out; omega
  have hm1 : 2 * m ≤ s.size := by have := hm.out; omega
  have hmk := make_uh s m w (by omega)
  have hcv := conv_uh s m w
  go_enter Try.func20, Try.ntmps20
  go_wp2
  go_loopw [18] (fun c wr => ∃ k : Nat, k ≤ m ∧ c = .int .i64 k ∧ wr = w.alloc (.cells (uhArr s m k) 5) ∧ Hid (digitsTo s (2 * k))) (fun c _ => m - (intOf c).toNat)
  case atStart => exact ⟨0, by omega, rfl, rfl, fun j hj => absurd hj (by omega)⟩
  case round =>
    obtain ⟨k, hk, rfl, rfl, HD⟩ := hrel
    clear hmk
    by_cases hlt : k < m
    · have hl0 : 2 * k < s.size := by omega
      have hl1 : 2 * k + 1 < s.size := by omega
      have HA : Hid (fromHex (s[2 * k]) = fromHex (s.data.toList.getD (2 * k) 0)) := by unfold Hid; rw [getD_data s _ hl0]
      have HB : Hid (fromHex (s[2 * k + 1]) = fromHex (s.data.toList.getD (2 * k + 1) 0)) := by unfold Hid; rw [getD_data s _ hl1]
      obtain ⟨ba0, ba1⟩ := fromHex_bd s[2 * k]
      obtain ⟨bb0, bb1⟩ := fromHex_bd s[2 * k + 1]
      clear hcv
      by_cases ha : fromHex s[2 * k] < 0
      · skip
        go_wp2_with fail
        refine (index_any _ _ _).mono ?_
        rintro e w' ⟨rfl, rfl⟩
        rw [index_hex]
        go_wp2_with fail
        refine (index_any _ _ _).mono ?_
        rintro e w' ⟨rfl, rfl⟩
        rw [index_hex]
        go_wp2
        go_ret2
        exact ⟨ByteArray.empty, false, rfl, uh_bad (2 * k) hl0 (by rw [← HA.out]; exact ha), (Below.refl _ _).alloc (Nat.le_refl _) _⟩
      · by_cases hb : fromHex s[2 * k + 1] < 0
        · skip
          go_wp2_with fail
          refine (index_any _ _ _).mono ?_
          rintro e w' ⟨rfl, rfl⟩
          rw [index_hex]
          go_wp2_with fail
          refine (index_any _ _ _).mono ?_
          rintro e w' ⟨rfl, rfl⟩
          rw [index_hex]
          go_wp2
          go_ret2
          exact ⟨ByteArray.empty, false, rfl, uh_bad (2 * k + 1) hl1 (by rw [← HB.out]; exact hb), (Below.refl _ _).alloc (Nat.le_refl _) _⟩
        · have HN : Hid (((ub s k).toNat : Int) = 16 * fromHex s[2 * k] + fromHex s[2 * k + 1]) := ub_num _ _ HA.out HB.out (by omega) (by omega)
          obtain ⟨v0, hv0⟩ := uhArr_get s m k k hk hlt
          have ho := i64_or4 (fromHex s[2 * k]) (fromHex s[2 * k + 1]) (by omega) (by omega) (by omega) (by omega)
          go_wp2_with fail
          refine (index_any _ _ _).mono ?_
          rintro e w' ⟨rfl, rfl⟩
          rw [index_hex]
          go_wp2_with fail
          refine (index_any _ _ _).mono ?_
          rintro e w' ⟨rfl, rfl⟩
          rw [index_hex]
          go_wp2
          go_roundw
          case rel => exact ⟨k + 1, by omega, by go_num, by rw [uhArr_set s m k _ hlt (by rw [HN.out]; omega)], digits_step HD.out (by rw [← HA.out]; omega) (by rw [← HB.out]; omega)⟩
          case measure => simp [intOf]; omega
    · have e : k = m := by omega
      subst e
      have HE : Hid (UH s ⟨(ubs s k).toArray⟩ true) := uh_done hm.out.symm HD.out
      go_wp2
      go_ret2
      exact ⟨_, true, rfl, HE.out, (Below.refl _ _).alloc (Nat.le_refl _) _⟩

theorem implUnhex_any (s : ByteArray) (w : World) (hs : s.size ≤ 1048576) :
    Calls Try.prog 20 #[.string s] w fun e w' => ∃ r ok, e = .returned (.tuple #[.string r, .bool ok]) ∧ UH s r ok ∧ Below w.heap.size w w' := by
  by_cases h : s.size % 2 = 1
  · exact implUnhex_odd s w hs h
  · exact implUnhex_even s (s.size / 2) w hs (Hid.intro (by omega))

set_option maxHeartbeats 400000 in
theorem unhex_law (s : ByteArray) (w : World) (hs : s.size ≤ maxLen) :
    Calls Try.prog 8 #[.string s] w fun e w' => e = .returned (.bool true) ∧ Below w.heap.size w w' := by
  unfold maxLen at hs
  by_cases hb : (1048576 : Int) < (s.size : Int)
  · go_enter Try.func8, Try.ntmps8
    go_wp2
    go_ret
    exact ⟨rfl, Below.refl _ _⟩
  · go_enter Try.func8, Try.ntmps8
    go_wp2_with fail
    refine (specUnhex_any s _ (by omega)).mono ?_
    rintro e w1 ⟨r, ok, rfl, r1, b1⟩
    have R1 : Hid (UH s r ok) := r1
    clear r1
    go_wp2_with fail
    refine (implUnhex_any s _ (by omega)).mono ?_
    rintro e w2 ⟨t, ok', rfl, r2, b2⟩
    obtain ⟨rfl, rfl⟩ := UH_unique R1.out r2
    clear r2
    go_wp2
    go_ret
    exact ⟨rfl, b1.trans (b2.mono b1.size)⟩

end Go.Proofs.Ytegeifdnclhknaa
