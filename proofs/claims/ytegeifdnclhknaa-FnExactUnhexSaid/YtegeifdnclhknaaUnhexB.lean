/- The contracts of Unhex, and the law. -/
import Derived.Test.YtegeifdnclhknaaUnhex
namespace Go.Proofs.Ytegeifdnclhknaa
open Go.RowKit
set_option linter.unusedVariables false

set_option maxHeartbeats 800000 in
set_option maxRecDepth 100000 in
theorem specUnhex_odd (s : ByteArray) (w : World) (hs : s.size ≤ 1048576) (ho : s.size % 2 = 1) :
    Calls Try.prog 19 #[.string s] w fun e w' => ∃ r ok, e = .returned (.tuple #[.string r, .bool ok]) ∧ UH s r ok ∧ Below w.heap.size w w' := by
  have h1 : (((s.size : Int) % 2) == 1) = true := by rw [beq_iff_eq]; omega
  go_enter Try.func19, Try.ntmps19
  go_wp2
  go_ret2
  exact ⟨ByteArray.empty, false, rfl, uh_odd ho, (Below.refl _ _).alloc (Nat.le_refl _) _⟩

theorem unhexStart (s : ByteArray) (w : World) : (w.alloc (.cells #[] 5)).ownsRow w.heap.size 5 1 (.slice (some ⟨w.heap.size, 0, none⟩) 0 0) 0 (cellsOf (ubs s 0)) :=
  World.ownsRow_made w #[] 0 (Nat.le_refl _) (by decide) rfl

set_option maxHeartbeats 800000 in
set_option maxRecDepth 100000 in
theorem specUnhex_even (s : ByteArray) (w : World) (hs : s.size ≤ 1048576) (ho : s.size % 2 = 0) :
    Calls Try.prog 19 #[.string s] w fun e w' => ∃ r ok, e = .returned (.tuple #[.string r, .bool ok]) ∧ UH s r ok ∧ Below w.heap.size w w' := by
  have h1 : (((s.size : Int) % 2) == 1) = false := by rw [beq_eq_false_iff_ne]; omega
  have HO : Hid (s.size % 2 = 0) := ho
  clear ho
  obtain ⟨i0, hi, hz0, hz1, hz2⟩ := info_parts Try.info5
  go_enter Try.func19, Try.ntmps19
  go_wp2
  go_loopw [4, 5] (fun v c wr => ∃ k : Nat, 2 * k ≤ s.size ∧ c = .int .i64 (2 * (k : Int)) ∧ wr.ownsRow w.heap.size 5 1 v k (cellsOf (ubs s k)) ∧ Hid (digitsTo s (2 * k)) ∧ Below w.heap.size w wr) (fun _ c _ => s.size - (intOf c).toNat)
  case atStart => exact ⟨0, by omega, rfl, unhexStart s w, fun j hj => absurd hj (by omega), (Below.refl _ _).alloc (Nat.le_refl _) _⟩
  case round =>
    obtain ⟨k, hk, rfl, hown, HD, hbel⟩ := hrel
    have hbs := hbel.size
    by_cases hlt : 2 * k < s.size
    · have hlt1 : 2 * k + 1 < s.size := by have := HO.out; omega
      have HA : Hid (fromHex (s[2 * k]) = fromHex (s.data.toList.getD (2 * k) 0)) := by unfold Hid; rw [getD_data s _ hlt]
      have HB : Hid (fromHex (s[2 * k + 1]) = fromHex (s.data.toList.getD (2 * k + 1) 0)) := by unfold Hid; rw [getD_data s _ hlt1]
      obtain ⟨ba0, ba1⟩ := fromHex_bd s[2 * k]
      obtain ⟨bb0, bb1⟩ := fromHex_bd s[2 * k + 1]
      by_cases ha : fromHex s[2 * k] < 0
      · clear hown
        go_wp2_with fail
        refine (fromHex_any _ _).mono ?_
        rintro e w' ⟨rfl, rfl⟩
        go_wp2_with fail
        refine (fromHex_any _ _).mono ?_
        rintro e w' ⟨rfl, rfl⟩
        go_wp2
        go_ret2
        exact ⟨ByteArray.empty, false, rfl, uh_bad (2 * k) hlt (by rw [← HA.out]; exact ha), hbel⟩
      · by_cases hb : fromHex s[2 * k + 1] < 0
        · clear hown
          go_wp2_with fail
          refine (fromHex_any _ _).mono ?_
          rintro e w' ⟨rfl, rfl⟩
          go_wp2_with fail
          refine (fromHex_any _ _).mono ?_
          rintro e w' ⟨rfl, rfl⟩
          go_wp2
          go_ret2
          exact ⟨ByteArray.empty, false, rfl, uh_bad (2 * k + 1) hlt1 (by rw [← HB.out]; exact hb), hbel⟩
        · have HN : Hid (((ub s k).toNat : Int) = 16 * fromHex s[2 * k] + fromHex s[2 * k + 1]) := ub_num _ _ HA.out HB.out (by omega) (by omega)
          go_wp2_with fail
          refine (fromHex_any _ _).mono ?_
          rintro e w' ⟨rfl, rfl⟩
          go_wp2_with fail
          refine (fromHex_any _ _).mono ?_
          rintro e w' ⟨rfl, rfl⟩
          go_wp2_with (at_builtin; refine wpList_append_own _ rfl _ _ 36 rfl w.heap.size 5 i0 (.int .u8 0) 1 1 Try.underlying36 hi hz0 hz1 hz2 rfl (by decide) _ _ _ rfl (hown.alloc _) ⟨wr.heap.size, 0, none⟩ 1 1 [.int .u8 (16 * fromHex s[2 * k] + fromHex s[2 * k + 1])] rfl rfl ?c1 ?c2 ?c3 ?c4 ?c5 ?_)
          case c1 => exact cell_one_new _ _ _
          case c2 => intro u hu; simp at hu; subst hu; rfl
          case c3 => unfold maxLen; omega
          case c4 => omega
          case c5 => simp; omega
          intro v' w1 hown' hgrow _
          rw [← HN.out, ← cellsOf_snoc, ← ubs_succ] at hown'
          have hb' := hbel.trans (((Below.refl _ _).alloc hbs _).grown hgrow (by simp; omega) (fun k hk => (hown.lt k hk).1))
          clear hgrow hown
          go_wp2
          go_roundw
          case rel => exact ⟨k + 1, by omega, by go_num, hown', digits_step HD.out (by rw [← HA.out]; omega) (by rw [← HB.out]; omega), hb'⟩
          case measure => simp [intOf]; omega
    · have e : 2 * k = s.size := by omega
      have HE : Hid (UH s ⟨(ubs s k).toArray⟩ true) := uh_done e HD.out
      have hcv := conv_own hown
      clear hown e
      go_wp2
      go_ret2
      exact ⟨_, true, rfl, HE.out, hbel⟩

theorem specUnhex_any (s : ByteArray) (w : World) (hs : s.size ≤ 1048576) :
    Calls Try.prog 19 #[.string s] w fun e w' => ∃ r ok, e = .returned (.tuple #[.string r, .bool ok]) ∧ UH s r ok ∧ Below w.heap.size w w' := by
  by_cases h : s.size % 2 = 1
  · exact specUnhex_odd s w hs h
  · exact specUnhex_even s w hs (by omega)

end Go.Proofs.Ytegeifdnclhknaa
