/- The contracts of Dec, the program's and the specification's. -/
import Derived.Test.YtkmhednmgoolgabDoorGBase
import Derived.Test.YtkmhednmgoolgabDoorNDecM
import Derived.Test.YtkmhednmgoolgabDoorShelf
import Derived.Lib.LaidTab
import Derived.WalkKit
import Derived.WalkSpells
import Derived.WalkLawsBesides
import Derived.Deep.QuietTactic
import Derived.BigQuiet
namespace Go.Proofs.YtkmhednmgoolgabDoor
open Go.RowKit
set_option linter.unusedVariables false

/-- The byte that a number is. -/
def byteOf (x : Int) : UInt8 := UInt8.ofNat x.toNat

theorem byteOf_pos (m : Nat) : byteOf (48 + (m : Int) % 10) = UInt8.ofNat (48 + m % 10) := by
  unfold byteOf
  congr 1

theorem byteOf_zero (m : Nat) (h : (m : Int) % 10 ≤ 0) : byteOf (48 + -((m : Int) % 10)) = UInt8.ofNat (48 + m % 10) := by
  unfold byteOf
  congr 1
  omega

theorem conv_one (w : World) (x : Int) : (convert 41 9 (.slice (some ⟨w.heap.size, 0, none⟩) 1 1)).run Tryd.prog (w.alloc (.cells #[.int .u8 x] 5)) = .ok (.string ⟨#[byteOf x]⟩) (w.alloc (.cells #[.int .u8 x] 5)) :=
  run_convert_bytes_arg (P := Tryd.prog) _ 41 5 Tryd.underlying41 Tryd.underlying5 w.heap.size 0 1 1 [x] rfl (fun i hi => by
    obtain rfl : i = 0 := by omega
    rw [World.cell?_alloc_at _ _ _ _ rfl]; rfl) 9 Tryd.underlying9

def mkS (l : List UInt8) : ByteArray := ⟨l.toArray⟩

theorem mkS_size (l : List UInt8) : (mkS l).size = l.length := by
  show l.toArray.size = _
  simp

theorem mkS_cons (c : UInt8) (l : List UInt8) : (⟨#[c]⟩ : ByteArray) ++ mkS l = mkS (c :: l) := by
  unfold mkS
  show (ByteArray.mk [c].toArray ++ ByteArray.mk l.toArray) = _
  rw [ByteArray.mk_append_mk]
  rfl

set_option maxHeartbeats 400000 in
theorem specDec_zero (w : World) :
    Calls Tryd.prog 10 #[.int .i64 0] w fun e w' => e = .returned (.string (decS 0)) ∧ Below w.heap.size w w' := by
  go_enter Tryd.func10, Tryd.ntmps10
  go_wp2
  go_ret
  exact ⟨rfl, Below.refl _ _⟩

set_option maxHeartbeats 400000 in
set_option maxRecDepth 100000 in
theorem specDec_pos (n : Nat) (w : World) (h0 : 0 < n) (h1 : n ≤ 9223372036854775807) :
    Calls Tryd.prog 10 #[.int .i64 ((n : Int))] w fun e w' => e = .returned (.string (decS ((n : Int)))) ∧ Below w.heap.size w w' := by
  have hz : (((n : Int)) == 0) = false := by rw [beq_eq_false_iff_ne]; omega
  have hs : ¬ (n : Int) < 0 := by omega
  go_enter Tryd.func10, Tryd.ntmps10
  go_wp2
  go_loopw [0, 3] (fun t o wr => ∃ (f m : Nat) (suf : List UInt8), t = .int .i64 ((m : Int)) ∧ Hid (m < 10 ^ f) ∧ m ≤ n ∧ suf.length + f ≤ 20 ∧ o = .string (mkS suf) ∧ Hid (decP f m ++ suf = decP 20 n) ∧ Below w.heap.size w wr) (fun t _ _ => (intOf t).natAbs)
  case atStart => exact ⟨20, n, [], rfl, by unfold Hid; omega, Nat.le_refl _, by simp, rfl, by unfold Hid; simp, Below.refl _ _⟩
  case round =>
    obtain ⟨f, m, suf, rfl, HF, hm, hl, rfl, HP, hbel⟩ := hrel
    have hsz := mkS_size suf
    by_cases hm0 : m = 0
    · subst hm0
      have HE : Hid (suf = decP 20 n) := dec_end HP.out
      go_wp2
      go_ret
      exact ⟨ret_str (by rw [HE.out]; unfold decS mkS; rw [decL_pos n h0]), hbel⟩
    · obtain ⟨g, rfl, hg⟩ := dec_fuel HF.out hm0
      have HG : Hid (m / 10 < 10 ^ g) := hg
      clear hg HF
      have hnz : (((m : Int)) != 0) = true := by rw [bne_iff_ne]; omega
      have hcv := conv_one wr (48 + (m : Int) % 10)
      go_wp2
      go_roundw
      case rel => exact ⟨g, m / 10, UInt8.ofNat (48 + m % 10) :: suf, by go_num, HG, by omega, by simp; omega, val_str (by rw [byteOf_pos, mkS_cons]), dec_step HP.out hm0, hbel.alloc hbel.size _⟩
      case measure => simp [intOf]; omega

set_option maxHeartbeats 400000 in
set_option maxRecDepth 100000 in
theorem specDec_neg (n : Nat) (w : World) (h0 : 0 < n) (h1 : n ≤ 9223372036854775808) :
    Calls Tryd.prog 10 #[.int .i64 (-(n : Int))] w fun e w' => e = .returned (.string (decS (-(n : Int)))) ∧ Below w.heap.size w w' := by
  have hz : ((-(n : Int)) == 0) = false := by rw [beq_eq_false_iff_ne]; omega
  have hs : (-(n : Int)) < 0 := by omega
  go_enter Tryd.func10, Tryd.ntmps10
  go_wp2
  go_loopw [0, 3] (fun t o wr => ∃ (f m : Nat) (suf : List UInt8), t = .int .i64 (-(m : Int)) ∧ Hid (m < 10 ^ f) ∧ m ≤ n ∧ suf.length + f ≤ 20 ∧ o = .string (mkS suf) ∧ Hid (decP f m ++ suf = decP 20 n) ∧ Below w.heap.size w wr) (fun t _ _ => (intOf t).natAbs)
  case atStart => exact ⟨20, n, [], rfl, by unfold Hid; omega, Nat.le_refl _, by simp, rfl, by unfold Hid; simp, Below.refl _ _⟩
  case round =>
    obtain ⟨f, m, suf, rfl, HF, hm, hl, rfl, HP, hbel⟩ := hrel
    have hsz := mkS_size suf
    by_cases hm0 : m = 0
    · subst hm0
      have HE : Hid (suf = decP 20 n) := dec_end HP.out
      go_wp2
      go_ret
      exact ⟨ret_str (by rw [mkS_cons, HE.out]; unfold decS mkS; rw [decL_neg n h0]), hbel⟩
    · obtain ⟨g, rfl, hg⟩ := dec_fuel HF.out hm0
      have HG : Hid (m / 10 < 10 ^ g) := hg
      clear hg HF
      have hnz : ((-(m : Int)) != 0) = true := by rw [bne_iff_ne]; omega
      have hcv := conv_one wr (48 + (m : Int) % 10)
      have hcv2 := conv_one wr (48 + -((m : Int) % 10))
      by_cases hd : (m : Int) % 10 ≤ 0
      · go_wp2
        go_roundw
        case rel => exact ⟨g, m / 10, UInt8.ofNat (48 + m % 10) :: suf, by go_num, HG, by omega, by simp; omega, val_str (by rw [byteOf_zero m hd, mkS_cons]), dec_step HP.out hm0, hbel.alloc hbel.size _⟩
        case measure => simp [intOf]; omega
      · go_wp2
        go_roundw
        case rel => exact ⟨g, m / 10, UInt8.ofNat (48 + m % 10) :: suf, by go_num, HG, by omega, by simp; omega, val_str (by rw [byteOf_pos, mkS_cons]), dec_step HP.out hm0, hbel.alloc hbel.size _⟩
        case measure => simp [intOf]; omega

theorem specDec_any (n : Int) (w : World) (h0 : -9223372036854775808 ≤ n) (h1 : n ≤ 9223372036854775807) :
    Calls Tryd.prog 10 #[.int .i64 n] w fun e w' => e = .returned (.string (decS n)) ∧ Below w.heap.size w w' := by
  by_cases hz : n = 0
  · subst hz
    exact specDec_zero w
  · by_cases hn : n < 0
    · obtain ⟨m, rfl⟩ : ∃ m : Nat, n = -(m : Int) := ⟨n.natAbs, by omega⟩
      exact specDec_neg m w (by omega) (by omega)
    · obtain ⟨m, rfl⟩ : ∃ m : Nat, n = (m : Int) := ⟨n.natAbs, by omega⟩
      exact specDec_pos m w (by omega) (by omega)

theorem below_grow (w : World) (k : Nat) (os : Array Obj) : Below w.heap.size w (Sort.grow (w.drewN k) os) :=
  ⟨rfl, rfl, rfl, by show w.heap.size ≤ (w.heap ++ os).size; rw [Array.size_append]; omega, fun j hj => by
    show (w.heap ++ os)[j]? = w.heap[j]?
    rw [Array.getElem?_append_left hj]⟩

/-- The table of powers lies where the library looks. -/
def tabOk (w : World) : Prop := Lib.TabIs Tryd.prog w (Rows.fnExactShowAuditRow.named.headD default) .u64 Lib.pow10Tab
theorem itoa_any (n : Int) (h0 : -9223372036854775808 ≤ n) (h1 : n ≤ 9223372036854775807) (w : World) (htab : tabOk w) :
    Calls Tryd.prog 24 #[.int .i64 n] w fun e w' => e = .returned (.string (decS n)) ∧ Below w.heap.size w w' := by
  refine (sh_strconv_Itoa n h0 h1 w htab).mono ?_
  rintro e w' ⟨rfl, k, os, rfl⟩
  exact ⟨ret_str (by unfold decS; rw [itoa_decL n h0 h1]), below_grow w k os⟩
set_option maxHeartbeats 400000 in
theorem implDec_any (n : Int) (h0 : -9223372036854775808 ≤ n) (h1 : n ≤ 9223372036854775807) (w : World) (htab : tabOk w) :
    Calls Tryd.prog 20 #[.int .i64 n] w fun e w' => e = .returned (.string (decS n)) ∧ Below w.heap.size w w' := by
  go_enter Tryd.func20, Tryd.ntmps20
  go_wp2_with fail
  refine (itoa_any n h0 h1 _ htab).mono ?_
  rintro e w1 ⟨rfl, b1⟩
  go_wp2
  go_ret
  exact ⟨rfl, b1⟩
theorem decS_size (n : Int) : (decS n).size ≤ 21 := by
  show (decL n).toArray.size ≤ 21
  have h := decP_length 20 n.natAbs
  unfold decL
  split
  · simp
  · split <;> simp <;> omega
end Go.Proofs.YtkmhednmgoolgabDoor
