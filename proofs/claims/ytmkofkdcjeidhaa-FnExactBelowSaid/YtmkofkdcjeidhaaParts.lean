/- The contracts of the program's Parts and of the law's helpers; the law. -/
import Derived.Test.YtmkofkdcjeidhaaBetween
import Derived.Deep.RegionWith
import Derived.Deep.RegionLaw
namespace Go.Proofs.Ytmkofkdcjeidhaa
open Go.RowKit
set_option linter.unusedVariables false

set_option maxHeartbeats 400000 in
theorem implParts_any (s : ByteArray) (w : World) (hs : s.size ≤ 1048576) :
    Calls Try.prog 14 #[.string s] w fun e w' => ∃ v, e = .returned v ∧ RowS w' w.heap.size v (partsOf s.data.toList) ∧ Below w.heap.size w w' := by
  cases hp : pathB s.data.toList with
  | false =>
    rw [partsOf_no hp]
    go_enter Try.func14, Try.ntmps14
    go_wp2_with (go_at_call 18; refine (implPathOk_any _ _ hs).mono ?_; rintro e w1 ⟨rfl, rfl⟩)
    go_ret
    exact ⟨_, rfl, World.ownsRow_nil _ _ _ _, Below.refl _ _⟩
  | true =>
    have h60 : s.size ≤ 60 := by have := (pathB_len hp).2; rwa [size_data] at this
    rw [partsOf_yes hp]
    go_enter Try.func14, Try.ntmps14
    go_wp2_with (go_at_call 18; refine (implPathOk_any _ _ hs).mono ?_; rintro e w1 ⟨rfl, rfl⟩)
    refine (between_any s _ h60).mono ?_
    rintro e w2 ⟨v, rfl, hr, hb⟩
    go_wp2
    go_ret
    exact ⟨_, rfl, hr, hb⟩

/-- The mark of a number, its digits ahead of acc. -/
def markD : Nat → Nat → List UInt8 → List UInt8
  | 0, _, acc => acc
  | fuel + 1, k, acc => if k = 0 then acc else markD fuel (k / 10) ((48 + UInt8.ofNat (k % 10)) :: acc)
def markS (k : Nat) : ByteArray := ⟨(109 :: markD 4 k []).toArray⟩

theorem conv_one (w : World) (x : Int) : (convert 22 9 (.slice (some ⟨w.heap.size, 0, none⟩) 1 1)).run Try.prog (w.alloc (.cells #[.int .u8 x] 5)) = .ok (.string ⟨#[UInt8.ofNat x.toNat]⟩) (w.alloc (.cells #[.int .u8 x] 5)) :=
  run_convert_bytes_arg (P := Try.prog) _ 22 5 Try.underlying22 Try.underlying5 w.heap.size 0 1 1 [x] rfl (fun i hi => by
    obtain rfl : i = 0 := by omega
    rw [World.cell?_alloc_at _ _ _ _ rfl]; rfl) 9 Try.underlying9

theorem append_one (c : UInt8) (l : List UInt8) : (ByteArray.mk #[c]) ++ ⟨l.toArray⟩ = ⟨(c :: l).toArray⟩ := by
  apply ByteArray.ext
  rw [ByteArray.data_append]
  apply Array.ext'
  simp
set_option maxHeartbeats 400000 in
theorem markText_any (k : Nat) (w : World) (h1 : 1 ≤ k) (hk : k ≤ 1000) :
    Calls Try.prog 37 #[.int .i64 k] w fun e w' => e = .returned (.string (markS k)) ∧ Below w.heap.size w w' := by
  have g1 : ¬ (k : Int) ≤ 0 := by omega
  go_enter Try.func37, Try.ntmps37
  go_wp2
  go_loopw [0, 3] (fun c o wr => ∃ (fuel m : Nat) (acc : List UInt8), c = .int .i64 m ∧ o = .string ⟨acc.toArray⟩ ∧ m ≤ 1000 ∧ Hid (m < 10 ^ fuel) ∧ acc.length ≤ 5 ∧ Hid (acc.length + fuel = 4) ∧ Hid (markD fuel m acc = markD 4 k []) ∧ Below w.heap.size w wr) (fun c _ _ => (intOf c).toNat)
  case atStart => exact ⟨4, k, [], rfl, rfl, hk, by unfold Hid; omega, by simp, rfl, rfl, Below.refl _ _⟩
  case round =>
    obtain ⟨fuel, m, acc, rfl, rfl, hm, HF, ha, HA, HD, hbel⟩ := hrel
    by_cases hz : 0 < m
    · have hcv := conv_one wr (48 + (m : Int) % 10)
      go_wp2
      obtain ⟨f, hf⟩ : ∃ f, fuel = f + 1 := by
        cases fuel with
        | zero => have := HF.out; simp at this; omega
        | succ f => exact ⟨f, rfl⟩
      subst hf
      go_roundw
      case rel => exact ⟨f, m / 10, (48 + UInt8.ofNat (m % 10)) :: acc, by go_num, val_str (append_one _ acc), by omega, by have := HF.out; unfold Hid; rw [Nat.pow_succ] at this; omega, by have := HA.out; simp; omega, by have := HA.out; unfold Hid; simp; omega, by have := HD.out; unfold Hid; rw [← this, markD, if_neg (by omega)], hbel.alloc hbel.size _⟩
      case measure => simp [intOf]; omega
    · obtain rfl : m = 0 := by omega
      have HE : Hid (acc = markD 4 k []) := by
        have := HD.out
        unfold Hid
        rw [← this]
        cases fuel <;> simp [markD]
      go_wp2
      go_ret
      exact ⟨ret_str (by rw [markS, ← HE.out]; exact append_one 109 acc), hbel⟩

/-- Two rows that hold the same. -/
theorem eqS_empty (a1 a2 : Option Addr) (c1 c2 : Nat) (w : World) :
    Calls Try.prog 20 #[.slice a1 0 c1, .slice a2 0 c2] w fun e w' => e = .returned (.bool true) ∧ w = w' := by
  go_enter Try.func20, Try.ntmps20
  go_wp2
  refine wp_loop_rounds 1 ?_
  rw [rounds_succ]
  go_wp2
  go_ret
  exact ⟨rfl, rfl⟩

theorem RowS.text {w w' : World} {base g cap : Nat} {L : List (List UInt8)} (h : RowS w base (.slice (some ⟨g, 0, none⟩) L.length cap) L) (hb : Below w.heap.size w w') (j : Nat) (hj : j < L.length) : w'.cell? ⟨g, j, none⟩ = some (.string ⟨L[j].toArray⟩) := (h.kept hb).at j hj

set_option maxHeartbeats 400000 in
theorem eqS_some (g1 g2 c1 c2 b1 b2 : Nat) (L : List (List UInt8)) (w : World) (hL : L.length ≤ 1000) (r1 : RowS w b1 (.slice (some ⟨g1, 0, none⟩) L.length c1) L) (r2 : RowS w b2 (.slice (some ⟨g2, 0, none⟩) L.length c2) L) :
    Calls Try.prog 20 #[.slice (some ⟨g1, 0, none⟩) L.length c1, .slice (some ⟨g2, 0, none⟩) L.length c2] w fun e w' => e = .returned (.bool true) ∧ Below w.heap.size w w' := by
  have R1 := Hid.intro r1
  have R2 := Hid.intro r2
  clear r1 r2
  go_enter Try.func20, Try.ntmps20
  go_wp2
  go_loopw [5] (fun c wr => ∃ k : Nat, c = .int .i64 k ∧ k ≤ L.length ∧ Below w.heap.size w wr) (fun c _ => L.length - (intOf c).toNat)
  case atStart => exact ⟨0, rfl, Nat.zero_le _, Below.refl _ _⟩
  case round =>
    obtain ⟨k, rfl, hk, hbel⟩ := hrel
    by_cases hlt : k < L.length
    · have h1 := R1.out.text hbel k hlt
      have h2 := R2.out.text hbel k hlt
      go_wp2
      go_quiet (fail)
      go_wp2
      go_roundw
      case rel => exact ⟨k + 1, by go_num, by omega, below_drewN hbel _⟩
      case measure => simp [intOf]; omega
    · go_wp2
      go_ret
      exact ⟨rfl, hbel⟩

end Go.Proofs.Ytmkofkdcjeidhaa
