/- Contracts of the draws: a new cursor; the draws of a number and of a text. -/
import Derived.Test.YtofgpnhieopcoaaDoorDrawD
namespace Go.Proofs.YtofgpnhieopcoaaDoor
open Go.RowKit
set_option linter.unusedVariables false

theorem i64_and30 (n : Int) : bits .and .i64 n 1073741823 = n % 1073741824 := by
  have hm : (BitVec.ofInt 64 1073741823).toNat = 2 ^ 30 - 1 := by decide
  have key : (BitVec.ofInt 64 n &&& BitVec.ofInt 64 1073741823).toNat = (n % ((2 ^ 64 : Nat) : Int)).toNat % 2 ^ 30 := by
    rw [BitVec.toNat_and, BitVec.toNat_ofInt, hm, Nat.and_two_pow_sub_one_eq_mod]
  show IntKind.i64.wrap ((BitVec.ofInt 64 n &&& BitVec.ofInt 64 1073741823).toNat : Nat) = n % 1073741824
  rw [key, IntKind.wrap_i64]
  omega

/-- The cursor's number behind k bytes of the code. -/
def hF (zs : List Int) (len : Nat) : Nat → Int
  | 0 => 10101 + (len : Int)
  | k + 1 => bits .and .i64 (hF zs len k * 131 + zs.getD k 0 + 7) 1073741823
theorem hF_bd (zs : List Int) (len k : Nat) (hl : len ≤ 1048576) : 0 ≤ hF zs len k ∧ hF zs len k ≤ 1073741823 := by
  cases k with
  | zero => simp only [hF]; omega
  | succ k => simp only [hF, i64_and30]; omega

theorem new_st {zs : List Int} {len N cap : Nat} {a : Option Addr} {w : World} {h : Int} (hN : N ≤ w.heap.size) (hr : RowOk w N a len zs) :
    St N a len cap zs w.heap.size 0 h (w.alloc (.cells #[.slice a len cap, .int .i64 0, .int .i64 h] 46)) :=
  ⟨hN, heap_alloc_new w _, hr.below ((Below.refl _ _).alloc hN _)⟩

set_option maxHeartbeats 400000 in
theorem new_some (zs : List Int) (len N cap b off : Nat) (w : World) (hl : len ≤ 1048576) (hN : N ≤ w.heap.size) (hr : RowOk w N (some ⟨b, off, none⟩) len zs) :
    Calls Tryd.prog 16 #[.slice (some ⟨b, off, none⟩) len cap] w fun e w' => ∃ B, e = .returned (.pointer (some ⟨B, 0, none⟩)) ∧ St N (some ⟨b, off, none⟩) len cap zs B 0 (hF zs len (min len 4000)) w' ∧ w.grownBy w' none := by
  have HR : Hid (RowOk w N (some ⟨b, off, none⟩) len zs) := hr
  clear hr
  go_enter Tryd.func16, Tryd.ntmps16
  go_wp2
  go_loop [3, 4] (fun t c => ∃ k : Nat, k ≤ len ∧ k ≤ 4000 ∧ c = .int .i64 k ∧ t = .int .i64 (hF zs len k)) (fun _ c => 4000 - (intOf c).toNat)
  case atStart => exact ⟨0, by omega, by omega, rfl, rfl⟩
  case round =>
    obtain ⟨k, hk, hk4, rfl, rfl⟩ := hrel
    obtain ⟨h0, h1⟩ := hF_bd zs len k hl
    by_cases hlt : k < len
    · have g1 : (k : Int) < (len : Int) := by omega
      by_cases hlt4 : k < 4000
      · have g2 : (k : Int) < 4000 := by omega
        have hcz : w.cell? ⟨b, off + k, none⟩ = some (.int .u8 (zs.getD k 0)) ∧ 0 ≤ zs.getD k 0 ∧ zs.getD k 0 < 256 := by
          obtain ⟨b', off', e, _, hc, z⟩ := HR.out k hlt
          cases e
          exact ⟨hc, z⟩
        obtain ⟨hcz, z0, z1⟩ := hcz
        have HS : Hid (hF zs len (k + 1) = bits .and .i64 (hF zs len k * 131 + zs.getD k 0 + 7) 1073741823) := rfl
        generalize zs.getD k 0 = z at *
        go_wp2
        go_round
        case rel => exact ⟨k + 1, by omega, by omega, by go_num, by rw [HS.out]⟩
        case measure => simp [intOf]; omega
      · have g2 : ¬ (k : Int) < 4000 := by omega
        have HM : Hid (hF zs len (min len 4000) = hF zs len k) := by
          unfold Hid
          rw [show min len 4000 = k by omega]
        go_wp2
        go_ret
        exact ⟨w.heap.size, rfl, by rw [HM.out]; exact new_st hN HR.out, World.grownBy_alloc _ _ _⟩
    · have g1 : ¬ (k : Int) < (len : Int) := by omega
      have HM : Hid (hF zs len (min len 4000) = hF zs len k) := by
        unfold Hid
        rw [show min len 4000 = k by omega]
      go_wp2
      go_ret
      exact ⟨w.heap.size, rfl, by rw [HM.out]; exact new_st hN HR.out, World.grownBy_alloc _ _ _⟩

set_option maxHeartbeats 400000 in
theorem new_none (zs : List Int) (N cap : Nat) (a : Option Addr) (w : World) (hN : N ≤ w.heap.size) :
    Calls Tryd.prog 16 #[.slice a 0 cap] w fun e w' => ∃ B, e = .returned (.pointer (some ⟨B, 0, none⟩)) ∧ St N a 0 cap zs B 0 (hF zs 0 (min 0 4000)) w' ∧ w.grownBy w' none := by
  go_enter Tryd.func16, Tryd.ntmps16
  go_wp2
  refine wp_loop_rounds 1 ?_
  rw [rounds_succ]
  go_wp2
  go_ret
  exact ⟨w.heap.size, rfl, new_st hN (fun j hj => absurd hj (by omega)), World.grownBy_alloc _ _ _⟩

/-- A new cursor over the code. -/
theorem new_any (zs : List Int) (len N cap : Nat) (a : Option Addr) (w : World) (hl : len ≤ 1048576) (hN : N ≤ w.heap.size) (hr : RowOk w N a len zs) :
    Calls Tryd.prog 16 #[.slice a len cap] w fun e w' => ∃ B, e = .returned (.pointer (some ⟨B, 0, none⟩)) ∧ St N a len cap zs B 0 (hF zs len (min len 4000)) w' ∧ w.grownBy w' none := by
  rcases Nat.eq_zero_or_pos len with h0 | h0
  · subst h0
    exact new_none zs N cap a w hN
  · obtain ⟨b, off, rfl, _⟩ := hr 0 h0
    exact new_some zs len N cap b off w hl hN hr

/-- A call of function f with the code hands back v, whatever the memory in which the code lies. -/
def Drawn (zs : List Int) (len : Nat) (f : FuncId) (v : Value) : Prop :=
  ∀ (N : Nat) (a : Option Addr) (cap : Nat) (w : World), N ≤ w.heap.size → RowOk w N a len zs →
    Calls Tryd.prog f #[.slice a len cap] w fun e w' => e = .returned v ∧ Below w.heap.size w w'

theorem below_new {w w1 w2 : World} {B : Nat} (g1 : w.grownBy w1 none) (hB : w.heap.size ≤ B) (g2 : w1.grownBy w2 (some B)) : Below w.heap.size w w2 :=
  ((Below.refl _ _).grown g1 (Nat.le_refl _) (fun k hk => by cases hk)).trans ((Below.refl _ _).grown g2 g1.size (fun k hk => by cases hk; exact hB))

set_option maxHeartbeats 400000 in
theorem drawVar_any (zs : List Int) (len : Nat) (hl : len ≤ 1048576) : ∃ x, -9223372036854775808 ≤ x ∧ x ≤ 9223372036854775807 ∧ Drawn zs len 5 (.int .i64 x) := by
  obtain ⟨x, i', h', x0, x1, _, d⟩ := num_any zs len 0 (hF zs len (min len 4000)) hl (by omega)
  have D := Hid.intro d
  clear d
  refine ⟨x, x0, x1, ?_⟩
  intro N a cap w hN hr
  have HR := Hid.intro hr
  clear hr
  go_enter Tryd.func5, Tryd.ntmps5
  go_wp2_with fail
  refine (new_any zs len w.heap.size cap a w hl (Nat.le_refl _) (fun j hj => by obtain ⟨b, off, e, hb, r⟩ := HR.out j hj; exact ⟨b, off, e, by omega, r⟩)).mono ?_
  rintro e w1 ⟨B, rfl, s1, g1⟩
  go_wp2_with fail
  refine (D.out w.heap.size a cap B w1 s1).mono ?_
  rintro e w2 ⟨rfl, s2, g2⟩
  go_wp2
  go_ret
  exact ⟨rfl, below_new g1 s1.base g2⟩

set_option maxHeartbeats 400000 in
theorem drawHex_any (zs : List Int) (len : Nat) (hl : len ≤ 1048576) : ∃ t : List UInt8, t.length ≤ 40 ∧ Drawn zs len 6 (.string ⟨t.toArray⟩) := by
  obtain ⟨t, i', h', t0, _, d⟩ := text_any zs len 0 (hF zs len (min len 4000)) 40 hl (by omega) (by omega) (by omega)
  have D := Hid.intro d
  clear d
  refine ⟨t, by omega, ?_⟩
  intro N a cap w hN hr
  have HR := Hid.intro hr
  clear hr
  go_enter Tryd.func6, Tryd.ntmps6
  go_wp2_with fail
  refine (new_any zs len w.heap.size cap a w hl (Nat.le_refl _) (fun j hj => by obtain ⟨b, off, e, hb, r⟩ := HR.out j hj; exact ⟨b, off, e, by omega, r⟩)).mono ?_
  rintro e w1 ⟨B, rfl, s1, g1⟩
  go_wp2_with fail
  refine (D.out w.heap.size a cap B w1 s1).mono ?_
  rintro e w2 ⟨rfl, s2, g2⟩
  go_wp2
  go_ret
  exact ⟨rfl, below_new g1 s1.base g2⟩

end Go.Proofs.YtofgpnhieopcoaaDoor
