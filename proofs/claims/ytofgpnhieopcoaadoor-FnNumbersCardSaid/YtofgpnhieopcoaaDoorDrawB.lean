/- Contracts of the draws: numbers. Each says: there are a value and a next state, whatever the memory. -/
import Derived.Test.YtofgpnhieopcoaaDoorDrawA
namespace Go.Proofs.YtofgpnhieopcoaaDoor
open Go.RowKit
set_option linter.unusedVariables false

/-- A call of function f with the cursor and these arguments behind it hands back v, whatever the memory, and leaves the cursor at i', h'. -/
def Draw (zs : List Int) (len i : Nat) (h : Int) (f : FuncId) (more : Array Value) (v : Value) (i' : Nat) (h' : Int) : Prop :=
  ∀ (N : Nat) (a : Option Addr) (cap B : Nat) (w : World), St N a len cap zs B i h w →
    Calls Tryd.prog f (#[.pointer (some ⟨B, 0, none⟩)] ++ more) w fun e w' => e = .returned v ∧ St N a len cap zs B i' h' w' ∧ w.grownBy w' (some B)

set_option maxHeartbeats 400000 in
theorem below_small (zs : List Int) (len i : Nat) (h n : Int) (hl : len ≤ 1048576) (hi : i ≤ len) (h1 : 1 ≤ n) (h2 : n ≤ 256) :
    Draw zs len i h 26 #[.int .i64 n] (.int .i64 (xB zs len i h % n)) (iN len i) (hNext h) := by
  intro N a cap B w s
  show Calls Tryd.prog 26 #[.pointer (some ⟨B, 0, none⟩), .int .i64 n] w _
  obtain ⟨x0, x1⟩ := xB_bd zs len i h
  go_enter Tryd.func26, Tryd.ntmps26
  go_wp2_with fail
  refine (byte_any s hl hi).mono ?_
  rintro e w1 ⟨rfl, s1, g1⟩
  go_wp2
  go_ret
  exact ⟨rfl, s1, g1⟩

set_option maxHeartbeats 400000 in
theorem below_big (zs : List Int) (len i : Nat) (h n : Int) (hl : len ≤ 1048576) (hi : i ≤ len) (h1 : 256 < n) (h2 : n ≤ 1000000000) :
    ∃ x i' h', 0 ≤ x ∧ x < n ∧ i' ≤ len ∧ Draw zs len i h 26 #[.int .i64 n] (.int .i64 x) i' h' := by
  have k1 := iN_le hi
  have k2 := iN_le k1
  have k3 := iN_le k2
  have k4 := iN_le k3
  obtain ⟨a0, a1⟩ := xB_bd zs len i h
  obtain ⟨b0, b1⟩ := xB_bd zs len (iN len i) (hNext h)
  obtain ⟨c0, c1⟩ := xB_bd zs len (iN len (iN len i)) (hNext (hNext h))
  obtain ⟨d0, d1⟩ := xB_bd zs len (iN len (iN len (iN len i))) (hNext (hNext (hNext h)))
  refine ⟨(xB zs len i h * 16777216 + xB zs len (iN len i) (hNext h) * 65536 + xB zs len (iN len (iN len i)) (hNext (hNext h)) * 256 + xB zs len (iN len (iN len (iN len i))) (hNext (hNext (hNext h)))) % n, iN len (iN len (iN len (iN len i))), hNext (hNext (hNext (hNext h))), Int.emod_nonneg _ (by omega), Int.emod_lt_of_pos _ (by omega), k4, ?_⟩
  intro N a cap B w s
  show Calls Tryd.prog 26 #[.pointer (some ⟨B, 0, none⟩), .int .i64 n] w _
  go_enter Tryd.func26, Tryd.ntmps26
  go_wp2_with fail
  refine (byte_any s hl hi).mono ?_
  rintro e w1 ⟨rfl, s1, g1⟩
  go_wp2_with fail
  refine (byte_any s1 hl k1).mono ?_
  rintro e w2 ⟨rfl, s2, g2⟩
  go_wp2_with fail
  refine (byte_any s2 hl k2).mono ?_
  rintro e w3 ⟨rfl, s3, g3⟩
  go_wp2_with fail
  refine (byte_any s3 hl k3).mono ?_
  rintro e w4 ⟨rfl, s4, g4⟩
  go_wp2
  go_ret
  exact ⟨rfl, s4, grown_trans (grown_trans (grown_trans g1 g2) g3) g4⟩

/-- A number below n. -/
theorem below_any (zs : List Int) (len i : Nat) (h n : Int) (hl : len ≤ 1048576) (hi : i ≤ len) (h1 : 1 ≤ n) (h2 : n ≤ 1000000000) :
    ∃ x i' h', 0 ≤ x ∧ x < n ∧ i' ≤ len ∧ Draw zs len i h 26 #[.int .i64 n] (.int .i64 x) i' h' := by
  by_cases hn : n ≤ 256
  · exact ⟨_, _, _, Int.emod_nonneg _ (by omega), Int.emod_lt_of_pos _ (by omega), iN_le hi, below_small zs len i h n hl hi h1 hn⟩
  · exact below_big zs len i h n hl hi (by omega) h2

theorem Draw.at {zs : List Int} {len i : Nat} {h : Int} {n : Int} {v : Value} {i' : Nat} {h' : Int} (d : Draw zs len i h 26 #[.int .i64 n] v i' h') {N : Nat} {a : Option Addr} {cap B : Nat} {w : World} (s : St N a len cap zs B i h w) :
    Calls Tryd.prog 26 #[.pointer (some ⟨B, 0, none⟩), .int .i64 n] w fun e w' => e = .returned v ∧ St N a len cap zs B i' h' w' ∧ w.grownBy w' (some B) := d N a cap B w s

set_option maxHeartbeats 400000 in
theorem once_any (zs : List Int) (len i : Nat) (h n : Int) (hl : len ≤ 1048576) (hi : i ≤ len) (h1 : 1 ≤ n) (h2 : n ≤ 1000000000) :
    ∃ b i' h', i' ≤ len ∧ Draw zs len i h 24 #[.int .i64 n] (.bool b) i' h' := by
  obtain ⟨x, i', h', x0, x1, hi', d⟩ := below_any zs len i h n hl hi h1 h2
  have D := Hid.intro d
  clear d
  refine ⟨x == 0, i', h', hi', ?_⟩
  intro N a cap B w s
  show Calls Tryd.prog 24 #[.pointer (some ⟨B, 0, none⟩), .int .i64 n] w _
  go_enter Tryd.func24, Tryd.ntmps24
  go_wp2_with fail
  refine (D.out.at s).mono ?_
  rintro e w1 ⟨rfl, s1, g1⟩
  go_wp2
  go_ret
  exact ⟨rfl, s1, g1⟩

end Go.Proofs.YtofgpnhieopcoaaDoor
