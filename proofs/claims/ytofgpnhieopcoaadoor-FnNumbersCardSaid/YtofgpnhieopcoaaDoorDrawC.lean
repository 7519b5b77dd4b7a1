/- Contracts of the draws: the numbers at the limits, and any number. -/
import Derived.Test.YtofgpnhieopcoaaDoorDrawB
namespace Go.Proofs.YtofgpnhieopcoaaDoor
open Go.RowKit
set_option linter.unusedVariables false

theorem St.kept {N : Nat} {a : Option Addr} {len cap : Nat} {zs : List Int} {B i : Nat} {h : Int} {w w' : World} (s : St N a len cap zs B i h w) (g : w.grownBy w' none) : St N a len cap zs B i h w' := by
  have hB := lt_of_blk s.blk
  exact ⟨s.base, (g.block B hB (by simp)).trans s.blk, s.row.below ((Below.refl _ _).grown g (Nat.le_trans s.base (Nat.le_of_lt hB)) (fun k hk => by cases hk))⟩
theorem St.alloc {N : Nat} {a : Option Addr} {len cap : Nat} {zs : List Int} {B i : Nat} {h : Int} {w : World} (s : St N a len cap zs B i h w) (o : Obj) : St N a len cap zs B i h (w.alloc o) := s.kept (World.grownBy_alloc w o none)
theorem grown_alloc_first {w w' : World} {o : Obj} {r : Option Nat} (g : (w.alloc o).grownBy w' r) : w.grownBy w' r :=
  grown_trans (World.grownBy_alloc w o r) g

theorem pick_any (zs : List Int) (len i : Nat) (h : Int) (tab : List Int) (hl : len ≤ 1048576) (hi : i ≤ len) :
    ∃ (j : Nat) (i' : Nat) (h' : Int), j < 17 ∧ i' ≤ len ∧ ∀ (N : Nat) (a : Option Addr) (cap B L : Nat) (w : World), St N a len cap zs B i h w → L ≠ B → (∀ j, j < 17 → w.cell? ⟨L, j, none⟩ = some (.int .i64 (tab.getD j 0))) →
      Calls Tryd.prog 27 #[.pointer (some ⟨B, 0, none⟩), .slice (some ⟨L, 0, none⟩) 17 17] w fun e w' => e = .returned (.int .i64 (tab.getD j 0)) ∧ St N a len cap zs B i' h' w' ∧ w.grownBy w' (some B) := by
  obtain ⟨x, i', h', x0, x1, hi', d⟩ := below_any zs len i h 17 hl hi (by omega) (by omega)
  obtain ⟨k, rfl⟩ := Int.eq_ofNat_of_zero_le x0
  have D := Hid.intro d
  clear d
  refine ⟨k, i', h', by omega, hi', ?_⟩
  intro N a cap B L w s hne hc
  have hk : k < 17 := by omega
  have hck := hc k hk
  have HC := Hid.intro hck
  clear hc hck
  go_enter Tryd.func27, Tryd.ntmps27
  go_wp2_with fail
  refine (D.out.at s).mono ?_
  rintro e w1 ⟨rfl, s1, g1⟩
  have hc1 : w1.cell? ⟨L, k, none⟩ = some (.int .i64 (tab.getD k 0)) := g1.cell HC.out (by simpa using hne)
  go_wp2
  go_ret
  exact ⟨rfl, s1, g1⟩

def limits : List Int := [-1, 0, 127, 128, 255, 256, 16383, 16384, 65535, 65536, 562949953421311, 562949953421312, 999999999, 1000000000, -999999999, 9223372036854775807, -9223372036854775808]
theorem limits_bd (j : Nat) (h : j < 17) : -9223372036854775808 ≤ limits.getD j 0 ∧ limits.getD j 0 ≤ 9223372036854775807 := by
  have : ∀ j : Fin 17, -9223372036854775808 ≤ limits.getD j.val 0 ∧ limits.getD j.val 0 ≤ 9223372036854775807 := by decide
  exact this ⟨j, h⟩
theorem limits_cell (w : World) (j : Nat) (h : j < 17) : (w.alloc (.cells #[.int .i64 (-1), .int .i64 0, .int .i64 127, .int .i64 128, .int .i64 255, .int .i64 256, .int .i64 16383, .int .i64 16384, .int .i64 65535, .int .i64 65536, .int .i64 562949953421311, .int .i64 562949953421312, .int .i64 999999999, .int .i64 1000000000, .int .i64 (-999999999), .int .i64 9223372036854775807, .int .i64 (-9223372036854775808)] 3)).cell? ⟨w.heap.size, j, none⟩ = some (.int .i64 (limits.getD j 0)) := by
  rw [World.cell?_alloc_at _ _ _ _ rfl]
  have e : (#[Value.int .i64 (-1), .int .i64 0, .int .i64 127, .int .i64 128, .int .i64 255, .int .i64 256, .int .i64 16383, .int .i64 16384, .int .i64 65535, .int .i64 65536, .int .i64 562949953421311, .int .i64 562949953421312, .int .i64 999999999, .int .i64 1000000000, .int .i64 (-999999999), .int .i64 9223372036854775807, .int .i64 (-9223372036854775808)] : Array Value) = (limits.map (Value.int .i64)).toArray := rfl
  rw [e]
  have hl : j < limits.length := h
  simp [hl]

/-- Any number: it fits an int. -/
theorem num_any (zs : List Int) (len i : Nat) (h : Int) (hl : len ≤ 1048576) (hi : i ≤ len) :
    ∃ x i' h', -9223372036854775808 ≤ x ∧ x ≤ 9223372036854775807 ∧ i' ≤ len ∧ Draw zs len i h 17 #[] (.int .i64 x) i' h' := by
  obtain ⟨y, i1, h1, y0, y1, hi1, d⟩ := below_any zs len i h 8 hl hi (by omega) (by omega)
  have D := Hid.intro d
  clear d
  by_cases c0 : y = 0
  · subst c0
    obtain ⟨j, i2, h2, hj, hi2, p⟩ := pick_any zs len i1 h1 limits hl hi1
    have P := Hid.intro p
    clear p
    obtain ⟨b0, b1⟩ := limits_bd j hj
    refine ⟨_, i2, h2, b0, b1, hi2, ?_⟩
    intro N a cap B w s
    show Calls Tryd.prog 17 #[.pointer (some ⟨B, 0, none⟩)] w _
    go_enter Tryd.func17, Tryd.ntmps17
    go_wp2_with fail
    refine (D.out.at s).mono ?_
    rintro e w1 ⟨rfl, s1, g1⟩
    go_wp2_with fail
    refine (P.out N a cap B w1.heap.size _ (s1.alloc _) (fun e => by have := lt_of_blk s1.blk; omega) (fun j hj => limits_cell w1 j hj)).mono ?_
    rintro e w2 ⟨rfl, s2, g2⟩
    go_wp2
    go_ret
    exact ⟨rfl, s2, grown_trans g1 (grown_alloc_first g2)⟩
  · by_cases c1 : y = 1
    · subst c1
      obtain ⟨u, i2, h2, u0, u1, hi2, d2⟩ := below_any zs len i1 h1 1000000000 hl hi1 (by omega) (by omega)
      obtain ⟨v, i3, h3, v0, v1, hi3, d3⟩ := below_any zs len i2 h2 1000000000 hl hi2 (by omega) (by omega)
      have D2 := Hid.intro d2
      have D3 := Hid.intro d3
      clear d2 d3
      have m0 : 0 ≤ u * v := Int.mul_nonneg u0 v0
      have m1 : u * v ≤ 1000000000 * 1000000000 := Int.mul_le_mul (by omega) (by omega) v0 (by omega)
      have m2 : u * v ≤ 9223372036854775807 := by omega
      clear m1
      refine ⟨u * v, i3, h3, by omega, m2, hi3, ?_⟩
      intro N a cap B w s
      show Calls Tryd.prog 17 #[.pointer (some ⟨B, 0, none⟩)] w _
      go_enter Tryd.func17, Tryd.ntmps17
      go_wp2_with fail
      refine (D.out.at s).mono ?_
      rintro e w1 ⟨rfl, s1, g1⟩
      go_wp2_with fail
      refine (D2.out.at s1).mono ?_
      rintro e w2 ⟨rfl, s2, g2⟩
      go_wp2_with fail
      refine (D3.out.at s2).mono ?_
      rintro e w3 ⟨rfl, s3, g3⟩
      go_wp2
      go_ret
      exact ⟨rfl, s3, grown_trans (grown_trans g1 g2) g3⟩
    · by_cases c2 : y = 2
      · subst c2
        obtain ⟨u, i2, h2, u0, u1, hi2, d2⟩ := below_any zs len i1 h1 100000 hl hi1 (by omega) (by omega)
        have D2 := Hid.intro d2
        clear d2
        refine ⟨-u, i2, h2, by omega, by omega, hi2, ?_⟩
        intro N a cap B w s
        show Calls Tryd.prog 17 #[.pointer (some ⟨B, 0, none⟩)] w _
        go_enter Tryd.func17, Tryd.ntmps17
        go_wp2_with fail
        refine (D.out.at s).mono ?_
        rintro e w1 ⟨rfl, s1, g1⟩
        go_wp2_with fail
        refine (D2.out.at s1).mono ?_
        rintro e w2 ⟨rfl, s2, g2⟩
        go_wp2
        go_ret
        exact ⟨rfl, s2, grown_trans g1 g2⟩
      · obtain ⟨u, i2, h2, u0, u1, hi2, d2⟩ := below_any zs len i1 h1 70000 hl hi1 (by omega) (by omega)
        have D2 := Hid.intro d2
        clear d2
        have e0 : (y == 0) = false := beq_eq_false_iff_ne.2 c0
        have e1 : (y == 1) = false := beq_eq_false_iff_ne.2 c1
        have e2 : (y == 2) = false := beq_eq_false_iff_ne.2 c2
        clear c0 c1 c2
        refine ⟨u, i2, h2, by omega, by omega, hi2, ?_⟩
        intro N a cap B w s
        show Calls Tryd.prog 17 #[.pointer (some ⟨B, 0, none⟩)] w _
        go_enter Tryd.func17, Tryd.ntmps17
        go_wp2_with fail
        refine (D.out.at s).mono ?_
        rintro e w1 ⟨rfl, s1, g1⟩
        go_wp2_with fail
        refine (D2.out.at s1).mono ?_
        rintro e w2 ⟨rfl, s2, g2⟩
        go_wp2
        go_ret
        exact ⟨rfl, s2, grown_trans g1 g2⟩

end Go.Proofs.YtofgpnhieopcoaaDoor
