/- Contracts of the draws: a text that is spoilt. -/
import Derived.Test.YtofgpnhieopcoaaDoorDrawE
namespace Go.Proofs.YtofgpnhieopcoaaDoor
open Go.RowKit
set_option linter.unusedVariables false

def byteOf (x : Int) : UInt8 := UInt8.ofNat x.toNat
theorem conv_byte (w : World) (x : Int) : (convert 22 9 (.slice (some ⟨w.heap.size, 0, none⟩) 1 1)).run Tryd.prog (w.alloc (.cells #[.int .u8 x] 5)) = .ok (.string ⟨#[byteOf x]⟩) (w.alloc (.cells #[.int .u8 x] 5)) :=
  run_convert_bytes_arg (P := Tryd.prog) _ 22 5 Tryd.underlying22 Tryd.underlying5 w.heap.size 0 1 1 [x] rfl (fun i hi => by
    obtain rfl : i = 0 := by omega
    rw [World.cell?_alloc_at _ _ _ _ rfl]; rfl) 9 Tryd.underlying9

theorem extract_size (s : ByteArray) (a b : Nat) : (s.extract a b).size = min b s.size - a := by
  simp [ByteArray.size_extract]

theorem Draw.at18 {zs : List Int} {len i : Nat} {h : Int} {n : Int} {v : Value} {i' : Nat} {h' : Int} (d : Draw zs len i h 18 #[.int .i64 n] v i' h') {N : Nat} {a : Option Addr} {cap B : Nat} {w : World} (s : St N a len cap zs B i h w) :
    Calls Tryd.prog 18 #[.pointer (some ⟨B, 0, none⟩), .int .i64 n] w fun e w' => e = .returned v ∧ St N a len cap zs B i' h' w' ∧ w.grownBy w' (some B) := d N a cap B w s

set_option maxHeartbeats 800000 in
theorem spoil_any (zs : List Int) (len i : Nat) (h : Int) (s : ByteArray) (hl : len ≤ 1048576) (hi : i ≤ len) (hs : s.size ≤ 1000) :
    ∃ (t : ByteArray) (i' : Nat) (h' : Int), t.size ≤ 3000 ∧ i' ≤ len ∧ Draw zs len i h 25 #[.string s] (.string t) i' h' := by
  by_cases hz : s.size = 0
  · obtain ⟨t, i1, h1, t0, hi1, d⟩ := text_any zs len i h 3 hl hi (by omega) (by omega)
    have D := Hid.intro d
    clear d
    refine ⟨⟨t.toArray⟩, i1, h1, by show t.toArray.size ≤ 3000; simp; omega, hi1, ?_⟩
    intro N a cap B w st
    show Calls Tryd.prog 25 #[.pointer (some ⟨B, 0, none⟩), .string s] w _
    have e0 : ((s.size : Int) == 0) = true := by rw [beq_iff_eq]; omega
    clear hz
    go_enter Tryd.func25, Tryd.ntmps25
    go_wp2_with fail
    refine (D.out.at18 st).mono ?_
    rintro e w1 ⟨rfl, s1, g1⟩
    go_wp2
    go_ret
    exact ⟨rfl, s1, g1⟩
  · have e0 : ((s.size : Int) == 0) = false := by rw [beq_eq_false_iff_ne]; omega
    obtain ⟨x, i1, h1, x0, x1, hi1, d1⟩ := below_any zs len i h s.size hl hi (by omega) (by omega)
    obtain ⟨k, rfl⟩ := Int.eq_ofNat_of_zero_le x0
    obtain ⟨y, i2, h2, y0, y1, hi2, d2⟩ := below_any zs len i1 h1 4 hl hi1 (by omega) (by omega)
    have D1 := Hid.intro d1
    have D2 := Hid.intro d2
    clear d1 d2 hz
    have hk : k < s.size := by omega
    have hk1 : k ≤ s.size := by omega
    have hk2 : k + 1 ≤ s.size := by omega
    have z1 : (s.extract 0 k).size ≤ 1000 := by rw [extract_size]; omega
    have z2 : (s.extract (k + 1) s.size).size ≤ 1000 := by rw [extract_size]; omega
    have z3 : (s.extract k s.size).size ≤ 1000 := by rw [extract_size]; omega
    by_cases c0 : y = 0
    · subst c0
      refine ⟨s.extract 0 k ++ s.extract (k + 1) s.size, i2, h2, by rw [ByteArray.size_append]; omega, hi2, ?_⟩
      intro N a cap B w st
      show Calls Tryd.prog 25 #[.pointer (some ⟨B, 0, none⟩), .string s] w _
      go_enter Tryd.func25, Tryd.ntmps25
      go_wp2_with fail
      refine (D1.out.at st).mono ?_
      rintro e w1 ⟨rfl, s1, g1⟩
      go_wp2_with fail
      refine (D2.out.at s1).mono ?_
      rintro e w2 ⟨rfl, s2, g2⟩
      go_wp2_with fail
      go_quiet (fail)
      go_wp2
      go_ret
      exact ⟨rfl, s2.kept ⟨rfl, rfl, rfl, Nat.le_refl _, fun _ _ _ => rfl⟩, grown_drewN (grown_trans g1 g2) _⟩
    · by_cases c2 : y = 2
      · subst c2
        refine ⟨s.extract 0 k, i2, h2, by omega, hi2, ?_⟩
        intro N a cap B w st
        show Calls Tryd.prog 25 #[.pointer (some ⟨B, 0, none⟩), .string s] w _
        go_enter Tryd.func25, Tryd.ntmps25
        go_wp2_with fail
        refine (D1.out.at st).mono ?_
        rintro e w1 ⟨rfl, s1, g1⟩
        go_wp2_with fail
        refine (D2.out.at s1).mono ?_
        rintro e w2 ⟨rfl, s2, g2⟩
        go_wp2
        go_ret
        exact ⟨rfl, s2, grown_trans g1 g2⟩
      · by_cases c1 : y = 1
        · subst c1
          obtain ⟨b0, b1⟩ := xB_bd zs len i2 h2
          have hw : IntKind.u8.wrap (xB zs len i2 h2) = xB zs len i2 h2 := wraps_u8 _ b0 (by omega)
          have hcv := fun W => conv_byte W (xB zs len i2 h2)
          have z4 : (⟨#[byteOf (xB zs len i2 h2)]⟩ : ByteArray).size = 1 := rfl
          refine ⟨s.extract 0 k ++ ⟨#[byteOf (xB zs len i2 h2)]⟩ ++ s.extract k s.size, iN len i2, hNext h2, by rw [ByteArray.size_append, ByteArray.size_append]; omega, iN_le hi2, ?_⟩
          intro N a cap B w st
          show Calls Tryd.prog 25 #[.pointer (some ⟨B, 0, none⟩), .string s] w _
          go_enter Tryd.func25, Tryd.ntmps25
          go_wp2_with fail
          refine (D1.out.at st).mono ?_
          rintro e w1 ⟨rfl, s1, g1⟩
          go_wp2_with fail
          refine (D2.out.at s1).mono ?_
          rintro e w2 ⟨rfl, s2, g2⟩
          go_wp2_with fail
          have s2' : St N a len cap zs B i2 h2 w2.drew := s2.kept ⟨rfl, rfl, rfl, Nat.le_refl _, fun _ _ _ => rfl⟩
          have S2 := Hid.intro s2'
          clear s2'
          have n1 : ¬ 9223372036854775807 < k + 1 := by omega
          have n2 : ¬ 9223372036854775807 < k + 1 + (s.size - k) := by omega
          clear D1 D2 s1 z2 x0 x1 y0 y1 hs st s2
          go_region_law (go_simp; go_at_call 28; refine (byte_any S2.out hl hi2).mono ?_; rintro e w3 ⟨rfl, s3, g3⟩)
          go_wp2
          go_ret
          have g3' : w2.grownBy w3 (some B) := ⟨g3.os, g3.tape, g3.output, g3.size, g3.block⟩
          exact ⟨rfl, s3.alloc _, grown_rowed (grown_trans (grown_trans g1 g2) g3') (World.grownBy_alloc _ _ none) (fun k hk => by cases hk)⟩
        · obtain ⟨z, i3, h3, z0, z1', hi3, d3⟩ := below_any zs len i2 h2 255 hl hi2 (by omega) (by omega)
          have D3 := Hid.intro d3
          clear d3
          have r1 : IntKind.i64.wrap (s[k].toNat : Int) = (s[k].toNat : Int) := wraps_i64 _ (by omega) (by have := s[k].toNat_lt; omega)
          have r2 : IntKind.i64.wrap (1 + z) = 1 + z := wraps_i64 _ (by omega) (by omega)
          have r3 : IntKind.i64.wrap ((k : Int) + 1) = (k : Int) + 1 := wraps_i64 _ (by omega) (by omega)
          have r4 : (k : Int) + 1 ≤ (s.size : Int) := by omega
          have r5 : 0 ≤ (k : Int) + 1 := by omega
          have hcv := fun W => conv_byte W (IntKind.u8.wrap (bits .xor .i64 (s[k].toNat : Int) (1 + z)))
          have e1 : (y == 0) = false := beq_eq_false_iff_ne.2 c0
          have e2 : (y == 1) = false := beq_eq_false_iff_ne.2 c1
          have e3 : (y == 2) = false := beq_eq_false_iff_ne.2 c2
          have z4 : (⟨#[byteOf (IntKind.u8.wrap (bits .xor .i64 (s[k].toNat : Int) (1 + z)))]⟩ : ByteArray).size = 1 := rfl
          refine ⟨s.extract 0 k ++ ⟨#[byteOf (IntKind.u8.wrap (bits .xor .i64 (s[k].toNat : Int) (1 + z)))]⟩ ++ s.extract (k + 1) s.size, i3, h3, by rw [ByteArray.size_append, ByteArray.size_append]; omega, hi3, ?_⟩
          clear z4 c0 c1 c2
          intro N a cap B w st
          show Calls Tryd.prog 25 #[.pointer (some ⟨B, 0, none⟩), .string s] w _
          go_enter Tryd.func25, Tryd.ntmps25
          go_wp2_with fail
          refine (D1.out.at st).mono ?_
          rintro e w1 ⟨rfl, s1, g1⟩
          go_wp2_with fail
          refine (D2.out.at s1).mono ?_
          rintro e w2 ⟨rfl, s2, g2⟩
          go_wp2_with fail
          have s2' : St N a len cap zs B i2 h2 w2.drew := s2.kept ⟨rfl, rfl, rfl, Nat.le_refl _, fun _ _ _ => rfl⟩
          have S2 := Hid.intro s2'
          clear s2'
          have n1 : ¬ 9223372036854775807 < k + 1 := by omega
          have n2 : ¬ 9223372036854775807 < k + 1 + (s.size - (k + 1)) := by omega
          have n3 : ¬ 9223372036854775807 < s.size := by omega
          clear D1 D2 s1 z2 x0 x1 y0 y1 hs st s2
          go_region_law (go_simp; go_at_call 26; refine (D3.out.at S2.out).mono ?_; rintro e w3 ⟨rfl, s3, g3⟩)
          all_goals go_wp2
          all_goals go_ret
          all_goals
            have g3' : w2.grownBy w3 (some B) := ⟨g3.os, g3.tape, g3.output, g3.size, g3.block⟩
            exact ⟨rfl, s3.alloc _, grown_rowed (grown_trans (grown_trans g1 g2) g3') (World.grownBy_alloc _ _ none) (fun k hk => by cases hk)⟩

end Go.Proofs.YtofgpnhieopcoaaDoor
