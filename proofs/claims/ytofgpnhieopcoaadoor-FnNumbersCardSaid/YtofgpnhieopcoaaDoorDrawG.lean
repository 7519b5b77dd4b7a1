/- Contracts of the draws: a text for ReadVar. -/
import Derived.Test.YtofgpnhieopcoaaDoorDrawF
namespace Go.Proofs.YtofgpnhieopcoaaDoor
open Go.RowKit
set_option linter.unusedVariables false

theorem grown_of_below {w w' : World} (h : Below w.heap.size w w') (r : Option Nat) : w.grownBy w' r := ⟨h.os, h.tape, h.output, h.size, fun k hk _ => h.block k hk⟩

/-- The specification's Var at every int: a text of at most seven bytes. -/
theorem specVar_all (n : Int) : ∃ s : ByteArray, s.size ≤ 7 ∧ ∀ w, Calls Tryd.prog 23 #[.int .i64 n] w fun e w' => e = .returned (.string s) ∧ Below w.heap.size w w' := by
  by_cases h : 0 ≤ n ∧ n ≤ 562949953421311
  · obtain ⟨m, rfl⟩ := Int.eq_ofNat_of_zero_le h.1
    refine ⟨varS m, ?_, fun w => specVar_yes m w (by omega)⟩
    show (varL m).toArray.size ≤ 7
    have := vby_length 6 m
    simp [varL]; omega
  · refine ⟨ByteArray.empty, by decide, fun w => (specVar_no n w (by omega)).mono ?_⟩
    rintro e w' ⟨rfl, rfl⟩
    exact ⟨rfl, Below.refl _ _⟩

set_option maxHeartbeats 800000 in
theorem drawReadVar_any (zs : List Int) (len : Nat) (hl : len ≤ 1048576) : ∃ t : ByteArray, t.size ≤ 3000 ∧ Drawn zs len 15 (.string t) := by
  obtain ⟨n, i1, h1, n0, n1, hi1, d1⟩ := num_any zs len 0 (hF zs len (min len 4000)) hl (by omega)
  obtain ⟨v, hv, dv⟩ := specVar_all n
  obtain ⟨t, i2, h2, t0, hi2, d2⟩ := text_any zs len i1 h1 4 hl hi1 (by omega) (by omega)
  obtain ⟨b, i3, h3, hi3, d3⟩ := once_any zs len i2 h2 4 hl hi2 (by omega) (by omega)
  have D1 := Hid.intro d1
  have DV := Hid.intro dv
  have D2 := Hid.intro d2
  have D3 := Hid.intro d3
  clear d1 dv d2 d3
  have ts : (⟨t.toArray⟩ : ByteArray).size ≤ 4 := by show t.toArray.size ≤ 4; simp; omega
  have hN : ¬ 9223372036854775807 < v.size + t.length := by omega
  have hsz : (v ++ (⟨t.toArray⟩ : ByteArray)).size ≤ 1000 := by rw [ByteArray.size_append]; omega
  cases b with
  | false =>
    refine ⟨v ++ ⟨t.toArray⟩, by omega, ?_⟩
    intro N a cap w hN' hr
    have HR := Hid.intro hr
    clear hr
    go_enter Tryd.func15, Tryd.ntmps15
    go_wp2_with fail
    refine (new_any zs len w.heap.size cap a w hl (Nat.le_refl _) (fun j hj => by obtain ⟨b, off, e, hb, r⟩ := HR.out j hj; exact ⟨b, off, e, by omega, r⟩)).mono ?_
    rintro e w1 ⟨B, rfl, s1, g1⟩
    go_wp2_with fail
    refine (D1.out w.heap.size a cap B w1 s1).mono ?_
    rintro e w2 ⟨rfl, s2, g2⟩
    go_wp2_with fail
    refine (DV.out w2).mono ?_
    rintro e w3 ⟨rfl, b3⟩
    have s3 := s2.kept (grown_of_below b3 none)
    have g3 := grown_trans g2 (grown_of_below b3 (some B))
    go_wp2_with fail
    refine (D2.out.at18 s3).mono ?_
    rintro e w4 ⟨rfl, s4, g4⟩
    go_wp2_with fail
    refine (D3.out w.heap.size a cap B _ s4).mono ?_
    rintro e w5 ⟨rfl, s5, g5⟩
    go_wp2
    go_ret
    exact ⟨rfl, below_new g1 s1.base (grown_trans (grown_trans g3 g4) g5)⟩
  | true =>
    obtain ⟨u, i4, h4, hu, hi4, d4⟩ := spoil_any zs len i3 h3 (v ++ ⟨t.toArray⟩) hl hi3 hsz
    have D4 := Hid.intro d4
    clear d4
    refine ⟨u, hu, ?_⟩
    intro N a cap w hN' hr
    have HR := Hid.intro hr
    clear hr
    go_enter Tryd.func15, Tryd.ntmps15
    go_wp2_with fail
    refine (new_any zs len w.heap.size cap a w hl (Nat.le_refl _) (fun j hj => by obtain ⟨b, off, e, hb, r⟩ := HR.out j hj; exact ⟨b, off, e, by omega, r⟩)).mono ?_
    rintro e w1 ⟨B, rfl, s1, g1⟩
    go_wp2_with fail
    refine (D1.out w.heap.size a cap B w1 s1).mono ?_
    rintro e w2 ⟨rfl, s2, g2⟩
    go_wp2_with fail
    refine (DV.out w2).mono ?_
    rintro e w3 ⟨rfl, b3⟩
    have s3 := s2.kept (grown_of_below b3 none)
    have g3 := grown_trans g2 (grown_of_below b3 (some B))
    go_wp2_with fail
    refine (D2.out.at18 s3).mono ?_
    rintro e w4 ⟨rfl, s4, g4⟩
    go_wp2_with fail
    refine (D3.out w.heap.size a cap B _ s4).mono ?_
    rintro e w5 ⟨rfl, s5, g5⟩
    go_wp2_with fail
    refine (D4.out w.heap.size a cap B _ s5).mono ?_
    rintro e w6 ⟨rfl, s6, g6⟩
    go_wp2
    go_ret
    exact ⟨rfl, below_new g1 s1.base (grown_trans (grown_trans (grown_trans g3 g4) g5) g6)⟩

end Go.Proofs.YtofgpnhieopcoaaDoor
