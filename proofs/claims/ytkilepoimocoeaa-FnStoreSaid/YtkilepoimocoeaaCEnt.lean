/- l3Entries: drawn entries. -/
import Derived.Test.YtkilepoimocoeaaCText
import Derived.Test.YtkilepoimocoeaaBlk
import Derived.Test.YtkilepoimocoeaaCopyS
namespace Go.Proofs.Ytkilepoimocoeaa
open Go.RowKit
set_option linter.unusedVariables false
section
variable {N : Nat} {a : Option Addr} {len cap : Nat} {zs : List Int} {B : Nat}
/-- Entries of a draw's own, behind it. -/
def DrawE (N : Nat) (a : Option Addr) (len cap : Nat) (zs : List Int) (B : Nat) (most : Nat) (w : World) (e : Ending) (w' : World) : Prop :=
  ∃ (v : Value) (L : List En), e = .returned v ∧ OwnE w' w.heap.size v L ∧ L.length ≤ most ∧ (∀ x ∈ L, x.d.size ≤ 200 ∧ -1000000 ≤ x.t ∧ x.t ≤ 1000000) ∧ Cur N a len cap zs B w' ∧ w.grownBy w' (some B)
theorem grown_rowed' {w wr w' : World} {S : Nat → Prop} (g : w.grownBy wr (some B)) (k : Only S wr w') (hr : ∀ k, S k → w.heap.size ≤ k) : w.grownBy w' (some B) :=
  ⟨k.os.trans g.os, k.tape.trans g.tape, k.output.trans g.output, Nat.le_trans g.size k.size, fun i hi hne => (k.block i (Nat.lt_of_lt_of_le hi g.size) (fun e => by have := hr i e; omega)).trans (g.block i hi hne)⟩
theorem ownE_step {w w' : World} {base : Nat} {v : Value} {L : List En} (h : OwnE w base v L) (g : w.grownBy w' (some B)) (hB : B < base) : OwnE w' base v L :=
  h.only (grown_only g) (fun k hk e => by have := (h.lt k hk).1; simp at e; omega)
set_option maxHeartbeats 1600000 in
theorem l3Entries_any (most : Nat) (t0 top : Int) (w : World) (c : Cur N a len cap zs B w) (hm : most ≤ 100) (ht0 : 0 ≤ t0) (ht1 : t0 ≤ 1000) (hp0 : 0 ≤ top) (hp1 : top ≤ 1000) :
    Calls Try.prog 94 #[.pointer (some ⟨B, 0, none⟩), .int .i64 (most : Int), .int .i64 t0, .int .i64 top] w fun e w' => DrawE N a len cap zs B most w e w' := by
  have hBw := c.lt
  have C := Hid.intro (c.alloc (.cells #[] 96))
  clear c
  go_enter Try.func94, Try.ntmps94
  go_wp2_with fail
  refine (belowC_any ((most : Int) + 1) _ C.out (by omega) (by omega)).mono ?_
  rintro e w2 ⟨n, rfl, n0, n1, c2, g2⟩
  have own2 : OwnE w2 w.heap.size (.slice (some ⟨w.heap.size, 0, none⟩) 0 0) [] := ownE_step (made0 w _ (Nat.le_refl _)) g2 hBw
  have gg : w.grownBy w2 (some B) := grown_alloc_first g2
  obtain ⟨m, rfl⟩ := Int.eq_ofNat_of_zero_le n0
  clear C g2
  go_wp2_with fail
  go_loopw [2, 9, 10] (fun tv v c wr => ∃ (r : Nat) (t : Int) (L : List En), tv = .int .i64 t ∧ c = .int .i64 (r : Int) ∧ L.length + r ≤ m ∧ 0 ≤ t ∧ t + r ≤ 2000 ∧ OwnE wr w.heap.size v L ∧ (∀ x ∈ L, x.d.size ≤ 200 ∧ -1000000 ≤ x.t ∧ x.t ≤ 1000000) ∧ Cur N a len cap zs B wr ∧ w.grownBy wr (some B)) (fun _ _ c _ => (intOf c).toNat)
  case atStart => exact ⟨m, t0, [], rfl, rfl, by simp, ht0, by omega, own2, by simp, c2, gg⟩
  case round =>
    obtain ⟨r, t, L, rfl, rfl, hp, t0', t1', hown, hL, cr, gr⟩ := hrel
    rcases r with _ | r
    · have HS := Hid.intro cr
      have HO := Hid.intro hown
      have HL := Hid.intro hL
      clear hown cr hL
      go_wp2
      go_ret
      exact ⟨_, L, rfl, HO.out, by omega, HL.out, HS.out, gr⟩
    · have HL := Hid.intro hL
      have HO := Hid.intro hown
      have HC := Hid.intro cr
      have HG := Hid.intro gr
      clear hL hown cr gr
      by_cases k1 : t < 1
      · skip
        by_cases k3 : top < t + 1
        · go_wp2
          go_ret
          exact ⟨_, L, rfl, HO.out, by omega, HL.out, HC.out, HG.out⟩
        · go_wp2_with fail
          refine (text_any 8 _ HC.out (by omega) (by omega)).mono ?_
          rintro e w4 ⟨s, rfl, hs, c4, g4⟩
          have HC4 := Hid.intro c4
          have HO4 := Hid.intro (ownE_step HO.out g4 hBw)
          have HG4 := Hid.intro (grown_trans HG.out g4)
          have hw4 : w.heap.size ≤ w4.heap.size := HG4.out.size
          clear c4 g4 HO HC HG
          go_wp2_with (at_builtin; refine app_E rfl _ _ rfl w.heap.size u9 L [⟨t + 1, s⟩] rfl (HO4.out.kept ((Below.refl _ _).alloc (Nat.le_refl _) _)) ⟨w4.heap.size, 0, none⟩ 1 rfl (by intro j u hu; simp only [enF, enC, List.flatMap_cons, List.flatMap_nil, List.append_nil] at hu; rcases j with _ | _ | j <;> simp at hu <;> subst hu <;> simp [Addr.add, go_sem]) (by simp; omega) (by simp; omega) (by simp) ?_; intro g cap' w5 o5 hO hloc; have HO5 := Hid.intro o5; have HC5 : Hid (Cur N a len cap zs B w5) := ((HC4.out.alloc _).only hO (fun k hk => by have := (HO4.out.lt k hk.symm).1; omega)); have HG5 : Hid (w.grownBy w5 (some B)) := (grown_rowed' (grown_rowed HG4.out (World.grownBy_alloc w4 _ none) (fun k hk => by cases hk)) hO (fun k hk => (HO4.out.lt k hk.symm).1)); clear o5 hO hloc HO4 HC4 HG4)
          go_roundw
          case rel => exact ⟨r, t + 1, L ++ [⟨t + 1, s⟩], rfl, by go_num, by simp; omega, by omega, by omega, HO5.out, by intro x hx; simp at hx; rcases hx with hx | rfl; exact HL.out x hx; exact ⟨by simp; omega, by simp; omega, by simp; omega⟩, HC5.out, HG5.out⟩
          case measure => simp [intOf]
      · by_cases k2 : t < top
        · go_wp2_with fail
          refine (onceC_any 3 _ HC.out (by omega) (by omega)).mono ?_
          rintro e w3 ⟨q, rfl, c3, g3⟩
          replace HC := Hid.intro c3
          replace HO := Hid.intro (ownE_step HO.out g3 hBw)
          replace HG := Hid.intro (grown_trans HG.out g3)
          clear c3 g3
          cases q with
          | true =>
            by_cases k3 : top < t + 1
            · go_wp2
              go_ret
              exact ⟨_, L, rfl, HO.out, by omega, HL.out, HC.out, HG.out⟩
            · go_wp2_with fail
              refine (text_any 8 _ HC.out (by omega) (by omega)).mono ?_
              rintro e w4 ⟨s, rfl, hs, c4, g4⟩
              have HC4 := Hid.intro c4
              have HO4 := Hid.intro (ownE_step HO.out g4 hBw)
              have HG4 := Hid.intro (grown_trans HG.out g4)
              have hw4 : w.heap.size ≤ w4.heap.size := HG4.out.size
              clear c4 g4 HO HC HG
              go_wp2_with (at_builtin; refine app_E rfl _ _ rfl w.heap.size u9 L [⟨t + 1, s⟩] rfl (HO4.out.kept ((Below.refl _ _).alloc (Nat.le_refl _) _)) ⟨w4.heap.size, 0, none⟩ 1 rfl (by intro j u hu; simp only [enF, enC, List.flatMap_cons, List.flatMap_nil, List.append_nil] at hu; rcases j with _ | _ | j <;> simp at hu <;> subst hu <;> simp [Addr.add, go_sem]) (by simp; omega) (by simp; omega) (by simp) ?_; intro g cap' w5 o5 hO hloc; have HO5 := Hid.intro o5; have HC5 : Hid (Cur N a len cap zs B w5) := ((HC4.out.alloc _).only hO (fun k hk => by have := (HO4.out.lt k hk.symm).1; omega)); have HG5 : Hid (w.grownBy w5 (some B)) := (grown_rowed' (grown_rowed HG4.out (World.grownBy_alloc w4 _ none) (fun k hk => by cases hk)) hO (fun k hk => (HO4.out.lt k hk.symm).1)); clear o5 hO hloc HO4 HC4 HG4)
              go_roundw
              case rel => exact ⟨r, t + 1, L ++ [⟨t + 1, s⟩], rfl, by go_num, by simp; omega, by omega, by omega, HO5.out, by intro x hx; simp at hx; rcases hx with hx | rfl; exact HL.out x hx; exact ⟨by simp; omega, by simp; omega, by simp; omega⟩, HC5.out, HG5.out⟩
              case measure => simp [intOf]
          | false =>
            by_cases k3 : top < t
            · go_wp2
              go_ret
              exact ⟨_, L, rfl, HO.out, by omega, HL.out, HC.out, HG.out⟩
            · go_wp2_with fail
              refine (text_any 8 _ HC.out (by omega) (by omega)).mono ?_
              rintro e w4 ⟨s, rfl, hs, c4, g4⟩
              have HC4 := Hid.intro c4
              have HO4 := Hid.intro (ownE_step HO.out g4 hBw)
              have HG4 := Hid.intro (grown_trans HG.out g4)
              have hw4 : w.heap.size ≤ w4.heap.size := HG4.out.size
              clear c4 g4 HO HC HG
              go_wp2_with (at_builtin; refine app_E rfl _ _ rfl w.heap.size u9 L [⟨t, s⟩] rfl (HO4.out.kept ((Below.refl _ _).alloc (Nat.le_refl _) _)) ⟨w4.heap.size, 0, none⟩ 1 rfl (by intro j u hu; simp only [enF, enC, List.flatMap_cons, List.flatMap_nil, List.append_nil] at hu; rcases j with _ | _ | j <;> simp at hu <;> subst hu <;> simp [Addr.add, go_sem]) (by simp; omega) (by simp; omega) (by simp) ?_; intro g cap' w5 o5 hO hloc; have HO5 := Hid.intro o5; have HC5 : Hid (Cur N a len cap zs B w5) := ((HC4.out.alloc _).only hO (fun k hk => by have := (HO4.out.lt k hk.symm).1; omega)); have HG5 : Hid (w.grownBy w5 (some B)) := (grown_rowed' (grown_rowed HG4.out (World.grownBy_alloc w4 _ none) (fun k hk => by cases hk)) hO (fun k hk => (HO4.out.lt k hk.symm).1)); clear o5 hO hloc HO4 HC4 HG4)
              go_roundw
              case rel => exact ⟨r, t, L ++ [⟨t, s⟩], rfl, by go_num, by simp; omega, by omega, by omega, HO5.out, by intro x hx; simp at hx; rcases hx with hx | rfl; exact HL.out x hx; exact ⟨by simp; omega, by simp; omega, by simp; omega⟩, HC5.out, HG5.out⟩
              case measure => simp [intOf]
        · skip
          by_cases k3 : top < t
          · go_wp2
            go_ret
            exact ⟨_, L, rfl, HO.out, by omega, HL.out, HC.out, HG.out⟩
          · go_wp2_with fail
            refine (text_any 8 _ HC.out (by omega) (by omega)).mono ?_
            rintro e w4 ⟨s, rfl, hs, c4, g4⟩
            have HC4 := Hid.intro c4
            have HO4 := Hid.intro (ownE_step HO.out g4 hBw)
            have HG4 := Hid.intro (grown_trans HG.out g4)
            have hw4 : w.heap.size ≤ w4.heap.size := HG4.out.size
            clear c4 g4 HO HC HG
            go_wp2_with (at_builtin; refine app_E rfl _ _ rfl w.heap.size u9 L [⟨t, s⟩] rfl (HO4.out.kept ((Below.refl _ _).alloc (Nat.le_refl _) _)) ⟨w4.heap.size, 0, none⟩ 1 rfl (by intro j u hu; simp only [enF, enC, List.flatMap_cons, List.flatMap_nil, List.append_nil] at hu; rcases j with _ | _ | j <;> simp at hu <;> subst hu <;> simp [Addr.add, go_sem]) (by simp; omega) (by simp; omega) (by simp) ?_; intro g cap' w5 o5 hO hloc; have HO5 := Hid.intro o5; have HC5 : Hid (Cur N a len cap zs B w5) := ((HC4.out.alloc _).only hO (fun k hk => by have := (HO4.out.lt k hk.symm).1; omega)); have HG5 : Hid (w.grownBy w5 (some B)) := (grown_rowed' (grown_rowed HG4.out (World.grownBy_alloc w4 _ none) (fun k hk => by cases hk)) hO (fun k hk => (HO4.out.lt k hk.symm).1)); clear o5 hO hloc HO4 HC4 HG4)
            go_roundw
            case rel => exact ⟨r, t, L ++ [⟨t, s⟩], rfl, by go_num, by simp; omega, by omega, by omega, HO5.out, by intro x hx; simp at hx; rcases hx with hx | rfl; exact HL.out x hx; exact ⟨by simp; omega, by simp; omega, by simp; omega⟩, HC5.out, HG5.out⟩
            case measure => simp [intOf]
end
end Go.Proofs.Ytkilepoimocoeaa
