/- Contracts of the draws: texts. -/
import Derived.Test.YtofgpnhieopcoaaDoorDrawC
namespace Go.Proofs.YtofgpnhieopcoaaDoor
open Go.RowKit
set_option linter.unusedVariables false

/-- How a style turns a byte. -/
def tb (st x : Int) : Int := if st = 1 then x % 2 else if st = 2 then 97 + x % 4 else x
theorem tb_bd (st x : Int) (h0 : 0 ≤ x) (h1 : x ≤ 255) : 0 ≤ tb st x ∧ tb st x ≤ 255 := by
  unfold tb
  split
  · omega
  · split <;> omega
def tB (st x : Int) : UInt8 := UInt8.ofNat (tb st x).toNat
theorem tB_num (st x : Int) (h0 : 0 ≤ x) (h1 : x ≤ 255) : ((tB st x).toNat : Int) = tb st x := by
  obtain ⟨a, b⟩ := tb_bd st x h0 h1
  unfold tB
  obtain ⟨m, hm⟩ := Int.eq_ofNat_of_zero_le a
  rw [hm]
  rw [hm] at b
  simp; omega

/-- The bytes that come, k of them; where the cursor stands behind them. -/
def txt (zs : List Int) (len : Nat) (st : Int) : Nat → Nat → Int → List UInt8
  | 0, _, _ => []
  | k + 1, i, h => tB st (xB zs len i h) :: txt zs len st k (iN len i) (hNext h)
def adv (len : Nat) : Nat → Nat → Nat
  | 0, i => i
  | k + 1, i => adv len k (iN len i)
def advH : Nat → Int → Int
  | 0, h => h
  | k + 1, h => advH k (hNext h)
theorem txt_length (zs : List Int) (len : Nat) (st : Int) (k i : Nat) (h : Int) : (txt zs len st k i h).length = k := by
  induction k generalizing i h with
  | zero => rfl
  | succ k ih => simp [txt, ih]
theorem adv_le (len k i : Nat) (h : i ≤ len) : adv len k i ≤ len := by
  induction k generalizing i with
  | zero => exact h
  | succ k ih => exact ih _ (iN_le h)

theorem St.rowed {N : Nat} {a : Option Addr} {len cap : Nat} {zs : List Int} {B i : Nat} {h : Int} {w w' : World} {r : Option Nat} (s : St N a len cap zs B i h w) (g : w.grownBy w' r) (hr : ∀ k, r = some k → B < k) : St N a len cap zs B i h w' := by
  have hB := lt_of_blk s.blk
  refine ⟨s.base, (g.block B hB (fun e => by have := hr B e.symm; omega)).trans s.blk, s.row.below ((Below.refl _ _).grown g (Nat.le_trans s.base (Nat.le_of_lt hB)) (fun k hk => by have := hr k hk; have := s.base; omega))⟩
theorem grown_rowed {w wr w' : World} {B : Nat} {r : Option Nat} (g : w.grownBy wr (some B)) (k : wr.grownBy w' r) (hr : ∀ k, r = some k → w.heap.size ≤ k) : w.grownBy w' (some B) :=
  ⟨k.os.trans g.os, k.tape.trans g.tape, k.output.trans g.output, Nat.le_trans g.size k.size, fun i hi hne => (k.block i (Nat.lt_of_lt_of_le hi g.size) (fun e => by have := hr i e.symm; omega)).trans (g.block i hi hne)⟩

theorem own_kept {w w' : World} {base B : Nat} {v : Value} {n : Nat} {xs : List Value} (ho : w.ownsRow base 5 1 v n xs) (g : w.grownBy w' (some B)) (hB : B < base) : w'.ownsRow base 5 1 v n xs :=
  ho.kept g (by
    cases hv : v.ownBlock with
    | none => exact .inl rfl
    | some k =>
      right
      intro e
      have := (ho.lt k hv).1
      cases e
      omega)

set_option maxHeartbeats 800000 in
theorem text_core (zs : List Int) (len i : Nat) (h st : Int) (n : Nat) (N : Nat) (a : Option Addr) (cap B : Nat) (w : World) (most : Int) (i1 i2 : Nat) (h1 h2 : Int) (hl : len ≤ 1048576) (hi2 : i2 ≤ len) (hm0 : 0 ≤ most) (hm : most ≤ 1000) (hn : (n : Int) ≤ most)
    (s : St N a len cap zs B i h w) (D1 : Hid (Draw zs len i h 26 #[.int .i64 4] (.int .i64 st) i1 h1)) (D2 : Hid (Draw zs len i1 h1 26 #[.int .i64 (most + 1)] (.int .i64 (n : Int)) i2 h2)) :
    Calls Tryd.prog 18 #[.pointer (some ⟨B, 0, none⟩), .int .i64 most] w fun e w' => e = .returned (.string ⟨(txt zs len st n i2 h2).toArray⟩) ∧ St N a len cap zs B (adv len n i2) (advH n h2) w' ∧ w.grownBy w' (some B) := by
  obtain ⟨i0, hi0, hz0, hz1, hz2⟩ := info_parts Tryd.info5
  have hBw := lt_of_blk s.blk
  go_enter Tryd.func18, Tryd.ntmps18
  go_wp2_with fail
  refine (D1.out.at (s.alloc _)).mono ?_
  rintro e w1 ⟨rfl, s1, g1⟩
  go_wp2_with fail
  refine (D2.out.at s1).mono ?_
  rintro e w2 ⟨rfl, s2, g2⟩
  have own2 : w2.ownsRow w.heap.size 5 1 (.slice (some ⟨w.heap.size, 0, none⟩) 0 0) 0 (cellsOf []) := own_kept (own_kept (varStart w) g1 hBw) g2 hBw
  have gg : w.grownBy w2 (some B) := grown_trans (grown_alloc_first g1) g2
  clear g1 g2 s1
  go_wp2_with fail
  go_loopw [5, 7] (fun v c wr => ∃ (r j : Nat) (q : Int) (pre : List UInt8), c = .int .i64 (r : Int) ∧ r ≤ n ∧ j ≤ len ∧ pre.length + r ≤ 1000 ∧ Hid (pre ++ txt zs len st r j q = txt zs len st n i2 h2) ∧ Hid (adv len r j = adv len n i2 ∧ advH r q = advH n h2) ∧ wr.ownsRow w.heap.size 5 1 v pre.length (cellsOf pre) ∧ St N a len cap zs B j q wr ∧ w.grownBy wr (some B)) (fun _ c _ => (intOf c).toNat)
  case atStart => exact ⟨n, i2, h2, [], rfl, Nat.le_refl _, hi2, by simp; omega, rfl, ⟨rfl, rfl⟩, own2, s2, gg⟩
  case round =>
    obtain ⟨r, j, q, pre, rfl, hr, hj, hp, HT, HV, hown, sr, gr⟩ := hrel
    rcases r with _ | r
    · have HE : Hid (pre = txt zs len st n i2 h2) := by have := HT.out; rw [txt, List.append_nil] at this; exact this
      have hcv := conv_own hown
      have HS : Hid (St N a len cap zs B (adv len n i2) (advH n h2) wr) := by
        have := HV.out
        unfold Hid
        rw [← this.1, ← this.2]; exact sr
      clear hown
      go_wp2
      go_ret
      exact ⟨by rw [HE.out]; rfl, HS.out, gr⟩
    · obtain ⟨x0, x1⟩ := xB_bd zs len j q
      go_wp2_with fail
      refine (byte_any sr hl hj).mono ?_
      rintro e w3 ⟨rfl, s3, g3⟩
      have own3 := own_kept hown g3 hBw
      have gr3 := grown_trans gr g3
      have hz3 := s3.blk
      have hw3 : w.heap.size ≤ w3.heap.size := gr3.size
      clear hz3
      by_cases c1 : st = 1
      · subst c1
        have HN : Hid (((tB 1 (xB zs len j q)).toNat : Int) = xB zs len j q % 2) := by unfold Hid; rw [tB_num 1 _ x0 x1]; rw [tb, if_pos rfl]
        go_wp2_with (at_builtin; refine wpList_append_own _ rfl _ _ 22 rfl w.heap.size 5 i0 (.int .u8 0) 1 1 Tryd.underlying22 hi0 hz0 hz1 hz2 rfl (by decide) _ _ _ rfl (own3.alloc _) ⟨w3.heap.size, 0, none⟩ 1 1 [.int .u8 (xB zs len j q % 2)] rfl rfl ?c1A ?c2A ?c3A ?c4A ?c5A ?_)
        case c1A => exact cell_one_new _ _ _
        case c2A => intro u hu; simp at hu; subst hu; rfl
        case c3A => unfold maxLen; omega
        case c4A => omega
        case c5A => simp; omega
        intro v' w4 hown' hgrow _
        have s4 := (s3.alloc _).rowed hgrow (fun k hk => by have := (own3.lt k hk).1; omega)
        have g4 := grown_rowed (grown_rowed gr3 (World.grownBy_alloc w3 _ none) (fun k hk => by cases hk)) hgrow (fun k hk => (own3.lt k hk).1)
        rw [← HN.out, ← cellsOf_snoc] at hown'
        clear hgrow own3 hown s3 g3 gr3 sr gr
        go_wp2
        go_roundw
        case rel => exact ⟨r, iN len j, hNext q, pre ++ [tB 1 (xB zs len j q)], by go_num, by omega, iN_le hj, by simp; omega, by have := HT.out; unfold Hid; rw [← this, txt, List.append_assoc]; rfl, HV.out, by simpa using hown', s4, g4⟩
        case measure => simp [intOf]
      · by_cases c2 : st = 2
        · subst c2
          have HN : Hid (((tB 2 (xB zs len j q)).toNat : Int) = 97 + xB zs len j q % 4) := by unfold Hid; rw [tB_num 2 _ x0 x1]; rw [tb, if_neg (by omega), if_pos rfl]
          go_wp2_with (at_builtin; refine wpList_append_own _ rfl _ _ 22 rfl w.heap.size 5 i0 (.int .u8 0) 1 1 Tryd.underlying22 hi0 hz0 hz1 hz2 rfl (by decide) _ _ _ rfl (own3.alloc _) ⟨w3.heap.size, 0, none⟩ 1 1 [.int .u8 (97 + xB zs len j q % 4)] rfl rfl ?c1B ?c2B ?c3B ?c4B ?c5B ?_)
          case c1B => exact cell_one_new _ _ _
          case c2B => intro u hu; simp at hu; subst hu; rfl
          case c3B => unfold maxLen; omega
          case c4B => omega
          case c5B => simp; omega
          intro v' w4 hown' hgrow _
          have s4 := (s3.alloc _).rowed hgrow (fun k hk => by have := (own3.lt k hk).1; omega)
          have g4 := grown_rowed (grown_rowed gr3 (World.grownBy_alloc w3 _ none) (fun k hk => by cases hk)) hgrow (fun k hk => (own3.lt k hk).1)
          rw [← HN.out, ← cellsOf_snoc] at hown'
          clear hgrow own3 hown s3 g3 gr3 sr gr
          go_wp2
          go_roundw
          case rel => exact ⟨r, iN len j, hNext q, pre ++ [tB 2 (xB zs len j q)], by go_num, by omega, iN_le hj, by simp; omega, by have := HT.out; unfold Hid; rw [← this, txt, List.append_assoc]; rfl, HV.out, by simpa using hown', s4, g4⟩
          case measure => simp [intOf]
        · have e1 : (st == 1) = false := beq_eq_false_iff_ne.2 c1
          have e2 : (st == 2) = false := beq_eq_false_iff_ne.2 c2
          have C1 := Hid.intro c1
          have C2 := Hid.intro c2
          clear c1 c2
          have HN : Hid (((tB st (xB zs len j q)).toNat : Int) = xB zs len j q) := by unfold Hid; rw [tB_num st _ x0 x1]; rw [tb, if_neg C1.out, if_neg C2.out]
          go_wp2_with (at_builtin; refine wpList_append_own _ rfl _ _ 22 rfl w.heap.size 5 i0 (.int .u8 0) 1 1 Tryd.underlying22 hi0 hz0 hz1 hz2 rfl (by decide) _ _ _ rfl (own3.alloc _) ⟨w3.heap.size, 0, none⟩ 1 1 [.int .u8 (xB zs len j q)] rfl rfl ?c1C ?c2C ?c3C ?c4C ?c5C ?_)
          case c1C => exact cell_one_new _ _ _
          case c2C => intro u hu; simp at hu; subst hu; rfl
          case c3C => unfold maxLen; omega
          case c4C => omega
          case c5C => simp; omega
          intro v' w4 hown' hgrow _
          have s4 := (s3.alloc _).rowed hgrow (fun k hk => by have := (own3.lt k hk).1; omega)
          have g4 := grown_rowed (grown_rowed gr3 (World.grownBy_alloc w3 _ none) (fun k hk => by cases hk)) hgrow (fun k hk => (own3.lt k hk).1)
          rw [← HN.out, ← cellsOf_snoc] at hown'
          clear hgrow own3 hown s3 g3 gr3 sr gr
          go_wp2
          go_roundw
          case rel => exact ⟨r, iN len j, hNext q, pre ++ [tB st (xB zs len j q)], by go_num, by omega, iN_le hj, by simp; omega, by have := HT.out; unfold Hid; rw [← this, txt, List.append_assoc]; rfl, HV.out, by simpa using hown', s4, g4⟩
          case measure => simp [intOf]

/-- A text of at most so many bytes. -/
theorem text_any (zs : List Int) (len i : Nat) (h most : Int) (hl : len ≤ 1048576) (hi : i ≤ len) (hm0 : 0 ≤ most) (hm : most ≤ 1000) :
    ∃ (t : List UInt8) (i' : Nat) (h' : Int), (t.length : Int) ≤ most ∧ i' ≤ len ∧ Draw zs len i h 18 #[.int .i64 most] (.string ⟨t.toArray⟩) i' h' := by
  obtain ⟨st, i1, h1, _, _, hi1, d1⟩ := below_any zs len i h 4 hl hi (by omega) (by omega)
  obtain ⟨x, i2, h2, x0, x1, hi2, d2⟩ := below_any zs len i1 h1 (most + 1) hl hi1 (by omega) (by omega)
  obtain ⟨n, rfl⟩ := Int.eq_ofNat_of_zero_le x0
  refine ⟨txt zs len st n i2 h2, adv len n i2, advH n h2, by rw [txt_length]; omega, adv_le _ _ _ hi2, ?_⟩
  intro N a cap B w s
  exact text_core zs len i h st n N a cap B w most i1 i2 h1 h2 hl hi2 hm0 hm (by omega) s (Hid.intro d1) (Hid.intro d2)

end Go.Proofs.YtofgpnhieopcoaaDoor
