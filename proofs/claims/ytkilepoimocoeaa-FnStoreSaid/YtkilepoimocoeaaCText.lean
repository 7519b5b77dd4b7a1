/- l1Text: a drawn text. -/
import Derived.Test.YtkilepoimocoeaaCDraw
namespace Go.Proofs.Ytkilepoimocoeaa
open Go.RowKit
set_option linter.unusedVariables false
theorem Try.infoU8 : (Try.prog.info? 5).map (fun i => (i.zero, i.size, i.bytes)) = some (some (.int .u8 0), 1, 1) := by kernel_rfl
def cellsOf (l : List UInt8) : List Value := l.map (fun c => Value.int .u8 (c.toNat : Int))
theorem cellsOf_length (l : List UInt8) : (cellsOf l).length = l.length := by simp [cellsOf]
theorem cellsOf_snoc (l : List UInt8) (c : UInt8) : cellsOf (l ++ [c]) = cellsOf l ++ [.int .u8 (c.toNat : Int)] := by simp [cellsOf]

theorem strOfNums_bytes (l : List UInt8) : strOfNums (l.map (fun c => (c.toNat : Int))) = ⟨l.toArray⟩ := by
  unfold strOfNums
  congr 2
  rw [List.map_map]
  conv => rhs; rw [← List.map_id l]
  apply List.map_congr_left
  intro c _
  simp
theorem conv_own {w : World} {base : Nat} {v : Value} {n : Nat} {l : List UInt8} (h : w.ownsRow base 5 1 v n (cellsOf l)) :
    (convert 22 9 v).run Try.prog w = .ok (.string ⟨l.toArray⟩) w := by
  obtain ⟨hl, h2⟩ := h
  rcases h2 with ⟨rfl, rfl⟩ | ⟨g, cap, cur, rfl, hb, hg, hn, hc, hs, ht⟩
  · have : l = [] := by simpa [cellsOf] using hl
    subst this
    exact run_convert_bytes_nil (P := Try.prog) w 22 5 Try.underlying22 Try.underlying5 0 0 9 Try.underlying9
  · have hlen : l.length = n := by simpa [cellsOf] using hl
    have h := run_convert_bytes_arg (P := Try.prog) w 22 5 Try.underlying22 Try.underlying5 g 0 n cap (l.map (fun c => (c.toNat : Int))) (by simpa using hlen) (fun i hi => by
      rw [cell_of_row w g (0 + i) cur 5 (0, 0) hg, Nat.zero_add]
      have e : (cur.toList.take (n * 1))[i]? = (cellsOf l)[i]? := by rw [ht]
      rw [List.getElem?_take, if_pos (by omega)] at e
      have hi' : i < l.length := by omega
      simp [cellsOf, hi'] at e
      simp [hi', e]) 9 Try.underlying9
    rw [h, strOfNums_bytes]

theorem varStart (w : World) : (w.alloc (.cells #[] 5)).ownsRow w.heap.size 5 1 (.slice (some ⟨w.heap.size, 0, none⟩) 0 0) 0 (cellsOf []) :=
  World.ownsRow_made w #[] 0 (Nat.le_refl _) (by decide) rfl

theorem St.rowed {N : Nat} {a : Option Addr} {len cap : Nat} {zs : List Int} {B i : Nat} {h : Int} {w w' : World} {r : Option Nat} (s : St N a len cap zs B i h w) (g : w.grownBy w' r) (hr : ∀ k, r = some k → B < k) : St N a len cap zs B i h w' := by
  have hB := lt_of_blk s.blk
  refine ⟨s.base, (g.block B hB (fun e => by have := hr B e.symm; omega)).trans s.blk, s.row.below ((Below.refl _ _).grown g (Nat.le_trans s.base (Nat.le_of_lt hB)) (fun k hk => by have := hr k hk; have := s.base; omega))⟩
theorem grown_rowed {w wr w' : World} {B : Nat} {r : Option Nat} (g : w.grownBy wr (some B)) (k : wr.grownBy w' r) (hr : ∀ k, r = some k → w.heap.size ≤ k) : w.grownBy w' (some B) :=
  ⟨k.os.trans g.os, k.tape.trans g.tape, k.output.trans g.output, Nat.le_trans g.size k.size, fun i hi hne => (k.block i (Nat.lt_of_lt_of_le hi g.size) (fun e => by have := hr i e.symm; omega)).trans (g.block i hi hne)⟩

theorem own_kept {w w' : World} {base B : Nat} {v : Value} {n : Nat} {xs : List Value} (ho : w.ownsRow base 5 1 v n xs) (g : w.grownBy w' (some B)) (hB : B < base) : w'.ownsRow base 5 1 v n xs :=
  ho.kept g (by
    cases hv : v.ownBlock with
    | none => exact .inl rfl
    | some k =>
      right
      intro e
      have := (ho.lt k hv).1
      cases e
      omega)


theorem bt_num (x : Int) (h0 : 0 ≤ x) (h1 : x ≤ 255) : (((UInt8.ofNat x.toNat).toNat : Nat) : Int) = x := by
  rw [UInt8.toNat_ofNat']
  omega
section
variable {N : Nat} {a : Option Addr} {len cap : Nat} {zs : List Int} {B : Nat}
theorem Cur.rowed {w w' : World} {r : Option Nat} (c : Cur N a len cap zs B w) (g : w.grownBy w' r) (hr : ∀ k, r = some k → B < k) : Cur N a len cap zs B w' := by
  obtain ⟨i, h, hi, s⟩ := c.at_
  exact ⟨c.small, i, h, hi, s.rowed g hr⟩
set_option maxHeartbeats 800000 in
/-- A text of at most so many bytes. -/
theorem text_any (most : Int) (w : World) (c : Cur N a len cap zs B w) (hm0 : 0 ≤ most) (hm : most ≤ 200) :
    Calls Try.prog 77 #[.pointer (some ⟨B, 0, none⟩), .int .i64 most] w fun e w' => ∃ s : ByteArray, e = .returned (.string s) ∧ (s.size : Int) ≤ most ∧ Cur N a len cap zs B w' ∧ w.grownBy w' (some B) := by
  obtain ⟨i0, hi0, hz0, hz1, hz2⟩ := info_parts Try.infoU8
  have hBw := c.lt
  have C := Hid.intro (c.alloc (.cells #[] 5))
  clear c
  go_enter Try.func77, Try.ntmps77
  go_wp2_with fail
  refine (belowC_any 4 _ C.out (by omega) (by omega)).mono ?_
  rintro e w1 ⟨st, rfl, st0, st1, c1, g1⟩
  have C1 := Hid.intro c1
  have G1 := Hid.intro g1
  clear C c1 g1
  go_wp2_with fail
  refine (belowC_any (most + 1) _ C1.out (by omega) (by omega)).mono ?_
  rintro e w2 ⟨n, rfl, n0, n1, c2, g2⟩
  have own2 : w2.ownsRow w.heap.size 5 1 (.slice (some ⟨w.heap.size, 0, none⟩) 0 0) 0 (cellsOf []) := own_kept (own_kept (varStart w) G1.out hBw) g2 hBw
  have gg : w.grownBy w2 (some B) := grown_trans (grown_alloc_first G1.out) g2
  obtain ⟨m, rfl⟩ := Int.eq_ofNat_of_zero_le n0
  clear C1 G1 g2
  go_wp2_with fail
  go_loopw [5, 7] (fun v c wr => ∃ (r : Nat) (pre : List UInt8), c = .int .i64 (r : Int) ∧ pre.length + r ≤ m ∧ wr.ownsRow w.heap.size 5 1 v pre.length (cellsOf pre) ∧ Cur N a len cap zs B wr ∧ w.grownBy wr (some B)) (fun _ c _ => (intOf c).toNat)
  case atStart => exact ⟨m, [], rfl, by simp, own2, c2, gg⟩
  case round =>
    obtain ⟨r, pre, rfl, hp, hown, cr, gr⟩ := hrel
    rcases r with _ | r
    · have hcv := conv_own hown
      have HS := Hid.intro cr
      clear hown cr
      go_wp2
      go_ret
      exact ⟨_, rfl, by simp [ByteArray.size]; omega, HS.out, gr⟩
    · go_wp2_with fail
      refine (byteC_any _ cr).mono ?_
      rintro e w3 ⟨x, rfl, x0, x1, c3, g3⟩
      have own3 := own_kept hown g3 hBw
      have gr3 := grown_trans gr g3
      have hw3 : w.heap.size ≤ w3.heap.size := gr3.size
      by_cases k1 : st = 1
      · subst k1
        have HN : Hid ((((UInt8.ofNat (x % 2).toNat).toNat : Nat) : Int) = x % 2) := bt_num _ (by omega) (by omega)
        go_wp2_with (at_builtin; refine wpList_append_own _ rfl _ _ 22 rfl w.heap.size 5 i0 (.int .u8 0) 1 1 Try.underlying22 hi0 hz0 hz1 hz2 rfl (by decide) _ _ _ rfl (own3.alloc _) ⟨w3.heap.size, 0, none⟩ 1 1 [.int .u8 (x % 2)] rfl rfl ?c1A ?c2A ?c3A ?c4A ?c5A ?_)
        case c1A => exact cell_one_new _ _ _
        case c2A => intro u hu; simp at hu; subst hu; rfl
        case c3A => unfold maxLen; omega
        case c4A => omega
        case c5A => simp; omega
        intro v' w4 hown' hgrow _
        have s4 := (c3.alloc _).rowed hgrow (fun k hk => by have := (own3.lt k hk).1; omega)
        have g4 := grown_rowed (grown_rowed gr3 (World.grownBy_alloc w3 _ none) (fun k hk => by cases hk)) hgrow (fun k hk => (own3.lt k hk).1)
        rw [← HN.out, ← cellsOf_snoc] at hown'
        clear hgrow own3 hown c3 g3 gr3 cr gr
        go_wp2
        go_roundw
        case rel => exact ⟨r, pre ++ [UInt8.ofNat (x % 2).toNat], by go_num, by simp; omega, by simpa using hown', s4, g4⟩
        case measure => simp [intOf]
      · by_cases k2 : st = 2
        · subst k2
          have HN : Hid ((((UInt8.ofNat (97 + x % 4).toNat).toNat : Nat) : Int) = 97 + x % 4) := bt_num _ (by omega) (by omega)
          go_wp2_with (at_builtin; refine wpList_append_own _ rfl _ _ 22 rfl w.heap.size 5 i0 (.int .u8 0) 1 1 Try.underlying22 hi0 hz0 hz1 hz2 rfl (by decide) _ _ _ rfl (own3.alloc _) ⟨w3.heap.size, 0, none⟩ 1 1 [.int .u8 (97 + x % 4)] rfl rfl ?c1B ?c2B ?c3B ?c4B ?c5B ?_)
          case c1B => exact cell_one_new _ _ _
          case c2B => intro u hu; simp at hu; subst hu; rfl
          case c3B => unfold maxLen; omega
          case c4B => omega
          case c5B => simp; omega
          intro v' w4 hown' hgrow _
          have s4 := (c3.alloc _).rowed hgrow (fun k hk => by have := (own3.lt k hk).1; omega)
          have g4 := grown_rowed (grown_rowed gr3 (World.grownBy_alloc w3 _ none) (fun k hk => by cases hk)) hgrow (fun k hk => (own3.lt k hk).1)
          rw [← HN.out, ← cellsOf_snoc] at hown'
          clear hgrow own3 hown c3 g3 gr3 cr gr
          go_wp2
          go_roundw
          case rel => exact ⟨r, pre ++ [UInt8.ofNat (97 + x % 4).toNat], by go_num, by simp; omega, by simpa using hown', s4, g4⟩
          case measure => simp [intOf]
        · have e1 : (st == 1) = false := beq_eq_false_iff_ne.2 k1
          have e2 : (st == 2) = false := beq_eq_false_iff_ne.2 k2
          clear k1 k2
          have HN : Hid ((((UInt8.ofNat (x).toNat).toNat : Nat) : Int) = x) := bt_num _ (by omega) (by omega)
          go_wp2_with (at_builtin; refine wpList_append_own _ rfl _ _ 22 rfl w.heap.size 5 i0 (.int .u8 0) 1 1 Try.underlying22 hi0 hz0 hz1 hz2 rfl (by decide) _ _ _ rfl (own3.alloc _) ⟨w3.heap.size, 0, none⟩ 1 1 [.int .u8 (x)] rfl rfl ?c1C ?c2C ?c3C ?c4C ?c5C ?_)
          case c1C => exact cell_one_new _ _ _
          case c2C => intro u hu; simp at hu; subst hu; rfl
          case c3C => unfold maxLen; omega
          case c4C => omega
          case c5C => simp; omega
          intro v' w4 hown' hgrow _
          have s4 := (c3.alloc _).rowed hgrow (fun k hk => by have := (own3.lt k hk).1; omega)
          have g4 := grown_rowed (grown_rowed gr3 (World.grownBy_alloc w3 _ none) (fun k hk => by cases hk)) hgrow (fun k hk => (own3.lt k hk).1)
          rw [← HN.out, ← cellsOf_snoc] at hown'
          clear hgrow own3 hown c3 g3 gr3 cr gr
          go_wp2
          go_roundw
          case rel => exact ⟨r, pre ++ [UInt8.ofNat (x).toNat], by go_num, by simp; omega, by simpa using hown', s4, g4⟩
          case measure => simp [intOf]
end
end Go.Proofs.Ytkilepoimocoeaa
