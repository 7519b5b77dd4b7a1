/- Contracts of Hex, the program's and the specification's. -/
import Derived.Test.YtegeifdnclhknaaVar
import Derived.Test.YtegeifdnclhknaaMathD
import Derived.Deep.RegionLaw
namespace Go.Proofs.Ytegeifdnclhknaa
open Go.RowKit
set_option linter.unusedVariables false

/-- append onto nil or onto a row of the call's own, as one step of a region that draws its order. -/
theorem step_append_own {P : Program} {ops : Array Oper} {o : Oper} {a : Act} {w : World} {K : Act → World → Prop} {Q : Exit → Act → World → Prop} {E : Prop}
    (hg : o.guard = none) (s x : Operand) (t : TypeId) (hop : o.op = Op.call { callee := Callee.builtin Builtin.append, args := #[s, x], argTypes := #[t, t] })
    (base : Nat) (e : TypeId) (i : TypeInfo) (z : Value) (size bytes : Nat) (h1 : P.underlying t = some (.slice e)) (h2 : P.info? e = some i) (h3 : i.zero = some z) (h4 : i.size = size) (h5 : i.bytes = bytes) (h6 : z.cells.size = size) (h7 : 0 < size)
    (v : Value) (n : Nat) (xs : List Value) (hs : a.eval s = v) (hown : w.ownsRow base e size v n xs)
    (ad : Addr) (m c : Nat) (news : List Value) (hx : a.eval x = .slice (some ad) m c) (hn : news.length = m * size) (hc : ∀ j u, news[j]? = some u → w.cell? (ad.add j) = some u) (h1c : ∀ u ∈ news, u.oneCell' = true)
    (b1 : n + m ≤ maxLen) (b2 : (n + m) * bytes ≤ 140737488355328) (hbase : base ≤ w.heap.size)
    (hK : ∀ v' w', w'.ownsRow base e size v' (n + m) (xs ++ news) → w.grownBy w' v.ownBlock → K (a.put o.dst v') w') :
    if Region.wanted o (yielded ops a.tmps) = true then Oper.wp P o a w K Q else E := by
  have hw : Region.wanted o (yielded ops a.tmps) = true := by simp [Region.wanted, hg]
  rw [if_pos hw]
  obtain ⟨v', w', hrun, r1, r2, _⟩ := run_append_own (P := P) w base t o.type e i z size bytes h1 h2 h3 h4 h5 h6 h7 v n xs hown ad m c news hn hc h1c b1 b2 hbase
  unfold Oper.wp
  simp [execOp, hop, resolve, invoke, builtin, hs, hx, hrun, Result.andThen]
  exact hK v' w' r1 r2

theorem cell_two_new (w : World) (x y : Value) (t : TypeId) : ∀ j u, [x, y][j]? = some u → (w.alloc (.cells #[x, y] t)).cell? ((⟨w.heap.size, 0, none⟩ : Addr).add j) = some u := by
  intro j u hj
  match j, hj with
  | 0, hj => simp at hj; subst hj; simp [Addr.add]
  | 1, hj => simp at hj; subst hj; simp [Addr.add]
  | (j + 2), hj => simp at hj

theorem two_oneCell (k : IntKind) (a b : Int) : ∀ u ∈ [Value.int k a, Value.int k b], u.oneCell' = true := by
  intro u hu
  simp at hu
  rcases hu with rfl | rfl <;> rfl

theorem Hid.intro {p : Prop} (h : p) : Hid p := h

theorem ret_u8 {a b : Int} (h : a = b) : Ending.returned (.int .u8 a) = .returned (.int .u8 b) := by rw [h]

set_option maxHeartbeats 400000 in
theorem digit_any (x : Int) (k : Nat) (w : World) (hx : x = k) (hk : k < 16) :
    Calls Try.prog 22 #[.int .i64 x] w fun e w' => e = .returned (.int .u8 ((hexC k).toNat : Int)) ∧ w = w' := by
  subst hx
  go_enter Try.func22, Try.ntmps22
  go_wp2
  go_ret
  exact ⟨ret_u8 (by rw [hexC_at]), rfl⟩

theorem digit_gen (x : Int) (w : World) (h0 : 0 ≤ x) (h1 : x < 16) :
    Calls Try.prog 22 #[.int .i64 x] w fun e w' => e = .returned (.int .u8 ((hexC x.toNat).toNat : Int)) ∧ w = w' :=
  digit_any x x.toNat w (by omega) (by omega)

theorem hex_nat (c : UInt8) : hexC ((c.toNat : Int) / 16).toNat = hexC (c.toNat / 16) := by
  congr 1
theorem hex_nat' (c : UInt8) : hexC ((c.toNat : Int) % 16).toNat = hexC (c.toNat % 16) := by
  congr 1

theorem wrap_byte (c : UInt8) : IntKind.i64.wrap (c.toNat : Int) = (c.toNat : Int) := by
  have hc := c.toNat_lt
  exact wraps_i64 _ (by omega) (by omega)
theorem wrap_div16 (c : UInt8) : IntKind.i64.wrap ((c.toNat : Int) / 16) = (c.toNat : Int) / 16 := by
  have hc := c.toNat_lt
  rw [wraps_i64 _ (by omega) (by omega)]
theorem wrap_mod16 (c : UInt8) : (c.toNat : Int).tmod 16 = (c.toNat : Int) % 16 := by
  rw [Int.tmod_eq_emod_of_nonneg (by omega)]

set_option maxHeartbeats 400000 in
theorem specHex_any (s : ByteArray) (w : World) (hs : s.size ≤ 1048576) :
    Calls Try.prog 17 #[.string s] w fun e w' => e = .returned (.string (hexS s)) ∧ Below w.heap.size w w' := by
  obtain ⟨i0, hi, hz0, hz1, hz2⟩ := info_parts Try.info5
  go_enter Try.func17, Try.ntmps17
  go_wp2
  go_loopw [3, 4] (fun v c wr => ∃ k : Nat, k ≤ s.size ∧ c = .int .i64 k ∧ wr.ownsRow w.heap.size 5 1 v (2 * k) (cellsOf (hexL (s.data.toList.take k))) ∧ Below w.heap.size w wr) (fun _ c _ => s.size - (intOf c).toNat)
  case atStart => exact ⟨0, Nat.zero_le _, rfl, varStart w, (Below.refl _ _).alloc (Nat.le_refl _) _⟩
  case round =>
    obtain ⟨k, hk, rfl, hown, hbel⟩ := hrel
    have hbs := hbel.size
    by_cases hlt : k < s.size
    · have hb := (s[k]).toNat_lt
      have r1 := wrap_byte s[k]
      have r2 := wrap_div16 s[k]
      have r3 := wrap_mod16 s[k]
      have a1 := fun o => (hown.alloc o).drew
      have a2 : ∀ x y, ∀ j u, [x, y][j]? = some u → ((wr.alloc (.cells #[x, y] 5)).drew).cell? ((⟨wr.heap.size, 0, none⟩ : Addr).add j) = some u := fun x y => cell_two_new wr x y 5
      have a3 : ∀ o, w.heap.size ≤ ((wr.alloc o).drew).heap.size := fun o => by
        show w.heap.size ≤ (wr.alloc o).heap.size
        simp; omega
      have a4 : 2 * k + 2 ≤ maxLen := by unfold maxLen; omega
      have a5 : (2 * k + 2) * 1 ≤ 140737488355328 := by omega
      have A1 := Hid.intro a1
      have A2 := Hid.intro a2
      have A3 := Hid.intro a3
      have A4 := Hid.intro a4
      have A5 := Hid.intro a5
      clear a1 a2 a3 a4 a5
      go_wp2
      go_region_law (first | (refine step_append_own rfl (.tmp 12) (.tmp 25) 36 rfl w.heap.size 5 i0 (.int .u8 0) 1 1 Try.underlying36 hi hz0 hz1 hz2 rfl (by decide) u3 (2 * k) (cellsOf (hexL (s.data.toList.take k))) rfl (A1.out _) ⟨wr.heap.size, 0, none⟩ 2 2 [.int .u8 ((hexC ((s[k].toNat : Int) / 16).toNat).toNat : Int), .int .u8 ((hexC ((s[k].toNat : Int) % 16).toNat).toNat : Int)] rfl rfl (A2.out _ _) (two_oneCell _ _ _) A4.out A5.out (A3.out _) ?_; intro v' w1 hown' hgrow) | (go_simp; refine (digit_gen _ _ (by omega) (by omega)).mono ?_; rintro e w' ⟨rfl, rfl⟩))
      all_goals
        have hb' := hbel.trans (((Below.refl _ _).alloc hbs _).drew.grown hgrow (A3.out _) (fun k hk => (hown.lt k hk).1))
        rw [hex_nat, hex_nat', cellsOf_two, ← hexL_take s k hlt] at hown'
        clear hgrow A1 A2 A3 A4 A5 r1 r2 r3
        go_wp2
        go_roundw
        case rel => exact ⟨k + 1, by omega, by go_num, hown', hb'⟩
        case measure => simp [intOf]; omega
    · have e : s.data.toList.take k = s.data.toList := List.take_of_length_le (by simp; omega)
      rw [e] at hown
      have hcv := conv_own hown
      clear hown
      go_wp2
      go_ret
      exact ⟨rfl, hbel⟩

end Go.Proofs.Ytegeifdnclhknaa
