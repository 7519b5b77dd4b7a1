/- Contracts of the draws: the cursor. -/
import Derived.Test.YtkilepoimocoeaaSet6
import Derived.Test.YtkilepoimocoeaaRows2
import Derived.Laws.Bits64
import Derived.Lib.SmallJoins
namespace Go.Proofs.Ytkilepoimocoeaa
open Go.RowKit
set_option linter.unusedVariables false

/-- The bytes of the code lie where the slice says, below block N. -/
def RowOk (w : World) (N : Nat) (a : Option Addr) (len : Nat) (zs : List Int) : Prop :=
  ∀ j, j < len → ∃ b off, a = some ⟨b, off, none⟩ ∧ b < N ∧ w.cell? ⟨b, off + j, none⟩ = some (.int .u8 (zs.getD j 0)) ∧ 0 ≤ zs.getD j 0 ∧ zs.getD j 0 < 256

/-- A cursor over the code lies in block B. -/
structure St (N : Nat) (a : Option Addr) (len cap : Nat) (zs : List Int) (B i : Nat) (h : Int) (w : World) : Prop where
  base : N ≤ B
  blk : w.heap[B]? = some (.cells #[.slice a len cap, .int .i64 i, .int .i64 h] 116 (0, 0))
  row : RowOk w N a len zs

theorem RowOk.below {w w' : World} {N : Nat} {a : Option Addr} {len : Nat} {zs : List Int} (h : RowOk w N a len zs) (hb : Below N w w') : RowOk w' N a len zs := by
  intro j hj
  obtain ⟨b, off, ha, hbN, hc, h0, h1⟩ := h j hj
  exact ⟨b, off, ha, hbN, (hb.cell (p := ⟨b, off + j, none⟩) hbN).trans hc, h0, h1⟩

/-- How the cursor's number goes on, and the byte that it gives. -/
def hNext (h : Int) : Int := wrap64 (wrap64 (h * 6364136223846793005) + 1442695040888963407)

def xRaw (h : Int) : Int := bits .and .i64 (bits .xor .i64 (hNext h / 8589934592) (hNext h / 35184372088832)) 255

theorem i64_and255 (n : Int) : bits .and .i64 n 255 = n % 256 := by
  have h255 : (BitVec.ofInt 64 255).toNat = 2 ^ 8 - 1 := by decide
  have key : (BitVec.ofInt 64 n &&& BitVec.ofInt 64 255).toNat = (n % ((2 ^ 64 : Nat) : Int)).toNat % 2 ^ 8 := by
    rw [BitVec.toNat_and, BitVec.toNat_ofInt, h255, Nat.and_two_pow_sub_one_eq_mod]
  show IntKind.i64.wrap ((BitVec.ofInt 64 n &&& BitVec.ofInt 64 255).toNat : Nat) = n % 256
  rw [key, IntKind.wrap_i64]
  omega

theorem xRaw_bd (h : Int) : 0 ≤ xRaw h ∧ xRaw h ≤ 255 := by
  unfold xRaw
  rw [i64_and255]
  omega

theorem grown_setCell (w : World) (B o : Nat) (v : Value) : w.grownBy (w.setCell ⟨B, o, none⟩ v) (some B) :=
  ⟨rfl, rfl, rfl, by simp [World.setCell], fun k _ hne => Below.heap_setCell w _ v k (fun e => hne (by rw [e]))⟩

theorem grown_drewN {w w' : World} {r : Option Nat} (h : w.grownBy w' r) (n : Nat) : w.grownBy (w'.drewN n) r := ⟨h.os, h.tape, h.output, h.size, h.block⟩

theorem grown_trans {a b c : World} {r : Option Nat} (h : a.grownBy b r) (k : b.grownBy c r) : a.grownBy c r :=
  ⟨k.os.trans h.os, k.tape.trans h.tape, k.output.trans h.output, Nat.le_trans h.size k.size, fun i hi hne => (k.block i (Nat.lt_of_lt_of_le hi h.size) hne).trans (h.block i hi hne)⟩

theorem below_of_grown {N B : Nat} {w w' : World} (h : w.grownBy w' (some B)) (hB : N ≤ B) (hN : N ≤ w.heap.size) : Below N w w' :=
  (Below.refl _ _).grown h hN (fun k hk => by cases hk; exact hB)

theorem lt_of_blk {w : World} {B : Nat} {o : Obj} (h : w.heap[B]? = some o) : B < w.heap.size := (Array.getElem?_eq_some_iff.1 h).1

/-- The byte that comes next, and where the cursor stands behind it. -/
def xB (zs : List Int) (len i : Nat) (h : Int) : Int := if i < len then bits .and .i64 (wrap64 (xRaw h + zs.getD i 0)) 255 else xRaw h

def iN (len i : Nat) : Nat := if i < len then i + 1 else i

theorem xB_bd (zs : List Int) (len i : Nat) (h : Int) : 0 ≤ xB zs len i h ∧ xB zs len i h ≤ 255 := by
  unfold xB
  split
  · rw [i64_and255]; omega
  · exact xRaw_bd h

theorem iN_le {len i : Nat} (h : i ≤ len) : iN len i ≤ len := by
  unfold iN
  split <;> omega

set_option maxHeartbeats 400000 in
theorem byte_out (a : Option Addr) (len cap : Nat) (B i : Nat) (h : Int) (w : World) (hl : len ≤ 1048576) (hi : i ≤ 1048576) (hge : ¬ i < len)
    (c0 : w.cell? ⟨B, 0, none⟩ = some (.slice a len cap)) (c1 : w.cell? ⟨B, 1, none⟩ = some (.int .i64 i)) (c2 : w.cell? ⟨B, 2, none⟩ = some (.int .i64 h)) (f2 : w.frozen? ⟨B, 2, none⟩ = false) :
    Calls Try.prog 76 #[.pointer (some ⟨B, 0, none⟩)] w fun e w' => e = .returned (.int .i64 (xRaw h)) ∧ ∃ n m, w' = ((w.setCell ⟨B, 2, none⟩ (.int .i64 (hNext h))).drewN n).drewN m := by
  go_enter Try.func76, Try.ntmps76
  go_wp2
  go_quiet (fail)
  go_wp2
  go_quiet (fail)
  go_wp2
  go_ret
  exact ⟨rfl, _, _, rfl⟩

set_option maxHeartbeats 400000 in
theorem byte_in (len cap : Nat) (B i b off : Nat) (h z : Int) (w : World) (hl : len ≤ 1048576) (hlt : i < len) (hne : b ≠ B) (z0 : 0 ≤ z) (z1 : z < 256)
    (c0 : w.cell? ⟨B, 0, none⟩ = some (.slice (some ⟨b, off, none⟩) len cap)) (c1 : w.cell? ⟨B, 1, none⟩ = some (.int .i64 i)) (c2 : w.cell? ⟨B, 2, none⟩ = some (.int .i64 h)) (f1 : w.frozen? ⟨B, 1, none⟩ = false) (f2 : w.frozen? ⟨B, 2, none⟩ = false)
    (cz : w.cell? ⟨b, off + i, none⟩ = some (.int .u8 z)) :
    Calls Try.prog 76 #[.pointer (some ⟨B, 0, none⟩)] w fun e w' => e = .returned (.int .i64 (bits .and .i64 (wrap64 (xRaw h + z)) 255)) ∧ ∃ n, w' = ((w.setCell ⟨B, 2, none⟩ (.int .i64 (hNext h))).drewN n).setCell ⟨B, 1, none⟩ (.int .i64 ((i : Int) + 1)) := by
  have hr := xRaw_bd h
  have cz' : ∀ v, (w.setCell ⟨B, 2, none⟩ v).cell? ⟨b, off + i, none⟩ = some (.int .u8 z) := fun v => by
    rw [World.cell?_setCell_other _ _ _ _ (fun e => hne (congrArg Addr.block e).symm)]; exact cz
  clear cz
  go_enter Try.func76, Try.ntmps76
  go_wp2
  go_quiet (fail)
  go_wp2
  go_quiet (fail)
  go_wp2
  go_quiet (fail)
  go_wp2
  go_ret
  exact ⟨rfl, _, rfl⟩

theorem byte_any {N : Nat} {a : Option Addr} {len cap : Nat} {zs : List Int} {B i : Nat} {h : Int} {w : World} (s : St N a len cap zs B i h w) (hl : len ≤ 1048576) (hi : i ≤ len) :
    Calls Try.prog 76 #[.pointer (some ⟨B, 0, none⟩)] w fun e w' => e = .returned (.int .i64 (xB zs len i h)) ∧ St N a len cap zs B (iN len i) (hNext h) w' ∧ w.grownBy w' (some B) := by
  have c0 := Joins.cell_of_block s.blk 0
  have c1 := Joins.cell_of_block s.blk 1
  have c2 := Joins.cell_of_block s.blk 2
  have f1 := Joins.unfrozen_of_block s.blk 1
  have f2 := Joins.unfrozen_of_block s.blk 2
  have hBw := lt_of_blk s.blk
  have hN : N ≤ w.heap.size := Nat.le_trans s.base (Nat.le_of_lt hBw)
  by_cases hlt : i < len
  · obtain ⟨b, off, rfl, hb, hc, z0, z1⟩ := s.row i hlt
    have hne : b ≠ B := by have := s.base; omega
    refine (byte_in len cap B i b off h _ w hl hlt hne z0 z1 c0 c1 c2 f1 f2 hc).mono ?_
    rintro e w' ⟨rfl, n, rfl⟩
    have g := grown_trans (grown_drewN (grown_setCell w B 2 (.int .i64 (hNext h))) n) (grown_setCell _ B 1 (.int .i64 ((i : Int) + 1)))
    refine ⟨by rw [xB, if_pos hlt], ⟨s.base, ?_, s.row.below (below_of_grown g s.base hN)⟩, g⟩
    have e1 : ((w.setCell ⟨B, 2, none⟩ (.int .i64 (hNext h))).drewN n).heap[B]? = _ := Joins.block_setCell s.blk (i := 2) (.int .i64 (hNext h))
    have e2 := Joins.block_setCell e1 (i := 1) (.int .i64 ((i : Int) + 1))
    rw [iN, if_pos hlt]
    exact e2
  · refine (byte_out a len cap B i h w hl (by omega) hlt c0 c1 c2 f2).mono ?_
    rintro e w' ⟨rfl, n, m, rfl⟩
    have g := grown_drewN (grown_drewN (grown_setCell w B 2 (.int .i64 (hNext h))) n) m
    refine ⟨by rw [xB, if_neg hlt], ⟨s.base, ?_, s.row.below (below_of_grown g s.base hN)⟩, g⟩
    have e1 := Joins.block_setCell s.blk (i := 2) (.int .i64 (hNext h))
    rw [iN, if_neg hlt]
    exact e1

theorem St.kept {N : Nat} {a : Option Addr} {len cap : Nat} {zs : List Int} {B i : Nat} {h : Int} {w w' : World} (s : St N a len cap zs B i h w) (g : w.grownBy w' none) : St N a len cap zs B i h w' := by
  have hB := lt_of_blk s.blk
  exact ⟨s.base, (g.block B hB (by simp)).trans s.blk, s.row.below ((Below.refl _ _).grown g (Nat.le_trans s.base (Nat.le_of_lt hB)) (fun k hk => by cases hk))⟩

theorem St.alloc {N : Nat} {a : Option Addr} {len cap : Nat} {zs : List Int} {B i : Nat} {h : Int} {w : World} (s : St N a len cap zs B i h w) (o : Obj) : St N a len cap zs B i h (w.alloc o) := s.kept (World.grownBy_alloc w o none)

theorem grown_alloc_first {w w' : World} {o : Obj} {r : Option Nat} (g : (w.alloc o).grownBy w' r) : w.grownBy w' r :=
  grown_trans (World.grownBy_alloc w o r) g

theorem i64_and30 (n : Int) : bits .and .i64 n 1073741823 = n % 1073741824 := by
  have hm : (BitVec.ofInt 64 1073741823).toNat = 2 ^ 30 - 1 := by decide
  have key : (BitVec.ofInt 64 n &&& BitVec.ofInt 64 1073741823).toNat = (n % ((2 ^ 64 : Nat) : Int)).toNat % 2 ^ 30 := by
    rw [BitVec.toNat_and, BitVec.toNat_ofInt, hm, Nat.and_two_pow_sub_one_eq_mod]
  show IntKind.i64.wrap ((BitVec.ofInt 64 n &&& BitVec.ofInt 64 1073741823).toNat : Nat) = n % 1073741824
  rw [key, IntKind.wrap_i64]
  omega

/-- The cursor's number behind k bytes of the code. -/
def hF (zs : List Int) (len : Nat) : Nat → Int
  | 0 => 10101 + (len : Int)
  | k + 1 => bits .and .i64 (hF zs len k * 131 + zs.getD k 0 + 7) 1073741823

theorem hF_bd (zs : List Int) (len k : Nat) (hl : len ≤ 1048576) : 0 ≤ hF zs len k ∧ hF zs len k ≤ 1073741823 := by
  cases k with
  | zero => simp only [hF]; omega
  | succ k => simp only [hF, i64_and30]; omega

theorem new_st {zs : List Int} {len N cap : Nat} {a : Option Addr} {w : World} {h : Int} (hN : N ≤ w.heap.size) (hr : RowOk w N a len zs) :
    St N a len cap zs w.heap.size 0 h (w.alloc (.cells #[.slice a len cap, .int .i64 0, .int .i64 h] 116)) :=
  ⟨hN, heap_alloc_new w _, hr.below ((Below.refl _ _).alloc hN _)⟩

set_option maxHeartbeats 400000 in
theorem new_some (zs : List Int) (len N cap b off : Nat) (w : World) (hl : len ≤ 1048576) (hN : N ≤ w.heap.size) (hr : RowOk w N (some ⟨b, off, none⟩) len zs) :
    Calls Try.prog 38 #[.slice (some ⟨b, off, none⟩) len cap] w fun e w' => ∃ B, e = .returned (.pointer (some ⟨B, 0, none⟩)) ∧ St N (some ⟨b, off, none⟩) len cap zs B 0 (hF zs len (min len 4000)) w' ∧ w.grownBy w' none := by
  have HR : Hid (RowOk w N (some ⟨b, off, none⟩) len zs) := hr
  clear hr
  go_enter Try.func38, Try.ntmps38
  go_wp2
  go_loop [3, 4] (fun t c => ∃ k : Nat, k ≤ len ∧ k ≤ 4000 ∧ c = .int .i64 k ∧ t = .int .i64 (hF zs len k)) (fun _ c => 4000 - (intOf c).toNat)
  case atStart => exact ⟨0, by omega, by omega, rfl, rfl⟩
  case round =>
    obtain ⟨k, hk, hk4, rfl, rfl⟩ := hrel
    obtain ⟨h0, h1⟩ := hF_bd zs len k hl
    by_cases hlt : k < len
    · have g1 : (k : Int) < (len : Int) := by omega
      by_cases hlt4 : k < 4000
      · have g2 : (k : Int) < 4000 := by omega
        have hcz : w.cell? ⟨b, off + k, none⟩ = some (.int .u8 (zs.getD k 0)) ∧ 0 ≤ zs.getD k 0 ∧ zs.getD k 0 < 256 := by
          obtain ⟨b', off', e, _, hc, z⟩ := HR.out k hlt
          cases e
          exact ⟨hc, z⟩
        obtain ⟨hcz, z0, z1⟩ := hcz
        have HS : Hid (hF zs len (k + 1) = bits .and .i64 (hF zs len k * 131 + zs.getD k 0 + 7) 1073741823) := rfl
        generalize zs.getD k 0 = z at *
        go_wp2
        go_round
        case rel => exact ⟨k + 1, by omega, by omega, by go_num, by rw [HS.out]⟩
        case measure => simp [intOf]; omega
      · have g2 : ¬ (k : Int) < 4000 := by omega
        have HM : Hid (hF zs len (min len 4000) = hF zs len k) := by
          unfold Hid
          rw [show min len 4000 = k by omega]
        go_wp2
        go_ret
        exact ⟨w.heap.size, rfl, by rw [HM.out]; exact new_st hN HR.out, World.grownBy_alloc _ _ _⟩
    · have g1 : ¬ (k : Int) < (len : Int) := by omega
      have HM : Hid (hF zs len (min len 4000) = hF zs len k) := by
        unfold Hid
        rw [show min len 4000 = k by omega]
      go_wp2
      go_ret
      exact ⟨w.heap.size, rfl, by rw [HM.out]; exact new_st hN HR.out, World.grownBy_alloc _ _ _⟩

set_option maxHeartbeats 400000 in
theorem new_none (zs : List Int) (N cap : Nat) (a : Option Addr) (w : World) (hN : N ≤ w.heap.size) :
    Calls Try.prog 38 #[.slice a 0 cap] w fun e w' => ∃ B, e = .returned (.pointer (some ⟨B, 0, none⟩)) ∧ St N a 0 cap zs B 0 (hF zs 0 (min 0 4000)) w' ∧ w.grownBy w' none := by
  go_enter Try.func38, Try.ntmps38
  go_wp2
  refine wp_loop_rounds 1 ?_
  rw [rounds_succ]
  go_wp2
  go_ret
  exact ⟨w.heap.size, rfl, new_st hN (fun j hj => absurd hj (by omega)), World.grownBy_alloc _ _ _⟩

/-- A new cursor over the code. -/
theorem new_any (zs : List Int) (len N cap : Nat) (a : Option Addr) (w : World) (hl : len ≤ 1048576) (hN : N ≤ w.heap.size) (hr : RowOk w N a len zs) :
    Calls Try.prog 38 #[.slice a len cap] w fun e w' => ∃ B, e = .returned (.pointer (some ⟨B, 0, none⟩)) ∧ St N a len cap zs B 0 (hF zs len (min len 4000)) w' ∧ w.grownBy w' none := by
  rcases Nat.eq_zero_or_pos len with h0 | h0
  · subst h0
    exact new_none zs N cap a w hN
  · obtain ⟨b, off, rfl, _⟩ := hr 0 h0
    exact new_some zs len N cap b off w hl hN hr

theorem below_new {w w1 w2 : World} {B : Nat} (g1 : w.grownBy w1 none) (hB : w.heap.size ≤ B) (g2 : w1.grownBy w2 (some B)) : Below w.heap.size w w2 :=
  ((Below.refl _ _).grown g1 (Nat.le_refl _) (fun k hk => by cases hk)).trans ((Below.refl _ _).grown g2 g1.size (fun k hk => by cases hk; exact hB))

/-- A cursor over the code lies in block B, wherever it stands. -/
structure Cur (N : Nat) (a : Option Addr) (len cap : Nat) (zs : List Int) (B : Nat) (w : World) : Prop where
  small : len ≤ 1048576
  at_ : ∃ (i : Nat) (h : Int), i ≤ len ∧ St N a len cap zs B i h w
theorem Cur.lt {N : Nat} {a : Option Addr} {len cap : Nat} {zs : List Int} {B : Nat} {w : World} (c : Cur N a len cap zs B w) : B < w.heap.size := by
  obtain ⟨i, h, _, s⟩ := c.at_
  exact lt_of_blk s.blk
theorem Cur.base {N : Nat} {a : Option Addr} {len cap : Nat} {zs : List Int} {B : Nat} {w : World} (c : Cur N a len cap zs B w) : N ≤ B := by
  obtain ⟨i, h, _, s⟩ := c.at_
  exact s.base
theorem Cur.alloc {N : Nat} {a : Option Addr} {len cap : Nat} {zs : List Int} {B : Nat} {w : World} (c : Cur N a len cap zs B w) (o : Obj) : Cur N a len cap zs B (w.alloc o) := by
  obtain ⟨i, h, hi, s⟩ := c.at_
  exact ⟨c.small, i, h, hi, s.alloc o⟩

section
variable {N : Nat} {a : Option Addr} {len cap : Nat} {zs : List Int} {B : Nat}

set_option maxHeartbeats 400000 in
theorem belowC_any (n : Int) (w : World) (c : Cur N a len cap zs B w) (h1 : 1 ≤ n) (h2 : n ≤ 256) :
    Calls Try.prog 40 #[.pointer (some ⟨B, 0, none⟩), .int .i64 n] w fun e w' => ∃ x : Int, e = .returned (.int .i64 x) ∧ 0 ≤ x ∧ x < n ∧ Cur N a len cap zs B w' ∧ w.grownBy w' (some B) := by
  obtain ⟨hl, i, h, hi, s⟩ := c
  obtain ⟨x0, x1⟩ := xB_bd zs len i h
  have k1 := iN_le hi
  go_enter Try.func40, Try.ntmps40
  go_wp2_with fail
  refine (byte_any s hl hi).mono ?_
  rintro e w1 ⟨rfl, s1, g1⟩
  go_wp2
  go_ret
  exact ⟨_, rfl, Int.emod_nonneg _ (by omega), Int.emod_lt_of_pos _ (by omega), ⟨hl, _, _, k1, s1⟩, g1⟩

set_option maxHeartbeats 400000 in
theorem onceC_any (n : Int) (w : World) (c : Cur N a len cap zs B w) (h1 : 1 ≤ n) (h2 : n ≤ 256) :
    Calls Try.prog 44 #[.pointer (some ⟨B, 0, none⟩), .int .i64 n] w fun e w' => ∃ b : Bool, e = .returned (.bool b) ∧ Cur N a len cap zs B w' ∧ w.grownBy w' (some B) := by
  have C := Hid.intro c
  clear c
  go_enter Try.func44, Try.ntmps44
  go_wp2_with fail
  refine (belowC_any n _ C.out h1 h2).mono ?_
  rintro e w1 ⟨x, rfl, x0, x1, c1, g1⟩
  go_wp2
  go_ret
  exact ⟨_, rfl, c1, g1⟩

end
section
variable {N : Nat} {a : Option Addr} {len cap : Nat} {zs : List Int} {B : Nat}
theorem Cur.kept {w w' : World} (c : Cur N a len cap zs B w) (g : w.grownBy w' none) : Cur N a len cap zs B w' := by
  obtain ⟨i, h, hi, s⟩ := c.at_
  exact ⟨c.small, i, h, hi, s.kept g⟩
theorem Cur.only {w w' : World} {S : Nat → Prop} (c : Cur N a len cap zs B w) (ho : Only S w w') (hB : ∀ k, S k → B < k) : Cur N a len cap zs B w' := by
  have hlt := c.lt
  obtain ⟨i, h, hi, s⟩ := c.at_
  have hb : Below N w w' := ho.below (by have := s.base; omega) (fun k hk hs => by have := hB k hs; have := s.base; omega)
  exact ⟨c.small, i, h, hi, s.base, (ho.block B hlt (fun hs => by have := hB B hs; omega)).trans s.blk, s.row.below hb⟩
theorem grown_of {w w' : World} (h : Only (fun k => k = B ∨ w.heap.size ≤ k) w w') : w.grownBy w' (some B) := ⟨h.os, h.tape, h.output, h.size, fun k hk hne => h.block k hk (fun hs => by
    rcases hs with hs | hs
    · exact hne (by rw [hs])
    · omega)⟩
theorem grown_below {w w' : World} {r : Option Nat} (h : Below w.heap.size w w') : w.grownBy w' r := ⟨h.os, h.tape, h.output, h.size, fun k hk _ => h.block k hk⟩
set_option maxHeartbeats 400000 in
theorem byteC_any (w : World) (c : Cur N a len cap zs B w) :
    Calls Try.prog 76 #[.pointer (some ⟨B, 0, none⟩)] w fun e w' => ∃ x : Int, e = .returned (.int .i64 x) ∧ 0 ≤ x ∧ x ≤ 255 ∧ Cur N a len cap zs B w' ∧ w.grownBy w' (some B) := by
  obtain ⟨hl, i, h, hi, s⟩ := c
  obtain ⟨x0, x1⟩ := xB_bd zs len i h
  have k1 := iN_le hi
  refine (byte_any s hl hi).mono ?_
  rintro e w1 ⟨rfl, s1, g1⟩
  exact ⟨_, rfl, x0, x1, ⟨hl, _, _, k1, s1⟩, g1⟩
set_option maxHeartbeats 400000 in
theorem belowBig_any (n : Int) (w : World) (c : Cur N a len cap zs B w) (h1 : 257 ≤ n) (h2 : n ≤ 1000000000) :
    Calls Try.prog 40 #[.pointer (some ⟨B, 0, none⟩), .int .i64 n] w fun e w' => ∃ x : Int, e = .returned (.int .i64 x) ∧ 0 ≤ x ∧ x < n ∧ Cur N a len cap zs B w' ∧ w.grownBy w' (some B) := by
  have C := Hid.intro c
  clear c
  go_enter Try.func40, Try.ntmps40
  go_wp2_with fail
  refine (byteC_any _ C.out).mono ?_
  rintro e w1 ⟨x, rfl, x0, x1, c1, g1⟩
  have C1 := Hid.intro c1
  clear c1 C
  go_wp2_with fail
  refine (byteC_any _ C1.out).mono ?_
  rintro e w2 ⟨y, rfl, y0, y1, c2, g2⟩
  have C2 := Hid.intro c2
  replace g2 := grown_trans g1 g2
  clear c2 C1 g1
  go_wp2_with fail
  refine (byteC_any _ C2.out).mono ?_
  rintro e w3 ⟨z, rfl, z0, z1, c3, g3⟩
  have C3 := Hid.intro c3
  replace g3 := grown_trans g2 g3
  clear c3 C2 g2
  go_wp2_with fail
  refine (byteC_any _ C3.out).mono ?_
  rintro e w4 ⟨t, rfl, t0, t1, c4, g4⟩
  have C4 := Hid.intro c4
  replace g4 := grown_trans g3 g4
  clear c4 C3 g3
  go_wp2
  go_ret
  exact ⟨_, rfl, Int.emod_nonneg _ (by omega), Int.emod_lt_of_pos _ (by omega), C4.out, g4⟩
def okInts (A : Array Value) : Prop := ∀ v ∈ A.toList, ∃ x : Int, v = .int .i64 x
theorem okInts_map (l : List Int) : okInts ((l.map (fun x => Value.int .i64 x)).toArray) := by
  intro v hv
  simp at hv
  obtain ⟨x, _, rfl⟩ := hv
  exact ⟨x, rfl⟩
set_option maxHeartbeats 400000 in
theorem pickInt_any (k : Nat) (A : Array Value) (w : World) (c : Cur N a len cap zs B w) (hA : okInts A) (hk : A.size = k) (h1 : 1 ≤ k) (h2 : k ≤ 256) :
    Calls Try.prog 45 #[.pointer (some ⟨B, 0, none⟩), .slice (some ⟨w.heap.size, 0, none⟩) k k] (w.alloc (.cells A 3)) fun e w' => ∃ x : Int, e = .returned (.int .i64 x) ∧ Cur N a len cap zs B w' ∧ w.grownBy w' (some B) := by
  have hlt := c.lt
  have C := Hid.intro (c.alloc (.cells A 3))
  have HA := Hid.intro hA
  have HK := Hid.intro hk
  clear c hA hk
  go_enter Try.func45, Try.ntmps45
  go_wp2_with fail
  refine (belowC_any (k : Int) _ C.out (by omega) (by omega)).mono ?_
  rintro e w1 ⟨x, rfl, x0, x1, c1, g1⟩
  obtain ⟨j, rfl⟩ := Int.eq_ofNat_of_zero_le x0
  obtain ⟨s, hc⟩ : ∃ s : Int, w1.cell? ⟨w.heap.size, j, none⟩ = some (.int .i64 s) := by
    have hj : j < A.size := by rw [HK.out]; omega
    obtain ⟨s, hv⟩ := HA.out A[j] (by simp)
    refine ⟨s, g1.cell ?_ (by simp; omega)⟩
    rw [World.cell?_alloc_at _ _ _ _ rfl, Array.getElem?_eq_getElem hj, hv]
  have gg := grown_alloc_first g1
  clear g1
  go_wp2
  go_ret
  exact ⟨s, rfl, c1, gg⟩
end
end Go.Proofs.Ytkilepoimocoeaa
