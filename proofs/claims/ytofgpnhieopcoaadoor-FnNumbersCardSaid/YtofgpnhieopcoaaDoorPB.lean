/- Contracts of Hex and Unhex. -/
import Derived.Test.YtofgpnhieopcoaaDoorPA
namespace Go.Proofs.YtofgpnhieopcoaaDoor
open Go.RowKit
set_option linter.unusedVariables false

/-- append onto nil or onto a row of the call's own, as one step of a region that draws its order. -/
theorem step_append_own {P : Program} {ops : Array Oper} {o : Oper} {a : Act} {w : World} {K : Act → World → Prop} {Q : Exit → Act → World → Prop} {E : Prop}
    (hg : o.guard = none) (s x : Operand) (t : TypeId) (hop : o.op = Op.call { callee := Callee.builtin Builtin.append, args := #[s, x], argTypes := #[t, t] })
    (base : Nat) (e : TypeId) (i : TypeInfo) (z : Value) (size bytes : Nat) (h1 : P.underlying t = some (.slice e)) (h2 : P.info? e = some i) (h3 : i.zero = some z) (h4 : i.size = size) (h5 : i.bytes = bytes) (h6 : z.cells.size = size) (h7 : 0 < size)
    (v : Value) (n : Nat) (xs : List Value) (hs : a.eval s = v) (hown : w.ownsRow base e size v n xs)
    (ad : Addr) (m c : Nat) (news : List Value) (hx : a.eval x = .slice (some ad) m c) (hn : news.length = m * size) (hc : ∀ j u, news[j]? = some u → w.cell? (ad.add j) = some u) (h1c : ∀ u ∈ news, u.oneCell' = true)
    (b1 : n + m ≤ maxLen) (b2 : (n + m) * bytes ≤ 140737488355328) (hbase : base ≤ w.heap.size)
    (hK : ∀ v' w', w'.ownsRow base e size v' (n + m) (xs ++ news) → w.grownBy w' v.ownBlock → K (a.put o.dst v') w') :
    if Region.wanted o (yielded ops a.tmps) = true then Oper.wp P o a w K Q else E := by
  have hw : Region.wanted o (yielded ops a.tmps) = true := by simp [Region.wanted, hg]
  rw [if_pos hw]
  obtain ⟨v', w', hrun, r1, r2, _⟩ := run_append_own (P := P) w base t o.type e i z size bytes h1 h2 h3 h4 h5 h6 h7 v n xs hown ad m c news hn hc h1c b1 b2 hbase
  unfold Oper.wp
  simp [execOp, hop, resolve, invoke, builtin, hs, hx, hrun, Result.andThen]
  exact hK v' w' r1 r2

theorem cell_two_new (w : World) (x y : Value) (t : TypeId) : ∀ j u, [x, y][j]? = some u → (w.alloc (.cells #[x, y] t)).cell? ((⟨w.heap.size, 0, none⟩ : Addr).add j) = some u := by
  intro j u hj
  match j, hj with
  | 0, hj => simp at hj; subst hj; simp [Addr.add]
  | 1, hj => simp at hj; subst hj; simp [Addr.add]
  | (j + 2), hj => simp at hj

theorem two_oneCell (k : IntKind) (a b : Int) : ∀ u ∈ [Value.int k a, Value.int k b], u.oneCell' = true := by
  intro u hu
  simp at hu
  rcases hu with rfl | rfl <;> rfl

theorem Hid.intro {p : Prop} (h : p) : Hid p := h

theorem ret_u8 {a b : Int} (h : a = b) : Ending.returned (.int .u8 a) = .returned (.int .u8 b) := by rw [h]

theorem hex_nat (c : UInt8) : hexC ((c.toNat : Int) / 16).toNat = hexC (c.toNat / 16) := by
  congr 1

theorem hex_nat' (c : UInt8) : hexC ((c.toNat : Int) % 16).toNat = hexC (c.toNat % 16) := by
  congr 1

theorem make_room (n : Nat) (w : World) (h : n ≤ 2097152) : (Instr.makeSlice 22 (.int .i64 0) (.int .i64 n)).run Tryd.prog w = .ok (.slice (some ⟨w.heap.size, 0, none⟩) 0 n) (w.alloc (.cells (madeCells #[.int .u8 0] n) 5)) := by
  obtain ⟨i0, hi, hz0, hz1, hz2⟩ := info_parts Tryd.info5
  have h := run_make (P := Tryd.prog) w 22 5 i0 (.int .u8 0) Tryd.underlying22 hi hz0 .i64 .i64 0 n (by omega) (by omega) (by rw [hz2]; omega) (by omega)
  rw [h, hz1]
  simp only [Int.toNat_natCast, Nat.mul_one, Int.toNat_zero]
  rfl

theorem room_own (n : Nat) (w : World) (h : n ≤ 2097152) : (w.alloc (.cells (madeCells #[.int .u8 0] n) 5)).ownsRow w.heap.size 5 1 (.slice (some ⟨w.heap.size, 0, none⟩) 0 n) (2 * 0) (cellsOf (hexL [])) :=
  World.ownsRow_made w _ n (Nat.le_refl _) (by unfold maxLen; omega) (by rw [size_madeCells]; omega)

set_option maxHeartbeats 400000 in
theorem implHex_any (s : ByteArray) (w : World) (hs : s.size ≤ 1048576) :
    Calls Tryd.prog 14 #[.string s] w fun e w' => e = .returned (.string (hexS s)) ∧ Below w.heap.size w w' := by
  obtain ⟨i0, hi, hz0, hz1, hz2⟩ := info_parts Tryd.info5
  have hmk := make_room (2 * s.size) w (by omega)
  have e2 : ((2 * s.size : Nat) : Int) = 2 * (s.size : Int) := by omega
  rw [e2] at hmk
  clear e2
  go_enter Tryd.func14, Tryd.ntmps14
  go_wp2
  go_loopw [3, 11] (fun v c wr => ∃ k : Nat, k ≤ s.size ∧ c = .int .i64 k ∧ wr.ownsRow w.heap.size 5 1 v (2 * k) (cellsOf (hexL (s.data.toList.take k))) ∧ Below w.heap.size w wr) (fun _ c _ => s.size - (intOf c).toNat)
  case atStart => exact ⟨0, Nat.zero_le _, rfl, room_own (2 * s.size) w (by omega), (Below.refl _ _).alloc (Nat.le_refl _) _⟩
  case round =>
    obtain ⟨k, hk, rfl, hown, hbel⟩ := hrel
    have hbs := hbel.size
    clear hmk
    by_cases hlt : k < s.size
    · have hb := (s[k]).toNat_lt
      have q1 : 0 ≤ (s[k].toNat : Int) / 16 := by omega
      have q2 : (s[k].toNat : Int) / 16 < 16 := by omega
      have q3 : bits .and .u8 (s[k].toNat : Int) 15 = (s[k].toNat : Int) % 16 := u8_and15 _ (by omega) (by omega)
      have q4 : 0 ≤ (s[k].toNat : Int) % 16 := by omega
      have q5 : (s[k].toNat : Int) % 16 < 16 := by omega
      have a1 := fun o => (hown.alloc o).drew
      have a2 : ∀ x y, ∀ j u, [x, y][j]? = some u → ((wr.alloc (.cells #[x, y] 5)).drew).cell? ((⟨wr.heap.size, 0, none⟩ : Addr).add j) = some u := fun x y => cell_two_new wr x y 5
      have a3 : ∀ o, w.heap.size ≤ ((wr.alloc o).drew).heap.size := fun o => by
        show w.heap.size ≤ (wr.alloc o).heap.size
        simp; omega
      have a4 : 2 * k + 2 ≤ maxLen := by unfold maxLen; omega
      have a5 : (2 * k + 2) * 1 ≤ 140737488355328 := by omega
      have A1 := Hid.intro a1
      have A2 := Hid.intro a2
      have A3 := Hid.intro a3
      have A4 := Hid.intro a4
      have A5 := Hid.intro a5
      clear a1 a2 a3 a4 a5
      go_wp2
      go_region_law (refine step_append_own rfl (.tmp 14) (.tmp 25) 22 rfl w.heap.size 5 i0 (.int .u8 0) 1 1 Tryd.underlying22 hi hz0 hz1 hz2 rfl (by decide) u3 (2 * k) (cellsOf (hexL (s.data.toList.take k))) rfl (A1.out _) ⟨wr.heap.size, 0, none⟩ 2 2 [_, _] rfl rfl (A2.out _ _) (two_oneCell _ _ _) A4.out A5.out (A3.out _) ?_; intro v' w1 hown' hgrow)
      all_goals
        have hb' := hbel.trans (((Below.refl _ _).alloc hbs _).drew.grown hgrow (A3.out _) (fun k hk => (hown.lt k hk).1))
        simp only [hexC_at] at hown'
        rw [hex_nat, hex_nat', cellsOf_two, ← hexL_take s k hlt] at hown'
        clear hgrow A1 A2 A3 A4 A5 q3
        go_wp2
        go_roundw
        case rel => exact ⟨k + 1, by omega, by go_num, hown', hb'⟩
        case measure => simp [intOf]; omega
    · have e : s.data.toList.take k = s.data.toList := List.take_of_length_le (by simp; omega)
      rw [e] at hown
      have hcv := conv_own hown
      clear hown
      go_wp2
      go_ret
      exact ⟨rfl, hbel⟩

/-- The library's search for a byte. -/
theorem idx_entry (s : ByteArray) (c : Int) (w : World) : (callFunc 35 #[.string s, .int .u8 c]).run Tryd.prog w = .ok (.value (.int .i64 (Lib.indexByte s.data.toList c.toNat.toUInt8))) w := by
  rw [run_callFunc_extern Tryd.func35 (by kernel_rfl) (by kernel_rfl) (by kernel_rfl) (e := Extern.BytealgIndexByte.indexByte) (by kernel_rfl), Lib.run_indexByteString]
  rfl

set_option maxHeartbeats 400000 in
theorem index_any (s : ByteArray) (c : UInt8) (w : World) :
    Calls Tryd.prog 22 #[.string s, .int .u8 (c.toNat : Int)] w fun e w' => e = .returned (.int .i64 (Lib.indexByte s.data.toList c)) ∧ w = w' := by
  have hd := fun w => idx_entry s (c.toNat : Int) w
  have e : (c.toNat : Int).toNat.toUInt8 = c := by simp
  rw [e] at hd
  clear e
  go_enter Tryd.func22, Tryd.ntmps22
  go_wp2
  go_ret
  exact ⟨rfl, rfl⟩

theorem index_hex (c : UInt8) : Lib.indexByte (ByteArray.mk #[48, 49, 50, 51, 52, 53, 54, 55, 56, 57, 97, 98, 99, 100, 101, 102]).data.toList c = fromHex c := rfl

theorem make_uh (s : ByteArray) (m : Nat) (w : World) (h : m ≤ 1048576) : (Instr.makeSlice 22 (.int .i64 m) (.int .i64 m)).run Tryd.prog w = .ok (.slice (some ⟨w.heap.size, 0, none⟩) m m) (w.alloc (.cells (uhArr s m 0) 5)) := by
  obtain ⟨i0, hi, hz0, hz1, hz2⟩ := info_parts Tryd.info5
  have h := run_make (P := Tryd.prog) w 22 5 i0 (.int .u8 0) Tryd.underlying22 hi hz0 .i64 .i64 m m (by omega) (by omega) (by rw [hz2]; omega) (by omega)
  rw [h, hz1]
  simp only [Int.toNat_natCast, Nat.mul_one]
  rw [show (Value.int .u8 0).cells = #[Value.int .u8 0] from rfl, uhArr_zero s m]

theorem conv_uh (s : ByteArray) (m : Nat) (w : World) : (convert 22 9 (.slice (some ⟨w.heap.size, 0, none⟩) m m)).run Tryd.prog (w.alloc (.cells (uhArr s m m) 5)) = .ok (.string ⟨(ubs s m).toArray⟩) (w.alloc (.cells (uhArr s m m) 5)) := by
  have h := run_convert_bytes_arg (P := Tryd.prog) (w.alloc (.cells (uhArr s m m) 5)) 22 5 Tryd.underlying22 Tryd.underlying5 w.heap.size 0 m m ((ubs s m).map (fun c => (c.toNat : Int))) (by simp [ubs_length]) (fun i hi => by
    rw [World.cell?_alloc_at _ _ _ _ rfl, Nat.zero_add]; exact uhArr_done s m i hi) 9 Tryd.underlying9
  rw [h, strOfNums_bytes]

theorem i64_or4 (a b : Int) (h0 : 0 ≤ a) (h1 : a ≤ 15) (h2 : 0 ≤ b) (h3 : b ≤ 15) : bits .or .i64 (a * 16) b = a * 16 + b :=
  bits_join .i64 63 (by decide) wraps_i64 4 (a * 16) b (by omega) (by omega) (by omega) h2 (by omega) (by omega)

set_option maxHeartbeats 800000 in
set_option maxRecDepth 100000 in
theorem implUnhex_odd (s : ByteArray) (w : World) (hs : s.size ≤ 1048576) (ho : s.size % 2 = 1) :
    Calls Tryd.prog 13 #[.string s] w fun e w' => ∃ r ok, e = .returned (.tuple #[.string r, .bool ok]) ∧ UH s r ok ∧ Below w.heap.size w w' := by
  have h1 : (((s.size : Int) % 2) != 0) = true := by rw [bne_iff_ne]; omega
  go_enter Tryd.func13, Tryd.ntmps13
  go_wp2
  go_ret2
  exact ⟨ByteArray.empty, false, rfl, uh_odd ho, Below.refl _ _⟩

set_option maxHeartbeats 800000 in
set_option maxRecDepth 100000 in
theorem implUnhex_even (s : ByteArray) (m : Nat) (w : World) (hs : s.size ≤ 1048576) (hm : Hid (s.size = 2 * m)) :
    Calls Tryd.prog 13 #[.string s] w fun e w' => ∃ r ok, e = .returned (.tuple #[.string r, .bool ok]) ∧ UH s r ok ∧ Below w.heap.size w w' := by
  have h1 : (((s.size : Int) % 2) != 0) = false := by have := hm.out; simp; omega
  have hq : (s.size : Int) / 2 = (m : Int) := by have := hm.out; omega
  have hm1 : 2 * m ≤ s.size := by have := hm.out; omega
  have hmk := make_uh s m w (by omega)
  have hcv := conv_uh s m w
  go_enter Tryd.func13, Tryd.ntmps13
  go_wp2
  go_loopw [18] (fun c wr => ∃ k : Nat, k ≤ m ∧ c = .int .i64 k ∧ wr = w.alloc (.cells (uhArr s m k) 5) ∧ Hid (digitsTo s (2 * k))) (fun c _ => m - (intOf c).toNat)
  case atStart => exact ⟨0, by omega, rfl, rfl, fun j hj => absurd hj (by omega)⟩
  case round =>
    obtain ⟨k, hk, rfl, rfl, HD⟩ := hrel
    clear hmk
    by_cases hlt : k < m
    · have hl0 : 2 * k < s.size := by omega
      have hl1 : 2 * k + 1 < s.size := by omega
      have HA : Hid (fromHex (s[2 * k]) = fromHex (s.data.toList.getD (2 * k) 0)) := by unfold Hid; rw [getD_data s _ hl0]
      have HB : Hid (fromHex (s[2 * k + 1]) = fromHex (s.data.toList.getD (2 * k + 1) 0)) := by unfold Hid; rw [getD_data s _ hl1]
      obtain ⟨ba0, ba1⟩ := fromHex_bd s[2 * k]
      obtain ⟨bb0, bb1⟩ := fromHex_bd s[2 * k + 1]
      clear hcv
      by_cases ha : fromHex s[2 * k] < 0
      · skip
        go_wp2_with fail
        refine (index_any _ _ _).mono ?_
        rintro e w' ⟨rfl, rfl⟩
        rw [index_hex]
        go_wp2_with fail
        refine (index_any _ _ _).mono ?_
        rintro e w' ⟨rfl, rfl⟩
        rw [index_hex]
        go_wp2
        go_ret2
        exact ⟨ByteArray.empty, false, rfl, uh_bad (2 * k) hl0 (by rw [← HA.out]; exact ha), (Below.refl _ _).alloc (Nat.le_refl _) _⟩
      · by_cases hb : fromHex s[2 * k + 1] < 0
        · skip
          go_wp2_with fail
          refine (index_any _ _ _).mono ?_
          rintro e w' ⟨rfl, rfl⟩
          rw [index_hex]
          go_wp2_with fail
          refine (index_any _ _ _).mono ?_
          rintro e w' ⟨rfl, rfl⟩
          rw [index_hex]
          go_wp2
          go_ret2
          exact ⟨ByteArray.empty, false, rfl, uh_bad (2 * k + 1) hl1 (by rw [← HB.out]; exact hb), (Below.refl _ _).alloc (Nat.le_refl _) _⟩
        · have HN : Hid (((ub s k).toNat : Int) = 16 * fromHex s[2 * k] + fromHex s[2 * k + 1]) := ub_num _ _ HA.out HB.out (by omega) (by omega)
          obtain ⟨v0, hv0⟩ := uhArr_get s m k k hk hlt
          have ho := i64_or4 (fromHex s[2 * k]) (fromHex s[2 * k + 1]) (by omega) (by omega) (by omega) (by omega)
          go_wp2_with fail
          refine (index_any _ _ _).mono ?_
          rintro e w' ⟨rfl, rfl⟩
          rw [index_hex]
          go_wp2_with fail
          refine (index_any _ _ _).mono ?_
          rintro e w' ⟨rfl, rfl⟩
          rw [index_hex]
          go_wp2
          go_roundw
          case rel => exact ⟨k + 1, by omega, by go_num, by rw [uhArr_set s m k _ hlt (by rw [HN.out]; omega)], digits_step HD.out (by rw [← HA.out]; omega) (by rw [← HB.out]; omega)⟩
          case measure => simp [intOf]; omega
    · have e : k = m := by omega
      subst e
      have HE : Hid (UH s ⟨(ubs s k).toArray⟩ true) := uh_done hm.out.symm HD.out
      go_wp2
      go_ret2
      exact ⟨_, true, rfl, HE.out, (Below.refl _ _).alloc (Nat.le_refl _) _⟩

theorem implUnhex_any (s : ByteArray) (w : World) (hs : s.size ≤ 1048576) :
    Calls Tryd.prog 13 #[.string s] w fun e w' => ∃ r ok, e = .returned (.tuple #[.string r, .bool ok]) ∧ UH s r ok ∧ Below w.heap.size w w' := by
  by_cases h : s.size % 2 = 1
  · exact implUnhex_odd s w hs h
  · exact implUnhex_even s (s.size / 2) w hs (Hid.intro (by omega))

end Go.Proofs.YtofgpnhieopcoaaDoor
