/- Contracts of Var and ReadVar on both sides. -/
import Derived.Test.YtnhjicbgmocilaaGreatTMath
import Derived.Test.YtnhjicbgmocilaaGreatTLeaf
import Derived.Deep.RegionWith
import Derived.OwnWalk
namespace Go.Proofs.YtnhjicbgmocilaaGreat
open Go.RowKit
set_option linter.unusedVariables false
/-- A row of bytes that the call owns, made a text. -/
theorem Tryz.infoU8' : (Tryz.prog.info? 5).map (fun i => (i.zero, i.size, i.bytes)) = some (some (.int .u8 0), 1, 1) := by kernel_rfl

theorem conv_own {w : World} {base : Nat} {v : Value} {n : Nat} {l : List UInt8} (h : w.ownsRow base 5 1 v n (cellsOf l)) :
    (convert 122 9 v).run Tryz.prog w = .ok (.string ⟨l.toArray⟩) w := by
  obtain ⟨hl, h2⟩ := h
  rcases h2 with ⟨rfl, rfl⟩ | ⟨g, cap, cur, rfl, hb, hg, hn, hc, hs, ht⟩
  · have : l = [] := by simpa [cellsOf] using hl
    subst this
    exact run_convert_bytes_nil (P := Tryz.prog) w 122 5 Tryz.underlying122 Tryz.underlying5 0 0 9 Tryz.underlying9
  · have hlen : l.length = n := by simpa [cellsOf] using hl
    have h := run_convert_bytes_arg (P := Tryz.prog) w 122 5 Tryz.underlying122 Tryz.underlying5 g 0 n cap (l.map (fun c => (c.toNat : Int))) (by simpa using hlen) (fun i hi => by
      rw [cell_of_row w g (0 + i) cur 5 (0, 0) hg, Nat.zero_add]
      have e : (cur.toList.take (n * 1))[i]? = (cellsOf l)[i]? := by rw [ht]
      rw [List.getElem?_take, if_pos (by omega)] at e
      have hi' : i < l.length := by omega
      simp [cellsOf, hi'] at e
      simp [hi', e]) 9 Tryz.underlying9
    rw [h, strOfNums_bytes]

theorem varStart (w : World) : (w.alloc (.cells #[] 5)).ownsRow w.heap.size 5 1 (.slice (some ⟨w.heap.size, 0, none⟩) 0 0) 0 (cellsOf []) :=
  World.ownsRow_made w #[] 0 (Nat.le_refl _) (by decide) rfl

theorem i64_or128 (y : Int) (h₀ : 0 ≤ y) (h₁ : y < 128) : bits .or .i64 y 128 = 128 + y := by
  have hc : bits .or .i64 y 128 = bits .or .i64 128 y := by simp only [bits, BitVec.or_comm]
  rw [hc, bits_join .i64 63 (by decide) wraps_i64 7 128 y (by decide) (by decide) (by decide) h₀ (by omega) (by omega)]

theorem ret2_ints {a b c d : Int} (h : a = b) (h' : c = d) : Ending.returned (.tuple #[.int .i64 a, .int .i64 c]) = .returned (.tuple #[.int .i64 b, .int .i64 d]) := by rw [h, h']

theorem drop_step (s : ByteArray) (k p : Nat) (hp : p < k) (hk : k ≤ s.size) : vnum ((s.data.toList.take k).drop p) = (s[p]'(by omega)).toNat % 128 + 128 * vnum ((s.data.toList.take k).drop (p + 1)) := by
  have hl : p < (s.data.toList.take k).length := by
    have : s.data.toList.length = s.size := by simp
    rw [List.length_take]; omega
  rw [List.drop_eq_getElem_cons hl]
  have : (s.data.toList.take k)[p] = s[p]'(by omega) := by rw [List.getElem_take]; rfl
  rw [this]; rfl

theorem drop_le (l : List UInt8) (k p : Nat) (h : k ≤ p + 6) : vnum ((l.take k).drop p) ≤ 4398046511103 := by
  have h1 := vnum_lt ((l.take k).drop p)
  have h2 : 128 ^ ((l.take k).drop p).length ≤ 128 ^ 6 := Nat.pow_le_pow_right (by omega) (by simp; omega)
  have h3 : 128 ^ 6 = 4398046511104 := by decide
  omega

theorem extract_take (s : ByteArray) (k : Nat) : (s.extract 0 k).toList = s.data.toList.take k := by
  rw [ByteArray.toList_eq]
  obtain ⟨⟨l⟩⟩ := s
  simp

theorem varS_toList (n : Nat) : (varS n).toList = varL n := by
  rw [ByteArray.toList_eq]; rfl

theorem beq_take (s : ByteArray) (k : Nat) (h7 : k ≤ 7) : ((varS (vnum (s.data.toList.take k))).toList == (s.extract 0 k).toList) = true ↔ VarT (s.data.toList.take k) := by
  rw [extract_take, varS_toList, beq_iff_eq]
  exact varL_iff (Nat.le_trans (List.length_take_le _ _) h7)

end Go.Proofs.YtnhjicbgmocilaaGreat
