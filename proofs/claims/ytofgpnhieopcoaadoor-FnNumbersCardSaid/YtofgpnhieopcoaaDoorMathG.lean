/- Plain facts: what is made of a number is read as it. -/
import Derived.Test.YtofgpnhieopcoaaDoorMathC
import Derived.Test.YtofgpnhieopcoaaDoorMathE
import Derived.Test.YtofgpnhieopcoaaDoorMathF
namespace Go.Proofs.YtofgpnhieopcoaaDoor
open Go.RowKit

theorem vnum_vby (f n : Nat) (h : n < 128 ^ (f + 1)) : vnum (vby f n) = n := by
  induction f generalizing n with
  | zero =>
    simp at h
    simp only [vby, vnum]
    have : (UInt8.ofNat n).toNat = n := by simp; omega
    rw [this]; omega
  | succ f ih =>
    by_cases hn : n < 128
    · rw [vby_last _ _ hn]
      have : (UInt8.ofNat n).toNat = n := by simp; omega
      simp only [vnum, this]; omega
    · rw [Nat.pow_succ] at h
      rw [vby_more f n (by omega)]
      have e := ih (n / 128) (Nat.div_lt_of_lt_mul (by omega))
      have hb : (UInt8.ofNat (128 + n % 128)).toNat = 128 + n % 128 := by simp; omega
      simp only [vnum, e, hb]
      omega

theorem varS_size (n : Nat) : 1 ≤ (varS n).size ∧ (varS n).size ≤ 7 := by
  have h : (varS n).size = (varL n).length := by
    show (varL n).toArray.size = _
    simp
  have := vby_length 6 n
  rw [h]
  exact this

/-- What Var makes is read as it, whatever stands behind. -/
theorem RV_var (n : Nat) (hn : n ≤ 562949953421311) (t : List UInt8) : RV (varL n ++ t) n (varL n).length := by
  have hl := vby_length 6 n
  have e : (varL n ++ t).take (varL n).length = varL n := List.take_left
  refine .inl ⟨hl.1, hl.2, by simp, by rw [e]; exact varL_good n hn, ?_⟩
  rw [e]
  exact (vnum_vby 6 n (by omega)).symm

theorem rd_be (n k : Nat) : rd (be n k) = ((n % 256 ^ k : Nat) : Int) := by
  have gen : ∀ (k : Nat) (acc : Int), (be n k).foldl (fun m c => m * 256 + (c.toNat : Int)) acc = acc * 256 ^ k + ((n % 256 ^ k : Nat) : Int) := by
    intro k
    induction k with
    | zero => intro acc; simp [be, Nat.mod_one]
    | succ k ih =>
      intro acc
      have hb : (UInt8.ofNat (n / 256 ^ k % 256)).toNat = n / 256 ^ k % 256 := by simp
      simp only [be, List.foldl_cons]
      rw [ih, hb]
      have hm : n % 256 ^ (k + 1) = n / 256 ^ k % 256 * 256 ^ k + n % 256 ^ k := by
        rw [Nat.pow_succ, Nat.mod_mul]
        rw [Nat.mul_comm (256 ^ k)]
        omega
      rw [hm, Int.natCast_add, Int.natCast_mul, Int.natCast_pow, Int.add_mul, Int.pow_succ, Int.mul_assoc, Int.mul_comm 256 (256 ^ k), Int.add_assoc]
      rfl
  have := gen k 0
  unfold rd
  rw [this]
  simp

/-- What Fixed makes is read as it. -/
theorem rd_fixed (n : Nat) (hn : n < 72057594037927936) (t : List UInt8) : rd ((be n 7 ++ t).take 7) = (n : Int) := by
  have e : (be n 7 ++ t).take 7 = be n 7 := by
    have := List.take_left (l₁ := be n 7) (l₂ := t)
    rw [be_length] at this
    exact this
  rw [e, rd_be]
  have : n % 256 ^ 7 = n := Nat.mod_eq_of_lt (by omega)
  rw [this]

theorem fixed_small (n : Nat) (hn : n < 72057594037927936) : n / 256 ^ 7 = 0 := by
  have : 256 ^ 7 = 72057594037927936 := by decide
  omega
theorem fixed_great (n : Nat) (hn : 72057594037927936 ≤ n) : ¬ n / 256 ^ 7 = 0 := by
  have : 256 ^ 7 = 72057594037927936 := by decide
  omega

/-- The numeral of an int says it. -/
theorem dval_decL (x : Int) (h0 : -9223372036854775808 ≤ x) (h1 : x ≤ 9223372036854775807) : dval (decL x) = x := by
  by_cases hz : x = 0
  · subst hz
    rw [decL_zero]; rfl
  · by_cases hn : x < 0
    · obtain ⟨n, hx⟩ : ∃ n : Nat, x = -(n : Int) := ⟨x.natAbs, by omega⟩
      subst hx
      obtain ⟨a, b, c, d⟩ := decP_good 20 n (by omega) (by omega)
      rw [decL_neg n (by omega)]
      have hlen : 1 ≤ (decP 20 n).length := by
        cases hh : decP 20 n with
        | nil => exact absurd hh c
        | cons y l => simp
      obtain ⟨e1, e2⟩ := gram_of (l := 45 :: decP 20 n) (ds := decP 20 n) (neg := true) rfl a hlen
      rw [dval_neg e1, (scN_cut _).1, e2, d]
    · obtain ⟨n, hx⟩ : ∃ n : Nat, x = (n : Int) := ⟨x.natAbs, by omega⟩
      subst hx
      obtain ⟨a, b, c, d⟩ := decP_good 20 n (by omega) (by omega)
      rw [decL_pos n (by omega)]
      have hlen : 1 ≤ (decP 20 n).length := by
        cases hh : decP 20 n with
        | nil => exact absurd hh c
        | cons y l => simp
      obtain ⟨e1, e2⟩ := gram_of (l := decP 20 n) (ds := decP 20 n) (neg := false) rfl a hlen
      rw [dval_pos e1, (scN_cut _).1, e2, d]

theorem RD_small (x : Int) (h : -999999999 ≤ x ∧ x ≤ 999999999) : RD (decL x) x true := by
  obtain ⟨g, e⟩ := gram_dec x h
  exact .inl ⟨rfl, g, e.symm⟩
theorem RD_great (x : Int) (h0 : -9223372036854775808 ≤ x) (h1 : x ≤ 9223372036854775807) (h : x < -999999999 ∨ 999999999 < x) : RD (decL x) 0 false := by
  refine .inr ⟨rfl, rfl, fun g => ?_⟩
  have b := dval_bd (gram_scan g).1
  rw [dval_decL x h0 h1] at b
  omega

theorem fromHex_hexC (k : Nat) (h : k < 16) : fromHex (hexC k) = k := by
  have : ∀ k : Fin 16, fromHex (hexC k.val) = (k.val : Int) := by decide
  exact this ⟨k, h⟩

theorem hexL_getD (l : List UInt8) (j : Nat) (hj : j < l.length) : (hexL l).getD (2 * j) 0 = hexC ((l.getD j 0).toNat / 16) ∧ (hexL l).getD (2 * j + 1) 0 = hexC ((l.getD j 0).toNat % 16) := by
  induction l generalizing j with
  | nil => simp at hj
  | cons c l ih =>
    cases j with
    | zero => simp [hexL]
    | succ j =>
      have := ih j (by simpa using hj)
      have e : 2 * (j + 1) = 2 * j + 1 + 1 := by omega
      rw [e]
      simpa [hexL] using this

/-- What Hex makes of a text is read as it. -/
theorem UH_hex (s : ByteArray) : UH (hexS s) s true := by
  have hsz : (hexS s).size = 2 * s.size := by
    show (hexL s.data.toList).toArray.size = _
    simp [hexL_length]
  have hd : (hexS s).data.toList = hexL s.data.toList := rfl
  have at2 : ∀ j, j < s.size → fromHex ((hexS s).data.toList.getD (2 * j) 0) = (((s.data.toList.getD j 0).toNat / 16 : Nat) : Int) ∧ fromHex ((hexS s).data.toList.getD (2 * j + 1) 0) = (((s.data.toList.getD j 0).toNat % 16 : Nat) : Int) := by
    intro j hj
    rw [hd]
    obtain ⟨e1, e2⟩ := hexL_getD s.data.toList j (by simpa using hj)
    have := (s.data.toList.getD j 0).toNat_lt
    rw [e1, e2, fromHex_hexC _ (by omega), fromHex_hexC _ (by omega)]
    exact ⟨rfl, rfl⟩
  refine .inl ⟨rfl, by omega, ?_, ?_⟩
  · intro j hj
    obtain ⟨a, b⟩ := at2 (j / 2) (by omega)
    by_cases h : j % 2 = 0
    · have e : 2 * (j / 2) = j := by omega
      rw [e] at a
      rw [a]; omega
    · have e : 2 * (j / 2) + 1 = j := by omega
      rw [e] at b
      rw [b]; omega
  · have e : (hexS s).size / 2 = s.size := by omega
    rw [e]
    have hl : ubs (hexS s) s.size = s.data.toList := by
      apply List.ext_getElem
      · simp [ubs_length]
      · intro j h1 h2
        have hj : j < s.size := by simpa using h2
        obtain ⟨a, b⟩ := at2 j hj
        simp only [ubs, List.getElem_map, List.getElem_range]
        unfold ub
        rw [a, b]
        have g : s.data.toList.getD j 0 = s.data.toList[j] := by rw [List.getD_eq_getElem?_getD, List.getElem?_eq_getElem h2]; rfl
        rw [g]
        have hc := (s.data.toList[j]).toNat_lt
        have e2 : (16 * (((s.data.toList[j]).toNat / 16 : Nat) : Int) + (((s.data.toList[j]).toNat % 16 : Nat) : Int)).toNat = (s.data.toList[j]).toNat := by omega
        rw [e2]
        simp
    rw [hl]

/-- What ReadVar takes is what Var makes. -/
theorem RV_back {l : List UInt8} {x k : Nat} (h : RV l x k) (hk : k ≠ 0) : x ≤ 562949953421311 ∧ k ≤ l.length ∧ varL x = l.take k := by
  rcases h with ⟨a1, a7, al, ag, ax⟩ | ⟨_, e, _⟩
  · have h7 : (l.take k).length ≤ 7 := Nat.le_trans (List.length_take_le _ _) a7
    refine ⟨by rw [ax]; exact vnum_le _ h7, al, ?_⟩
    rw [ax]
    exact varL_vnum ag h7
  · exact absurd e hk

end Go.Proofs.YtofgpnhieopcoaaDoor
