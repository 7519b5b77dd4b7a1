/- Pieces, numbers below 0, rows of numbers as texts, on both sides. -/
import Derived.Test.YtdnngbdkmdphoaaTVar
import Derived.Test.YtdnngbdkmdphoaaTBld
import Derived.Test.YtdnngbdkmdphoaaPMath
namespace Go.Proofs.Ytdnngbdkmdphoaa
open Go.RowKit
set_option linter.unusedVariables false
/-- A text behind its length. -/
def piece (s : ByteArray) : ByteArray := varS s.size ++ s
theorem piece_le (s : ByteArray) : (piece s).size ≤ s.size + 7 := by
  have := varS_le s.size
  simp only [piece, ByteArray.size_append]; omega
/-- A number that may be below 0, laid between the others. -/
def foldN (n : Int) : Nat := if n < 0 then (-2 * n - 1).toNat else (2 * n).toNat
theorem foldN_neg {n : Int} (h : n < 0) : (foldN n : Int) = -2 * n - 1 := by rw [foldN, if_pos h]; omega
theorem foldN_pos {n : Int} (h : ¬ n < 0) : (foldN n : Int) = 2 * n := by rw [foldN, if_neg h]; omega
theorem foldN_le {n : Int} (h : -1000000 ≤ n ∧ n ≤ 1000000) : foldN n ≤ 562949953421311 := by
  rw [foldN]; split <;> omega
set_option maxRecDepth 100000 in
set_option maxHeartbeats 800000 in
theorem implPiece_any (s : ByteArray) (w : World) (hs : s.size ≤ 1048576) :
    Calls Try.prog 37 #[.string s] w fun e w' => e = .returned (.string (piece s)) ∧ Below w.heap.size w w' := by
  have hv := varS_le s.size
  go_enter Try.func37, Try.ntmps37
  go_wp2_with (go_at_call 36; refine (implVar_yes s.size _ (by omega)).mono ?_; rintro e w2 ⟨rfl, b2⟩)
  go_ret
  exact ⟨rfl, b2⟩
/-- A row of numbers as a text. -/
def varsL (L : List Nat) : List UInt8 := L.flatMap varL
theorem varsL_snoc (L : List Nat) (j : Nat) (h : j < L.length) : varsL (L.take j) ++ varL L[j] = varsL (L.take (j + 1)) := by
  rw [List.take_succ_eq_append_getElem h]
  unfold varsL
  rw [List.flatMap_append]
  congr 1
  simp only [List.flatMap_cons, List.flatMap_nil, List.append_nil]
theorem varL_le (n : Nat) : (varL n).length ≤ 7 := (vby_length 6 n).2
theorem varsL_le (L : List Nat) : (varsL L).length ≤ 7 * L.length := by
  induction L with
  | nil => simp [varsL]
  | cons a L ih =>
    have := varL_le a
    simp only [varsL, List.flatMap_cons, List.length_append, List.length_cons] at ih ⊢
    omega
set_option maxRecDepth 100000 in
set_option maxHeartbeats 2000000 in
theorem vars_any (b off cap : Nat) (L : List Nat) (w : World) (hL : L.length ≤ 100) (hb : b < w.heap.size) (hx : ∀ j (h : j < L.length), L[j] ≤ 562949953421311) (hcap : L.length ≤ cap) (hc : ∀ j (h : j < L.length), w.cell? ⟨b, off + j, none⟩ = some (.int .i64 (L[j] : Nat))) :
    Calls Try.prog 34 #[.slice (some ⟨b, off, none⟩) L.length cap] w fun e w' => e = .returned (.string ⟨(varsL L).toArray⟩) ∧ Below w.heap.size w w' := by
  have HX : Hid (∀ j (h : j < L.length), L[j] ≤ 562949953421311) := hx
  have HC : Hid (∀ j (h : j < L.length), w.cell? ⟨b, off + j, none⟩ = some (.int .i64 (L[j] : Nat))) := hc
  clear hx hc
  go_enter Try.func34, Try.ntmps34
  have hB := bld_fresh w
  go_wp2
  go_loopw [8] (fun i wr => ∃ j : Nat, i = .int .i64 j ∧ j ≤ L.length ∧ Hid (BldAt w.heap.size w.heap.size (varsL (L.take j)) wr) ∧ Below w.heap.size w wr) (fun i _ => L.length - (intOf i).toNat)
  case atStart => exact ⟨0, rfl, Nat.zero_le _, hB, one_below _ _⟩
  case round =>
    obtain ⟨j, rfl, hj, HB, hbel⟩ := hrel
    have hbs := hbel.size
    by_cases hlt : j < L.length
    · have hlt' : (j : Int) < (L.length : Int) := by omega
      have hcell := (hbel.cell (p := ⟨b, off + j, none⟩) hb).trans (HC.out j hlt)
      have hv := HX.out j hlt
      have hl := varsL_le (L.take j)
      have hl2 : (L.take j).length ≤ 100 := Nat.le_trans (List.length_take_le _ _) (by omega)
      have hvs := varS_le L[j]
      have HS : Hid (varsL (L.take j) ++ (varS L[j]).data.toList = varsL (L.take (j + 1))) := by
        show varsL (L.take j) ++ varL L[j] = _
        exact varsL_snoc L j hlt
      generalize L[j] = x at hcell hv hvs HS
      generalize varsL (L.take j) = P at HB hl HS
      go_wp2_with fail
      refine (implVar_yes x _ hv).mono ?_
      rintro e w1 ⟨rfl, b1⟩
      have h1 := bld_kept HB.out b1
      have B1 := hbel.trans (b1.mono hbs)
      have z1 := b1.size
      clear hcell b1 hbel
      go_wp2_with fail
      refine (bldWrite_any w.heap.size w.heap.size P (varS x) _ h1 (by omega) (by omega)).mono ?_
      rintro e w2 ⟨rfl, h2, b2⟩
      rw [HS.out] at h2
      have B2 := B1.trans b2
      clear h1 B1 b2
      have H2 : Hid (BldAt w.heap.size w.heap.size (varsL (L.take (j + 1))) w2) := h2
      clear h2
      go_wp2
      go_roundw
      case rel => exact ⟨j + 1, by go_num, by omega, H2, B2⟩
      case measure => simp [intOf]; omega
    · have hlt' : ¬ (j : Int) < (L.length : Int) := by omega
      have e : L.take j = L := List.take_of_length_le (by omega)
      rw [e] at HB
      go_wp2_with fail
      refine (bldString_any w.heap.size w.heap.size (varsL L) _ HB.out hbs).mono ?_
      rintro e w2 ⟨rfl, b2⟩
      have B2 := hbel.trans b2
      go_wp2
      go_ret
      exact ⟨rfl, B2⟩
end Go.Proofs.Ytdnngbdkmdphoaa
