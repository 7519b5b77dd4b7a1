/- Marks: markText; rows of names that are marked hold their marks. -/
import Derived.Test.YtknckbedddeijaaGreatTCurVo
import Derived.Deep.RegionWith
namespace Go.Proofs.YtknckbedddeijaaGreat
open Go.RowKit
set_option linter.unusedVariables false
/-- The mark of a number, its digits ahead of acc. -/
def markD : Nat → Nat → List UInt8 → List UInt8
 | 0, _, acc => acc
 | fuel + 1, k, acc => if k = 0 then acc else markD fuel (k / 10) ((48 + UInt8.ofNat (k % 10)) :: acc)
def markS (k : Nat) : ByteArray := ⟨(109 :: markD 12 k []).toArray⟩
theorem val_strM {a b : ByteArray} (h : a = b) : Value.string a = .string b := by rw [h]
theorem conv_one (w : World) (x : Int) : (convert 100 9 (.slice (some ⟨w.heap.size, 0, none⟩) 1 1)).run Tryz.prog (w.alloc (.cells #[.int .u8 x] 5)) = .ok (.string ⟨#[UInt8.ofNat x.toNat]⟩) (w.alloc (.cells #[.int .u8 x] 5)) :=
 run_convert_bytes_arg (P := Tryz.prog) _ 100 5 Tryz.underlying100 Tryz.underlying5 w.heap.size 0 1 1 [x] rfl (fun i hi => by
  obtain rfl : i = 0 := by omega
  rw [World.cell?_alloc_at _ _ _ _ rfl]; rfl) 9 Tryz.underlying9
theorem append_one (c : UInt8) (l : List UInt8) : (ByteArray.mk #[c]) ++ ⟨l.toArray⟩ = ⟨(c :: l).toArray⟩ := by
 apply ByteArray.ext
 rw [ByteArray.data_append]
 apply Array.ext'
 simp
set_option maxHeartbeats 400000 in
theorem markText_any (k : Nat) (w : World) (h1 : 1 ≤ k) (hk : k ≤ 100000000000) :
  Calls Tryz.prog 35 #[.int .i64 k] w fun e w' => e = .returned (.string (markS k)) ∧ Below w.heap.size w w' := by
 have g1 : ¬ (k : Int) ≤ 0 := by omega
 go_enter Tryz.func35, Tryz.ntmps35
 go_wp2
 go_loopw [0, 3] (fun c o wr => ∃ (fuel m : Nat) (acc : List UInt8), c = .int .i64 m ∧ o = .string ⟨acc.toArray⟩ ∧ m ≤ 100000000000 ∧ Hid (m < 10 ^ fuel) ∧ acc.length ≤ 13 ∧ Hid (acc.length + fuel = 12) ∧ Hid (markD fuel m acc = markD 12 k []) ∧ Below w.heap.size w wr) (fun c _ _ => (intOf c).toNat)
 case atStart => exact ⟨12, k, [], rfl, rfl, hk, by unfold Hid; omega, by simp, rfl, rfl, Below.refl _ _⟩
 case round =>
  obtain ⟨fuel, m, acc, rfl, rfl, hm, HF, ha, HA, HD, hbel⟩ := hrel
  by_cases hz : 0 < m
  ·have hcv := conv_one wr (48 + (m : Int) % 10)
   go_wp2
   obtain ⟨f, hf⟩ : ∃ f, fuel = f + 1 := by
    cases fuel with
    | zero => have := HF.out; simp at this; omega
    | succ f => exact ⟨f, rfl⟩
   subst hf
   go_roundw
   case rel => exact ⟨f, m / 10, (48 + UInt8.ofNat (m % 10)) :: acc, by go_num, val_strM (append_one _ acc), by omega, by have := HF.out; unfold Hid; rw [Nat.pow_succ] at this; omega, by have := HA.out; simp; omega, by have := HA.out; unfold Hid; simp; omega, by have := HD.out; unfold Hid; rw [← this, markD, if_neg (by omega)], hbel.alloc hbel.size _⟩
   case measure => simp [intOf]; omega
  ·obtain rfl : m = 0 := by omega
   have HE : Hid (acc = markD 12 k []) := by
    have := HD.out
    unfold Hid
    rw [← this]
    cases fuel <;> simp [markD]
   go_wp2
   go_ret
   exact ⟨ret_str (by rw [markS, ← HE.out]; exact append_one 109 acc), hbel⟩
def markI (x : Int) : ByteArray := markS x.toNat
theorem markText_int (x : Int) (w : World) (h1 : 1 ≤ x) (hk : x ≤ 100000000000) :
  Calls Tryz.prog 35 #[.int .i64 x] w fun e w' => e = .returned (.string (markI x)) ∧ Below w.heap.size w w' := by
 obtain ⟨k, rfl⟩ := Int.eq_ofNat_of_zero_le (show 0 ≤ x by omega)
 exact markText_any k w (by omega) (by omega)
/-- The mark of place j, from q on. -/
def mkD (q : Int) (j : Nat) : Di := ⟨markI (q + 2 * j), q + 2 * j + 1⟩
def markDL (q : Int) (L : List Di) : Nat → List Di
 | 0 => L
 | j + 1 => (markDL q L j).set j (mkD q j)
theorem markDL_len (q : Int) (L : List Di) (j : Nat) : (markDL q L j).length = L.length := by
 induction j with
 | zero => rfl
 | succ j ih => simp [markDL, ih]
theorem markDL_get (q : Int) (L : List Di) (n i : Nat) (hi : i < n) (hL : i < (markDL q L n).length) : (markDL q L n)[i] = mkD q i := by
 induction n with
 | zero => omega
 | succ n ih =>
  simp only [markDL, List.getElem_set]
  split
  ·rename_i h; subst h; rfl
  ·exact ih (by omega) (by rw [markDL_len] at hL ⊢; exact hL)
set_option maxRecDepth 100000 in
set_option maxHeartbeats 2000000 in
theorem markD_any (L : List Di) (v : Value) (base : Nat) (q : Int) (w : World) (hb : base ≤ w.heap.size) (ho : Own diE 102 w base v L) (hl : L.length ≤ 2000000) (h1 : 1 ≤ q) (h2 : q ≤ 100000000) :
  Calls Tryz.prog 36 #[v, .int .i64 q] w fun e w' => e = .returned (.int .i64 (q + 2 * (L.length : Nat))) ∧ Own diE 102 w' base v (markDL q L L.length) ∧ Only (fun k => some k = v.ownBlock) w w' := by
 rcases ho.look with ⟨rfl, rfl⟩ | ⟨g, cap, rfl, hg1, hg2, hc1, hc2⟩
 ·go_enter Tryz.func36, Tryz.ntmps36
  go_wp2
  refine wp_loop_rounds 1 ?_
  rw [rounds_succ]
  go_wp2
  go_ret
  exact ⟨ret_int (by simp), ho, Only.refl _ _⟩
 ·obtain ⟨n, hn⟩ : ∃ n, L.length = n := ⟨_, rfl⟩
  have HO := Hid.intro ho
  have HN := Hid.intro hn
  rw [hn] at hl hc1 HO ⊢
  clear ho hn
  go_enter Tryz.func36, Tryz.ntmps36
  go_wp2
  go_loopw [1, 5] (fun x i wr => ∃ (j : Nat), i = .int .i64 j ∧ x = .int .i64 (q + 2 * (j : Nat)) ∧ j ≤ n ∧ Hid (Own diE 102 wr base (.slice (some ⟨g, 0, none⟩) n cap) (markDL q L j)) ∧ Only (fun k => some k = some g) w wr) (fun _ i _ => n - (intOf i).toNat)
  case atStart => exact ⟨0, rfl, by simp, Nat.zero_le _, HO, Only.refl _ _⟩
  case round =>
   obtain ⟨j, rfl, rfl, hj, HR, hO⟩ := hrel
   by_cases hlt : j < n
   ·have hml : (markDL q L j).length = n := by rw [markDL_len]; exact HN.out
    have HML := Hid.intro hml
    have hgw : g < wr.heap.size := (HR.out.lt g rfl).2
    have HG := Hid.intro hgw
    clear hml
    go_wp2_with fail
    refine (markText_int _ _ (by omega) (by omega)).mono ?_
    rintro e w1 ⟨rfl, b1⟩
    have HR1 := Hid.intro (HR.out.kept b1)
    obtain ⟨y0, q0⟩ := HR1.out.has HML.out hlt (i := 0) (by decide)
    obtain ⟨y1, q1⟩ := HR1.out.has HML.out hlt (i := 1) (by decide)
    simp only [Nat.add_zero, show diE.n = 2 from rfl] at q0 q1
    have f0 := HR1.out.frozen HML.out
    have O1 : Only (fun k => some k = some g) w w1 := hO.trans (Below.any b1)
    have HS : Hid (Own diE 102 ((w1.setCell ⟨g, j * 2, none⟩ (.string (markI (q + 2 * (j : Nat))))).setCell ⟨g, j * 2 + 1, none⟩ (.int .i64 (q + 2 * (j : Nat) + 1))) base (.slice (some ⟨g, 0, none⟩) n cap) (markDL q L (j + 1))) := HR1.out.store HML.out hlt (mkD q j)
    clear HR b1 HR1 hO
    go_wp2
    go_roundw
    case rel => exact ⟨j + 1, by go_num, by go_num, by omega, HS, (O1.setCell rfl _).setCell rfl _⟩
    case measure => simp [intOf]; omega
   ·obtain rfl : j = n := by omega
    go_wp2
    go_ret
    exact ⟨rfl, HR.out, hO⟩
set_option maxRecDepth 100000 in
set_option maxHeartbeats 2000000 in
theorem heldD_any (M : List Di) (v : Value) (N : Nat) (q : Int) (w : World) (hN : N ≤ w.heap.size) (hr : Row diE w N v M) (hM : ∀ i (h : i < M.length), M[i] = mkD q i) (hl : M.length ≤ 2000000) (h1 : 1 ≤ q) (h2 : q ≤ 100000000) :
  Calls Tryz.prog 37 #[v, .int .i64 q] w fun e w' => e = .returned (.int .i64 (q + 2 * (M.length : Nat))) ∧ Below w.heap.size w w' := by
 obtain ⟨a, cap, rfl, lc, hm, hcells⟩ := diE_cell hr
 have HC := Hid.intro hcells
 have HM := Hid.intro hM
 clear hcells hM
 go_enter Tryz.func37, Tryz.ntmps37
 go_wp2
 go_loopw [1, 5] (fun x i wr => ∃ (j : Nat), i = .int .i64 j ∧ x = .int .i64 (q + 2 * (j : Nat)) ∧ j ≤ M.length ∧ Below w.heap.size w wr) (fun _ i _ => M.length - (intOf i).toNat)
 case atStart => exact ⟨0, rfl, by simp, Nat.zero_le _, Below.refl _ _⟩
 case round =>
  obtain ⟨j, rfl, rfl, hj, hbel⟩ := hrel
  by_cases hlt : j < M.length
  ·obtain ⟨b, off, rfl, hbN, hcc⟩ := HC.out (by intro h; rw [h] at hlt; simp at hlt)
   obtain ⟨c0, c1⟩ := hcc j hlt
   rw [HM.out j hlt] at c0 c1
   have g0 : wr.cell? ⟨b, off + j * 2, none⟩ = some (.string (markI (q + 2 * (j : Nat)))) := atCell hbel c0 (by omega)
   have hs := hbel.size
   have HX : Hid (∀ w', Below wr.heap.size wr w' → w'.cell? ⟨b, off + j * 2, none⟩ = some (.string (markI (q + 2 * (j : Nat)))) ∧ w'.cell? ⟨b, off + j * 2 + 1, none⟩ = some (.int .i64 (q + 2 * (j : Nat) + 1)) ∧ Below w.heap.size w w') := fun w' hb => ⟨atCell (hbel.trans (hb.mono hs)) c0 (by omega), atCell (hbel.trans (hb.mono hs)) c1 (by omega), hbel.trans (hb.mono hs)⟩
   have i1 : (0 : Int) ≤ (j : Int) ∧ (j : Int) < (M.length : Int) := by omega
   have i2 : (j : Int) < (M.length : Int) := by omega
   clear hcc c0 c1
   go_wp2
   go_region_with (go_at_call 35; refine (markText_int _ _ (by omega) (by omega)).mono ?_; rintro e w1 ⟨rfl, b1⟩; obtain ⟨x0, x1, B1⟩ := HX.out w1 (by first | exact b1 | exact ((Below.refl _ _).drew).trans b1); clear b1)
   all_goals
    clear HX g0
    go_wp2
    go_roundw
    case rel => exact ⟨j + 1, by go_num, by go_num, by omega, B1⟩
    case measure => simp [intOf]; omega
  ·obtain rfl : j = M.length := by omega
   go_wp2
   go_ret
   exact ⟨rfl, hbel⟩
end Go.Proofs.YtknckbedddeijaaGreat
