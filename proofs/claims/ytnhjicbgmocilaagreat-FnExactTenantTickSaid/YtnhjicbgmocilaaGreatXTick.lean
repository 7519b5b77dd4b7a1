/- The program's TenantTick. -/
import Derived.Test.YtnhjicbgmocilaaGreatVLawD
import Derived.Deep.RegionWith
import Derived.Test.YtnhjicbgmocilaaGreatXTen
import Derived.Deep.CutRange
import Derived.Deep.CutBlock
import Derived.Test.YtnhjicbgmocilaaGreatTInc
import Derived.Deep.RegionHeld3
import Derived.Test.YtnhjicbgmocilaaGreatVSpecE
import Derived.Test.YtnhjicbgmocilaaGreatXTenI
import Derived.Test.YtnhjicbgmocilaaGreatXTenOkI
namespace Go.Proofs.YtnhjicbgmocilaaGreat
open Go.RowKit
set_option linter.unusedVariables false
/-- The mark of a number, its digits ahead of acc. -/
def markD : Nat → Nat → List UInt8 → List UInt8
  | 0, _, acc => acc
  | fuel + 1, k, acc => if k = 0 then acc else markD fuel (k / 10) ((48 + UInt8.ofNat (k % 10)) :: acc)
def markS (k : Nat) : ByteArray := ⟨(109 :: markD 20 k []).toArray⟩
theorem val_strM {a b : ByteArray} (h : a = b) : Value.string a = .string b := by rw [h]
theorem conv_one (w : World) (x : Int) : (convert 122 9 (.slice (some ⟨w.heap.size, 0, none⟩) 1 1)).run Tryz.prog (w.alloc (.cells #[.int .u8 x] 5)) = .ok (.string ⟨#[UInt8.ofNat x.toNat]⟩) (w.alloc (.cells #[.int .u8 x] 5)) :=
  run_convert_bytes_arg (P := Tryz.prog) _ 122 5 Tryz.underlying122 Tryz.underlying5 w.heap.size 0 1 1 [x] rfl (fun i hi => by
    obtain rfl : i = 0 := by omega
    rw [World.cell?_alloc_at _ _ _ _ rfl]; rfl) 9 Tryz.underlying9
theorem append_one (c : UInt8) (l : List UInt8) : (ByteArray.mk #[c]) ++ ⟨l.toArray⟩ = ⟨(c :: l).toArray⟩ := by
  apply ByteArray.ext
  rw [ByteArray.data_append]
  apply Array.ext'
  simp
set_option maxHeartbeats 400000 in
theorem markText_any (k : Nat) (w : World) (h1 : 1 ≤ k) (hk : k ≤ 100000000000000) :
    Calls Tryz.prog 55 #[.int .i64 k] w fun e w' => e = .returned (.string (markS k)) ∧ Below w.heap.size w w' := by
  have g1 : ¬ (k : Int) ≤ 0 := by omega
  go_enter Tryz.func55, Tryz.ntmps55
  go_wp2
  go_loopw [0, 3] (fun c o wr => ∃ (fuel m : Nat) (acc : List UInt8), c = .int .i64 m ∧ o = .string ⟨acc.toArray⟩ ∧ m ≤ 100000000000000 ∧ Hid (m < 10 ^ fuel) ∧ acc.length ≤ 21 ∧ Hid (acc.length + fuel = 20) ∧ Hid (markD fuel m acc = markD 20 k []) ∧ Below w.heap.size w wr) (fun c _ _ => (intOf c).toNat)
  case atStart => exact ⟨20, k, [], rfl, rfl, hk, by unfold Hid; omega, by simp, rfl, rfl, Below.refl _ _⟩
  case round =>
    obtain ⟨fuel, m, acc, rfl, rfl, hm, HF, ha, HA, HD, hbel⟩ := hrel
    by_cases hz : 0 < m
    · have hcv := conv_one wr (48 + (m : Int) % 10)
      go_wp2
      obtain ⟨f, hf⟩ : ∃ f, fuel = f + 1 := by
        cases fuel with
        | zero => have := HF.out; simp at this; omega
        | succ f => exact ⟨f, rfl⟩
      subst hf
      go_roundw
      case rel => exact ⟨f, m / 10, (48 + UInt8.ofNat (m % 10)) :: acc, by go_num, val_strM (append_one _ acc), by omega, by have := HF.out; unfold Hid; rw [Nat.pow_succ] at this; omega, by have := HA.out; simp; omega, by have := HA.out; unfold Hid; simp; omega, by have := HD.out; unfold Hid; rw [← this, markD, if_neg (by omega)], hbel.alloc hbel.size _⟩
      case measure => simp [intOf]; omega
    · obtain rfl : m = 0 := by omega
      have HE : Hid (acc = markD 20 k []) := by
        have := HD.out
        unfold Hid
        rw [← this]
        cases fuel <;> simp [markD]
      go_wp2
      go_ret
      exact ⟨ret_str (by rw [markS, ← HE.out]; exact append_one 109 acc), hbel⟩
def markI (x : Int) : ByteArray := markS x.toNat
theorem markText_int (x : Int) (w : World) (h1 : 1 ≤ x) (hk : x ≤ 100000000000000) :
    Calls Tryz.prog 55 #[.int .i64 x] w fun e w' => e = .returned (.string (markI x)) ∧ Below w.heap.size w w' := by
  obtain ⟨k, rfl⟩ := Int.eq_ofNat_of_zero_le (show 0 ≤ x by omega)
  exact markText_any k w (by omega) (by omega)
/-- The mark of place j, from q on. -/
def mkD (q : Int) (j : Nat) : Di := ⟨markI (q + 2 * j), q + 2 * j + 1⟩
def markDL (q : Int) (L : List Di) : Nat → List Di
  | 0 => L
  | j + 1 => (markDL q L j).set j (mkD q j)
theorem markDL_len (q : Int) (L : List Di) (j : Nat) : (markDL q L j).length = L.length := by
  induction j with
  | zero => rfl
  | succ j ih => simp [markDL, ih]
theorem markDL_get (q : Int) (L : List Di) (n i : Nat) (hi : i < n) (hL : i < (markDL q L n).length) : (markDL q L n)[i] = mkD q i := by
  induction n with
  | zero => omega
  | succ n ih =>
    simp only [markDL, List.getElem_set]
    split
    · rename_i h; subst h; rfl
    · exact ih (by omega) (by rw [markDL_len] at hL ⊢; exact hL)
set_option maxRecDepth 100000 in
set_option maxHeartbeats 2000000 in
theorem markD_any (L : List Di) (v : Value) (base : Nat) (q : Int) (w : World) (hb : base ≤ w.heap.size) (ho : Own diE 126 w base v L) (hl : L.length ≤ 2000000) (h1 : 1 ≤ q) (h2 : q ≤ 10000000000000) :
    Calls Tryz.prog 74 #[v, .int .i64 q] w fun e w' => e = .returned (.int .i64 (q + 2 * (L.length : Nat))) ∧ Own diE 126 w' base v (markDL q L L.length) ∧ Only (fun k => some k = v.ownBlock) w w' := by
  rcases ho.look with ⟨rfl, rfl⟩ | ⟨g, cap, rfl, hg1, hg2, hc1, hc2⟩
  · go_enter Tryz.func74, Tryz.ntmps74
    go_wp2
    refine wp_loop_rounds 1 ?_
    rw [rounds_succ]
    go_wp2
    go_ret
    exact ⟨ret_int (by simp), ho, Only.refl _ _⟩
  · obtain ⟨n, hn⟩ : ∃ n, L.length = n := ⟨_, rfl⟩
    have HO := Hid.intro ho
    have HN := Hid.intro hn
    rw [hn] at hl hc1 HO ⊢
    clear ho hn
    go_enter Tryz.func74, Tryz.ntmps74
    go_wp2
    go_loopw [1, 5] (fun x i wr => ∃ (j : Nat), i = .int .i64 j ∧ x = .int .i64 (q + 2 * (j : Nat)) ∧ j ≤ n ∧ Hid (Own diE 126 wr base (.slice (some ⟨g, 0, none⟩) n cap) (markDL q L j)) ∧ Only (fun k => some k = some g) w wr) (fun _ i _ => n - (intOf i).toNat)
    case atStart => exact ⟨0, rfl, by simp, Nat.zero_le _, HO, Only.refl _ _⟩
    case round =>
      obtain ⟨j, rfl, rfl, hj, HR, hO⟩ := hrel
      by_cases hlt : j < n
      · have hml : (markDL q L j).length = n := by rw [markDL_len]; exact HN.out
        have HML := Hid.intro hml
        have hgw : g < wr.heap.size := (HR.out.lt g rfl).2
        have HG := Hid.intro hgw
        clear hml
        go_wp2_with fail
        refine (markText_int _ _ (by omega) (by omega)).mono ?_
        rintro e w1 ⟨rfl, b1⟩
        have HR1 := Hid.intro (HR.out.kept b1)
        obtain ⟨y0, q0⟩ := HR1.out.has HML.out hlt (i := 0) (by decide)
        obtain ⟨y1, q1⟩ := HR1.out.has HML.out hlt (i := 1) (by decide)
        simp only [Nat.add_zero, show diE.n = 2 from rfl] at q0 q1
        have f0 := HR1.out.frozen HML.out
        have O1 : Only (fun k => some k = some g) w w1 := hO.trans (Below.any b1)
        have HS : Hid (Own diE 126 ((w1.setCell ⟨g, j * 2, none⟩ (.string (markI (q + 2 * (j : Nat))))).setCell ⟨g, j * 2 + 1, none⟩ (.int .i64 (q + 2 * (j : Nat) + 1))) base (.slice (some ⟨g, 0, none⟩) n cap) (markDL q L (j + 1))) := HR1.out.store HML.out hlt (mkD q j)
        clear HR b1 HR1 hO
        go_wp2
        go_roundw
        case rel => exact ⟨j + 1, by go_num, by go_num, by omega, HS, (O1.setCell rfl _).setCell rfl _⟩
        case measure => simp [intOf]; omega
      · obtain rfl : j = n := by omega
        go_wp2
        go_ret
        exact ⟨rfl, HR.out, hO⟩
set_option maxRecDepth 100000 in
set_option maxHeartbeats 2000000 in
theorem heldD_any (M : List Di) (v : Value) (N : Nat) (q : Int) (w : World) (hN : N ≤ w.heap.size) (hr : Row diE w N v M) (hM : ∀ i (h : i < M.length), M[i] = mkD q i) (hl : M.length ≤ 2000000) (h1 : 1 ≤ q) (h2 : q ≤ 10000000000000) :
    Calls Tryz.prog 75 #[v, .int .i64 q] w fun e w' => e = .returned (.int .i64 (q + 2 * (M.length : Nat))) ∧ Below w.heap.size w w' := by
  obtain ⟨a, cap, rfl, lc, hm, hcells⟩ := diE_cell hr
  have HC := Hid.intro hcells
  have HM := Hid.intro hM
  clear hcells hM
  go_enter Tryz.func75, Tryz.ntmps75
  go_wp2
  go_loopw [1, 5] (fun x i wr => ∃ (j : Nat), i = .int .i64 j ∧ x = .int .i64 (q + 2 * (j : Nat)) ∧ j ≤ M.length ∧ Below w.heap.size w wr) (fun _ i _ => M.length - (intOf i).toNat)
  case atStart => exact ⟨0, rfl, by simp, Nat.zero_le _, Below.refl _ _⟩
  case round =>
    obtain ⟨j, rfl, rfl, hj, hbel⟩ := hrel
    by_cases hlt : j < M.length
    · obtain ⟨b, off, rfl, hbN, hcc⟩ := HC.out (by intro h; rw [h] at hlt; simp at hlt)
      obtain ⟨c0, c1⟩ := hcc j hlt
      rw [HM.out j hlt] at c0 c1
      have g0 : wr.cell? ⟨b, off + j * 2, none⟩ = some (.string (markI (q + 2 * (j : Nat)))) := atCell hbel c0 (by omega)
      have hs := hbel.size
      have HX : Hid (∀ w', Below wr.heap.size wr w' → w'.cell? ⟨b, off + j * 2, none⟩ = some (.string (markI (q + 2 * (j : Nat)))) ∧ w'.cell? ⟨b, off + j * 2 + 1, none⟩ = some (.int .i64 (q + 2 * (j : Nat) + 1)) ∧ Below w.heap.size w w') := fun w' hb => ⟨atCell (hbel.trans (hb.mono hs)) c0 (by omega), atCell (hbel.trans (hb.mono hs)) c1 (by omega), hbel.trans (hb.mono hs)⟩
      have i1 : (0 : Int) ≤ (j : Int) ∧ (j : Int) < (M.length : Int) := by omega
      have i2 : (j : Int) < (M.length : Int) := by omega
      clear hcc c0 c1
      go_wp2
      go_region_with (go_at_call 55; refine (markText_int _ _ (by omega) (by omega)).mono ?_; rintro e w1 ⟨rfl, b1⟩; obtain ⟨x0, x1, B1⟩ := HX.out w1 (by first | exact b1 | exact ((Below.refl _ _).drew).trans b1); clear b1)
      all_goals
        clear HX g0
        go_wp2
        go_roundw
        case rel => exact ⟨j + 1, by go_num, by go_num, by omega, B1⟩
        case measure => simp [intOf]; omega
    · obtain rfl : j = M.length := by omega
      go_wp2
      go_ret
      exact ⟨rfl, hbel⟩
end Go.Proofs.YtnhjicbgmocilaaGreat
namespace Go.Proofs.YtnhjicbgmocilaaGreat
open Go.RowKit
set_option linter.unusedVariables false
/-- The mark of place j, from q on. -/
def mkT0 (x : Int) : Nt := ⟨x, x + 1, x + 1 + 1, x + 1 + 1 + 1, x + 1 + 1 + 1 + 1⟩
def mkT (q : Int) (j : Nat) : Nt := mkT0 (q + 5 * j)
def markTL (q : Int) (L : List Nt) : Nat → List Nt
  | 0 => L
  | j + 1 => (markTL q L j).set j (mkT q j)
theorem markTL_len (q : Int) (L : List Nt) (j : Nat) : (markTL q L j).length = L.length := by
  induction j with
  | zero => rfl
  | succ j ih => simp [markTL, ih]
theorem markTL_get (q : Int) (L : List Nt) (n i : Nat) (hi : i < n) (hL : i < (markTL q L n).length) : (markTL q L n)[i] = mkT q i := by
  induction n with
  | zero => omega
  | succ n ih =>
    simp only [markTL, List.getElem_set]
    split
    · rename_i h; subst h; rfl
    · exact ih (by omega) (by rw [markTL_len] at hL ⊢; exact hL)
set_option maxRecDepth 100000 in
set_option maxHeartbeats 200000000000000 in
theorem markNoteS_any (L : List Nt) (v : Value) (base : Nat) (q : Int) (w : World) (hb : base ≤ w.heap.size) (ho : Own ntE 81 w base v L) (hl : L.length ≤ 1048576) (h1 : 1 ≤ q) (h2 : q ≤ 10000000000000) :
    Calls Tryz.prog 28 #[v, .int .i64 q] w fun e w' => e = .returned (.int .i64 (q + 5 * (L.length : Nat))) ∧ Own ntE 81 w' base v (markTL q L L.length) ∧ Only (fun k => some k = v.ownBlock) w w' := by
  rcases ho.look with ⟨rfl, rfl⟩ | ⟨g, cap, rfl, hg1, hg2, hc1, hc2⟩
  · go_enter Tryz.func28, Tryz.ntmps28
    go_wp2
    refine wp_loop_rounds 1 ?_
    rw [rounds_succ]
    go_wp2
    go_ret
    exact ⟨ret_int (by simp), ho, Only.refl _ _⟩
  · obtain ⟨n, hn⟩ : ∃ n, L.length = n := ⟨_, rfl⟩
    have HO := Hid.intro ho
    have HN := Hid.intro hn
    rw [hn] at hl hc1 HO ⊢
    clear ho hn
    go_enter Tryz.func28, Tryz.ntmps28
    go_wp2
    go_loopw [1, 5] (fun x i wr => ∃ (j : Nat), i = .int .i64 j ∧ x = .int .i64 (q + 5 * (j : Nat)) ∧ j ≤ n ∧ Hid (Own ntE 81 wr base (.slice (some ⟨g, 0, none⟩) n cap) (markTL q L j)) ∧ Only (fun k => some k = some g) w wr) (fun _ i _ => n - (intOf i).toNat)
    case atStart => exact ⟨0, rfl, by simp, Nat.zero_le _, HO, Only.refl _ _⟩
    case round =>
      obtain ⟨j, rfl, rfl, hj, HR, hO⟩ := hrel
      by_cases hlt : j < n
      · have hml : (markTL q L j).length = n := by rw [markTL_len]; exact HN.out
        have HML := Hid.intro hml
        have hgw : g < wr.heap.size := (HR.out.lt g rfl).2
        have HG := Hid.intro hgw
        clear hml
        obtain ⟨y0, q0⟩ := HR.out.has HML.out hlt (i := 0) (by decide)
        obtain ⟨y1, q1⟩ := HR.out.has HML.out hlt (i := 1) (by decide)
        obtain ⟨y2, q2⟩ := HR.out.has HML.out hlt (i := 2) (by decide)
        obtain ⟨y3, q3⟩ := HR.out.has HML.out hlt (i := 3) (by decide)
        obtain ⟨y4, q4⟩ := HR.out.has HML.out hlt (i := 4) (by decide)
        simp only [Nat.add_zero, show ntE.n = 5 from rfl] at q0 q1 q2 q3 q4
        have f0 := HR.out.frozen HML.out
        obtain ⟨x0, hx0⟩ : ∃ x0, q + 5 * (j : Int) = x0 := ⟨_, rfl⟩
        have hb0 : 1 ≤ x0 ∧ x0 ≤ 20000000000000 := by omega
        have hb1 := hb0.1
        have hb2 := hb0.2
        have HX0 := Hid.intro hx0
        have HS : Hid (Own ntE 81 (((((wr.setCell ⟨g, j * 5, none⟩ (.int .i64 x0)).setCell ⟨g, j * 5 + 1, none⟩ (.int .i64 (x0 + 1))).setCell ⟨g, j * 5 + 2, none⟩ (.int .i64 (x0 + 1 + 1))).setCell ⟨g, j * 5 + 3, none⟩ (.int .i64 (x0 + 1 + 1 + 1))).setCell ⟨g, j * 5 + 4, none⟩ (.int .i64 (x0 + 1 + 1 + 1 + 1))) base (.slice (some ⟨g, 0, none⟩) n cap) (markTL q L (j + 1))) := by
          have := HR.out.store HML.out hlt (mkT q j)
          rw [mkT, hx0] at this
          unfold Hid
          rw [markTL, mkT, hx0]
          exact this
        have HO5 : Hid (Only (fun k => some k = some g) w (((((wr.setCell ⟨g, j * 5, none⟩ (.int .i64 x0)).setCell ⟨g, j * 5 + 1, none⟩ (.int .i64 (x0 + 1))).setCell ⟨g, j * 5 + 2, none⟩ (.int .i64 (x0 + 1 + 1))).setCell ⟨g, j * 5 + 3, none⟩ (.int .i64 (x0 + 1 + 1 + 1))).setCell ⟨g, j * 5 + 4, none⟩ (.int .i64 (x0 + 1 + 1 + 1 + 1)))) := ((((hO.setCell rfl _).setCell rfl _).setCell rfl _).setCell rfl _).setCell rfl _
        rw [hx0]
        clear hx0 hb0
        clear HR hO
        go_wp2
        go_roundw
        case rel => exact ⟨j + 1, by go_num, by have := HX0.out; go_num, by omega, HS, HO5.out⟩
        case measure => simp [intOf]; omega
      · obtain rfl : j = n := by omega
        go_wp2
        go_ret
        exact ⟨rfl, HR.out, hO⟩
set_option maxRecDepth 100000 in
set_option maxHeartbeats 200000000000000 in
theorem heldNoteS_any (M : List Nt) (v : Value) (N : Nat) (q : Int) (w : World) (hN : N ≤ w.heap.size) (hr : Row ntE w N v M) (hM : ∀ i (h : i < M.length), M[i] = mkT q i) (hl : M.length ≤ 1048576) (h1 : 1 ≤ q) (h2 : q ≤ 10000000000000) :
    Calls Tryz.prog 31 #[v, .int .i64 q] w fun e w' => e = .returned (.int .i64 (q + 5 * (M.length : Nat))) ∧ Below w.heap.size w w' := by
  obtain ⟨a, cap, rfl, lc, hm, hcells⟩ := ntE_cell hr
  have HC := Hid.intro hcells
  have HM := Hid.intro hM
  clear hcells hM
  go_enter Tryz.func31, Tryz.ntmps31
  go_wp2
  go_loopw [1, 5] (fun x i wr => ∃ (j : Nat), i = .int .i64 j ∧ x = .int .i64 (q + 5 * (j : Nat)) ∧ j ≤ M.length ∧ Below w.heap.size w wr) (fun _ i _ => M.length - (intOf i).toNat)
  case atStart => exact ⟨0, rfl, by simp, Nat.zero_le _, Below.refl _ _⟩
  case round =>
    obtain ⟨j, rfl, rfl, hj, hbel⟩ := hrel
    by_cases hlt : j < M.length
    · obtain ⟨b, off, rfl, hbN, hcc⟩ := HC.out (by intro h; rw [h] at hlt; simp at hlt)
      obtain ⟨c0, c1, c2, c3, c4⟩ := hcc j hlt
      rw [HM.out j hlt] at c0 c1 c2 c3 c4
      obtain ⟨x0, hx0⟩ : ∃ x0, q + 5 * (j : Int) = x0 := ⟨_, rfl⟩
      have hb0 : 1 ≤ x0 ∧ x0 ≤ 20000000000000 := by omega
      have hb1 := hb0.1
      have hb2 := hb0.2
      have HX0 := Hid.intro hx0
      rw [mkT, hx0] at c0 c1 c2 c3 c4
      have g0 : wr.cell? ⟨b, off + j * 5, none⟩ = some (.int .i64 x0) := atCell hbel c0 (by omega)
      have g1 : wr.cell? ⟨b, off + j * 5 + 1, none⟩ = some (.int .i64 (x0 + 1)) := atCell hbel c1 (by omega)
      have g2 : wr.cell? ⟨b, off + j * 5 + 2, none⟩ = some (.int .i64 (x0 + 1 + 1)) := atCell hbel c2 (by omega)
      have g3 : wr.cell? ⟨b, off + j * 5 + 3, none⟩ = some (.int .i64 (x0 + 1 + 1 + 1)) := atCell hbel c3 (by omega)
      have g4 : wr.cell? ⟨b, off + j * 5 + 4, none⟩ = some (.int .i64 (x0 + 1 + 1 + 1 + 1)) := atCell hbel c4 (by omega)
      rw [hx0]
      clear hx0 hb0
      have i1 : (0 : Int) ≤ (j : Int) ∧ (j : Int) < (M.length : Int) := by omega
      have i2 : (j : Int) < (M.length : Int) := by omega
      clear hcc c0 c1 c2 c3 c4
      go_wp2
      go_roundw
      case rel => exact ⟨j + 1, by go_num, by have := HX0.out; go_num, by omega, hbel⟩
      case measure => simp [intOf]; omega
    · obtain rfl : j = M.length := by omega
      go_wp2
      go_ret
      exact ⟨rfl, hbel⟩
theorem ownsRow_belowT {w w' : World} {base : Nat} {e : TypeId} {size : Nat} {v : Value} {n : Nat} {xs : List Value} (h : w.ownsRow base e size v n xs) (hb : Below w.heap.size w w') : w'.ownsRow base e size v n xs := by
  refine ⟨h.1, ?_⟩
  rcases h.2 with hn | ⟨g, cap, cur, rfl, hg, hgg, rest⟩
  · exact .inl hn
  · exact .inr ⟨g, cap, cur, rfl, hg, (hb.block g (Array.getElem?_eq_some_iff.1 hgg).1).trans hgg, rest⟩
/-- The mark of session j, from q on. -/
def mkS0 (x : Int) : Se := ⟨x, x + 1, x + 1 + 1, ⟨x + 1 + 1 + 1, markI (x + 1 + 1 + 1 + 1)⟩⟩
def mkS (q : Int) (j : Nat) : Se := mkS0 (q + 5 * j)
def markSL (q : Int) (L : List Se) : Nat → List Se
  | 0 => L
  | j + 1 => (markSL q L j).set j (mkS q j)
theorem markSL_len (q : Int) (L : List Se) (j : Nat) : (markSL q L j).length = L.length := by
  induction j with
  | zero => rfl
  | succ j ih => simp [markSL, ih]
theorem markSL_get (q : Int) (L : List Se) (n i : Nat) (hi : i < n) (hL : i < (markSL q L n).length) : (markSL q L n)[i] = mkS q i := by
  induction n with
  | zero => omega
  | succ n ih =>
    simp only [markSL, List.getElem_set]
    split
    · rename_i h; subst h; rfl
    · exact ih (by omega) (by rw [markSL_len] at hL ⊢; exact hL)
set_option maxRecDepth 100000 in
set_option maxHeartbeats 4000000 in
theorem markSessionS_any (L : List Se) (v : Value) (base : Nat) (q : Int) (w : World) (hb : base ≤ w.heap.size) (ho : Own seE 57 w base v L) (hl : L.length ≤ 1048576) (h1 : 1 ≤ q) (h2 : q ≤ 10000000000000) :
    Calls Tryz.prog 29 #[v, .int .i64 q] w fun e w' => e = .returned (.int .i64 (q + 5 * (L.length : Nat))) ∧ Own seE 57 w' base v (markSL q L L.length) ∧ Only (fun k => some k = v.ownBlock) w w' := by
  rcases ho.look with ⟨rfl, rfl⟩ | ⟨g, cap, rfl, hg1, hg2, hc1, hc2⟩
  · go_enter Tryz.func29, Tryz.ntmps29
    go_wp2
    refine wp_loop_rounds 1 ?_
    rw [rounds_succ]
    go_wp2
    go_ret
    exact ⟨ret_int (by simp), ho, Only.refl _ _⟩
  · obtain ⟨n, hn⟩ : ∃ n, L.length = n := ⟨_, rfl⟩
    have HO := Hid.intro ho
    have HN := Hid.intro hn
    rw [hn] at hl hc1 HO ⊢
    clear ho hn
    go_enter Tryz.func29, Tryz.ntmps29
    go_wp2
    go_loopw [1, 5] (fun x i wr => ∃ (j : Nat), i = .int .i64 j ∧ x = .int .i64 (q + 5 * (j : Nat)) ∧ j ≤ n ∧ Hid (Own seE 57 wr base (.slice (some ⟨g, 0, none⟩) n cap) (markSL q L j)) ∧ Only (fun k => some k = some g) w wr) (fun _ i _ => n - (intOf i).toNat)
    case atStart => exact ⟨0, rfl, by simp, Nat.zero_le _, HO, Only.refl _ _⟩
    case round =>
      obtain ⟨j, rfl, rfl, hj, HR, hO⟩ := hrel
      by_cases hlt : j < n
      · have hml : (markSL q L j).length = n := by rw [markSL_len]; exact HN.out
        have HML := Hid.intro hml
        have hgw : g < wr.heap.size := (HR.out.lt g rfl).2
        have HG := Hid.intro hgw
        clear hml
        obtain ⟨y0, q0⟩ := HR.out.has HML.out hlt (i := 0) (by decide)
        obtain ⟨y1, q1⟩ := HR.out.has HML.out hlt (i := 1) (by decide)
        obtain ⟨y2, q2⟩ := HR.out.has HML.out hlt (i := 2) (by decide)
        obtain ⟨y3, q3⟩ := HR.out.has HML.out hlt (i := 3) (by decide)
        simp only [Nat.add_zero, show seE.n = 5 from rfl] at q0 q1 q2 q3
        have f0 := HR.out.frozen HML.out
        obtain ⟨y4, q4⟩ := HR.out.has HML.out hlt (i := 4) (by decide)
        simp only [show seE.n = 5 from rfl] at q4
        obtain ⟨x0, hx0⟩ : ∃ x0, q + 5 * (j : Int) = x0 := ⟨_, rfl⟩
        have hb0 : 1 ≤ x0 ∧ x0 ≤ 20000000000000 := by omega
        have hb1 := hb0.1
        have hb2 := hb0.2
        have HX0 := Hid.intro hx0
        rw [hx0]
        obtain ⟨V, hV⟩ : ∃ V, V = ((((wr.setCell ⟨g, j * 5, none⟩ (.int .i64 x0)).setCell ⟨g, j * 5 + 1, none⟩ (.int .i64 (x0 + 1))).setCell ⟨g, j * 5 + 2, none⟩ (.int .i64 (x0 + 1 + 1))).setCell ⟨g, j * 5 + 3, none⟩ (.int .i64 (x0 + 1 + 1 + 1))) := ⟨_, rfl⟩
        have HVO : Hid (V.ownsRow base 57 5 (.slice (some ⟨g, 0, none⟩) n cap) n (((((seE.f (markSL q L j)).set (j * 5) (.int .i64 x0)).set (j * 5 + 1) (.int .i64 (x0 + 1))).set (j * 5 + 2) (.int .i64 (x0 + 1 + 1))).set (j * 5 + 3) (.int .i64 (x0 + 1 + 1 + 1)))) := by
          have h0 : wr.ownsRow base 57 5 (.slice (some ⟨g, 0, none⟩) n cap) n (seE.f (markSL q L j)) := by
            have := HR.out
            unfold Own at this
            rw [HML.out] at this
            exact this
          rw [hV]
          exact (World.ownsRow.stored (World.ownsRow.stored (World.ownsRow.stored (World.ownsRow.stored h0 _ _).1 _ _).1 _ _).1 _ _).1
        have HVN : Hid (Only (fun k => some k = some g) w V) := by
          unfold Hid
          rw [hV]
          exact (((hO.setCell (p := ⟨g, j * 5, none⟩) rfl _).setCell (p := ⟨g, j * 5 + 1, none⟩) rfl _).setCell (p := ⟨g, j * 5 + 2, none⟩) rfl _).setCell (p := ⟨g, j * 5 + 3, none⟩) rfl _
        have r4 : V.cell? ⟨g, j * 5 + 4, none⟩ = some y4 := by rw [hV]; simp [go_sem, q4]
        have rf : ∀ o, V.frozen? ⟨g, o, none⟩ = false := fun o => by rw [hV]; simp [f0]
        have gV : g < V.heap.size := by rw [hV]; simpa using hgw
        clear HR hO hx0 hb0
        go_upto_region 12 with fail
        simp only [← hV]
        clear hV q0 q1 q2 q3 q4 f0
        go_wp2_with fail
        refine (markText_int _ _ (by omega) (by omega)).mono ?_
        rintro e w1 ⟨rfl, b1⟩
        have g1' : g < w1.heap.size := Nat.lt_of_lt_of_le gV b1.size
        replace r4 := (b1.cell (p := ⟨g, j * 5 + 4, none⟩) gV).trans r4
        replace rf : ∀ o, w1.frozen? ⟨g, o, none⟩ = false := fun o => (b1.frozen (p := ⟨g, o, none⟩) gV).trans (rf o)
        have HS : Hid (Own seE 57 (w1.setCell ⟨g, j * 5 + 4, none⟩ (.string (markI (x0 + 1 + 1 + 1 + 1)))) base (.slice (some ⟨g, 0, none⟩) n cap) (markSL q L (j + 1))) := by
          have h1 := (World.ownsRow.stored (ownsRow_belowT HVO.out b1) (j * 5 + 4) (.string (markI (x0 + 1 + 1 + 1 + 1)))).1
          unfold Hid Own
          rw [markSL_len, HN.out, markSL, Enc.f_set seE _ j _ (by rw [HML.out]; exact hlt), mkS, HX0.out]
          exact h1
        have HN5 : Hid (Only (fun k => some k = some g) w (w1.setCell ⟨g, j * 5 + 4, none⟩ (.string (markI (x0 + 1 + 1 + 1 + 1))))) := (HVN.out.trans (Below.any b1)).setCell (p := ⟨g, j * 5 + 4, none⟩) rfl _
        clear b1 HVO HVN gV
        go_wp2
        go_roundw
        case rel => exact ⟨j + 1, by go_num, by have := HX0.out; go_num, by omega, HS, HN5.out⟩
        case measure => simp [intOf]; omega
      · obtain rfl : j = n := by omega
        go_wp2
        go_ret
        exact ⟨rfl, HR.out, hO⟩
set_option maxRecDepth 100000 in
set_option maxHeartbeats 200000000000000 in
theorem heldSessionS_any (M : List Se) (v : Value) (N : Nat) (q : Int) (w : World) (hN : N ≤ w.heap.size) (hr : Row seE w N v M) (hM : ∀ i (h : i < M.length), M[i] = mkS q i) (hl : M.length ≤ 1048576) (h1 : 1 ≤ q) (h2 : q ≤ 10000000000000) :
    Calls Tryz.prog 32 #[v, .int .i64 q] w fun e w' => e = .returned (.int .i64 (q + 5 * (M.length : Nat))) ∧ Below w.heap.size w w' := by
  obtain ⟨a, cap, rfl, lc, hm, hcells⟩ := seE_cell hr
  have HC := Hid.intro hcells
  have HM := Hid.intro hM
  clear hcells hM
  go_enter Tryz.func32, Tryz.ntmps32
  go_wp2
  go_loopw [1, 5] (fun x i wr => ∃ (j : Nat), i = .int .i64 j ∧ x = .int .i64 (q + 5 * (j : Nat)) ∧ j ≤ M.length ∧ Below w.heap.size w wr) (fun _ i _ => M.length - (intOf i).toNat)
  case atStart => exact ⟨0, rfl, by simp, Nat.zero_le _, Below.refl _ _⟩
  case round =>
    obtain ⟨j, rfl, rfl, hj, hbel⟩ := hrel
    by_cases hlt : j < M.length
    · obtain ⟨b, off, rfl, hbN, hcc⟩ := HC.out (by intro h; rw [h] at hlt; simp at hlt)
      obtain ⟨c0, c1, c2, c3, c4⟩ := hcc j hlt
      rw [HM.out j hlt] at c0 c1 c2 c3 c4
      obtain ⟨x0, hx0⟩ : ∃ x0, q + 5 * (j : Int) = x0 := ⟨_, rfl⟩
      have hb0 : 1 ≤ x0 ∧ x0 ≤ 20000000000000 := by omega
      have hb1 := hb0.1
      have hb2 := hb0.2
      have HX0 := Hid.intro hx0
      rw [mkS, hx0] at c0 c1 c2 c3 c4
      have g0 : wr.cell? ⟨b, off + j * 5, none⟩ = some (.int .i64 x0) := atCell hbel c0 (by omega)
      have g1 : wr.cell? ⟨b, off + j * 5 + 1, none⟩ = some (.int .i64 (x0 + 1)) := atCell hbel c1 (by omega)
      have g2 : wr.cell? ⟨b, off + j * 5 + 2, none⟩ = some (.int .i64 (x0 + 1 + 1)) := atCell hbel c2 (by omega)
      have g3 : wr.cell? ⟨b, off + j * 5 + 3, none⟩ = some (.int .i64 (x0 + 1 + 1 + 1)) := atCell hbel c3 (by omega)
      have g4 : wr.cell? ⟨b, off + j * 5 + 4, none⟩ = some (.string (markI (x0 + 1 + 1 + 1 + 1))) := atCell hbel c4 (by omega)
      have hs := hbel.size
      have HX : Hid (∀ w', Below wr.heap.size wr w' → w'.cell? ⟨b, off + j * 5 + 4, none⟩ = some (.string (markI (x0 + 1 + 1 + 1 + 1))) ∧ Below w.heap.size w w') := fun w' hb => ⟨atCell hb g4 (by omega), hbel.trans (hb.mono hs)⟩
      have i1 : (0 : Int) ≤ (j : Int) ∧ (j : Int) < (M.length : Int) := by omega
      have i2 : (j : Int) < (M.length : Int) := by omega
      rw [hx0]
      clear hcc c0 c1 c2 c3 c4 hx0 hb0
      go_upto_region 16 with fail
      clear g0 g1 g2 g3
      go_region_with (go_at_call 55; refine (markText_int _ _ (by omega) (by omega)).mono ?_; rintro e w1 ⟨rfl, b1⟩; obtain ⟨x4, B1⟩ := HX.out w1 (by first | exact b1 | exact ((Below.refl _ _).drew).trans b1); clear b1)
      all_goals
        clear HX g4
        go_wp2
        go_roundw
        case rel => exact ⟨j + 1, by go_num, by have := HX0.out; go_num, by omega, B1⟩
        case measure => simp [intOf]; omega
    · obtain rfl : j = M.length := by omega
      go_wp2
      go_ret
      exact ⟨rfl, hbel⟩
end Go.Proofs.YtnhjicbgmocilaaGreat
namespace Go.Proofs.YtnhjicbgmocilaaGreat
open Go.RowKit
set_option linter.unusedVariables false
/-- An inode that is marked from q on. -/
def mkN (q : Int) (p : Np) : Np := ⟨⟨q, q + 1, q + 2, q + 3, q + 4, markI (q + 5), markDL (q + 6) p.n.names p.n.names.length, q + 6 + 2 * (p.n.names.length : Nat), q + 7 + 2 * (p.n.names.length : Nat)⟩, p.a, p.cap⟩
theorem mkN_len (q : Int) (p : Np) : (mkN q p).n.names.length = p.n.names.length := by simp [mkN, markDL_len]
theorem mkN_v (q : Int) (p : Np) : (mkN q p).v = p.v := by
  unfold Np.v
  rw [mkN_len]
  rfl
/-- The mark that inode j begins with. -/
def kqI (q : Int) (M : List Np) : Nat → Int
  | 0 => q
  | j + 1 => kqI q M j + 8 + 2 * ((M.getD j ndE.z).n.names.length : Nat)
def mkAt (q : Int) (M : List Np) (j : Nat) : Np := mkN (kqI q M j) (M.getD j ndE.z)
def markNL (q : Int) (M : List Np) : Nat → List Np
  | 0 => M
  | j + 1 => (markNL q M j).set j (mkAt q M j)
theorem markNL_len (q : Int) (M : List Np) (j : Nat) : (markNL q M j).length = M.length := by
  induction j with
  | zero => rfl
  | succ j ih => simp [markNL, ih]
theorem markNL_get (q : Int) (M : List Np) (n i : Nat) (hi : i < n) (hL : i < (markNL q M n).length) : (markNL q M n)[i] = mkAt q M i := by
  induction n with
  | zero => omega
  | succ n ih =>
    simp only [markNL, List.getElem_set]
    split
    · rename_i h; subst h; rfl
    · exact ih (by omega) (by rw [markNL_len] at hL ⊢; exact hL)
theorem markNL_late (q : Int) (M : List Np) (n i : Nat) (hi : n ≤ i) (hL : i < (markNL q M n).length) : (markNL q M n)[i] = M[i]'(by rw [markNL_len] at hL; exact hL) := by
  induction n with
  | zero => rfl
  | succ n ih =>
    simp only [markNL, List.getElem_set]
    rw [if_neg (by omega)]
    exact ih (by omega) (by rw [markNL_len] at hL ⊢; exact hL)
theorem getD_at {M : List Np} {j : Nat} (h : j < M.length) : M.getD j ndE.z = M[j] := by simp [List.getD_eq_getElem?_getD, h]
theorem mkAt_v {q : Int} {M : List Np} {j : Nat} (h : j < M.length) : (mkAt q M j).v = M[j].v := by
  unfold mkAt
  rw [mkN_v, getD_at h]
theorem markNL_v (q : Int) (M : List Np) (n i : Nat) (hL : i < (markNL q M n).length) : (markNL q M n)[i].v = (M[i]'(by rw [markNL_len] at hL; exact hL)).v := by
  by_cases h : i < n
  · rw [markNL_get q M n i h hL, mkAt_v (by rw [markNL_len] at hL; exact hL)]
  · rw [markNL_late q M n i (by omega) hL]
theorem getD_names {M : List Np} (h : ∀ p ∈ M, p.n.names.length ≤ 1048576) (j : Nat) : (M.getD j ndE.z).n.names.length ≤ 1048576 := by
  by_cases hj : j < M.length
  · rw [getD_at hj]; exact h _ (List.getElem_mem hj)
  · rw [List.getD_eq_getElem?_getD, List.getElem?_eq_none (by omega)]
    simp [ndE, ndZ]
theorem kqI_bd {q : Int} {M : List Np} (h : ∀ p ∈ M, p.n.names.length ≤ 1048576) (j : Nat) : q ≤ kqI q M j ∧ kqI q M j ≤ q + 2097160 * j := by
  induction j with
  | zero => simp [kqI]
  | succ j ih =>
    have := getD_names h j
    simp only [kqI]
    omega
/-- Rows of inodes and rows of names lie in blocks of two kinds. -/
theorem own_apart {α β : Type} {E : Enc α} {F : Enc β} {T U : TypeId} (hTU : T ≠ U) {w : World} {B C : Nat} {u v : Value} {L : List α} {M : List β} (h : Own E T w B u L) (k : Own F U w C v M) {g : Nat} (hu : u.ownBlock = some g) (hv : v.ownBlock = some g) : False := by
  rcases h.2 with ⟨h0, _⟩ | ⟨g1, cap1, cur1, h1, _, hg1, _⟩
  · rw [h0] at hu; cases hu
  · rcases k.2 with ⟨k0, _⟩ | ⟨g2, cap2, cur2, k1, _, hg2, _⟩
    · rw [k0] at hv; cases hv
    · rw [h1] at hu
      rw [k1] at hv
      obtain rfl : g1 = g := by simpa [Value.ownBlock] using hu
      obtain rfl : g2 = g1 := by simpa [Value.ownBlock] using hv
      rw [hg1] at hg2
      simp only [Option.some.injEq, Obj.cells.injEq] at hg2
      exact hTU hg2.2.1
theorem ownsRow_belowM {w w' : World} {base : Nat} {e : TypeId} {size : Nat} {v : Value} {n : Nat} {xs : List Value} (h : w.ownsRow base e size v n xs) (hb : Below w.heap.size w w') : w'.ownsRow base e size v n xs := by
  refine ⟨h.1, ?_⟩
  rcases h.2 with hn | ⟨g, cap, cur, rfl, hg, hgg, rest⟩
  · exact .inl hn
  · exact .inr ⟨g, cap, cur, rfl, hg, (hb.block g (Array.getElem?_eq_some_iff.1 hgg).1).trans hgg, rest⟩
theorem set_same {α : Type} {xs : List α} {i : Nat} {v : α} (h : xs[i]? = some v) : xs.set i v = xs := by
  apply List.ext_getElem?
  intro q
  rw [List.getElem?_set]
  by_cases hq : i = q
  · subst hq
    have hl : i < xs.length := (List.getElem?_eq_some_iff.1 h).1
    rw [if_pos rfl, if_pos hl, h]
  · rw [if_neg hq]
/-- All cells of an element but the seventh are stored: with the seventh as it was the element is stored. -/
theorem set9 (S : List Np) (j : Nat) (h : j < S.length) (e : Np) (hv : e.v = S[j].v) :
    ndE.f (S.set j e) = (((((((((ndE.f S).set (j * 9) (.int .i64 e.n.id)).set (j * 9 + 1) (.int .i64 e.n.kind)).set (j * 9 + 2) (.int .i64 e.n.mode)).set (j * 9 + 3) (.int .i64 e.n.uid)).set (j * 9 + 4) (.int .i64 e.n.gid)).set (j * 9 + 5) (.string e.n.data)).set (j * 9 + 7) (.int .i64 e.n.maxb)).set (j * 9 + 8) (.int .i64 e.n.maxi)) := by
  rw [Enc.f_set ndE S j e h]
  have h6 : ((((((((ndE.f S).set (j * 9) (.int .i64 e.n.id)).set (j * 9 + 1) (.int .i64 e.n.kind)).set (j * 9 + 2) (.int .i64 e.n.mode)).set (j * 9 + 3) (.int .i64 e.n.uid)).set (j * 9 + 4) (.int .i64 e.n.gid)).set (j * 9 + 5) (.string e.n.data)))[j * 9 + 6]? = some e.v := by
    rw [List.getElem?_set_ne (by omega), List.getElem?_set_ne (by omega), List.getElem?_set_ne (by omega), List.getElem?_set_ne (by omega), List.getElem?_set_ne (by omega), List.getElem?_set_ne (by omega)]
    have := ndE.f_at S j h 6 (by decide)
    rw [show ndE.n = 9 from rfl] at this
    rw [this, hv]
    rfl
  show setL (ndE.f S) (j * 9) [.int .i64 e.n.id, .int .i64 e.n.kind, .int .i64 e.n.mode, .int .i64 e.n.uid, .int .i64 e.n.gid, .string e.n.data, e.v, .int .i64 e.n.maxb, .int .i64 e.n.maxi] = _
  simp only [setL, Nat.add_assoc, Nat.reduceAdd]
  rw [set_same h6]
/-- So far marked: j inodes. -/
structure MkS (w : World) (base top g n cap : Nat) (q : Int) (M : List Np) (j : Nat) (wr : World) : Prop where
  own : Own ndE 104 wr base (.slice (some ⟨g, 0, none⟩) n cap) (markNL q M j)
  nms : ∀ i (h : i < (markNL q M j).length), Own diE 126 wr base (markNL q M j)[i].v (markNL q M j)[i].n.names
  bel : Only (fun k => base ≤ k ∧ k < top) w wr
set_option maxRecDepth 100000 in
set_option maxHeartbeats 8000000 in
theorem markN_any (M : List Np) (v : Value) (base top : Nat) (q : Int) (w : World) (hb : base ≤ w.heap.size) (ho : VolO w base v M) (hi : Inc M) (htv : ∀ k, v.ownBlock = some k → k < top) (htn : ∀ p ∈ M, ∀ k, p.v.ownBlock = some k → k < top) (hl : M.length ≤ 1048576) (hn : ∀ p ∈ M, p.n.names.length ≤ 1048576) (h1 : 1 ≤ q) (h2 : q ≤ 1000) :
    Calls Tryz.prog 54 #[v, .int .i64 q] w fun e w' => e = .returned (.int .i64 (kqI q M M.length)) ∧ VolO w' base v (markNL q M M.length) ∧ Only (fun k => base ≤ k ∧ k < top) w w' := by
  rcases ho.own.look with ⟨rfl, rfl⟩ | ⟨g, cap, rfl, hg1, hg2, hc1, hc2⟩
  · go_enter Tryz.func54, Tryz.ntmps54
    go_wp2
    refine wp_loop_rounds 1 ?_
    rw [rounds_succ]
    go_wp2
    go_ret
    exact ⟨rfl, ⟨Own.nil _ _, fun p hp => by cases hp⟩, Only.refl _ _⟩
  · obtain ⟨n, hnn⟩ : ∃ n, M.length = n := ⟨_, rfl⟩
    have HN := Hid.intro hnn
    have HI := Hid.intro hi
    have HNM := Hid.intro hn
    have HTN := Hid.intro htn
    have htg := htv g rfl
    have HKB : Hid (∀ j, q ≤ kqI q M j ∧ kqI q M j ≤ q + 2097160 * j) := fun j => kqI_bd hn j
    have HS0 : Hid (MkS w base top g n cap q M 0 w) := ⟨by rw [← hnn]; exact ho.own, fun i hi => ho.nms _ (List.getElem_mem hi), Only.refl _ _⟩
    rw [hnn] at hl hc1 ⊢
    clear ho hi hn hnn htv htn
    go_enter Tryz.func54, Tryz.ntmps54
    go_wp2
    go_loopw [1, 5] (fun x i wr => ∃ (j : Nat) (q0 : Int), i = .int .i64 j ∧ x = .int .i64 q0 ∧ Hid (q0 = kqI q M j) ∧ j ≤ n ∧ Hid (MkS w base top g n cap q M j wr)) (fun _ i _ => n - (intOf i).toNat)
    case atStart => exact ⟨0, q, rfl, rfl, rfl, Nat.zero_le _, HS0⟩
    case round =>
      obtain ⟨j, q0, rfl, rfl, HQ, hj, HS⟩ := hrel
      have hkb := HKB.out j
      have hq0 : 1 ≤ q0 ∧ q0 ≤ 1000 + 2097160 * 1048576 := by have := HQ.out; omega
      clear hkb
      by_cases hlt : j < n
      · have HML : Hid ((markNL q M j).length = n) := by unfold Hid; rw [markNL_len]; exact HN.out
        have hjM : j < M.length := by have := HN.out; omega
        have hjS : j < (markNL q M j).length := by have := HML.out; omega
        obtain ⟨p, hp⟩ : ∃ p, M[j] = p := ⟨_, rfl⟩
        have hSj : (markNL q M j)[j] = p := by rw [markNL_late q M j j (Nat.le_refl _) hjS, hp]
        have hat : mkAt q M j = mkN q0 p := by unfold mkAt; rw [getD_at hjM, hp, ← HQ.out]
        have hkn : kqI q M (j + 1) = q0 + 8 + 2 * (p.n.names.length : Nat) := by
          simp only [kqI]
          rw [getD_at hjM, hp, ← HQ.out]
        have hpn : p.n.names.length ≤ 1048576 := by rw [← hp]; exact HNM.out _ (List.getElem_mem hjM)
        have hop := HS.out.nms j hjS
        rw [hSj] at hop
        have HOP := Hid.intro hop
        have hgne : ∀ k, p.v.ownBlock = some k → k ≠ g := fun k hk e => own_apart (T := 104) (U := 126) (by decide) HS.out.own hop rfl (e ▸ hk)
        have HGN := Hid.intro hgne
        have hgw : g < wr.heap.size := (HS.out.own.lt g rfl).2
        have HG := Hid.intro hgw
        have c6 := HS.out.own.at j hjS 6 (by decide)
        rw [hSj] at c6
        obtain ⟨y0, a0⟩ := HS.out.own.has HML.out hlt (i := 0) (by decide)
        obtain ⟨y1, a1⟩ := HS.out.own.has HML.out hlt (i := 1) (by decide)
        obtain ⟨y2, a2⟩ := HS.out.own.has HML.out hlt (i := 2) (by decide)
        obtain ⟨y3, a3⟩ := HS.out.own.has HML.out hlt (i := 3) (by decide)
        obtain ⟨y4, a4⟩ := HS.out.own.has HML.out hlt (i := 4) (by decide)
        obtain ⟨y5, a5⟩ := HS.out.own.has HML.out hlt (i := 5) (by decide)
        obtain ⟨y7, a7⟩ := HS.out.own.has HML.out hlt (i := 7) (by decide)
        obtain ⟨y8, a8⟩ := HS.out.own.has HML.out hlt (i := 8) (by decide)
        simp only [Nat.add_zero, show ndE.n = 9 from rfl] at a0 a1 a2 a3 a4 a5 a7 a8 c6
        replace c6 : wr.cell? ⟨g, j * 9 + 6, none⟩ = some p.v := c6
        have f0 := HS.out.own.frozen HML.out
        have hbs : base ≤ wr.heap.size := Nat.le_trans hb HS.out.bel.size
        have HSJ := Hid.intro hSj
        have HAT := Hid.intro hat
        have HKN := Hid.intro hkn
        have HP := Hid.intro hp
        have HJS := Hid.intro hjS
        have HPN := Hid.intro hpn
        clear hSj hat hkn hp hop hgne hpn
        obtain ⟨WA, hWA⟩ : ∃ WA, WA = (((((wr.setCell ⟨g, j * 9, none⟩ (.int .i64 (q0))).setCell ⟨g, j * 9 + 1, none⟩ (.int .i64 (q0 + 1))).setCell ⟨g, j * 9 + 2, none⟩ (.int .i64 (q0 + 1 + 1))).setCell ⟨g, j * 9 + 3, none⟩ (.int .i64 (q0 + 1 + 1 + 1))).setCell ⟨g, j * 9 + 4, none⟩ (.int .i64 (q0 + 1 + 1 + 1 + 1))) := ⟨_, rfl⟩
        have ownA : Hid (WA.ownsRow base 104 9 (.slice (some ⟨g, 0, none⟩) n cap) n ((((((ndE.f (markNL q M j)).set (j * 9) (.int .i64 (q0))).set (j * 9 + 1) (.int .i64 (q0 + 1))).set (j * 9 + 2) (.int .i64 (q0 + 1 + 1))).set (j * 9 + 3) (.int .i64 (q0 + 1 + 1 + 1))).set (j * 9 + 4) (.int .i64 (q0 + 1 + 1 + 1 + 1)))) := by
          unfold Hid
          rw [hWA]
          have h0 : wr.ownsRow base 104 9 (.slice (some ⟨g, 0, none⟩) n cap) n (ndE.f (markNL q M j)) := by
            have := HS.out.own
            unfold Own at this
            rw [HML.out] at this
            exact this
          exact (World.ownsRow.stored (World.ownsRow.stored (World.ownsRow.stored (World.ownsRow.stored (World.ownsRow.stored h0 _ _).1 _ _).1 _ _).1 _ _).1 _ _).1
        have onA : Hid (Only (fun k => k = g) wr WA) := by
          unfold Hid
          rw [hWA]
          exact (((((Only.refl (fun k => k = g) wr).setCell (p := ⟨g, j * 9, none⟩) rfl _).setCell (p := ⟨g, j * 9 + 1, none⟩) rfl _).setCell (p := ⟨g, j * 9 + 2, none⟩) rfl _).setCell (p := ⟨g, j * 9 + 3, none⟩) rfl _).setCell (p := ⟨g, j * 9 + 4, none⟩) rfl _
        have r5 : WA.cell? ⟨g, j * 9 + 5, none⟩ = some y5 := by rw [hWA]; simp [go_sem, a5]
        have r6 : WA.cell? ⟨g, j * 9 + 6, none⟩ = some p.v := by rw [hWA]; simp [go_sem, c6]
        have r7 : WA.cell? ⟨g, j * 9 + 7, none⟩ = some y7 := by rw [hWA]; simp [go_sem, a7]
        have r8 : WA.cell? ⟨g, j * 9 + 8, none⟩ = some y8 := by rw [hWA]; simp [go_sem, a8]
        have rf : ∀ o, WA.frozen? ⟨g, o, none⟩ = false := fun o => by rw [hWA]; simp [f0]
        have gA : g < WA.heap.size := by rw [hWA]; simpa using hgw
        go_upto_region 14 with fail
        simp only [← hWA]
        clear hWA a0 a1 a2 a3 a4 a5 a7 a8 c6 f0
        go_wp2_with fail
        refine (markText_int _ _ (by omega) (by omega)).mono ?_
        rintro e w1 ⟨rfl, b1⟩
        replace r5 := (b1.cell (p := ⟨g, j * 9 + 5, none⟩) gA).trans r5
        replace r6 := (b1.cell (p := ⟨g, j * 9 + 6, none⟩) gA).trans r6
        replace r7 := (b1.cell (p := ⟨g, j * 9 + 7, none⟩) gA).trans r7
        replace r8 := (b1.cell (p := ⟨g, j * 9 + 8, none⟩) gA).trans r8
        replace rf : ∀ o, w1.frozen? ⟨g, o, none⟩ = false := fun o => (b1.frozen (p := ⟨g, o, none⟩) gA).trans (rf o)
        have g1' : g < w1.heap.size := Nat.lt_of_lt_of_le gA b1.size
        have own1 := Hid.intro (World.ownsRow.stored (ownsRow_belowM ownA.out b1) (j * 9 + 5) (.string (markI (q0 + 1 + 1 + 1 + 1 + 1)))).1
        have on1 : Hid (Only (fun k => k = g) wr (w1.setCell ⟨g, j * 9 + 5, none⟩ (.string (markI (q0 + 1 + 1 + 1 + 1 + 1))))) := (onA.out.trans (Below.any b1)).setCell (p := ⟨g, j * 9 + 5, none⟩) rfl _
        clear b1 ownA onA
        go_upto_region 16 with fail
        obtain ⟨W1, hW1⟩ : ∃ W1, W1 = w1.setCell ⟨g, j * 9 + 5, none⟩ (.string (markI (q0 + 1 + 1 + 1 + 1 + 1))) := ⟨_, rfl⟩
        simp only [← hW1] at own1 on1 ⊢
        have s6 : W1.cell? ⟨g, j * 9 + 6, none⟩ = some p.v := by rw [hW1]; simp [go_sem, r6]
        have s7 : W1.cell? ⟨g, j * 9 + 7, none⟩ = some y7 := by rw [hW1]; simp [go_sem, r7]
        have s8 : W1.cell? ⟨g, j * 9 + 8, none⟩ = some y8 := by rw [hW1]; simp [go_sem, r8]
        have sf : ∀ o, W1.frozen? ⟨g, o, none⟩ = false := fun o => by rw [hW1]; simp [rf]
        have gW : g < W1.heap.size := by rw [hW1]; simpa using g1'
        clear hW1 r5 r6 r7 r8 rf g1' gA
        have hop1 : Hid (Own diE 126 W1 base p.v p.n.names) := HOP.out.only on1.out HGN.out
        have hbW : base ≤ W1.heap.size := Nat.le_trans hbs on1.out.size
        go_wp2_with fail
        refine (markD_any p.n.names p.v base _ W1 hbW hop1.out (by have := HPN.out; omega) (by omega) (by omega)).mono ?_
        rintro e w2 ⟨rfl, o2, q2⟩
        have t7 := (q2.cell (b := g) (o := j * 9 + 7) gW (fun h => HGN.out g h.symm rfl)).trans s7
        have t8 := (q2.cell (b := g) (o := j * 9 + 8) gW (fun h => HGN.out g h.symm rfl)).trans s8
        have tf : ∀ o, w2.frozen? ⟨g, o, none⟩ = false := fun o => (q2.frozen (b := g) (o := o) gW (fun h => HGN.out g h.symm rfl)).trans (sf o)
        have O2 := Hid.intro o2
        have Q2 := Hid.intro q2
        have ownB : Hid (w2.ownsRow base 104 9 (.slice (some ⟨g, 0, none⟩) n cap) n (((((((ndE.f (markNL q M j)).set (j * 9) (.int .i64 (q0))).set (j * 9 + 1) (.int .i64 (q0 + 1))).set (j * 9 + 2) (.int .i64 (q0 + 1 + 1))).set (j * 9 + 3) (.int .i64 (q0 + 1 + 1 + 1))).set (j * 9 + 4) (.int .i64 (q0 + 1 + 1 + 1 + 1))).set (j * 9 + 5) (.string (markI (q0 + 1 + 1 + 1 + 1 + 1))))) := by
          unfold Hid
          refine ⟨own1.out.1, ?_⟩
          rcases own1.out.2 with hn | ⟨g', cap', cur, hv, hg, hgg, rest⟩
          · exact .inl hn
          · have hgg' : g' = g := by simp only [Value.slice.injEq, Option.some.injEq, Addr.mk.injEq, and_true, true_and] at hv; exact hv.1.symm
            exact .inr ⟨g', cap', cur, hv, hg, (q2.block g' (by rw [hgg']; exact gW) (by rw [hgg']; exact fun h => HGN.out g h.symm rfl)).trans hgg, rest⟩
        clear s6 s7 s8 sf own1 o2 q2 hop1
        have hfin : Hid (∀ a b : Int, a = q0 + 6 + 2 * (p.n.names.length : Nat) → b = q0 + 7 + 2 * (p.n.names.length : Nat) → MkS w base top g n cap q M (j + 1) ((w2.setCell ⟨g, j * 9 + 7, none⟩ (.int .i64 a)).setCell ⟨g, j * 9 + 8, none⟩ (.int .i64 b))) := by
          intro a b ha hb2
          subst ha hb2
          have hset : markNL q M (j + 1) = (markNL q M j).set j (mkN q0 p) := by rw [markNL, HAT.out]
          have hO2 : Only (fun k => some k = p.v.ownBlock ∨ k = g) wr ((w2.setCell ⟨g, j * 9 + 7, none⟩ (.int .i64 (q0 + 6 + 2 * (p.n.names.length : Nat)))).setCell ⟨g, j * 9 + 8, none⟩ (.int .i64 (q0 + 7 + 2 * (p.n.names.length : Nat)))) := (((on1.out.mono (fun k _ h => Or.inr h)).trans (Q2.out.mono (fun k _ h => Or.inl h))).setCell (p := ⟨g, j * 9 + 7, none⟩) (.inr rfl) _).setCell (p := ⟨g, j * 9 + 8, none⟩) (.inr rfl) _
          have hOg : Only (fun k => k = g) w2 ((w2.setCell ⟨g, j * 9 + 7, none⟩ (.int .i64 (q0 + 6 + 2 * (p.n.names.length : Nat)))).setCell ⟨g, j * 9 + 8, none⟩ (.int .i64 (q0 + 7 + 2 * (p.n.names.length : Nat)))) := ((Only.refl (fun k => k = g) w2).setCell (p := ⟨g, j * 9 + 7, none⟩) rfl _).setCell (p := ⟨g, j * 9 + 8, none⟩) rfl _
          refine ⟨?_, ?_, ?_⟩
          · have hx := (World.ownsRow.stored (World.ownsRow.stored ownB.out (j * 9 + 7) (.int .i64 (q0 + 6 + 2 * (p.n.names.length : Nat)))).1 (j * 9 + 8) (.int .i64 (q0 + 7 + 2 * (p.n.names.length : Nat)))).1
            have he := set9 (markNL q M j) j HJS.out (mkN q0 p) (by rw [mkN_v, HSJ.out])
            unfold Own
            rw [markNL_len, HN.out, hset, he]
            simp only [mkN]
            simp only [Int.add_assoc, Int.reduceAdd] at hx ⊢
            exact hx
          · intro i hi2
            by_cases hij : i = j
            · subst hij
              have e1 : (markNL q M (i + 1))[i] = mkN q0 p := by rw [markNL_get q M (i + 1) i (by omega) hi2, HAT.out]
              rw [e1, mkN_v]
              have h3 := O2.out.only hOg HGN.out
              simp only [mkN]
              have h4 : markDL (q0 + 6) p.n.names p.n.names.length = markDL (q0 + 1 + 1 + 1 + 1 + 1 + 1) p.n.names p.n.names.length := by
                rw [show q0 + 6 = q0 + 1 + 1 + 1 + 1 + 1 + 1 by omega]
              rw [h4]
              exact h3
            · have hi3 : i < (markNL q M j).length := by rw [markNL_len] at hi2 ⊢; exact hi2
              have e1 : (markNL q M (j + 1))[i] = (markNL q M j)[i] := by simp only [markNL]; rw [List.getElem_set_ne (by omega)]
              rw [e1]
              refine (HS.out.nms i hi3).only hO2 (fun k hk h => ?_)
              have hkM := markNL_v q M j i hi3
              rw [hkM] at hk
              rcases h with h | h
              · have hjM : j < M.length := by have := HN.out; omega
                have hiM : i < M.length := by rw [markNL_len] at hi3; exact hi3
                have hpv : M[j].v.ownBlock = some k := by rw [HP.out]; exact h.symm
                rcases Nat.lt_or_gt_of_ne hij with hc | hc
                · have := HI.out i j hc hjM k k hk hpv; omega
                · have := HI.out j i hc hiM k k hpv hk; omega
              · have hnn := HS.out.nms i hi3
                rw [hkM] at hnn
                exact own_apart (T := 104) (U := 126) (by decide) HS.out.own hnn rfl (h ▸ hk)
          · refine HS.out.bel.then hO2 (fun k hk h => ?_)
            rcases h with h | h
            · have h5 := HTN.out M[j] (List.getElem_mem hjM) k (by rw [HP.out]; exact h.symm)
              exact ⟨(HOP.out.lt k h.symm).1, h5⟩
            · have h5 := (HS.out.own.lt g rfl).1
              exact ⟨by omega, by omega⟩
        have hpn := HPN.out
        clear HS HOP O2 Q2 ownB on1 HGN HSJ HAT HP HJS HML
        go_wp2
        go_roundw
        case rel => exact ⟨j + 1, q0 + 8 + 2 * (p.n.names.length : Nat), by go_num, by go_num, HKN.out.symm, by omega, hfin.out _ _ (by omega) (by omega)⟩
        case measure => simp [intOf]; omega
      · obtain rfl : j = n := by omega
        have HV : Hid (VolO wr base (.slice (some ⟨g, 0, none⟩) j cap) (markNL q M j)) := ⟨HS.out.own, fun p hp => by
          obtain ⟨i, hi, rfl⟩ := List.mem_iff_getElem.1 hp
          exact HS.out.nms i hi⟩
        have HBE := Hid.intro HS.out.bel
        clear HS
        have hqe : q0 = kqI q M j := HQ.out
        go_wp2
        go_ret
        exact ⟨ret_int hqe, HV.out, HBE.out⟩
end Go.Proofs.YtnhjicbgmocilaaGreat
namespace Go.Proofs.YtnhjicbgmocilaaGreat
open Go.RowKit
set_option linter.unusedVariables false
set_option maxRecDepth 100000 in
set_option maxHeartbeats 8000000 in
theorem heldN_any (P M : List Np) (v : Value) (N : Nat) (q : Int) (w : World) (hN : N ≤ w.heap.size) (hr : VolR w N v P) (hP : ∀ i (h : i < P.length), P[i] = mkAt q M i) (hl : P.length ≤ 1048576) (hn : ∀ p ∈ M, p.n.names.length ≤ 1048576) (h1 : 1 ≤ q) (h2 : q ≤ 1000) :
    Calls Tryz.prog 56 #[v, .int .i64 q] w fun e w' => e = .returned (.int .i64 (kqI q M P.length)) ∧ Below w.heap.size w w' := by
  obtain ⟨a, cap, rfl, lc, hm, hcells⟩ := ndE_cell hr.row
  have HC := Hid.intro hcells
  have HP := Hid.intro hP
  have HR := Hid.intro hr.nms
  have HKB : Hid (∀ j, q ≤ kqI q M j ∧ kqI q M j ≤ q + 2097160 * j) := fun j => kqI_bd hn j
  have HD : Hid (∀ j, (M.getD j ndE.z).n.names.length ≤ 1048576) := fun j => getD_names hn j
  clear hcells hP hr hn
  go_enter Tryz.func56, Tryz.ntmps56
  go_wp2
  go_loopw [1, 5] (fun x i wr => ∃ (j : Nat) (q0 : Int), i = .int .i64 j ∧ x = .int .i64 q0 ∧ Hid (q0 = kqI q M j) ∧ j ≤ P.length ∧ Hid (Below w.heap.size w wr)) (fun _ i _ => P.length - (intOf i).toNat)
  case atStart => exact ⟨0, q, rfl, rfl, rfl, Nat.zero_le _, Below.refl _ _⟩
  case round =>
    obtain ⟨j, q0, rfl, rfl, HQ, hj, HB⟩ := hrel
    have hkb := HKB.out j
    have hq0 : 1 ≤ q0 ∧ q0 ≤ 1000 + 2097160 * 1048576 := by have := HQ.out; omega
    clear hkb
    by_cases hlt : j < P.length
    · obtain ⟨b, off, rfl, hbN, hcc⟩ := HC.out (by intro h; rw [h] at hlt; simp at hlt)
      have hc := hcc j hlt
      have hrj := HR.out _ (List.getElem_mem hlt)
      have hat : P[j] = mkN q0 (M.getD j ndE.z) := by rw [HP.out j hlt]; unfold mkAt; rw [← HQ.out]
      have hpn := HD.out j
      have hkn : kqI q M (j + 1) = q0 + 8 + 2 * ((M.getD j ndE.z).n.names.length : Nat) := by simp only [kqI]; rw [← HQ.out]
      rw [hat] at hc hrj
      generalize M.getD j ndE.z = p at hc hrj hpn hkn
      have hln := mkN_len q0 p
      obtain ⟨c0, c1, c2, c3, c4, c5, c6, c7, c8⟩ := hc.kept HB.out (by omega)
      have HRJ := Hid.intro (hrj.kept (HB.out.mono hN))
      have HKN := Hid.intro hkn
      have hs := HB.out.size
      have d0 : wr.cell? ⟨b, off + j * 9, none⟩ = some (.int .i64 q0) := c0
      have d1 : wr.cell? ⟨b, off + j * 9 + 1, none⟩ = some (.int .i64 (q0 + 1)) := c1
      have d2 : wr.cell? ⟨b, off + j * 9 + 2, none⟩ = some (.int .i64 (q0 + 1 + 1)) := by rw [c2]; simp only [mkN, Int.add_assoc, Int.reduceAdd]
      have d3 : wr.cell? ⟨b, off + j * 9 + 3, none⟩ = some (.int .i64 (q0 + 1 + 1 + 1)) := by rw [c3]; simp only [mkN, Int.add_assoc, Int.reduceAdd]
      have d4 : wr.cell? ⟨b, off + j * 9 + 4, none⟩ = some (.int .i64 (q0 + 1 + 1 + 1 + 1)) := by rw [c4]; simp only [mkN, Int.add_assoc, Int.reduceAdd]
      have d5 : wr.cell? ⟨b, off + j * 9 + 5, none⟩ = some (.string (markI (q0 + 1 + 1 + 1 + 1 + 1))) := by rw [c5]; simp only [mkN, Int.add_assoc, Int.reduceAdd]
      have d6 : wr.cell? ⟨b, off + j * 9 + 6, none⟩ = some (mkN q0 p).v := c6
      have d7 : wr.cell? ⟨b, off + j * 9 + 7, none⟩ = some (.int .i64 (q0 + 1 + 1 + 1 + 1 + 1 + 1 + 2 * (p.n.names.length : Nat))) := by rw [c7]; simp only [mkN, Int.add_assoc, Int.reduceAdd]
      have d8 : wr.cell? ⟨b, off + j * 9 + 8, none⟩ = some (.int .i64 (q0 + 1 + 1 + 1 + 1 + 1 + 1 + 2 * (p.n.names.length : Nat) + 1)) := by
        rw [c8]
        have e : q0 + 7 + 2 * (p.n.names.length : Nat) = q0 + 1 + 1 + 1 + 1 + 1 + 1 + 2 * (p.n.names.length : Nat) + 1 := by omega
        simp only [mkN, e]
      have HX : Hid (∀ w', Below wr.heap.size wr w' → w'.cell? ⟨b, off + j * 9 + 5, none⟩ = some (.string (markI (q0 + 1 + 1 + 1 + 1 + 1))) ∧ w'.cell? ⟨b, off + j * 9 + 6, none⟩ = some (mkN q0 p).v ∧ w'.cell? ⟨b, off + j * 9 + 7, none⟩ = some (.int .i64 (q0 + 1 + 1 + 1 + 1 + 1 + 1 + 2 * (p.n.names.length : Nat))) ∧ w'.cell? ⟨b, off + j * 9 + 8, none⟩ = some (.int .i64 (q0 + 1 + 1 + 1 + 1 + 1 + 1 + 2 * (p.n.names.length : Nat) + 1))) := fun w' hb => ⟨atCell hb d5 (by omega), atCell hb d6 (by omega), atCell hb d7 (by omega), atCell hb d8 (by omega)⟩
      have i1 : (0 : Int) ≤ (j : Int) ∧ (j : Int) < (P.length : Int) := by omega
      have i2 : (j : Int) < (P.length : Int) := by omega
      clear hcc hc hrj hat hkn c0 c1 c2 c3 c4 c5 c6 c7 c8
      go_upto_region 19 with fail
      clear d0 d1 d2 d3 d4
      go_cut [64] from 6 to 93 (fun s wc => s = .bool false ∧ Below wr.heap.size wr wc)
      case first =>
        clear d6 d7 d8
        go_region_with (go_at_call 55; refine (markText_int _ _ (by omega) (by omega)).mono ?_; rintro e w1 ⟨rfl, b1⟩; have x0 := (HX.out w1 (by first | exact b1 | exact ((Below.refl _ _).drew).trans b1)).1; have B1 : Below wr.heap.size wr w1 := (by first | exact b1 | exact ((Below.refl _ _).drew).trans b1); clear b1)
        all_goals
          clear HX d5
          go_wp2_with fail
          go_meet
          case rel => exact ⟨rfl, B1⟩
      case rest =>
      obtain ⟨rfl, bc⟩ := hcut
      clear d5 d6 d7 d8
      obtain ⟨d5, d6, d7, d8⟩ := HX.out wc bc
      have hbc := bc.size
      have HBC : Hid (Below w.heap.size w wc) := HB.out.trans (bc.mono hs)
      have HRC := Hid.intro (HRJ.out.kept (bc.mono (show N ≤ wr.heap.size by omega)))
      clear HX HB HRJ d5
      go_wp2_with fail
      refine (heldD_any (mkN q0 p).n.names (mkN q0 p).v N (q0 + 1 + 1 + 1 + 1 + 1 + 1) wc (by omega) HRC.out (fun i hi => ?_) (by rw [hln]; omega) (by omega) (by omega)).mono ?_
      · have e : (mkN q0 p).n.names = markDL (q0 + 1 + 1 + 1 + 1 + 1 + 1) p.n.names p.n.names.length := by
          show markDL (q0 + 6) p.n.names p.n.names.length = _
          rw [show q0 + 6 = q0 + 1 + 1 + 1 + 1 + 1 + 1 by omega]
        simp only [e] at hi ⊢
        exact markDL_get _ _ _ i (by rw [markDL_len] at hi; exact hi) hi
      rintro e w1 ⟨rfl, b1⟩
      rw [hln]
      replace d7 := atCell b1 d7 (by omega)
      replace d8 := atCell b1 d8 (by omega)
      have HBF : Hid (Below w.heap.size w w1) := HBC.out.trans (b1.mono (by omega))
      clear d6 b1 HRC HBC
      go_wp2_with fail
      go_roundw
      case rel => exact ⟨j + 1, q0 + 8 + 2 * (p.n.names.length : Nat), by go_num, by go_num, HKN.out.symm, by omega, HBF⟩
      case measure => simp [intOf]; omega
    · obtain rfl : j = P.length := by omega
      have hqe : q0 = kqI q M P.length := HQ.out
      go_wp2
      go_ret
      exact ⟨ret_int hqe, HB.out⟩
end Go.Proofs.YtnhjicbgmocilaaGreat
namespace Go.Proofs.YtnhjicbgmocilaaGreat
open Go.RowKit
set_option linter.unusedVariables false
set_option maxHeartbeats 2000000 in
theorem markVol_any (nx : Int) (M : List Np) (u : Value) (base top : Nat) (q : Int) (w : World) (hb : base ≤ w.heap.size) (ho : VolO w base u M) (hi : Inc M) (htv : ∀ k, u.ownBlock = some k → k < top) (htn : ∀ p ∈ M, ∀ k, p.v.ownBlock = some k → k < top) (hl : M.length ≤ 1048576) (hn : ∀ p ∈ M, p.n.names.length ≤ 1048576) (h1 : 1 ≤ q) (h2 : q ≤ 1000) :
    Calls Tryz.prog 27 #[volV nx u, .int .i64 q] w fun e w' => e = .returned (.int .i64 (kqI q M M.length)) ∧ VolO w' base u (markNL q M M.length) ∧ Only (fun k => base ≤ k ∧ k < top) w w' := by
  have HO := Hid.intro ho
  have HTV := Hid.intro htv
  have HTN := Hid.intro htn
  have HN := Hid.intro hn
  have HI := Hid.intro hi
  clear ho htv htn hn hi
  go_enter Tryz.func27, Tryz.ntmps27
  go_wp2_with fail
  obtain ⟨W, hW, bW, zW, cW, fW⟩ := boxed w #[.int .i64 nx, u] 32
  try simp only [hW]
  refine (markN_any M u base top q W (by omega) (HO.out.kept bW) HI.out HTV.out HTN.out hl HN.out h1 h2).mono ?_
  rintro e w1 ⟨rfl, r1, o1⟩
  have HR := Hid.intro r1
  have HB := Hid.intro ((Below.any bW : Only (fun k => base ≤ k ∧ k < top) w W).trans o1)
  generalize hzz : kqI q M M.length = z
  have HZ := Hid.intro hzz
  clear hzz
  clear hW bW cW fW r1 o1
  go_wp2
  go_ret
  exact ⟨ret_int HZ.out.symm, HR.out, HB.out⟩
set_option maxHeartbeats 2000000 in
theorem heldVol_any (nx : Int) (P M : List Np) (u : Value) (N : Nat) (q : Int) (w : World) (hN : N ≤ w.heap.size) (hr : VolR w N u P) (hP : ∀ i (h : i < P.length), P[i] = mkAt q M i) (hl : P.length ≤ 1048576) (hn : ∀ p ∈ M, p.n.names.length ≤ 1048576) (h1 : 1 ≤ q) (h2 : q ≤ 1000) :
    Calls Tryz.prog 30 #[volV nx u, .int .i64 q] w fun e w' => e = .returned (.int .i64 (kqI q M P.length)) ∧ Below w.heap.size w w' := by
  have HR := Hid.intro hr
  have HP := Hid.intro hP
  have HN := Hid.intro hn
  have hk := kqI_bd (q := q) hn P.length
  clear hr hP hn
  go_enter Tryz.func30, Tryz.ntmps30
  go_wp2_with fail
  obtain ⟨W, hW, bW, zW, cW, fW⟩ := boxed w #[.int .i64 nx, u] 32
  try simp only [hW]
  refine (heldN_any P M u N q W (by omega) (HR.out.kept (bW.mono hN)) HP.out hl HN.out h1 h2).mono ?_
  rintro e w1 ⟨rfl, b1⟩
  have HB := Hid.intro (bW.trans (b1.mono (by omega)))
  generalize hzz : kqI q M P.length = z at hk ⊢
  have HZ := Hid.intro hzz
  clear hzz
  have hz : ¬ z < 0 := by omega
  clear hW bW cW fW b1
  go_wp2
  go_ret
  exact ⟨ret_int HZ.out.symm, HB.out⟩
theorem nodeB_names {L : List Nd} {n : Nd} (h : nodeB L n = true) : n.names.length ≤ 12 := by
  unfold nodeB at h
  simp only [Bool.and_eq_true] at h
  obtain ⟨_, h⟩ := h
  split at h
  · simp only [Bool.and_eq_true, plainB, decide_eq_true_eq] at h
    omega
  · split at h
    · simp only [Bool.and_eq_true, plainB, decide_eq_true_eq] at h
      omega
    · split at h
      · simp only [Bool.and_eq_true, decide_eq_true_eq] at h
        omega
      · cases h
theorem volB_bd {next : Int} {L : List Nd} (h : volB next L = true) : L.length ≤ 24 ∧ ∀ n ∈ L, n.names.length ≤ 12 := by
  unfold volB at h
  simp only [Bool.and_eq_true] at h
  obtain ⟨⟨⟨⟨⟨⟨_, h2⟩, _⟩, h4⟩, _⟩, _⟩, _⟩ := h
  refine ⟨?_, fun n hn => nodeB_names (indB_mem L h4 n hn)⟩
  have : (1 : Int) ≤ (L.length : Int) ∧ (L.length : Int) ≤ 24 := by simpa [inB] using h2
  omega
end Go.Proofs.YtnhjicbgmocilaaGreat
namespace Go.Proofs.YtnhjicbgmocilaaGreat
open Go.RowKit
set_option linter.unusedVariables false
/-- How great the lists of a right tenant are. -/
structure Gd (t : Ten) : Prop where
  inc : Inc t.L
  l : t.L.length ≤ 1048576
  n : ∀ p ∈ t.L, p.n.names.length ≤ 1048576
  a : t.A.length ≤ 1048576
  s : t.S.length ≤ 1048576
/-- A tenant's memory, from base to top; that of its volume from v0 to v1. -/
structure TenM (w : World) (base top v0 v1 : Nat) (t : Ten) : Prop where
  lo : base ≤ v0
  mid : v0 ≤ v1
  hi : v1 ≤ top
  vol : VolO w v0 t.u t.L
  vt : ∀ k, t.u.ownBlock = some k → k < v1
  vn : ∀ p ∈ t.L, ∀ k, p.v.ownBlock = some k → k < v1
  aud : Own ntE 81 w base t.va t.A
  ses : Own seE 57 w base t.vs t.S
  at' : ∀ k, t.va.ownBlock = some k → k < top ∧ ¬ (v0 ≤ k ∧ k < v1)
  st : ∀ k, t.vs.ownBlock = some k → k < top ∧ ¬ (v0 ≤ k ∧ k < v1)
theorem TenM.own {w : World} {base top v0 v1 : Nat} {t : Ten} (h : TenM w base top v0 v1 t) : TenO w base t := ⟨h.vol.lower h.lo, h.aud, h.ses⟩
theorem TenM.kept {w w' : World} {base top v0 v1 : Nat} {t : Ten} (h : TenM w base top v0 v1 t) (hb : Below w.heap.size w w') : TenM w' base top v0 v1 t :=
  ⟨h.lo, h.mid, h.hi, h.vol.kept hb, h.vt, h.vn, h.aud.kept hb, h.ses.kept hb, h.at', h.st⟩
def endT (q : Int) (t : Ten) : Int := kqI q t.L t.L.length + 5 * (t.A.length : Nat) + 5 * (t.S.length : Nat)
/-- A tenant that is marked from q on. -/
structure MkR (w : World) (N : Nat) (q : Int) (t : Ten) : Prop where
  vol : VolR w N t.u (markNL q t.L t.L.length)
  aud : Row ntE w N t.va (markTL (kqI q t.L t.L.length) t.A t.A.length)
  ses : Row seE w N t.vs (markSL (kqI q t.L t.L.length + 5 * (t.A.length : Nat)) t.S t.S.length)
theorem MkR.kept {w w' : World} {N : Nat} {q : Int} {t : Ten} (h : MkR w N q t) (hb : Below N w w') : MkR w' N q t := ⟨h.vol.kept hb, h.aud.kept hb, h.ses.kept hb⟩
theorem MkR.up {w : World} {N N' : Nat} {q : Int} {t : Ten} (h : MkR w N q t) (hN : N ≤ N') : MkR w N' q t := ⟨h.vol.up hN, h.aud.up hN, h.ses.up hN⟩
theorem MkR.on {w w' : World} {q : Int} {t : Ten} (h : MkR w w.heap.size q t) (hb : Below w.heap.size w w') : MkR w' w'.heap.size q t := (h.kept hb).up hb.size
theorem VolO.at' {w w' : World} {base : Nat} {S : Nat → Prop} {u : Value} {M : List Np} (h : VolO w base u M) (hb : Only S w w') (h1 : ∀ k, u.ownBlock = some k → ¬ S k) (h2 : ∀ p ∈ M, ∀ k, p.v.ownBlock = some k → ¬ S k) : VolO w' base u M := ⟨h.own.only hb h1, fun p hp => (h.nms p hp).only hb (h2 p hp)⟩
theorem endT_bd {q : Int} {t : Ten} (hg : Gd t) (h1 : 1 ≤ q) (h2 : q ≤ 100) : (1 ≤ kqI q t.L t.L.length ∧ kqI q t.L t.L.length ≤ 2199100000000) ∧ (1 ≤ endT q t ∧ endT q t ≤ 2199200000000) := by
  have hk := kqI_bd (q := q) hg.n t.L.length
  have := hg.l
  have := hg.a
  have := hg.s
  unfold endT
  omega
set_option maxHeartbeats 4000000 in
theorem markTenant_any (t : Ten) (base top v0 v1 : Nat) (q : Int) (w : World) (hb : top ≤ w.heap.size) (ho : TenM w base top v0 v1 t) (hg : Gd t) (h1 : 1 ≤ q) (h2 : q ≤ 100) :
    Calls Tryz.prog 9 #[t.v, .int .i64 q] w fun e w' => e = .returned (.int .i64 (endT q t)) ∧ MkR w' w'.heap.size q t ∧ Only (fun k => base ≤ k ∧ k < top) w w' := by
  have HO := Hid.intro ho
  have HG := Hid.intro hg
  have hbd := (endT_bd hg h1 h2).1
  clear ho hg
  go_enter Tryz.func9, Tryz.ntmps9
  go_wp2_with fail
  obtain ⟨W, hW, bW, zW, c1, f1⟩ := boxed w t.arr 36
  try simp only [hW]
  have HE : Hid (endT q t = kqI q t.L t.L.length + 5 * (t.A.length : Nat) + 5 * (t.S.length : Nat)) := rfl
  generalize hK : kqI q t.L t.L.length = K at hbd HE
  have HK := Hid.intro hK
  clear hK
  have HM := Hid.intro (HO.out.kept bW)
  have hlo := HO.out.lo
  have hmid := HO.out.mid
  have hhi := HO.out.hi
  have OB : Hid (Only (fun k => base ≤ k ∧ k < top) w W) := Below.any bW
  have hzt : top ≤ w.heap.size := hb
  clear hW bW f1 HO
  refine (markVol_any t.nx t.L t.u v0 v1 q W (by omega) HM.out.vol HG.out.inc HM.out.vt HM.out.vn HG.out.l HG.out.n h1 (by omega)).mono ?_
  rintro e w1 ⟨rfl, o1, n1⟩
  rw [HK.out]
  have z1 := n1.size
  replace c1 : ∀ o, w1.cell? ⟨w.heap.size, o, none⟩ = t.arr[o]? := fun o => (n1.cell (by omega) (fun h => by omega)).trans (c1 o)
  have HA1 : Hid (Own ntE 81 w1 base t.va t.A) := HM.out.aud.only n1 (fun k hk h => (HM.out.at' k hk).2 ⟨h.1, h.2⟩)
  have HS1 : Hid (Own seE 57 w1 base t.vs t.S) := HM.out.ses.only n1 (fun k hk h => (HM.out.st k hk).2 ⟨h.1, h.2⟩)
  replace OB : Hid (Only (fun k => base ≤ k ∧ k < top) w w1) := OB.out.trans (n1.mono (fun k _ h => ⟨by omega, by omega⟩))
  have HV1 := Hid.intro o1
  clear o1 n1
  have ha20 := HG.out.a
  have hs3 := HG.out.s
  go_wp2_with fail
  refine (markNoteS_any t.A t.va base K w1 (by omega) HA1.out (by omega) (by omega) (by omega)).mono ?_
  rintro e w2 ⟨rfl, o2, n2⟩
  have z2 := n2.size
  replace c1 : ∀ o, w2.cell? ⟨w.heap.size, o, none⟩ = t.arr[o]? := fun o => (n2.cell (by omega) (fun h => by have := (HM.out.at' _ h.symm).1; omega)).trans (c1 o)
  have HV2 : Hid (VolO w2 v0 t.u (markNL q t.L t.L.length)) := HV1.out.at' n2 (fun k hk h => own_apart (T := 104) (U := 81) (by decide) HV1.out.own HA1.out hk h.symm) (fun p hp k hk h => own_apart (T := 126) (U := 81) (by decide) (HV1.out.nms p hp) HA1.out hk h.symm)
  have HS2 : Hid (Own seE 57 w2 base t.vs t.S) := HS1.out.only n2 (fun k hk h => own_apart (T := 57) (U := 81) (by decide) HS1.out HA1.out hk h.symm)
  replace OB : Hid (Only (fun k => base ≤ k ∧ k < top) w w2) := OB.out.trans (n2.mono (fun k _ h => ⟨(HA1.out.lt k h.symm).1, (HM.out.at' k h.symm).1⟩))
  have HA2 := Hid.intro o2
  clear o2 n2 HV1 HS1 HA1
  go_wp2_with fail
  refine (markSessionS_any t.S t.vs base (K + 5 * (t.A.length : Nat)) w2 (by omega) HS2.out (by omega) (by omega) (by omega)).mono ?_
  rintro e w3 ⟨rfl, o3, n3⟩
  have HV3 : Hid (VolO w3 v0 t.u (markNL q t.L t.L.length)) := HV2.out.at' n3 (fun k hk h => own_apart (T := 104) (U := 57) (by decide) HV2.out.own HS2.out hk h.symm) (fun p hp k hk h => own_apart (T := 126) (U := 57) (by decide) (HV2.out.nms p hp) HS2.out hk h.symm)
  have HA3 : Hid (Own ntE 81 w3 base t.va (markTL K t.A t.A.length)) := HA2.out.only n3 (fun k hk h => own_apart (T := 81) (U := 57) (by decide) HA2.out HS2.out hk h.symm)
  replace OB : Hid (Only (fun k => base ≤ k ∧ k < top) w w3) := OB.out.trans (n3.mono (fun k _ h => ⟨(HS2.out.lt k h.symm).1, (HM.out.st k h.symm).1⟩))
  have HS3 := Hid.intro o3
  have HR : Hid (MkR w3 w3.heap.size q t) := ⟨HV3.out.rowAll, by rw [HK.out]; exact HA3.out.rowAll, by rw [HK.out]; exact HS3.out.rowAll⟩
  clear o3 n3 HV2 HS2 HA2 HV3 HA3 HS3 c1
  go_wp2
  go_ret
  exact ⟨ret_int HE.out.symm, HR.out, OB.out⟩
set_option maxHeartbeats 4000000 in
theorem heldTenant_any (t : Ten) (N : Nat) (q : Int) (w : World) (hN : N ≤ w.heap.size) (hr : MkR w N q t) (hg : Gd t) (h1 : 1 ≤ q) (h2 : q ≤ 100) :
    Calls Tryz.prog 10 #[t.v, .int .i64 q] w fun e w' => e = .returned (.int .i64 (endT q t)) ∧ Below w.heap.size w w' := by
  have HR := Hid.intro hr
  have HG := Hid.intro hg
  have hbd := (endT_bd hg h1 h2).1
  clear hr hg
  go_enter Tryz.func10, Tryz.ntmps10
  go_wp2_with fail
  obtain ⟨W, hW, bW, zW, c1, f1⟩ := boxed w t.arr 36
  try simp only [hW]
  have HE : Hid (endT q t = kqI q t.L t.L.length + 5 * (t.A.length : Nat) + 5 * (t.S.length : Nat)) := rfl
  have HML : Hid ((markNL q t.L t.L.length).length = t.L.length) := markNL_len _ _ _
  have HV0 : Hid (VolR w N t.u (markNL q t.L t.L.length)) := HR.out.vol
  have HA0 : Hid (Row ntE w N t.va (markTL (kqI q t.L t.L.length) t.A t.A.length)) := HR.out.aud
  have HS0 : Hid (Row seE w N t.vs (markSL (kqI q t.L t.L.length + 5 * (t.A.length : Nat)) t.S t.S.length)) := HR.out.ses
  have HGET : Hid (∀ i (h : i < (markNL q t.L t.L.length).length), (markNL q t.L t.L.length)[i] = mkAt q t.L i) := fun i h => markNL_get q t.L t.L.length i (by rw [markNL_len] at h; exact h) h
  have hzw : w.heap.size < W.heap.size := by omega
  have HB := Hid.intro bW
  clear hW bW f1 HR
  refine (heldVol_any t.nx (markNL q t.L t.L.length) t.L t.u N q W (by omega) (HV0.out.kept (HB.out.mono hN)) HGET.out (by rw [HML.out]; exact HG.out.l) HG.out.n h1 (by omega)).mono ?_
  rintro e w1 ⟨rfl, b1⟩
  rw [HML.out]
  generalize hK : kqI q t.L t.L.length = K at hbd HE HA0 HS0 ⊢
  have z1 := b1.size
  replace c1 := keepC b1 (by omega) c1
  replace HB := Hid.intro (HB.out.trans (b1.mono (by omega)))
  have ha20 := HG.out.a
  have hs3 := HG.out.s
  have hn1 : ¬ K < 0 := by omega
  clear b1 hK HV0 HGET HML
  go_wp2_with fail
  have HLT : Hid ((markTL K t.A t.A.length).length = t.A.length) := markTL_len _ _ _
  have HLS : Hid ((markSL (K + 5 * (t.A.length : Nat)) t.S t.S.length).length = t.S.length) := markSL_len _ _ _
  refine (heldNoteS_any (markTL K t.A t.A.length) t.va N K w1 (by omega) (HA0.out.kept (HB.out.mono hN)) (fun i h => markTL_get _ _ _ i (by rw [markTL_len] at h; exact h) h) (by rw [HLT.out]; omega) (by omega) (by omega)).mono ?_
  rintro e w2 ⟨rfl, b2⟩
  rw [HLT.out]
  have z2 := b2.size
  replace c1 := keepC b2 (by omega) c1
  replace HB := Hid.intro (HB.out.trans (b2.mono (by omega)))
  have hn2 : ¬ (K + 5 * (t.A.length : Int)) < 0 := by omega
  clear b2 HA0 HLT
  go_wp2_with fail
  refine (heldSessionS_any (markSL (K + 5 * (t.A.length : Nat)) t.S t.S.length) t.vs N (K + 5 * (t.A.length : Nat)) w2 (by omega) (HS0.out.kept (HB.out.mono hN)) (fun i h => markSL_get _ _ _ i (by rw [markSL_len] at h; exact h) h) (by rw [HLS.out]; omega) (by omega) (by omega)).mono ?_
  rintro e w3 ⟨rfl, b3⟩
  rw [HLS.out]
  replace HB := Hid.intro (HB.out.trans (b3.mono (by omega)))
  have hn3 : ¬ (K + 5 * (t.A.length : Int) + 5 * (t.S.length : Int)) < 0 := by omega
  clear b3 HS0 HLS c1
  go_wp2
  go_ret
  exact ⟨ret_int HE.out.symm, HB.out⟩
end Go.Proofs.YtnhjicbgmocilaaGreat
namespace Go.Proofs.YtnhjicbgmocilaaGreat
open Go.RowKit
set_option linter.unusedVariables false
theorem inB_outK {x a b : Int} (h : inB x a b = true) : a ≤ x ∧ x ≤ b := by simpa [inB] using h
theorem nmsB_size {M : List Nd} : ∀ (l : List Di) {p : Option ByteArray}, nmsB M p l = true → ∀ e ∈ l, e.nm.size ≤ 8
  | [], _, _, e, he => by cases he
  | d :: l, p, h, e, he => by
    rw [nmsB] at h
    simp only [Bool.and_eq_true] at h
    obtain ⟨⟨⟨⟨h1, _⟩, _⟩, _⟩, h5⟩ := h
    rcases List.mem_cons.1 he with rfl | he
    · simp only [nameB, Bool.and_eq_true, decide_eq_true_eq] at h1
      have h2 := h1.1.1.1.2
      simpa using h2
    · exact nmsB_size l h5 e he
theorem nodeB_nmsz {L : List Nd} {n : Nd} (h : nodeB L n = true) : ∀ e ∈ n.names, e.nm.size ≤ 8 := by
  unfold nodeB at h
  simp only [Bool.and_eq_true] at h
  obtain ⟨_, h⟩ := h
  have nil : ∀ {l : List Di}, l.length = 0 → ∀ e ∈ l, e.nm.size ≤ 8 := fun hl e he => by rw [List.eq_nil_of_length_eq_zero hl] at he; cases he
  split at h
  · simp only [Bool.and_eq_true, plainB, decide_eq_true_eq] at h
    exact nil h.1.1.1
  · split at h
    · simp only [Bool.and_eq_true, plainB, decide_eq_true_eq] at h
      exact nil h.1.1.1.1
    · split at h
      · simp only [Bool.and_eq_true, decide_eq_true_eq] at h
        exact nmsB_size _ h.2
      · cases h
theorem data_le {L : List Nd} {n : Nd} (h : n ∈ L) : (n.data.size : Int) ≤ bytesN L := by
  unfold bytesN
  induction L with
  | nil => cases h
  | cons a l ih =>
    have hp : ∀ l : List Nd, 0 ≤ (l.map fun n => (n.data.size : Int)).sum := fun l => by
      induction l with
      | nil => simp
      | cons b l ih2 => simp only [List.map_cons, List.sum_cons]; omega
    simp only [List.map_cons, List.sum_cons]
    rcases List.mem_cons.1 h with rfl | h
    · have := hp l; omega
    · have := ih h; omega
theorem cpB_of {next : Int} {L : List Np} (h : volB next (L.map Np.n) = true) : CpB L := by
  have h0 := volB_bd h
  unfold volB at h
  simp only [Bool.and_eq_true, decide_eq_true_eq] at h
  obtain ⟨⟨⟨⟨⟨⟨_, _⟩, _⟩, h4⟩, _⟩, h6⟩, _⟩ := h
  have hm : ∀ p ∈ L, p.n ∈ L.map Np.n := fun p hp => List.mem_map_of_mem hp
  refine ⟨by simpa using h0.1, fun p hp => ?_, fun p hp e he => ?_, fun p hp => h0.2 _ (hm p hp)⟩
  · have := data_le (hm p hp); omega
  · have := nodeB_nmsz (indB_mem _ h4 _ (hm p hp)) e he; omega
theorem sessFrom_all {m : Int} (S : List Se) (hm : 1 ≤ m) (h : sessFrom m S = true) : ∀ x ∈ S, (x.c = 1 ∨ x.c = 2 ∨ x.c = 3) ∧ x.r.d.size ≤ 1048576 := by
  induction S generalizing m with
  | nil => intro x hx; cases hx
  | cons a l ih =>
    intro x hx
    simp only [sessFrom, Bool.and_eq_true] at h
    obtain ⟨⟨h1, h2⟩, h3⟩ := h
    have h1 := inB_outK h1
    rcases List.mem_cons.1 hx with rfl | hx
    · simp only [sesB, Bool.and_eq_true] at h2
      have := (of_decide_eq_true h2.2.2 : resP x.r).2
      exact ⟨by omega, by omega⟩
    · exact ih (by omega) h3 x hx
theorem seZ_s : ¬ 0 < seZ.s := by decide
/-- The sessions of a right tenant stand in their slots. -/
theorem filt_slots {S : List Se} (h : sessFrom 1 S = true) : filt (slots S).1 (slots S).2.1 (slots S).2.2 3 = S := by
  have hl := sessFrom_len h (by omega)
  match S, h, hl with
  | [], _, _ => rfl
  | [a], h, _ =>
    simp only [sessFrom, sesB, Bool.and_eq_true] at h
    have h1 := inB_outK h.1.1
    have h2 : 0 < a.s := by have := inB_outK h.1.2.1; omega
    rcases (show a.c = 1 ∨ a.c = 2 ∨ a.c = 3 by omega) with e | e | e <;> simp [slots, setS, filt, e, h2, seZ_s]
  | [a, b], h, _ =>
    simp only [sessFrom, sesB, Bool.and_eq_true] at h
    have h1 := inB_outK h.1.1
    have h2 : 0 < a.s := by have := inB_outK h.1.2.1; omega
    have h3 := inB_outK h.2.1.1
    have h4 : 0 < b.s := by have := inB_outK h.2.1.2.1; omega
    rcases (show (a.c = 1 ∧ b.c = 2) ∨ (a.c = 1 ∧ b.c = 3) ∨ (a.c = 2 ∧ b.c = 3) by omega) with ⟨e, f⟩ | ⟨e, f⟩ | ⟨e, f⟩ <;> simp [slots, setS, filt, e, f, h2, h4, seZ_s]
  | [a, b, c], h, _ =>
    simp only [sessFrom, sesB, Bool.and_eq_true] at h
    have h1 := inB_outK h.1.1
    have h2 : 0 < a.s := by have := inB_outK h.1.2.1; omega
    have h3 := inB_outK h.2.1.1
    have h4 : 0 < b.s := by have := inB_outK h.2.1.2.1; omega
    have h5 := inB_outK h.2.2.1.1
    have h6 : 0 < c.s := by have := inB_outK h.2.2.1.2.1; omega
    obtain ⟨e, f, g⟩ : a.c = 1 ∧ b.c = 2 ∧ c.c = 3 := by omega
    simp [slots, setS, filt, e, f, g, h2, h4, h6]
  | _ :: _ :: _ :: _ :: l, _, hl => simp only [List.length_cons] at hl; omega
/-- What a tick makes of a tenant. -/
def tickK (k : Int × List Nd × Int × List Nt × List Se) : Int × List Nd × Int × List Nt × List Se := if tenB k then (k.1, k.2.1, refI k.2.2.1, k.2.2.2.1, k.2.2.2.2) else (0, [], 0, [], [])
theorem tickK_yes {k : Int × List Nd × Int × List Nt × List Se} (h : tenB k = true) : tickK k = (k.1, k.2.1, refI k.2.2.1, k.2.2.2.1, k.2.2.2.2) := if_pos h
theorem tickK_no {k : Int × List Nd × Int × List Nt × List Se} (h : tenB k = false) : tickK k = (0, [], 0, [], []) := by simp [tickK, h]
/-- What a right tenant is. -/
theorem tenB_outK {nx : Int} {L : List Np} {tk : Int} {A : List Nt} {S : List Se} (h : tenB (nx, L.map Np.n, tk, A, S) = true) : CpB L ∧ A.length ≤ 20 ∧ (∀ x ∈ S, (x.c = 1 ∨ x.c = 2 ∨ x.c = 3) ∧ x.r.d.size ≤ 1048576) ∧ S.length ≤ 3 ∧ sessFrom 1 S = true := by
  simp only [tenB, Bool.and_eq_true] at h
  obtain ⟨h1, h2, h3, h4⟩ := h
  simp only [auditB, Bool.and_eq_true, decide_eq_true_eq] at h3
  have h5 := sessFrom_len h4 (by omega)
  exact ⟨cpB_of h1, h3.1, sessFrom_all S (by omega) h4, by omega, h4⟩
def ten0 : Ten := ⟨0, [], none, 0, 0, [], none, 0, [], none, 0⟩
theorem ten0_good : Gd ten0 := ⟨fun i j hij hj => by simp [ten0] at hj, by simp [ten0], by intro p hp; simp [ten0] at hp, by simp [ten0], by simp [ten0]⟩
theorem ten0_mem {w : World} {base : Nat} (hb : base ≤ w.heap.size) : TenM w base w.heap.size base w.heap.size ten0 :=
  ⟨Nat.le_refl _, hb, Nat.le_refl _, ⟨Own.nil _ _, fun p hp => by simp [ten0] at hp⟩, fun k hk => by simp [ten0, Value.ownBlock] at hk, fun p hp => by simp [ten0] at hp, Own.nil _ _, Own.nil _ _, fun k hk => by simp [ten0, Value.ownBlock] at hk, fun k hk => by simp [ten0, Value.ownBlock] at hk⟩
end Go.Proofs.YtnhjicbgmocilaaGreat
namespace Go.Proofs.YtnhjicbgmocilaaGreat
open Go.RowKit
set_option linter.unusedVariables false
/-- A new variable, zero: at a plain region's list. -/
theorem wpList_allocTo {ops : Array Oper} {rest : List Oper} {o : Oper} {a : Act} {w : World} {Q : Exit → Act → World → Prop} (hg : o.guard = none) (t : TypeId) (ho : o.op = .alloc t)
    (i : TypeInfo) (z : Value) (hi : Tryz.prog.info? t = some i) (hz : i.zero = some z)
    (h : wpList Tryz.prog ops Q rest (a.put o.dst (.pointer (some ⟨w.heap.size, 0, none⟩))) (w.alloc (.cells z.cells t))) : wpList Tryz.prog ops Q (o :: rest) a w := by
  refine wpList_plain hg fun K hK => ?_
  unfold Oper.wp execOp
  have e : (Instr.alloc t true (.tuple #[])).run Tryz.prog w = .ok (.pointer (some ⟨w.heap.size, 0, none⟩)) (w.alloc (.cells z.cells t)) := by simp [Instr.alloc, zeroValue, typeInfo, hi, hz, newVar, newRow]
  simp only [ho, e, Result.andThen_ok, Sem.run_bind, Sem.run_pure]
  exact hK _ _ h
theorem infoOwn : (Tryz.prog.info? 60).map (fun i => (i.zero, i.size, i.bytes)) = some (some (.agg zero19), 19, 208) := by kernel_rfl
set_option maxRecDepth 100000 in
set_option maxHeartbeats 8000000 in
theorem implTick_any (t : Ten) (N : Nat) (w : World) (hN : N ≤ w.heap.size) (hr : TenR w N t) (hz : TenW t) :
    Calls Tryz.prog 7 #[t.v] w fun e w' => ∃ (t' : Ten) (v0 v1 : Nat), e = .returned t'.v ∧ t'.key = tickK t.key ∧ TenM w' w.heap.size w'.heap.size v0 v1 t' ∧ Gd t' ∧ Below w.heap.size w w' := by
  have HR := Hid.intro hr
  have HZ := Hid.intro hz
  clear hr hz
  cases hv : tenB t.key with
  | false =>
    rw [tickK_no hv]
    go_enter Tryz.func7, Tryz.ntmps7
    go_wp2_with fail
    obtain ⟨W, hW, bW, zW, c1, f1, c2, f2⟩ := boxed2 w t.arr zeroT 36 36
    try simp only [hW]
    refine (implTenantOk_any t N W (by omega) (HR.out.kept (bW.mono hN)) HZ.out).mono ?_
    rw [hv]
    rintro e w1 ⟨rfl, b1⟩
    have HB1 := Hid.intro (bW.trans (b1.mono (by omega)))
    have z1 := b1.size
    replace c2 := keepC b1 (by omega) c2
    replace f2 := keepF b1 (by omega) f2
    have hlt : w.heap.size + 1 < w1.heap.size := by omega
    clear hW bW b1 c1 f1 zW z1
    go_wp2
    have OE : ∀ Z, Only (fun k => k = w.heap.size + 1) w1 Z → Below w.heap.size w Z := fun Z hZ => HB1.out.trans (hZ.below HB1.out.size (fun k hk e => by omega))
    refine bodyPost_ret (v := ten0.v) (by simp [results, Tryz.results7, go_sem, c2, ten0]) rfl ⟨ten0, _, _, rfl, rfl, ten0_mem (OE _ ?_).size, ten0_good, OE _ ?_⟩
    · repeat (refine Only.setCell ?_ (by simp) _)
      exact Only.refl _ _
    · repeat (refine Only.setCell ?_ (by simp) _)
      exact Only.refl _ _
  | true =>
    rw [tickK_yes hv]
    obtain ⟨nx, L, ua, uc, tk, A, aa, ac, Ss, sa, sc⟩ := t
    obtain ⟨hcp, hA20, hSB, hS3, hsf⟩ := tenB_outK hv
    have HRV : Hid (VolR w N (.slice ua L.length uc) L) := HR.out.vol
    have HRA : Hid (Row ntE w N (.slice aa A.length ac) A) := HR.out.aud
    have HRS : Hid (Row seE w N (.slice sa Ss.length sc) Ss) := HR.out.ses
    have HCP := Hid.intro hcp
    have HSB := Hid.intro hSB
    have HV := Hid.intro hv
    have hfs := filt_slots hsf
    obtain ⟨q, hq⟩ : ∃ q, slots Ss = q := ⟨_, rfl⟩
    rw [hq] at hfs
    obtain ⟨qa, qb, qc⟩ := q
    have HQ := Hid.intro hq
    have HFS : Hid (filt qa qb qc 3 = Ss) := hfs
    clear hv hcp hSB hsf hfs hq
    show Calls Tryz.prog 7 #[.agg #[.int .i64 nx, .slice ua L.length uc, .int .i64 tk, .slice aa A.length ac, .slice sa Ss.length sc]] w _
    go_enter Tryz.func7, Tryz.ntmps7
    go_wp2_with fail
    obtain ⟨W, hW, bW, zW, c1, f1, c2, f2⟩ := boxed2 w #[.int .i64 nx, .slice ua L.length uc, .int .i64 tk, .slice aa A.length ac, .slice sa Ss.length sc] zeroT 36 36
    try simp only [hW]
    refine (implTenantOk_any ⟨nx, L, ua, uc, tk, A, aa, ac, Ss, sa, sc⟩ N W (by omega) (HR.out.kept (bW.mono hN)) HZ.out).mono ?_
    rw [HV.out]
    rintro e w1 ⟨rfl, b1⟩
    have z1 := b1.size
    have HB1 := Hid.intro (bW.trans (b1.mono (by omega)))
    replace c1 := keepC b1 (by omega) c1
    have HRS1 : Hid (Blk w1 (w.heap.size + 1) zeroT) := ⟨by omega, keepC b1 (by omega) c2, keepF b1 (by omega) f2⟩
    clear hW bW b1 f1 c2 f2
    go_wp2_with fail
    refine (owned_any nx L ua uc tk A aa ac Ss sa sc N w1 (by omega) (HRV.out.kept (HB1.out.mono hN)) (HRA.out.kept (HB1.out.mono hN)) (HRS.out.kept (HB1.out.mono hN)) HCP.out hA20 HSB.out hS3).mono ?_
    simp only [HQ.out]
    rintro e w2 ⟨v0, v1, aa', ac', ua', uc', M, rfl, hmn, how⟩
    have HMN := Hid.intro hmn
    have hv0 := how.ord
    have HAB : Hid (∀ k, (Value.slice aa' A.length ac').ownBlock = some k → w1.heap.size ≤ k) := fun k hk => (how.aud.lt k hk).1
    have HOW := Hid.intro (how.lower (by omega) HB1.out)
    have HRS2 := Hid.intro (HRS1.out.kept how.bel)
    clear HRS1
    clear hmn how c1 HRV HRA HRS HR HZ
    obtain ⟨i0, hi, hz0, hz1, hz2⟩ := info_parts infoOwn
    rename_i hKK
    refine hKK _ _ ?_
    clear hKK
    have HT := Hid.intro (show (w2.alloc (.cells zero19 60)).there w2.heap.size 0 19 from Blk.there (A := zero19) ⟨by simp, fun o => World.cell?_alloc_at _ _ _ _ rfl, fun o => World.frozen?_alloc_at _ _ _ _ rfl⟩ 0 19 (Nat.le_refl _))
    refine wpList_allocTo rfl 60 rfl i0 (.agg zero19) hi hz0 ?_
    refine wpList_store_mid rfl 60 _ _ rfl w2.heap.size 0 (own19 tk (.slice aa' A.length ac') nx (.slice ua' M.length uc') qa qb qc) rfl rfl HT.out (by kernel_rfl) (own19_one _ _ _ _ _ _ _ _ _ _ _) ?_
    rw [setCells_setC]
    obtain ⟨Y, hY⟩ : ∃ Y, setC (w2.alloc (.cells zero19 60)) w2.heap.size 0 (own19 tk (.slice aa' A.length ac') nx (.slice ua' M.length uc') qa qb qc).toList = Y := ⟨_, rfl⟩
    have HBY : Hid (Blk Y w2.heap.size (own19 tk (.slice aa' A.length ac') nx (.slice ua' M.length uc') qa qb qc)) := by
      unfold Hid
      rw [← hY]
      exact Blk.all (A := zero19) ⟨by simp, fun o => World.cell?_alloc_at _ _ _ _ rfl, fun o => World.frozen?_alloc_at _ _ _ _ rfl⟩ _ rfl
    have bY : Below w2.heap.size w2 Y := by
      rw [← hY]
      exact (one_below _ _).trans ((only_setC (w2.alloc (.cells zero19 60)) w2.heap.size 0 _).below (by simp) (fun k hk e => by omega))
    have hg2 : w2.heap.size < Y.heap.size := HBY.out.hi
    change wpList Tryz.prog _ _ [] _ (setC (w2.alloc (.cells zero19 60)) w2.heap.size 0 (own19 tk (.slice aa' A.length ac') nx (.slice ua' M.length uc') qa qb qc).toList)
    rw [hY]
    clear hY HT hi hz0 hz1 hz2
    have HOY := Hid.intro (HOW.out.kept bY)
    have HRY := Hid.intro (HRS2.out.kept bY)
    clear bY
    go_wp2_with fail
    refine (refillM_any w2.heap.size tk nx _ _ qa qb qc Y HBY.out).mono ?_
    rintro e w3 ⟨rfl, hb3, y1, by1, oy⟩
    have s1 := by1.size
    have s2 := oy.size
    have HO3 := Hid.intro ((HOY.out.kept by1).only oy (by omega) (by omega) (fun e => by have := HOY.out.at' _ e; omega))
    have HR3 := Hid.intro ((HRY.out.kept by1).only oy (by omega))
    have HB3 := Hid.intro hb3
    have hlt3 : w2.heap.size < w3.heap.size := by omega
    clear hb3 by1 oy HOY HRY HBY
    go_wp2_with fail
    refine (tenantI_any w2.heap.size (refI tk) nx aa' A.length ac' ua' M.length uc' qa qb qc w3 HB3.out).mono ?_
    rw [HFS.out]
    rintro e w4 ⟨sa2, sc2, rfl, os, b4⟩
    have s4 := b4.size
    have HO4 := Hid.intro (HO3.out.kept b4)
    have HR4 := Hid.intro (HR3.out.kept b4)
    have HOS := Hid.intro os
    have kR := HR4.out.cell
    have fR := HR4.out.fro
    have hl4 := HR4.out.hi
    generalize hrf : refI tk = rf at HB3 ⊢
    have HRF := Hid.intro hrf
    clear HO3 HR3 os b4 hrf HB3
    go_upto_region 6 with fail
    have h0 := HO4.out.ord
    have hml : M.length = L.length := by have := congrArg List.length HMN.out; simpa using this
    have hnm : ∀ p ∈ M, p.n.names.length ≤ 12 := fun p hp => by
      have h3 : p.n ∈ L.map Np.n := by rw [← HMN.out]; exact List.mem_map_of_mem hp
      obtain ⟨p', hp', e⟩ := List.mem_map.1 h3
      rw [← e]
      exact HCP.out.n p' hp'
    have OE : ∀ Z, Only (fun k => k = w.heap.size + 1) w4 Z → TenM Z w.heap.size Z.heap.size v0 v1 ⟨nx, M, ua', uc', rf, A, aa', ac', Ss, sa2, sc2⟩ ∧ Below w.heap.size w Z := fun Z hZ => by
      have q := HO4.out.only hZ (by omega) (by omega) (fun e => by have := HAB.out _ e; omega)
      have os : Own seE 57 Z (w3.heap.size + 1 + 1) (.slice sa2 Ss.length sc2) Ss := HOS.out.only hZ (fun k hk e => by have := (HOS.out.lt k hk).1; omega)
      have zs := hZ.size
      refine ⟨⟨by omega, by omega, by omega, q.vol, q.vt, q.vn, q.aud, os.lower (by omega), fun k hk => ?_, fun k hk => ?_⟩, q.bel⟩
      · have h1 := q.at' k hk
        exact ⟨by omega, by omega⟩
      · have h1 := os.lt k hk
        exact ⟨by omega, by omega⟩
    have r0 : w4.cell? ⟨w.heap.size + 1, 0, none⟩ = some (.int .i64 0) := kR 0
    have r1 : w4.cell? ⟨w.heap.size + 1, 1, none⟩ = some (.slice none 0 0) := kR 1
    have r2 : w4.cell? ⟨w.heap.size + 1, 2, none⟩ = some (.int .i64 0) := kR 2
    have r3 : w4.cell? ⟨w.heap.size + 1, 3, none⟩ = some (.slice none 0 0) := kR 3
    have r4 : w4.cell? ⟨w.heap.size + 1, 4, none⟩ = some (.slice none 0 0) := kR 4
    clear kR fR
    refine bodyPost_ret (v := (Ten.mk nx M ua' uc' rf A aa' ac' Ss sa2 sc2).v) (by simp [results, Tryz.results7, go_sem, r0, r1, r2, r3, r4]) rfl ⟨⟨nx, M, ua', uc', rf, A, aa', ac', Ss, sa2, sc2⟩, v0, v1, rfl, ?_, (OE _ ?_).1, ⟨HO4.out.inc, by have := HCP.out.l; show M.length ≤ 1048576; omega, fun p hp => by have := hnm p hp; omega, by show A.length ≤ 1048576; omega, by show Ss.length ≤ 1048576; omega⟩, (OE _ ?_).2⟩
    · simp only [Ten.key, HMN.out, HRF.out]
    · repeat (refine Only.setCell ?_ (by simp) _)
      exact Only.refl _ _
    · repeat (refine Only.setCell ?_ (by simp) _)
      exact Only.refl _ _
end Go.Proofs.YtnhjicbgmocilaaGreat
