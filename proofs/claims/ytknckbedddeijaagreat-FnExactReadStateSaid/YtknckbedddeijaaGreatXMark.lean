/- Rows of notes and of sessions that are marked hold their marks. -/
import Derived.Test.YtknckbedddeijaaGreatTMarkD
import Derived.Test.YtknckbedddeijaaGreatXCurTen
import Derived.Deep.CutRange
import Derived.Deep.CutBlock
namespace Go.Proofs.YtknckbedddeijaaGreat
open Go.RowKit
set_option linter.unusedVariables false
/-- The mark of place j, from q on. -/
def mkT0 (x : Int) : Nt := ⟨x, x + 1, x + 1 + 1, x + 1 + 1 + 1, x + 1 + 1 + 1 + 1⟩
def mkT (q : Int) (j : Nat) : Nt := mkT0 (q + 5 * j)
def markTL (q : Int) (L : List Nt) : Nat → List Nt
 | 0 => L
 | j + 1 => (markTL q L j).set j (mkT q j)
theorem markTL_len (q : Int) (L : List Nt) (j : Nat) : (markTL q L j).length = L.length := by
 induction j with
 | zero => rfl
 | succ j ih => simp [markTL, ih]
theorem markTL_get (q : Int) (L : List Nt) (n i : Nat) (hi : i < n) (hL : i < (markTL q L n).length) : (markTL q L n)[i] = mkT q i := by
 induction n with
 | zero => omega
 | succ n ih =>
  simp only [markTL, List.getElem_set]
  split
  ·rename_i h; subst h; rfl
  ·exact ih (by omega) (by rw [markTL_len] at hL ⊢; exact hL)
set_option maxRecDepth 100000 in
set_option maxHeartbeats 2000000 in
theorem markNoteS_any (L : List Nt) (v : Value) (base : Nat) (q : Int) (w : World) (hb : base ≤ w.heap.size) (ho : Own ntE 55 w base v L) (hl : L.length ≤ 1000) (h1 : 1 ≤ q) (h2 : q ≤ 100000) :
  Calls Tryz.prog 17 #[v, .int .i64 q] w fun e w' => e = .returned (.int .i64 (q + 5 * (L.length : Nat))) ∧ Own ntE 55 w' base v (markTL q L L.length) ∧ Only (fun k => some k = v.ownBlock) w w' := by
 rcases ho.look with ⟨rfl, rfl⟩ | ⟨g, cap, rfl, hg1, hg2, hc1, hc2⟩
 ·go_enter Tryz.func17, Tryz.ntmps17
  go_wp2
  refine wp_loop_rounds 1 ?_
  rw [rounds_succ]
  go_wp2
  go_ret
  exact ⟨ret_int (by simp), ho, Only.refl _ _⟩
 ·obtain ⟨n, hn⟩ : ∃ n, L.length = n := ⟨_, rfl⟩
  have HO := Hid.intro ho
  have HN := Hid.intro hn
  rw [hn] at hl hc1 HO ⊢
  clear ho hn
  go_enter Tryz.func17, Tryz.ntmps17
  go_wp2
  go_loopw [1, 5] (fun x i wr => ∃ (j : Nat), i = .int .i64 j ∧ x = .int .i64 (q + 5 * (j : Nat)) ∧ j ≤ n ∧ Hid (Own ntE 55 wr base (.slice (some ⟨g, 0, none⟩) n cap) (markTL q L j)) ∧ Only (fun k => some k = some g) w wr) (fun _ i _ => n - (intOf i).toNat)
  case atStart => exact ⟨0, rfl, by simp, Nat.zero_le _, HO, Only.refl _ _⟩
  case round =>
   obtain ⟨j, rfl, rfl, hj, HR, hO⟩ := hrel
   by_cases hlt : j < n
   ·have hml : (markTL q L j).length = n := by rw [markTL_len]; exact HN.out
    have HML := Hid.intro hml
    have hgw : g < wr.heap.size := (HR.out.lt g rfl).2
    have HG := Hid.intro hgw
    clear hml
    obtain ⟨y0, q0⟩ := HR.out.has HML.out hlt (i := 0) (by decide)
    obtain ⟨y1, q1⟩ := HR.out.has HML.out hlt (i := 1) (by decide)
    obtain ⟨y2, q2⟩ := HR.out.has HML.out hlt (i := 2) (by decide)
    obtain ⟨y3, q3⟩ := HR.out.has HML.out hlt (i := 3) (by decide)
    obtain ⟨y4, q4⟩ := HR.out.has HML.out hlt (i := 4) (by decide)
    simp only [Nat.add_zero, show ntE.n = 5 from rfl] at q0 q1 q2 q3 q4
    have f0 := HR.out.frozen HML.out
    obtain ⟨x0, hx0⟩ : ∃ x0, q + 5 * (j : Int) = x0 := ⟨_, rfl⟩
    have hb0 : 1 ≤ x0 ∧ x0 ≤ 200000 := by omega
    have hb1 := hb0.1
    have hb2 := hb0.2
    have HX0 := Hid.intro hx0
    have HS : Hid (Own ntE 55 (((((wr.setCell ⟨g, j * 5, none⟩ (.int .i64 x0)).setCell ⟨g, j * 5 + 1, none⟩ (.int .i64 (x0 + 1))).setCell ⟨g, j * 5 + 2, none⟩ (.int .i64 (x0 + 1 + 1))).setCell ⟨g, j * 5 + 3, none⟩ (.int .i64 (x0 + 1 + 1 + 1))).setCell ⟨g, j * 5 + 4, none⟩ (.int .i64 (x0 + 1 + 1 + 1 + 1))) base (.slice (some ⟨g, 0, none⟩) n cap) (markTL q L (j + 1))) := by
     have := HR.out.store HML.out hlt (mkT q j)
     rw [mkT, hx0] at this
     unfold Hid
     rw [markTL, mkT, hx0]
     exact this
    have HO5 : Hid (Only (fun k => some k = some g) w (((((wr.setCell ⟨g, j * 5, none⟩ (.int .i64 x0)).setCell ⟨g, j * 5 + 1, none⟩ (.int .i64 (x0 + 1))).setCell ⟨g, j * 5 + 2, none⟩ (.int .i64 (x0 + 1 + 1))).setCell ⟨g, j * 5 + 3, none⟩ (.int .i64 (x0 + 1 + 1 + 1))).setCell ⟨g, j * 5 + 4, none⟩ (.int .i64 (x0 + 1 + 1 + 1 + 1)))) := ((((hO.setCell rfl _).setCell rfl _).setCell rfl _).setCell rfl _).setCell rfl _
    rw [hx0]
    clear hx0 hb0
    clear HR hO
    go_wp2
    go_roundw
    case rel => exact ⟨j + 1, by go_num, by have := HX0.out; go_num, by omega, HS, HO5.out⟩
    case measure => simp [intOf]; omega
   ·obtain rfl : j = n := by omega
    go_wp2
    go_ret
    exact ⟨rfl, HR.out, hO⟩
set_option maxRecDepth 100000 in
set_option maxHeartbeats 2000000 in
theorem heldNoteS_any (M : List Nt) (v : Value) (N : Nat) (q : Int) (w : World) (hN : N ≤ w.heap.size) (hr : Row ntE w N v M) (hM : ∀ i (h : i < M.length), M[i] = mkT q i) (hl : M.length ≤ 1000) (h1 : 1 ≤ q) (h2 : q ≤ 100000) :
  Calls Tryz.prog 20 #[v, .int .i64 q] w fun e w' => e = .returned (.int .i64 (q + 5 * (M.length : Nat))) ∧ Below w.heap.size w w' := by
 obtain ⟨a, cap, rfl, lc, hm, hcells⟩ := ntE_cell hr
 have HC := Hid.intro hcells
 have HM := Hid.intro hM
 clear hcells hM
 go_enter Tryz.func20, Tryz.ntmps20
 go_wp2
 go_loopw [1, 5] (fun x i wr => ∃ (j : Nat), i = .int .i64 j ∧ x = .int .i64 (q + 5 * (j : Nat)) ∧ j ≤ M.length ∧ Below w.heap.size w wr) (fun _ i _ => M.length - (intOf i).toNat)
 case atStart => exact ⟨0, rfl, by simp, Nat.zero_le _, Below.refl _ _⟩
 case round =>
  obtain ⟨j, rfl, rfl, hj, hbel⟩ := hrel
  by_cases hlt : j < M.length
  ·obtain ⟨b, off, rfl, hbN, hcc⟩ := HC.out (by intro h; rw [h] at hlt; simp at hlt)
   obtain ⟨c0, c1, c2, c3, c4⟩ := hcc j hlt
   rw [HM.out j hlt] at c0 c1 c2 c3 c4
   obtain ⟨x0, hx0⟩ : ∃ x0, q + 5 * (j : Int) = x0 := ⟨_, rfl⟩
   have hb0 : 1 ≤ x0 ∧ x0 ≤ 200000 := by omega
   have hb1 := hb0.1
   have hb2 := hb0.2
   have HX0 := Hid.intro hx0
   rw [mkT, hx0] at c0 c1 c2 c3 c4
   have g0 : wr.cell? ⟨b, off + j * 5, none⟩ = some (.int .i64 x0) := atCell hbel c0 (by omega)
   have g1 : wr.cell? ⟨b, off + j * 5 + 1, none⟩ = some (.int .i64 (x0 + 1)) := atCell hbel c1 (by omega)
   have g2 : wr.cell? ⟨b, off + j * 5 + 2, none⟩ = some (.int .i64 (x0 + 1 + 1)) := atCell hbel c2 (by omega)
   have g3 : wr.cell? ⟨b, off + j * 5 + 3, none⟩ = some (.int .i64 (x0 + 1 + 1 + 1)) := atCell hbel c3 (by omega)
   have g4 : wr.cell? ⟨b, off + j * 5 + 4, none⟩ = some (.int .i64 (x0 + 1 + 1 + 1 + 1)) := atCell hbel c4 (by omega)
   rw [hx0]
   clear hx0 hb0
   have i1 : (0 : Int) ≤ (j : Int) ∧ (j : Int) < (M.length : Int) := by omega
   have i2 : (j : Int) < (M.length : Int) := by omega
   clear hcc c0 c1 c2 c3 c4
   go_wp2
   go_roundw
   case rel => exact ⟨j + 1, by go_num, by have := HX0.out; go_num, by omega, hbel⟩
   case measure => simp [intOf]; omega
  ·obtain rfl : j = M.length := by omega
   go_wp2
   go_ret
   exact ⟨rfl, hbel⟩
theorem ownsRow_belowT {w w' : World} {base : Nat} {e : TypeId} {size : Nat} {v : Value} {n : Nat} {xs : List Value} (h : w.ownsRow base e size v n xs) (hb : Below w.heap.size w w') : w'.ownsRow base e size v n xs := by
 refine ⟨h.1, ?_⟩
 rcases h.2 with hn | ⟨g, cap, cur, rfl, hg, hgg, rest⟩
 ·exact .inl hn
 ·exact .inr ⟨g, cap, cur, rfl, hg, (hb.block g (Array.getElem?_eq_some_iff.1 hgg).1).trans hgg, rest⟩
/-- The mark of session j, from q on. -/
def mkS0 (x : Int) : Se := ⟨x, x + 1, x + 1 + 1, ⟨x + 1 + 1 + 1, markI (x + 1 + 1 + 1 + 1)⟩⟩
def mkS (q : Int) (j : Nat) : Se := mkS0 (q + 5 * j)
def markSL (q : Int) (L : List Se) : Nat → List Se
 | 0 => L
 | j + 1 => (markSL q L j).set j (mkS q j)
theorem markSL_len (q : Int) (L : List Se) (j : Nat) : (markSL q L j).length = L.length := by
 induction j with
 | zero => rfl
 | succ j ih => simp [markSL, ih]
theorem markSL_get (q : Int) (L : List Se) (n i : Nat) (hi : i < n) (hL : i < (markSL q L n).length) : (markSL q L n)[i] = mkS q i := by
 induction n with
 | zero => omega
 | succ n ih =>
  simp only [markSL, List.getElem_set]
  split
  ·rename_i h; subst h; rfl
  ·exact ih (by omega) (by rw [markSL_len] at hL ⊢; exact hL)
set_option maxRecDepth 100000 in
set_option maxHeartbeats 4000000 in
theorem markSessionS_any (L : List Se) (v : Value) (base : Nat) (q : Int) (w : World) (hb : base ≤ w.heap.size) (ho : Own seE 61 w base v L) (hl : L.length ≤ 1000) (h1 : 1 ≤ q) (h2 : q ≤ 100000) :
  Calls Tryz.prog 18 #[v, .int .i64 q] w fun e w' => e = .returned (.int .i64 (q + 5 * (L.length : Nat))) ∧ Own seE 61 w' base v (markSL q L L.length) ∧ Only (fun k => some k = v.ownBlock) w w' := by
 rcases ho.look with ⟨rfl, rfl⟩ | ⟨g, cap, rfl, hg1, hg2, hc1, hc2⟩
 ·go_enter Tryz.func18, Tryz.ntmps18
  go_wp2
  refine wp_loop_rounds 1 ?_
  rw [rounds_succ]
  go_wp2
  go_ret
  exact ⟨ret_int (by simp), ho, Only.refl _ _⟩
 ·obtain ⟨n, hn⟩ : ∃ n, L.length = n := ⟨_, rfl⟩
  have HO := Hid.intro ho
  have HN := Hid.intro hn
  rw [hn] at hl hc1 HO ⊢
  clear ho hn
  go_enter Tryz.func18, Tryz.ntmps18
  go_wp2
  go_loopw [1, 5] (fun x i wr => ∃ (j : Nat), i = .int .i64 j ∧ x = .int .i64 (q + 5 * (j : Nat)) ∧ j ≤ n ∧ Hid (Own seE 61 wr base (.slice (some ⟨g, 0, none⟩) n cap) (markSL q L j)) ∧ Only (fun k => some k = some g) w wr) (fun _ i _ => n - (intOf i).toNat)
  case atStart => exact ⟨0, rfl, by simp, Nat.zero_le _, HO, Only.refl _ _⟩
  case round =>
   obtain ⟨j, rfl, rfl, hj, HR, hO⟩ := hrel
   by_cases hlt : j < n
   ·have hml : (markSL q L j).length = n := by rw [markSL_len]; exact HN.out
    have HML := Hid.intro hml
    have hgw : g < wr.heap.size := (HR.out.lt g rfl).2
    have HG := Hid.intro hgw
    clear hml
    obtain ⟨y0, q0⟩ := HR.out.has HML.out hlt (i := 0) (by decide)
    obtain ⟨y1, q1⟩ := HR.out.has HML.out hlt (i := 1) (by decide)
    obtain ⟨y2, q2⟩ := HR.out.has HML.out hlt (i := 2) (by decide)
    obtain ⟨y3, q3⟩ := HR.out.has HML.out hlt (i := 3) (by decide)
    simp only [Nat.add_zero, show seE.n = 5 from rfl] at q0 q1 q2 q3
    have f0 := HR.out.frozen HML.out
    obtain ⟨y4, q4⟩ := HR.out.has HML.out hlt (i := 4) (by decide)
    simp only [show seE.n = 5 from rfl] at q4
    obtain ⟨x0, hx0⟩ : ∃ x0, q + 5 * (j : Int) = x0 := ⟨_, rfl⟩
    have hb0 : 1 ≤ x0 ∧ x0 ≤ 200000 := by omega
    have hb1 := hb0.1
    have hb2 := hb0.2
    have HX0 := Hid.intro hx0
    rw [hx0]
    obtain ⟨V, hV⟩ : ∃ V, V = ((((wr.setCell ⟨g, j * 5, none⟩ (.int .i64 x0)).setCell ⟨g, j * 5 + 1, none⟩ (.int .i64 (x0 + 1))).setCell ⟨g, j * 5 + 2, none⟩ (.int .i64 (x0 + 1 + 1))).setCell ⟨g, j * 5 + 3, none⟩ (.int .i64 (x0 + 1 + 1 + 1))) := ⟨_, rfl⟩
    have HVO : Hid (V.ownsRow base 61 5 (.slice (some ⟨g, 0, none⟩) n cap) n (((((seE.f (markSL q L j)).set (j * 5) (.int .i64 x0)).set (j * 5 + 1) (.int .i64 (x0 + 1))).set (j * 5 + 2) (.int .i64 (x0 + 1 + 1))).set (j * 5 + 3) (.int .i64 (x0 + 1 + 1 + 1)))) := by
     have h0 : wr.ownsRow base 61 5 (.slice (some ⟨g, 0, none⟩) n cap) n (seE.f (markSL q L j)) := by
      have := HR.out
      unfold Own at this
      rw [HML.out] at this
      exact this
     rw [hV]
     exact (World.ownsRow.stored (World.ownsRow.stored (World.ownsRow.stored (World.ownsRow.stored h0 _ _).1 _ _).1 _ _).1 _ _).1
    have HVN : Hid (Only (fun k => some k = some g) w V) := by
     unfold Hid
     rw [hV]
     exact (((hO.setCell (p := ⟨g, j * 5, none⟩) rfl _).setCell (p := ⟨g, j * 5 + 1, none⟩) rfl _).setCell (p := ⟨g, j * 5 + 2, none⟩) rfl _).setCell (p := ⟨g, j * 5 + 3, none⟩) rfl _
    have r4 : V.cell? ⟨g, j * 5 + 4, none⟩ = some y4 := by rw [hV]; simp [go_sem, q4]
    have rf : ∀ o, V.frozen? ⟨g, o, none⟩ = false := fun o => by rw [hV]; simp [f0]
    have gV : g < V.heap.size := by rw [hV]; simpa using hgw
    clear HR hO hx0 hb0
    go_upto_region 12 with fail
    simp only [← hV]
    clear hV q0 q1 q2 q3 q4 f0
    go_wp2_with fail
    refine (markText_int _ _ (by omega) (by omega)).mono ?_
    rintro e w1 ⟨rfl, b1⟩
    have g1' : g < w1.heap.size := Nat.lt_of_lt_of_le gV b1.size
    replace r4 := (b1.cell (p := ⟨g, j * 5 + 4, none⟩) gV).trans r4
    replace rf : ∀ o, w1.frozen? ⟨g, o, none⟩ = false := fun o => (b1.frozen (p := ⟨g, o, none⟩) gV).trans (rf o)
    have HS : Hid (Own seE 61 (w1.setCell ⟨g, j * 5 + 4, none⟩ (.string (markI (x0 + 1 + 1 + 1 + 1)))) base (.slice (some ⟨g, 0, none⟩) n cap) (markSL q L (j + 1))) := by
     have h1 := (World.ownsRow.stored (ownsRow_belowT HVO.out b1) (j * 5 + 4) (.string (markI (x0 + 1 + 1 + 1 + 1)))).1
     unfold Hid Own
     rw [markSL_len, HN.out, markSL, Enc.f_set seE _ j _ (by rw [HML.out]; exact hlt), mkS, HX0.out]
     exact h1
    have HN5 : Hid (Only (fun k => some k = some g) w (w1.setCell ⟨g, j * 5 + 4, none⟩ (.string (markI (x0 + 1 + 1 + 1 + 1))))) := (HVN.out.trans (Below.any b1)).setCell (p := ⟨g, j * 5 + 4, none⟩) rfl _
    clear b1 HVO HVN gV
    go_wp2
    go_roundw
    case rel => exact ⟨j + 1, by go_num, by have := HX0.out; go_num, by omega, HS, HN5.out⟩
    case measure => simp [intOf]; omega
   ·obtain rfl : j = n := by omega
    go_wp2
    go_ret
    exact ⟨rfl, HR.out, hO⟩
set_option maxRecDepth 100000 in
set_option maxHeartbeats 2000000 in
theorem heldSessionS_any (M : List Se) (v : Value) (N : Nat) (q : Int) (w : World) (hN : N ≤ w.heap.size) (hr : Row seE w N v M) (hM : ∀ i (h : i < M.length), M[i] = mkS q i) (hl : M.length ≤ 1000) (h1 : 1 ≤ q) (h2 : q ≤ 100000) :
  Calls Tryz.prog 21 #[v, .int .i64 q] w fun e w' => e = .returned (.int .i64 (q + 5 * (M.length : Nat))) ∧ Below w.heap.size w w' := by
 obtain ⟨a, cap, rfl, lc, hm, hcells⟩ := seE_cell hr
 have HC := Hid.intro hcells
 have HM := Hid.intro hM
 clear hcells hM
 go_enter Tryz.func21, Tryz.ntmps21
 go_wp2
 go_loopw [1, 5] (fun x i wr => ∃ (j : Nat), i = .int .i64 j ∧ x = .int .i64 (q + 5 * (j : Nat)) ∧ j ≤ M.length ∧ Below w.heap.size w wr) (fun _ i _ => M.length - (intOf i).toNat)
 case atStart => exact ⟨0, rfl, by simp, Nat.zero_le _, Below.refl _ _⟩
 case round =>
  obtain ⟨j, rfl, rfl, hj, hbel⟩ := hrel
  by_cases hlt : j < M.length
  ·obtain ⟨b, off, rfl, hbN, hcc⟩ := HC.out (by intro h; rw [h] at hlt; simp at hlt)
   obtain ⟨c0, c1, c2, c3, c4⟩ := hcc j hlt
   rw [HM.out j hlt] at c0 c1 c2 c3 c4
   obtain ⟨x0, hx0⟩ : ∃ x0, q + 5 * (j : Int) = x0 := ⟨_, rfl⟩
   have hb0 : 1 ≤ x0 ∧ x0 ≤ 200000 := by omega
   have hb1 := hb0.1
   have hb2 := hb0.2
   have HX0 := Hid.intro hx0
   rw [mkS, hx0] at c0 c1 c2 c3 c4
   have g0 : wr.cell? ⟨b, off + j * 5, none⟩ = some (.int .i64 x0) := atCell hbel c0 (by omega)
   have g1 : wr.cell? ⟨b, off + j * 5 + 1, none⟩ = some (.int .i64 (x0 + 1)) := atCell hbel c1 (by omega)
   have g2 : wr.cell? ⟨b, off + j * 5 + 2, none⟩ = some (.int .i64 (x0 + 1 + 1)) := atCell hbel c2 (by omega)
   have g3 : wr.cell? ⟨b, off + j * 5 + 3, none⟩ = some (.int .i64 (x0 + 1 + 1 + 1)) := atCell hbel c3 (by omega)
   have g4 : wr.cell? ⟨b, off + j * 5 + 4, none⟩ = some (.string (markI (x0 + 1 + 1 + 1 + 1))) := atCell hbel c4 (by omega)
   have hs := hbel.size
   have HX : Hid (∀ w', Below wr.heap.size wr w' → w'.cell? ⟨b, off + j * 5 + 4, none⟩ = some (.string (markI (x0 + 1 + 1 + 1 + 1))) ∧ Below w.heap.size w w') := fun w' hb => ⟨atCell hb g4 (by omega), hbel.trans (hb.mono hs)⟩
   have i1 : (0 : Int) ≤ (j : Int) ∧ (j : Int) < (M.length : Int) := by omega
   have i2 : (j : Int) < (M.length : Int) := by omega
   rw [hx0]
   clear hcc c0 c1 c2 c3 c4 hx0 hb0
   go_upto_region 16 with fail
   clear g0 g1 g2 g3
   go_region_with (go_at_call 35; refine (markText_int _ _ (by omega) (by omega)).mono ?_; rintro e w1 ⟨rfl, b1⟩; obtain ⟨x4, B1⟩ := HX.out w1 (by first | exact b1 | exact ((Below.refl _ _).drew).trans b1); clear b1)
   all_goals
    clear HX g4
    go_wp2
    go_roundw
    case rel => exact ⟨j + 1, by go_num, by have := HX0.out; go_num, by omega, B1⟩
    case measure => simp [intOf]; omega
  ·obtain rfl : j = M.length := by omega
   go_wp2
   go_ret
   exact ⟨rfl, hbel⟩
end Go.Proofs.YtknckbedddeijaaGreat
