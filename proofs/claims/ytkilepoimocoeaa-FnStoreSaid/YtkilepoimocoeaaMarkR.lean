/- The laws' helpers over rows of records: marks. -/
import Derived.Test.YtkilepoimocoeaaLawC
namespace Go.Proofs.Ytkilepoimocoeaa
open Go.RowKit
set_option linter.unusedVariables false
/-- The mark of place j, from q on. -/
def mkR (q : Int) (j : Nat) : Rc := ⟨q + 5 * j, q + 5 * j + 1, q + 5 * j + 1 + 1, q + 5 * j + 1 + 1 + 1, markI (q + 5 * j + 1 + 1 + 1 + 1)⟩
def markRL (q : Int) (L : List Rc) : Nat → List Rc
  | 0 => L
  | j + 1 => (markRL q L j).set j (mkR q j)
theorem markRL_len (q : Int) (L : List Rc) (j : Nat) : (markRL q L j).length = L.length := by
  induction j with
  | zero => rfl
  | succ j ih => simp [markRL, ih]
theorem markRL_get (q : Int) (L : List Rc) (n i : Nat) (hi : i < n) (hL : i < (markRL q L n).length) : (markRL q L n)[i] = mkR q i := by
  induction n with
  | zero => omega
  | succ n ih =>
    simp only [markRL, List.getElem_set]
    split
    · rename_i h; subst h; rfl
    · exact ih (by omega) (by rw [markRL_len] at hL ⊢; exact hL)

theorem OwnR.store5 {w w1 : World} {base g cap n j : Nat} {M : List Rc} (h : OwnR w base (.slice (some ⟨g, 0, none⟩) n cap) M) (hn : M.length = n) (hj : j < n) (e : Rc)
    (hb : Below ((((w.setCell ⟨g, j * 5, none⟩ (.int .i64 e.k)).setCell ⟨g, j * 5 + 1, none⟩ (.int .i64 e.t)).setCell ⟨g, j * 5 + 2, none⟩ (.int .i64 e.i)).setCell ⟨g, j * 5 + 3, none⟩ (.int .i64 e.v)).heap.size ((((w.setCell ⟨g, j * 5, none⟩ (.int .i64 e.k)).setCell ⟨g, j * 5 + 1, none⟩ (.int .i64 e.t)).setCell ⟨g, j * 5 + 2, none⟩ (.int .i64 e.i)).setCell ⟨g, j * 5 + 3, none⟩ (.int .i64 e.v)) w1) :
    OwnR (w1.setCell ⟨g, j * 5 + 4, none⟩ (.string e.d)) base (.slice (some ⟨g, 0, none⟩) n cap) (M.set j e) := by
  subst hn
  unfold OwnR
  rw [rcF_set M j e hj, List.length_set]
  have h1 := (World.ownsRow.stored h (j * 5) (.int .i64 e.k)).1
  have h2 := (World.ownsRow.stored h1 (j * 5 + 1) (.int .i64 e.t)).1
  have h3 := (World.ownsRow.stored h2 (j * 5 + 2) (.int .i64 e.i)).1
  have h4 := (World.ownsRow.stored h3 (j * 5 + 3) (.int .i64 e.v)).1
  exact (World.ownsRow.stored (ownsRow_below h4 hb) (j * 5 + 4) (.string e.d)).1
set_option maxRecDepth 100000 in
set_option maxHeartbeats 2000000 in
theorem markRecS_any (L : List Rc) (v : Value) (base : Nat) (q : Int) (w : World) (hb : base ≤ w.heap.size) (ho : OwnR w base v L) (hl : L.length ≤ 2000000) (h1 : 1 ≤ q) (h2 : q ≤ 100000000) :
    Calls Try.prog 36 #[v, .int .i64 q] w fun e w' => e = .returned (.int .i64 (q + 5 * (L.length : Nat))) ∧ OwnR w' base v (markRL q L L.length) ∧ Only (fun k => some k = v.ownBlock) w w' := by
  rcases ho.look with ⟨rfl, rfl⟩ | ⟨g, cap, rfl, hg1, hg2, hc1, hc2⟩
  · go_enter Try.func36, Try.ntmps36
    go_wp2
    refine wp_loop_rounds 1 ?_
    rw [rounds_succ]
    go_wp2
    go_ret
    exact ⟨ret_int (by simp), ho, Only.refl _ _⟩
  · obtain ⟨n, hn⟩ : ∃ n, L.length = n := ⟨_, rfl⟩
    have HO := Hid.intro ho
    have HN := Hid.intro hn
    rw [hn] at hl hc1 HO ⊢
    clear ho hn
    go_enter Try.func36, Try.ntmps36
    go_wp2
    go_loopw [1, 5] (fun x i wr => ∃ (j : Nat), i = .int .i64 j ∧ x = .int .i64 (q + 5 * (j : Nat)) ∧ j ≤ n ∧ Hid (OwnR wr base (.slice (some ⟨g, 0, none⟩) n cap) (markRL q L j)) ∧ Only (fun k => some k = some g) w wr) (fun _ i _ => n - (intOf i).toNat)
    case atStart => exact ⟨0, rfl, by simp, Nat.zero_le _, HO, Only.refl _ _⟩
    case round =>
      obtain ⟨j, rfl, rfl, hj, HR, hO⟩ := hrel
      by_cases hlt : j < n
      · have hml : (markRL q L j).length = n := by rw [markRL_len]; exact HN.out
        have HML := Hid.intro hml
        obtain ⟨y0, q0⟩ := HR.out.has hml hlt (i := 0) (by omega)
        obtain ⟨y1, q1⟩ := HR.out.has hml hlt (i := 1) (by omega)
        obtain ⟨y2, q2⟩ := HR.out.has hml hlt (i := 2) (by omega)
        obtain ⟨y3, q3⟩ := HR.out.has hml hlt (i := 3) (by omega)
        obtain ⟨y4, q4⟩ := HR.out.has hml hlt (i := 4) (by omega)
        simp only [Nat.add_zero] at q0
        have f0 := HR.out.frozen hml
        have hgw : g < wr.heap.size := (HR.out.lt g rfl).2
        have HG := Hid.intro hgw
        clear hml
        go_wp2_with fail
        refine (markText_int _ _ (by omega) (by omega)).mono ?_
        rintro e w1 ⟨rfl, b1⟩
        have r0 : w1.cell? ⟨g, j * 5 + 4, none⟩ = some y4 := by
          rw [b1.cell (p := ⟨g, j * 5 + 4, none⟩) (by simpa using HG.out)]
          simp [go_sem, q4]
        have r1 : w1.frozen? ⟨g, j * 5 + 4, none⟩ = false := by
          rw [b1.frozen (p := ⟨g, j * 5 + 4, none⟩) (by simpa using HG.out)]
          simp [f0]
        have O1 : Only (fun k => some k = some g) w w1 := ((((hO.setCell (p := ⟨g, j * 5, none⟩) rfl _).setCell (p := ⟨g, j * 5 + 1, none⟩) rfl _).setCell (p := ⟨g, j * 5 + 2, none⟩) rfl _).setCell (p := ⟨g, j * 5 + 3, none⟩) rfl _).trans (Below.any b1)
        have HS : Hid (OwnR (w1.setCell ⟨g, j * 5 + 4, none⟩ (.string (markI (q + 5 * (j : Nat) + 1 + 1 + 1 + 1)))) base (.slice (some ⟨g, 0, none⟩) n cap) (markRL q L (j + 1))) := by
          exact HR.out.store5 HML.out hlt (mkR q j) b1
        clear q0 q1 q2 q3 q4 f0 HR b1
        go_wp2
        go_roundw
        case rel => exact ⟨j + 1, by go_num, by go_num, by omega, HS, O1.setCell rfl _⟩
        case measure => simp [intOf]; omega
      · obtain rfl : j = n := by omega
        go_wp2
        go_ret
        exact ⟨rfl, HR.out, hO⟩
set_option maxRecDepth 100000 in
set_option maxHeartbeats 2000000 in
theorem heldRecS_any (M : List Rc) (v : Value) (N : Nat) (q : Int) (w : World) (hN : N ≤ w.heap.size) (hr : RowR w N v M) (hM : ∀ i (h : i < M.length), M[i] = mkR q i) (hl : M.length ≤ 2000000) (h1 : 1 ≤ q) (h2 : q ≤ 100000000) :
    Calls Try.prog 37 #[v, .int .i64 q] w fun e w' => e = .returned (.int .i64 (q + 5 * (M.length : Nat))) ∧ Below w.heap.size w w' := by
  obtain ⟨a, cap, rfl, lc, hm, hcells⟩ := hr
  have HC := Hid.intro hcells
  have HM := Hid.intro hM
  clear hcells hM
  go_enter Try.func37, Try.ntmps37
  go_wp2
  go_loopw [1, 5] (fun x i wr => ∃ (j : Nat), i = .int .i64 j ∧ x = .int .i64 (q + 5 * (j : Nat)) ∧ j ≤ M.length ∧ Below w.heap.size w wr) (fun _ i _ => M.length - (intOf i).toNat)
  case atStart => exact ⟨0, rfl, by simp, Nat.zero_le _, Below.refl _ _⟩
  case round =>
    obtain ⟨j, rfl, rfl, hj, hbel⟩ := hrel
    by_cases hlt : j < M.length
    · obtain ⟨b, off, rfl, hbN, hcc⟩ := HC.out (by intro h; rw [h] at hlt; simp at hlt)
      obtain ⟨c0, c1, c2, c3, c4⟩ := hcc j hlt
      rw [HM.out j hlt] at c0 c1 c2 c3 c4
      have g0 : wr.cell? ⟨b, off + j * 5, none⟩ = some (.int .i64 (q + 5 * (j : Nat))) := atCell hbel c0 (by omega)
      have g1 : wr.cell? ⟨b, off + j * 5 + 1, none⟩ = some (.int .i64 (q + 5 * (j : Nat) + 1)) := atCell hbel c1 (by omega)
      have g2 : wr.cell? ⟨b, off + j * 5 + 2, none⟩ = some (.int .i64 (q + 5 * (j : Nat) + 1 + 1)) := atCell hbel c2 (by omega)
      have g3 : wr.cell? ⟨b, off + j * 5 + 3, none⟩ = some (.int .i64 (q + 5 * (j : Nat) + 1 + 1 + 1)) := atCell hbel c3 (by omega)
      have hs := hbel.size
      have HX : Hid (∀ w', Below wr.heap.size wr w' → w'.cell? ⟨b, off + j * 5 + 4, none⟩ = some (.string (markI (q + 5 * (j : Nat) + 1 + 1 + 1 + 1))) ∧ Below w.heap.size w w') := fun w' hb => ⟨atCell (hbel.trans (hb.mono hs)) c4 (by omega), hbel.trans (hb.mono hs)⟩
      have g4 := (HX.out wr (Below.refl _ _)).1
      have i1 : (0 : Int) ≤ (j : Int) ∧ (j : Int) < (M.length : Int) := by omega
      have i2 : (j : Int) < (M.length : Int) := by omega
      clear hcc c0 c1 c2 c3 c4
      go_wp2
      go_region_with (go_at_call 75; refine (markText_int _ _ (by omega) (by omega)).mono ?_; rintro e w1 ⟨rfl, b1⟩; obtain ⟨x1, B1⟩ := HX.out w1 (by first | exact b1 | exact ((Below.refl _ _).drew).trans b1); clear b1)
      all_goals
        clear HX g0 g1 g2 g3 g4
        go_wp2
        go_roundw
        case rel => exact ⟨j + 1, by go_num, by go_num, by omega, B1⟩
        case measure => simp [intOf]; omega
    · obtain rfl : j = M.length := by omega
      go_wp2
      go_ret
      exact ⟨rfl, hbel⟩
end Go.Proofs.Ytkilepoimocoeaa
