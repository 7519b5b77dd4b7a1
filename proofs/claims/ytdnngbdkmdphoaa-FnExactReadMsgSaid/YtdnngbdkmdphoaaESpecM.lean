/- The sentence's ReadMsg. -/
import Derived.Test.YtdnngbdkmdphoaaEReadIff
import Derived.Test.YtdnngbdkmdphoaaEShowS
import Derived.Test.YtdnngbdkmdphoaaTTake
import Derived.Deep.RegionHeld3
import Derived.Deep.CutRange
namespace Go.Proofs.Ytdnngbdkmdphoaa
open Go.RowKit
set_option linter.unusedVariables false
structure InSM (w5 : World) (g3 B : Nat) (n : Ms) (wr : World) (v : Value) (L : List En) : Prop where
  box : Blk wr g3 (msA n v)
  own : Own enE 49 wr B v L
  only : Only (fun k => k = g3) w5 wr
  lt : g3 < B ∧ B = w5.heap.size
theorem InSM.kept {w5 : World} {g3 B : Nat} {n : Ms} {wr w2 : World} {v : Value} {L : List En} (h : InSM w5 g3 B n wr v L) (hb : Below wr.heap.size wr w2) : InSM w5 g3 B n w2 v L :=
  ⟨h.box.kept hb, h.own.kept hb, h.only.trans (ob_any hb), h.lt⟩
theorem InSM.put {w5 : World} {g3 B : Nat} {n : Ms} {wr w4 : World} {v : Value} {L L' : List En} {g m cap : Nat} (h : InSM w5 g3 B n wr v L) (ho : Only (fun k => some k = v.ownBlock) wr w4) (hown : Own enE 49 w4 B (.slice (some ⟨g, 0, none⟩) m cap) L') :
    InSM w5 g3 B n (w4.setCell ⟨g3, 8, none⟩ (.slice (some ⟨g, 0, none⟩) m cap)) (.slice (some ⟨g, 0, none⟩) m cap) L' := by
  have hlt := h.lt
  have nb : ∀ k, some k = v.ownBlock → B ≤ k := fun k hk => (h.own.lt k hk.symm).1
  have h3 : ¬ some g3 = v.ownBlock := fun e => by have := nb g3 e; omega
  have bx := h.box.only ho h3
  refine ⟨⟨by simpa using bx.hi, fun o => ?_, fun o => ?_⟩, hown.only (set_onlyM g3 8 w4 _) (fun k hk e => ?_), (h.only.then ho (fun k hk e => by have := nb k e; omega)).trans (set_onlyM g3 8 w4 _), hlt⟩
  · by_cases e : o = 8
    · subst e
      exact World.cell?_setCell_same _ _ _ (bx.cell 8)
    · rw [World.cell?_setCell_other _ _ _ _ (by intro e2; simp at e2 <;> omega), bx.cell o]
      exact msA_set n _ _ o e
  · rw [World.frozen?_setCell]; exact bx.fro o
  · have := (hown.lt k hk).1; omega
theorem msA_data (n : Ms) (v : Value) (d : ByteArray) (o : Nat) (h : o ≠ 9) : (msA n v)[o]? = (msA { n with d := d } v)[o]? := by
  match o, h with
  | 0, _ => rfl
  | 1, _ => rfl
  | 2, _ => rfl
  | 3, _ => rfl
  | 4, _ => rfl
  | 5, _ => rfl
  | 6, _ => rfl
  | 7, _ => rfl
  | 8, _ => rfl
  | o + 10, _ => simp
theorem blk_dataM {w : World} {g : Nat} {n : Ms} {v : Value} (h : Blk w g (msA n v)) (d : ByteArray) : Blk (w.setCell ⟨g, 9, none⟩ (.string d)) g (msA { n with d := d } v) := by
  refine ⟨by simpa using h.hi, fun o => ?_, fun o => ?_⟩
  · by_cases e : o = 9
    · subst e
      exact World.cell?_setCell_same _ _ _ (h.cell 9)
    · rw [World.cell?_setCell_other _ _ _ _ (by intro e2; simp at e2 <;> omega), h.cell o]
      exact msA_data n v d o e
  · rw [World.frozen?_setCell]; exact h.fro o
set_option maxRecDepth 100000 in
set_option maxHeartbeats 1000000 in
/-- Behind the end there are no numbers. -/
theorem l8Vars_past (s : ByteArray) (a0 n : Nat) (w : World) (ha : s.size < a0) (hn : 1 ≤ n) :
    Calls Try.prog 39 #[.string s, .int .i64 (a0 : Nat), .int .i64 (n : Nat)] w fun e w' => (∃ v, e = .returned (.tuple #[v, .int .i64 (-1)])) ∧ Below w.heap.size w w' := by
  have g1 : (0 : Int) < (n : Int) := by omega
  have g2 : ¬ (a0 : Int) < 0 := by omega
  have g3 : (s.size : Int) < (a0 : Int) := by omega
  go_enter Try.func39, Try.ntmps39
  go_wp2
  go_loopw [1, 8, 9] (fun at' v i wr => at' = .int .i64 (a0 : Nat) ∧ v = .slice (some ⟨w.heap.size, 0, none⟩) 0 0 ∧ i = .int .i64 0 ∧ Below w.heap.size w wr) (fun _ _ _ _ => 0)
  case atStart => exact ⟨rfl, rfl, rfl, one_below _ _⟩
  case round =>
    obtain ⟨rfl, rfl, rfl, hbel⟩ := hrel
    go_wp2
    go_ret2
    exact ⟨⟨_, rfl⟩, hbel⟩
theorem l8Vars_one (s : ByteArray) (w : World) (hs : s.size ≤ 1048576) :
    Calls Try.prog 39 #[.string s, .int .i64 1, .int .i64 9] w fun e w' => (∃ v, (∃ (xs : List Nat) (a : Nat), e = .returned (.tuple #[v, .int .i64 (a : Nat)]) ∧ Hid (varsO 9 (s.data.toList.drop 1) = some (xs, s.data.toList.drop a)) ∧ a ≤ s.size ∧ xs.length = 9 ∧ NumsAt w' w.heap.size v xs) ∨ (e = .returned (.tuple #[v, .int .i64 (-1)]) ∧ Hid (varsO 9 (s.data.toList.drop 1) = none))) ∧ Below w.heap.size w w' := by
  by_cases h : 1 ≤ s.size
  · exact l8Vars_any s 1 9 w hs h (by omega) (by omega)
  · refine (l8Vars_past s 1 9 w (by omega) (by omega)).mono ?_
    rintro e w1 ⟨⟨v, rfl⟩, b⟩
    have h0 : s.data.toList.drop 1 = [] := by
      rw [List.drop_eq_nil_iff]
      have e1 : s.data.toList.length = s.size := by simp
      omega
    exact ⟨⟨v, .inr ⟨rfl, by unfold Hid; rw [h0]; exact varsO_nil (by omega)⟩⟩, b⟩
/-- What the sentence's ReadMsg hands back. -/
def RdS (l : List UInt8) (w : World) (e : Ending) (w' : World) : Prop :=
  ((∃ (a : Ms) (v : Value), e = .returned (.tuple #[msV a v, .bool true]) ∧ Hid (outSM l = some a) ∧ Hid (Own enE 49 w' w.heap.size v a.es)) ∨ (e = .returned (.tuple #[.agg zM, .bool false]) ∧ Hid (outSM l = none))) ∧ Below w.heap.size w w'
theorem set10_only (g : Nat) (w : World) (a b c d e f h i j k : Value) : Only (fun x => x = g) w ((((((((((w.setCell ⟨g, 0, none⟩ a).setCell ⟨g, 1, none⟩ b).setCell ⟨g, 2, none⟩ c).setCell ⟨g, 3, none⟩ d).setCell ⟨g, 4, none⟩ e).setCell ⟨g, 5, none⟩ f).setCell ⟨g, 6, none⟩ h).setCell ⟨g, 7, none⟩ i).setCell ⟨g, 8, none⟩ j).setCell ⟨g, 9, none⟩ k) :=
  ((((set6_only g w a b c d e f).setCell (p := ⟨g, 6, none⟩) rfl h).setCell (p := ⟨g, 7, none⟩) rfl i).setCell (p := ⟨g, 8, none⟩) rfl j).setCell (p := ⟨g, 9, none⟩) rfl k
set_option maxRecDepth 100000 in
set_option maxHeartbeats 8000000 in
theorem specReadMsg_any (s : ByteArray) (w : World) (hs : s.size ≤ 1048576) :
    Calls Try.prog 13 #[.string s] w (RdS s.data.toList w) := by
  go_enter Try.func13, Try.ntmps13
  go_wp2_with fail
  obtain ⟨W, hW, bW, zW, cW, fW⟩ := boxed w zM 29
  simp only [hW]
  have X0 : Hid (Blk W w.heap.size zM) := Hid.intro ⟨by omega, cW, fW⟩
  have B0 := bW
  clear hW cW fW bW zW
  refine (l8Vars_one s _ hs).mono ?_
  rintro e w1 ⟨⟨v7, ⟨xs, a1, rfl, HV, ha1, hl, hn7⟩ | ⟨rfl, HV⟩⟩, b⟩
  rotate_left 1
  · replace X0 := Hid.intro (X0.out.kept b)
    replace B0 := B0.trans (b.mono B0.size)
    have HP : Hid (outSM s.data.toList = none) := by
      unfold Hid outSM
      rw [smO_no HV.out]
      rfl
    clear HV b
    have r0 : w1.cell? ⟨w.heap.size, 0, none⟩ = some (.int .i64 0) := X0.out.cell 0
    have fr0 : w1.frozen? ⟨w.heap.size, 0, none⟩ = false := X0.out.fro 0
    have r1 : w1.cell? ⟨w.heap.size, 1, none⟩ = some (.int .i64 0) := X0.out.cell 1
    have fr1 : w1.frozen? ⟨w.heap.size, 1, none⟩ = false := X0.out.fro 1
    have r2 : w1.cell? ⟨w.heap.size, 2, none⟩ = some (.int .i64 0) := X0.out.cell 2
    have fr2 : w1.frozen? ⟨w.heap.size, 2, none⟩ = false := X0.out.fro 2
    have r3 : w1.cell? ⟨w.heap.size, 3, none⟩ = some (.int .i64 0) := X0.out.cell 3
    have fr3 : w1.frozen? ⟨w.heap.size, 3, none⟩ = false := X0.out.fro 3
    have r4 : w1.cell? ⟨w.heap.size, 4, none⟩ = some (.int .i64 0) := X0.out.cell 4
    have fr4 : w1.frozen? ⟨w.heap.size, 4, none⟩ = false := X0.out.fro 4
    have r5 : w1.cell? ⟨w.heap.size, 5, none⟩ = some (.int .i64 0) := X0.out.cell 5
    have fr5 : w1.frozen? ⟨w.heap.size, 5, none⟩ = false := X0.out.fro 5
    have r6 : w1.cell? ⟨w.heap.size, 6, none⟩ = some (.int .i64 0) := X0.out.cell 6
    have fr6 : w1.frozen? ⟨w.heap.size, 6, none⟩ = false := X0.out.fro 6
    have r7 : w1.cell? ⟨w.heap.size, 7, none⟩ = some (.bool false) := X0.out.cell 7
    have fr7 : w1.frozen? ⟨w.heap.size, 7, none⟩ = false := X0.out.fro 7
    have r8 : w1.cell? ⟨w.heap.size, 8, none⟩ = some (.slice none 0 0) := X0.out.cell 8
    have fr8 : w1.frozen? ⟨w.heap.size, 8, none⟩ = false := X0.out.fro 8
    have r9 : w1.cell? ⟨w.heap.size, 9, none⟩ = some (.string ⟨#[]⟩) := X0.out.cell 9
    have fr9 : w1.frozen? ⟨w.heap.size, 9, none⟩ = false := X0.out.fro 9
    have o1 := set10_only w.heap.size w1 (.int .i64 0) (.int .i64 0) (.int .i64 0) (.int .i64 0) (.int .i64 0) (.int .i64 0) (.int .i64 0) (.bool false) (.slice none 0 0) (.string ⟨#[]⟩)
    clear X0
    go_wp2
    exact bodyPost_ret (v := .tuple #[.agg zM, .bool false]) (by simp [results, Try.results13, go_sem, r0, r1, r2, r3, r4, r5, r6, r7, r8, r9]) rfl ⟨.inr ⟨rfl, HP⟩, B0.trans (o1.below B0.size (fun k hk h => by omega))⟩
  obtain ⟨k, f, g, m, i, j, c, y, n, rfl, hino⟩ := smO_yes HV.out
  have HIO := Hid.intro hino
  obtain ⟨g7, cap7, rfl, hcap7, hg7, hlt7, hcell7⟩ := hn7
  have k0 : w1.cell? ⟨g7, 0, none⟩ = some (.int .i64 (k : Nat)) := hcell7 0 (by simp)
  have k1 : w1.cell? ⟨g7, 1, none⟩ = some (.int .i64 (f : Nat)) := hcell7 1 (by simp)
  have k2 : w1.cell? ⟨g7, 2, none⟩ = some (.int .i64 (g : Nat)) := hcell7 2 (by simp)
  have k3 : w1.cell? ⟨g7, 3, none⟩ = some (.int .i64 (m : Nat)) := hcell7 3 (by simp)
  have k4 : w1.cell? ⟨g7, 4, none⟩ = some (.int .i64 (i : Nat)) := hcell7 4 (by simp)
  have k5 : w1.cell? ⟨g7, 5, none⟩ = some (.int .i64 (j : Nat)) := hcell7 5 (by simp)
  have k6 : w1.cell? ⟨g7, 6, none⟩ = some (.int .i64 (c : Nat)) := hcell7 6 (by simp)
  have k7 : w1.cell? ⟨g7, 7, none⟩ = some (.int .i64 (y : Nat)) := hcell7 7 (by simp)
  have k8 : w1.cell? ⟨g7, 8, none⟩ = some (.int .i64 (n : Nat)) := hcell7 8 (by simp)
  simp only [List.length_cons, List.length_nil, Nat.zero_add, Nat.reduceAdd] at hcap7 ⊢
  replace X0 := Hid.intro (X0.out.kept b)
  replace B0 := B0.trans (b.mono B0.size)
  clear HV hino hcell7 hl b
  have q1 : (0 : Int) ≤ 8 ∧ (8 : Int) < (cap7 : Int) := by omega
  have HS : Hid (∀ w', Below w1.heap.size w1 w' → (w'.cell? ⟨g7, 0, none⟩ = some (.int .i64 (k : Nat)) ∧ w'.cell? ⟨g7, 1, none⟩ = some (.int .i64 (f : Nat)) ∧ w'.cell? ⟨g7, 2, none⟩ = some (.int .i64 (g : Nat)) ∧ w'.cell? ⟨g7, 3, none⟩ = some (.int .i64 (m : Nat)) ∧ w'.cell? ⟨g7, 4, none⟩ = some (.int .i64 (i : Nat)) ∧ w'.cell? ⟨g7, 5, none⟩ = some (.int .i64 (j : Nat)) ∧ w'.cell? ⟨g7, 6, none⟩ = some (.int .i64 (c : Nat)) ∧ w'.cell? ⟨g7, 7, none⟩ = some (.int .i64 (y : Nat)) ∧ w'.cell? ⟨g7, 8, none⟩ = some (.int .i64 (n : Nat)))) := fun w' hb => ⟨atCell hb k0 hlt7, atCell hb k1 hlt7, atCell hb k2 hlt7, atCell hb k3 hlt7, atCell hb k4 hlt7, atCell hb k5 hlt7, atCell hb k6 hlt7, atCell hb k7 hlt7, atCell hb k8 hlt7⟩
  by_cases hm : 4 < n
  · have g1 : (4 : Int) < (n : Int) := by omega
    have HP : Hid (outSM s.data.toList = none) := by
      unfold Hid outSM
      rw [HIO.out, smR, if_neg (by omega)]
      rfl
    have r0 : w1.cell? ⟨w.heap.size, 0, none⟩ = some (.int .i64 0) := X0.out.cell 0
    have fr0 : w1.frozen? ⟨w.heap.size, 0, none⟩ = false := X0.out.fro 0
    have r1 : w1.cell? ⟨w.heap.size, 1, none⟩ = some (.int .i64 0) := X0.out.cell 1
    have fr1 : w1.frozen? ⟨w.heap.size, 1, none⟩ = false := X0.out.fro 1
    have r2 : w1.cell? ⟨w.heap.size, 2, none⟩ = some (.int .i64 0) := X0.out.cell 2
    have fr2 : w1.frozen? ⟨w.heap.size, 2, none⟩ = false := X0.out.fro 2
    have r3 : w1.cell? ⟨w.heap.size, 3, none⟩ = some (.int .i64 0) := X0.out.cell 3
    have fr3 : w1.frozen? ⟨w.heap.size, 3, none⟩ = false := X0.out.fro 3
    have r4 : w1.cell? ⟨w.heap.size, 4, none⟩ = some (.int .i64 0) := X0.out.cell 4
    have fr4 : w1.frozen? ⟨w.heap.size, 4, none⟩ = false := X0.out.fro 4
    have r5 : w1.cell? ⟨w.heap.size, 5, none⟩ = some (.int .i64 0) := X0.out.cell 5
    have fr5 : w1.frozen? ⟨w.heap.size, 5, none⟩ = false := X0.out.fro 5
    have r6 : w1.cell? ⟨w.heap.size, 6, none⟩ = some (.int .i64 0) := X0.out.cell 6
    have fr6 : w1.frozen? ⟨w.heap.size, 6, none⟩ = false := X0.out.fro 6
    have r7 : w1.cell? ⟨w.heap.size, 7, none⟩ = some (.bool false) := X0.out.cell 7
    have fr7 : w1.frozen? ⟨w.heap.size, 7, none⟩ = false := X0.out.fro 7
    have r8 : w1.cell? ⟨w.heap.size, 8, none⟩ = some (.slice none 0 0) := X0.out.cell 8
    have fr8 : w1.frozen? ⟨w.heap.size, 8, none⟩ = false := X0.out.fro 8
    have r9 : w1.cell? ⟨w.heap.size, 9, none⟩ = some (.string ⟨#[]⟩) := X0.out.cell 9
    have fr9 : w1.frozen? ⟨w.heap.size, 9, none⟩ = false := X0.out.fro 9
    have o1 := set10_only w.heap.size w1 (.int .i64 0) (.int .i64 0) (.int .i64 0) (.int .i64 0) (.int .i64 0) (.int .i64 0) (.int .i64 0) (.bool false) (.slice none 0 0) (.string ⟨#[]⟩)
    clear X0
    go_wp2
    exact bodyPost_ret (v := .tuple #[.agg zM, .bool false]) (by simp [results, Try.results13, go_sem, r0, r1, r2, r3, r4, r5, r6, r7, r8, r9]) rfl ⟨.inr ⟨rfl, HP⟩, B0.trans (o1.below B0.size (fun k hk h => by omega))⟩
  have g1 : ¬ (4 : Int) < (n : Int) := by omega
  obtain ⟨yb, hyb⟩ : ∃ yb, (((y : Nat) : Int) == 1) = yb := ⟨_, rfl⟩
  have HYB : Hid (decide (y = 1) = yb) := by
    unfold Hid
    rw [← hyb]
    by_cases h : y = 1
    · subst h; rfl
    · rw [decide_eq_false h]
      exact (beq_eq_false_iff_ne.2 (by omega)).symm
  have HIN : Hid (smO s.data.toList = (ensO n (s.data.toList.drop a1)).bind fun y => some ⟨(k : Nat), (f : Nat), (g : Nat), (m : Nat), (i : Nat), (j : Nat), (c : Nat), yb, y.1, ⟨y.2.toArray⟩⟩) := by
    unfold Hid
    rw [HIO.out, smR, if_pos (by omega), HYB.out]
  clear HIO HYB
  go_upto_region 4 with fail
  clear k0 k1 k2 k3 k4 k5 k6 k7 k8
  have hi6 : w.heap.size < w1.heap.size := X0.out.hi
  go_cut [6] from 7 (fun x wc => x = .pointer (some ⟨w1.heap.size, 0, none⟩) ∧ Blk wc w1.heap.size (msA ⟨(k : Nat), (f : Nat), (g : Nat), (m : Nat), (i : Nat), (j : Nat), (c : Nat), yb, [], ⟨#[]⟩⟩ (.slice none 0 0)) ∧ Below w1.heap.size w1 wc)
  case first =>
    go_region_held3 (fun w' => w'.cell? ⟨g7, 0, none⟩ = some (.int .i64 (k : Nat)) ∧ w'.cell? ⟨g7, 1, none⟩ = some (.int .i64 (f : Nat)) ∧ w'.cell? ⟨g7, 2, none⟩ = some (.int .i64 (g : Nat)) ∧ w'.cell? ⟨g7, 3, none⟩ = some (.int .i64 (m : Nat)) ∧ w'.cell? ⟨g7, 4, none⟩ = some (.int .i64 (i : Nat)) ∧ w'.cell? ⟨g7, 5, none⟩ = some (.int .i64 (j : Nat)) ∧ w'.cell? ⟨g7, 6, none⟩ = some (.int .i64 (c : Nat)) ∧ w'.cell? ⟨g7, 7, none⟩ = some (.int .i64 (y : Nat)) ∧ w'.cell? ⟨g7, 8, none⟩ = some (.int .i64 (n : Nat))) (exact HS.out _ (by repeat (first | exact Below.refl _ _ | apply Below.drew | refine Below.alloc ?_ (by simp) _ | refine Below.setCell ?_ (by simp) _)))
      (first | fail)
    all_goals
      go_wp2_with fail
      go_meet
      case rel => exact ⟨rfl, ⟨by simp, fun o => World.cell?_alloc_at _ _ _ _ (by simp), fun o => World.frozen?_alloc_at _ _ _ _ (by simp)⟩, by repeat (first | exact Below.refl _ _ | apply Below.drew | refine Below.alloc ?_ (by simp) _)⟩
  case rest =>
  obtain ⟨rfl, hX, b⟩ := hcut
  replace X0 := Hid.intro (X0.out.kept b)
  replace B0 := B0.trans (b.mono B0.size)
  have HX := Hid.intro hX
  have k8 : wc.cell? ⟨g7, 8, none⟩ = some (.int .i64 (n : Nat)) := (HS.out _ b).2.2.2.2.2.2.2.2
  have hwc := b.size
  clear b HS hX hyb
  have hlt7c : g7 < wc.heap.size := by omega
  go_wp2_with fail
  clear k8
  have hwg : w.heap.size ≤ wc.heap.size := B0.size
  have hg35 : w1.heap.size < wc.heap.size := HX.out.hi
  generalize w1.heap.size = g3 at HX hi6 hg35 ⊢
  have HI : Hid (InSM wc g3 wc.heap.size ⟨(k : Nat), (f : Nat), (g : Nat), (m : Nat), (i : Nat), (j : Nat), (c : Nat), yb, [], ⟨#[]⟩⟩ wc (.slice none 0 0) []) := ⟨HX.out, Own.nil _ _, Only.refl _ _, hg35, rfl⟩
  clear HX
  go_loopw [5, 7] (fun x q wr => ∃ (a t : Nat) (v : Value) (L : List En), x = .int .i64 (a : Nat) ∧ q = .int .i64 (t : Nat) ∧ t + L.length = n ∧ a ≤ s.size ∧ Hid (ensO n (s.data.toList.drop a1) = (ensO t (s.data.toList.drop a)).map fun y => (L ++ y.1, y.2)) ∧ Hid (InSM wc g3 wc.heap.size ⟨(k : Nat), (f : Nat), (g : Nat), (m : Nat), (i : Nat), (j : Nat), (c : Nat), yb, [], ⟨#[]⟩⟩ wr v L)) (fun _ q _ => (intOf q).toNat)
  case atStart => exact ⟨a1, n, _, [], rfl, rfl, rfl, ha1, by unfold Hid; simp, HI⟩
  case round =>
    obtain ⟨a, t, v, L, rfl, rfl, htn, hal, HN, HI⟩ := hrel
    obtain ⟨va, vc, rfl⟩ := HI.out.own.slice
    have hg3x : g3 < wr.heap.size := HI.out.box.hi
    by_cases ht : 0 < t
    · have hoxr : ∀ k, (Value.slice va L.length vc).ownBlock = some k → k < wr.heap.size := fun k hk => (HI.out.own.lt k hk).2
      obtain ⟨t, rfl⟩ : ∃ t9, t = t9 + 1 := ⟨t - 1, by omega⟩
      have hjn : (0 : Int) < ((t + 1 : Nat) : Int) := by omega
      go_wp2_with fail
      refine (l8Vars_any s a 1 _ hs hal (by omega) (by omega)).mono ?_
      rintro e x1 ⟨⟨v8, ⟨xs, a4, rfl, HV, ha4, hl, hn8⟩ | ⟨rfl, HV⟩⟩, b⟩
      rotate_left 1
      · replace HI := Hid.intro (HI.out.kept b)
        clear b
        have HP : Hid (outSM s.data.toList = none) := by
          have h := HV.out
          rw [varsO_one] at h
          unfold Hid outSM
          rw [HIN.out, HN.out, ensO_no1 (by omega) (Option.map_eq_none_iff.1 h)]
          rfl
        clear HV
        have X0 : Hid (Blk x1 w.heap.size zM) := X0.out.only HI.out.only (by omega)
        have B0 : Below w.heap.size w x1 := B0.trans (HI.out.only.below hwg (fun k hk e => by omega))
        clear HI
        have r0 : x1.cell? ⟨w.heap.size, 0, none⟩ = some (.int .i64 0) := X0.out.cell 0
        have fr0 : x1.frozen? ⟨w.heap.size, 0, none⟩ = false := X0.out.fro 0
        have r1 : x1.cell? ⟨w.heap.size, 1, none⟩ = some (.int .i64 0) := X0.out.cell 1
        have fr1 : x1.frozen? ⟨w.heap.size, 1, none⟩ = false := X0.out.fro 1
        have r2 : x1.cell? ⟨w.heap.size, 2, none⟩ = some (.int .i64 0) := X0.out.cell 2
        have fr2 : x1.frozen? ⟨w.heap.size, 2, none⟩ = false := X0.out.fro 2
        have r3 : x1.cell? ⟨w.heap.size, 3, none⟩ = some (.int .i64 0) := X0.out.cell 3
        have fr3 : x1.frozen? ⟨w.heap.size, 3, none⟩ = false := X0.out.fro 3
        have r4 : x1.cell? ⟨w.heap.size, 4, none⟩ = some (.int .i64 0) := X0.out.cell 4
        have fr4 : x1.frozen? ⟨w.heap.size, 4, none⟩ = false := X0.out.fro 4
        have r5 : x1.cell? ⟨w.heap.size, 5, none⟩ = some (.int .i64 0) := X0.out.cell 5
        have fr5 : x1.frozen? ⟨w.heap.size, 5, none⟩ = false := X0.out.fro 5
        have r6 : x1.cell? ⟨w.heap.size, 6, none⟩ = some (.int .i64 0) := X0.out.cell 6
        have fr6 : x1.frozen? ⟨w.heap.size, 6, none⟩ = false := X0.out.fro 6
        have r7 : x1.cell? ⟨w.heap.size, 7, none⟩ = some (.bool false) := X0.out.cell 7
        have fr7 : x1.frozen? ⟨w.heap.size, 7, none⟩ = false := X0.out.fro 7
        have r8 : x1.cell? ⟨w.heap.size, 8, none⟩ = some (.slice none 0 0) := X0.out.cell 8
        have fr8 : x1.frozen? ⟨w.heap.size, 8, none⟩ = false := X0.out.fro 8
        have r9 : x1.cell? ⟨w.heap.size, 9, none⟩ = some (.string ⟨#[]⟩) := X0.out.cell 9
        have fr9 : x1.frozen? ⟨w.heap.size, 9, none⟩ = false := X0.out.fro 9
        have o1 := set10_only w.heap.size x1 (.int .i64 0) (.int .i64 0) (.int .i64 0) (.int .i64 0) (.int .i64 0) (.int .i64 0) (.int .i64 0) (.bool false) (.slice none 0 0) (.string ⟨#[]⟩)
        clear X0
        go_wp2
        exact bodyPost_ret (v := .tuple #[.agg zM, .bool false]) (by simp [results, Try.results13, go_sem, r0, r1, r2, r3, r4, r5, r6, r7, r8, r9]) rfl ⟨.inr ⟨rfl, HP⟩, B0.trans (o1.below B0.size (fun k hk h => by omega))⟩
      replace HI := Hid.intro (HI.out.kept b)
      clear b
      obtain ⟨x, rfl⟩ : ∃ x, xs = [x] := by
        match xs, hl with
        | [x], _ => exact ⟨x, rfl⟩
      have h8 : Hid (numO (s.data.toList.drop a) = some (x, s.data.toList.drop a4)) := by
        have h := HV.out
        rw [varsO_one] at h
        obtain ⟨y, h1, h2⟩ := Option.map_eq_some_iff.1 h
        obtain ⟨y1, y2⟩ := y
        simp at h2
        unfold Hid
        rw [h1, h2.1, h2.2]
      obtain ⟨g8, cap8, rfl, hcap8, hg8, hlt8, hcell8⟩ := hn8
      have k8 : x1.cell? ⟨g8, 0, none⟩ = some (.int .i64 (x : Nat)) := hcell8 0 (by simp)
      have q4 : (0 : Int) ≤ 0 ∧ (0 : Int) < (cap8 : Int) := by simp at hcap8; omega
      simp only [List.length_cons, List.length_nil, Nat.zero_add] at hcap8 ⊢
      have HK8 := Hid.intro k8
      clear HV hcell8 hl k8
      have hg3y : g3 < g8 := by omega
      have hox : ∀ k, (Value.slice va L.length vc).ownBlock = some k → k < g8 := fun k hk => by have := hoxr k hk; omega
      go_wp2_with fail
      refine (l8Take_any s a4 _ hs ha4).mono ?_
      rintro e x2 ⟨⟨nm, a5, rfl, G1, ha5⟩ | ⟨rfl, G1⟩, b⟩
      rotate_left 1
      · replace HI := Hid.intro (HI.out.kept b)
        clear b
        have HP : Hid (outSM s.data.toList = none) := by
          unfold Hid outSM
          rw [HIN.out, HN.out, ensO_no2 (by omega) h8.out G1.out]
          rfl
        have X0 : Hid (Blk x2 w.heap.size zM) := X0.out.only HI.out.only (by omega)
        have B0 : Below w.heap.size w x2 := B0.trans (HI.out.only.below hwg (fun k hk e => by omega))
        clear HI
        have r0 : x2.cell? ⟨w.heap.size, 0, none⟩ = some (.int .i64 0) := X0.out.cell 0
        have fr0 : x2.frozen? ⟨w.heap.size, 0, none⟩ = false := X0.out.fro 0
        have r1 : x2.cell? ⟨w.heap.size, 1, none⟩ = some (.int .i64 0) := X0.out.cell 1
        have fr1 : x2.frozen? ⟨w.heap.size, 1, none⟩ = false := X0.out.fro 1
        have r2 : x2.cell? ⟨w.heap.size, 2, none⟩ = some (.int .i64 0) := X0.out.cell 2
        have fr2 : x2.frozen? ⟨w.heap.size, 2, none⟩ = false := X0.out.fro 2
        have r3 : x2.cell? ⟨w.heap.size, 3, none⟩ = some (.int .i64 0) := X0.out.cell 3
        have fr3 : x2.frozen? ⟨w.heap.size, 3, none⟩ = false := X0.out.fro 3
        have r4 : x2.cell? ⟨w.heap.size, 4, none⟩ = some (.int .i64 0) := X0.out.cell 4
        have fr4 : x2.frozen? ⟨w.heap.size, 4, none⟩ = false := X0.out.fro 4
        have r5 : x2.cell? ⟨w.heap.size, 5, none⟩ = some (.int .i64 0) := X0.out.cell 5
        have fr5 : x2.frozen? ⟨w.heap.size, 5, none⟩ = false := X0.out.fro 5
        have r6 : x2.cell? ⟨w.heap.size, 6, none⟩ = some (.int .i64 0) := X0.out.cell 6
        have fr6 : x2.frozen? ⟨w.heap.size, 6, none⟩ = false := X0.out.fro 6
        have r7 : x2.cell? ⟨w.heap.size, 7, none⟩ = some (.bool false) := X0.out.cell 7
        have fr7 : x2.frozen? ⟨w.heap.size, 7, none⟩ = false := X0.out.fro 7
        have r8 : x2.cell? ⟨w.heap.size, 8, none⟩ = some (.slice none 0 0) := X0.out.cell 8
        have fr8 : x2.frozen? ⟨w.heap.size, 8, none⟩ = false := X0.out.fro 8
        have r9 : x2.cell? ⟨w.heap.size, 9, none⟩ = some (.string ⟨#[]⟩) := X0.out.cell 9
        have fr9 : x2.frozen? ⟨w.heap.size, 9, none⟩ = false := X0.out.fro 9
        have o1 := set10_only w.heap.size x2 (.int .i64 0) (.int .i64 0) (.int .i64 0) (.int .i64 0) (.int .i64 0) (.int .i64 0) (.int .i64 0) (.bool false) (.slice none 0 0) (.string ⟨#[]⟩)
        clear X0
        go_wp2
        exact bodyPost_ret (v := .tuple #[.agg zM, .bool false]) (by simp [results, Try.results13, go_sem, r0, r1, r2, r3, r4, r5, r6, r7, r8, r9]) rfl ⟨.inr ⟨rfl, HP⟩, B0.trans (o1.below B0.size (fun k hk h => by omega))⟩
      replace HI := Hid.intro (HI.out.kept b)
      have k8 := atCell b HK8.out hlt8
      have hlt8b : g8 < x2.heap.size := by have := b.size; omega
      clear b HK8
      have HN2 : Hid (ensO n (s.data.toList.drop a1) = (ensO t (s.data.toList.drop a5)).map fun y => ((L ++ [⟨(x : Int), nm⟩]) ++ y.1, y.2)) := by
        unfold Hid
        rw [HN.out, ensO_yes (by omega) h8.out G1.out, ba_of, Nat.add_sub_cancel]
        cases ensO t (s.data.toList.drop a5) <;> simp
      have HS : Hid (∀ w', Below x2.heap.size x2 w' → w'.cell? ⟨g8, 0, none⟩ = some (.int .i64 (x : Nat))) := fun w' hb => atCell hb k8 hlt8b
      clear h8 HN
      go_upto_region 14 with fail
      clear k8
      refine wp_region_held_drew (S := fun w' => w'.cell? ⟨g8, 0, none⟩ = some (.int .i64 (x : Nat))) (by kernel_rfl) (HS.out _ (Below.refl _ _).drew) (fun hHeld => ?_)
      have HD := Hid.intro (HI.out.kept (w2 := x2.drew) (Below.refl _ _).drew)
      have BQ : Below x2.heap.size x2 x2.drew := (Below.refl _ _).drew
      have h314 : ¬ g8 = g3 := by omega
      clear HI
      generalize x2.drew = D at HD BQ hHeld ⊢
      refine take1 (i := 0) (d := some 77) (v := ?_) rfl rfl (by kernel_rfl) (by kernel_rfl) (by kernel_rfl) (fun _ _ _ h => h) (Or.inl ⟨by rfl, ?_⟩) (by assumption) ?_
      rotate_left 1
      · intro w hSw
        go_simp <;> with_reducible rfl
      simp only [Act.put, List.setIfInBounds_toArray]
      try simp only [List.set_cons_succ]
      try simp only [List.set_cons_zero]
      refine take1 (i := 2) (d := some 79) (v := ?_) rfl rfl (by kernel_rfl) (by kernel_rfl) (by kernel_rfl) (fun _ _ _ h => h) (Or.inl ⟨by rfl, ?_⟩) (by assumption) ?_
      rotate_left 1
      · intro w hSw
        go_simp <;> with_reducible rfl
      simp only [Act.put, List.setIfInBounds_toArray]
      try simp only [List.set_cons_succ]
      try simp only [List.set_cons_zero]
      refine take1 (i := 3) (d := some 80) (v := ?_) rfl rfl (by kernel_rfl) (by kernel_rfl) (by kernel_rfl) (fun _ _ _ h => h) (Or.inl ⟨by rfl, ?_⟩) (by assumption) ?_
      rotate_left 1
      · intro w hSw
        go_simp <;> with_reducible rfl
      simp only [Act.put, List.setIfInBounds_toArray]
      try simp only [List.set_cons_succ]
      try simp only [List.set_cons_zero]
      refine take1 (i := 4) (d := some 81) (v := ?_) rfl rfl (by kernel_rfl) (by kernel_rfl) (by kernel_rfl) (fun _ _ _ h => h) (Or.inl ⟨by rfl, ?_⟩) (by assumption) ?_
      rotate_left 1
      · intro w hSw
        go_simp <;> with_reducible rfl
      simp only [Act.put, List.setIfInBounds_toArray]
      try simp only [List.set_cons_succ]
      try simp only [List.set_cons_zero]
      refine take1 (i := 5) (d := some 82) (v := ?_) rfl rfl (by kernel_rfl) (by kernel_rfl) (by kernel_rfl) (fun _ _ _ h => h) (Or.inl ⟨by rfl, ?_⟩) (by assumption) ?_
      rotate_left 1
      · intro w hSw
        go_simp <;> with_reducible rfl
      simp only [Act.put, List.setIfInBounds_toArray]
      try simp only [List.set_cons_succ]
      try simp only [List.set_cons_zero]
      refine take1 (i := 6) (d := some 83) (v := ?_) rfl rfl (by kernel_rfl) (by kernel_rfl) (by kernel_rfl) (fun _ _ _ h => h) (Or.inl ⟨by rfl, ?_⟩) (by assumption) ?_
      rotate_left 1
      · intro w hSw
        go_simp <;> with_reducible rfl
      simp only [Act.put, List.setIfInBounds_toArray]
      try simp only [List.set_cons_succ]
      try simp only [List.set_cons_zero]
      refine wpAnyH_ready (rs := [1, 7]) (by kernel_rfl) (by simp) ?_
      refine (AllReadyH.cons rfl (fun KK hKK => ?_) (AllReadyH.cons rfl (fun KK hKK => ?_) AllReadyH.nil))
      · skip
        have k6 : D.cell? ⟨g3, 8, none⟩ = some (.slice va L.length vc) := HD.out.box.cell 8
        go_simp
        refine hKK.out _ _ (HS.out _ BQ) (fun hHeld2 => ?_)
        clear hKK KK hHeld
        have hHeld := hHeld2
        clear hHeld2
        clear k6
        refine wpAnyH_ready (rs := [7]) (by kernel_rfl) (by simp) ?_
        refine (AllReadyH.cons rfl (fun KK hKK => ?_) AllReadyH.nil)
        go_simp
        have bM : Below D.heap.size D (D.alloc (.cells #[.int .i64 (x : Nat), .string nm] 49)) := one_below _ _
        have cM : ∀ o, (D.alloc (.cells #[.int .i64 (x : Nat), .string nm] 49)).cell? ⟨D.heap.size, o, none⟩ = #[Value.int .i64 (x : Nat), .string nm][o]? := fun o => World.cell?_alloc_at _ _ _ _ rfl
        replace HD := Hid.intro (HD.out.kept bM)
        replace BQ := stepE BQ bM
        revert HD cM BQ
        generalize D.alloc (.cells #[.int .i64 (x : Nat), .string nm] 49) = M at bM
        generalize D.heap.size = sb
        intro cM HD BQ
        refine hKK.out _ _ (HS.out _ BQ) (fun hHeld2 => ?_)
        clear hKK KK hHeld
        have hHeld := hHeld2
        clear hHeld2
        refine wpAnyH_ready (rs := [8]) (by kernel_rfl) (by simp) ?_
        refine (AllReadyH.cons rfl (fun KK hKK => ?_) AllReadyH.nil)
        have hnews : ∀ j u, (enE.f [⟨(x : Int), nm⟩])[j]? = some u → M.cell? ((⟨sb, 0, none⟩ : Addr).add j) = some u := fun j u hj => by
          rw [add_none, Nat.zero_add, cM]
          simpa [enE, Enc.f] using hj
        have hbase : wc.heap.size ≤ M.heap.size := HD.out.only.size
        refine step_En rfl _ _ rfl wc.heap.size (.slice va L.length vc) L ⟨(x : Int), nm⟩ rfl HD.out.own ⟨sb, 0, none⟩ 1 rfl hnews (by omega) hbase ?_
        intro g0 cap2 w4x hown ho hloc hg
        rw [show (L ++ [⟨(x : Int), nm⟩] : List En).length = L.length + 1 by simp] at hown
        have hne3 : ¬ some g3 = (Value.slice va L.length vc).ownBlock := fun e => by have := (HD.out.own.lt g3 e.symm).1; omega
        have k6 : w4x.cell? ⟨g3, 8, none⟩ = some (.slice va L.length vc) := (ho.cell (o := 8) HD.out.box.hi hne3).trans (HD.out.box.cell 8)
        have f6 := (ho.frozen (o := 8) HD.out.box.hi hne3).trans (HD.out.box.fro 8)
        have HE := Hid.intro (HD.out.put ho hown)
        have hne14 : ¬ some g8 = (Value.slice va L.length vc).ownBlock := fun e => by have := hox g8 e.symm; omega
        have k14 : w4x.cell? ⟨g8, 0, none⟩ = some (.int .i64 (x : Nat)) := (ho.cell (o := 0) (by have := BQ.size; omega) hne14).trans (HS.out _ BQ)
        clear hne14
        clear HD hown ho hloc hg hnews hbase cM hne3 bM HS
        go_simp
        refine hKK.out _ _ (k14) (fun hHeld2 => ?_)
        clear hKK KK hHeld
        have hHeld := hHeld2
        clear hHeld2
        refine take1 (i := 9) (d := some 86) (v := ?_) rfl rfl (by kernel_rfl) (by kernel_rfl) (by kernel_rfl) (fun _ _ _ h => h) (Or.inl ⟨by rfl, ?_⟩) (by assumption) ?_
        rotate_left 1
        · intro w hSw
          go_simp <;> with_reducible rfl
        simp only [Act.put, List.setIfInBounds_toArray]
        try simp only [List.set_cons_succ]
        try simp only [List.set_cons_zero]
        refine wpAnyH_ready (rs := [10]) (by kernel_rfl) (by simp) ?_
        refine (AllReadyH.cons rfl (fun KK hKK => ?_) AllReadyH.nil)
        go_simp
        have k15 : (w4x.setCell ⟨g3, 8, none⟩ (.slice (some ⟨g0, 0, none⟩) (L.length + 1) cap2)).cell? ⟨g8, 0, none⟩ = some (.int .i64 (x : Nat)) := (World.cell?_setCell_other _ _ _ _ (by intro e2; simp at e2 <;> omega)).trans k14
        generalize w4x.setCell ⟨g3, 8, none⟩ _ = w5x at HE k15 ⊢
        clear k6 f6 k14
        refine hKK.out _ _ (k15) (fun hHeld2 => ?_)
        clear hKK KK hHeld
        have hHeld := hHeld2
        clear hHeld2
        refine wpAnyH_done (by kernel_rfl) ?_ _
        clear hHeld k15
        go_wp2
        go_roundw
        case rel => exact ⟨a5, t, _, L ++ [⟨(x : Int), nm⟩], rfl, by go_num, by rw [List.length_append, List.length_singleton]; omega, ha5, HN2, HE⟩
        case measure => simp [intOf]
      · skip
        go_simp
        have bM : Below D.heap.size D (D.alloc (.cells #[.int .i64 (x : Nat), .string nm] 49)) := one_below _ _
        have cM : ∀ o, (D.alloc (.cells #[.int .i64 (x : Nat), .string nm] 49)).cell? ⟨D.heap.size, o, none⟩ = #[Value.int .i64 (x : Nat), .string nm][o]? := fun o => World.cell?_alloc_at _ _ _ _ rfl
        replace HD := Hid.intro (HD.out.kept bM)
        replace BQ := stepE BQ bM
        revert HD cM BQ
        generalize D.alloc (.cells #[.int .i64 (x : Nat), .string nm] 49) = M at bM
        generalize D.heap.size = sb
        intro cM HD BQ
        refine hKK.out _ _ (HS.out _ BQ) (fun hHeld2 => ?_)
        clear hKK KK hHeld
        have hHeld := hHeld2
        clear hHeld2
        refine wpAnyH_ready (rs := [1]) (by kernel_rfl) (by simp) ?_
        refine (AllReadyH.cons rfl (fun KK hKK => ?_) AllReadyH.nil)
        have k6 : M.cell? ⟨g3, 8, none⟩ = some (.slice va L.length vc) := HD.out.box.cell 8
        go_simp
        refine hKK.out _ _ (HS.out _ BQ) (fun hHeld2 => ?_)
        clear hKK KK hHeld
        have hHeld := hHeld2
        clear hHeld2
        clear k6
        refine wpAnyH_ready (rs := [8]) (by kernel_rfl) (by simp) ?_
        refine (AllReadyH.cons rfl (fun KK hKK => ?_) AllReadyH.nil)
        have hnews : ∀ j u, (enE.f [⟨(x : Int), nm⟩])[j]? = some u → M.cell? ((⟨sb, 0, none⟩ : Addr).add j) = some u := fun j u hj => by
          rw [add_none, Nat.zero_add, cM]
          simpa [enE, Enc.f] using hj
        have hbase : wc.heap.size ≤ M.heap.size := HD.out.only.size
        refine step_En rfl _ _ rfl wc.heap.size (.slice va L.length vc) L ⟨(x : Int), nm⟩ rfl HD.out.own ⟨sb, 0, none⟩ 1 rfl hnews (by omega) hbase ?_
        intro g0 cap2 w4x hown ho hloc hg
        rw [show (L ++ [⟨(x : Int), nm⟩] : List En).length = L.length + 1 by simp] at hown
        have hne3 : ¬ some g3 = (Value.slice va L.length vc).ownBlock := fun e => by have := (HD.out.own.lt g3 e.symm).1; omega
        have k6 : w4x.cell? ⟨g3, 8, none⟩ = some (.slice va L.length vc) := (ho.cell (o := 8) HD.out.box.hi hne3).trans (HD.out.box.cell 8)
        have f6 := (ho.frozen (o := 8) HD.out.box.hi hne3).trans (HD.out.box.fro 8)
        have HE := Hid.intro (HD.out.put ho hown)
        have hne14 : ¬ some g8 = (Value.slice va L.length vc).ownBlock := fun e => by have := hox g8 e.symm; omega
        have k14 : w4x.cell? ⟨g8, 0, none⟩ = some (.int .i64 (x : Nat)) := (ho.cell (o := 0) (by have := BQ.size; omega) hne14).trans (HS.out _ BQ)
        clear hne14
        clear HD hown ho hloc hg hnews hbase cM hne3 bM HS
        go_simp
        refine hKK.out _ _ (k14) (fun hHeld2 => ?_)
        clear hKK KK hHeld
        have hHeld := hHeld2
        clear hHeld2
        refine take1 (i := 9) (d := some 86) (v := ?_) rfl rfl (by kernel_rfl) (by kernel_rfl) (by kernel_rfl) (fun _ _ _ h => h) (Or.inl ⟨by rfl, ?_⟩) (by assumption) ?_
        rotate_left 1
        · intro w hSw
          go_simp <;> with_reducible rfl
        simp only [Act.put, List.setIfInBounds_toArray]
        try simp only [List.set_cons_succ]
        try simp only [List.set_cons_zero]
        refine wpAnyH_ready (rs := [10]) (by kernel_rfl) (by simp) ?_
        refine (AllReadyH.cons rfl (fun KK hKK => ?_) AllReadyH.nil)
        go_simp
        have k15 : (w4x.setCell ⟨g3, 8, none⟩ (.slice (some ⟨g0, 0, none⟩) (L.length + 1) cap2)).cell? ⟨g8, 0, none⟩ = some (.int .i64 (x : Nat)) := (World.cell?_setCell_other _ _ _ _ (by intro e2; simp at e2 <;> omega)).trans k14
        generalize w4x.setCell ⟨g3, 8, none⟩ _ = w5x at HE k15 ⊢
        clear k6 f6 k14
        refine hKK.out _ _ (k15) (fun hHeld2 => ?_)
        clear hKK KK hHeld
        have hHeld := hHeld2
        clear hHeld2
        refine wpAnyH_done (by kernel_rfl) ?_ _
        clear hHeld k15
        go_wp2
        go_roundw
        case rel => exact ⟨a5, t, _, L ++ [⟨(x : Int), nm⟩], rfl, by go_num, by rw [List.length_append, List.length_singleton]; omega, ha5, HN2, HE⟩
        case measure => simp [intOf]
    · obtain rfl : t = 0 := by omega
      have hjn : ¬ (0 : Int) < ((0 : Nat) : Int) := by omega
      have HF : Hid (smO s.data.toList = some ⟨(k : Nat), (f : Nat), (g : Nat), (m : Nat), (i : Nat), (j : Nat), (c : Nat), yb, L, s.extract a s.size⟩) := by
        unfold Hid
        rw [HIN.out, HN.out]
        simp only [ensO, Option.map_some, List.append_nil, Option.bind_some]
        rw [← extract_toList, ba_of]
      have hex : (0 : Int) ≤ (a : Int) ∧ (a : Int) ≤ (s.size : Int) := by omega
      have kd : wr.cell? ⟨g3, 9, none⟩ = some (.string ⟨#[]⟩) := HI.out.box.cell 9
      have fd : wr.frozen? ⟨g3, 9, none⟩ = false := HI.out.box.fro 9
      have X0 : Hid (Blk wr w.heap.size zM) := X0.out.only HI.out.only (by omega)
      have B0 : Below w.heap.size w wr := B0.trans (HI.out.only.below hwg (fun k hk e => by omega))
      clear HN HIN
      go_upto_region 17 with fail
      clear kd fd
      generalize s.extract a s.size = dd at HF ⊢
      have hX2 := blk_dataM HI.out.box dd
      have HO3 := Hid.intro (HI.out.own.only (set_onlyM g3 9 wr (.string dd)) (fun k hk e => by have := (HI.out.own.lt k hk).1; omega))
      replace X0 := Hid.intro (X0.out.only (set_onlyM g3 9 wr (.string dd)) (by omega))
      replace B0 : Below w.heap.size w (wr.setCell ⟨g3, 9, none⟩ (.string dd)) := B0.setCell (p := ⟨g3, 9, none⟩) (by show w.heap.size ≤ g3; omega) _
      have HX := Hid.intro hX2
      clear hX2 HI
      revert X0 B0 HX HO3
      generalize wr.setCell ⟨g3, 9, none⟩ (.string dd) = w4
      intro HO3 X0 B0 HX
      have b0 : w4.cell? ⟨g3, 0, none⟩ = some (.int .i64 (k : Nat)) := HX.out.cell 0
      have b1 : w4.cell? ⟨g3, 1, none⟩ = some (.int .i64 (f : Nat)) := HX.out.cell 1
      have b2 : w4.cell? ⟨g3, 2, none⟩ = some (.int .i64 (g : Nat)) := HX.out.cell 2
      have b3 : w4.cell? ⟨g3, 3, none⟩ = some (.int .i64 (m : Nat)) := HX.out.cell 3
      have b4 : w4.cell? ⟨g3, 4, none⟩ = some (.int .i64 (i : Nat)) := HX.out.cell 4
      have b5 : w4.cell? ⟨g3, 5, none⟩ = some (.int .i64 (j : Nat)) := HX.out.cell 5
      have b6 : w4.cell? ⟨g3, 6, none⟩ = some (.int .i64 (c : Nat)) := HX.out.cell 6
      have b7 : w4.cell? ⟨g3, 7, none⟩ = some (.bool yb) := HX.out.cell 7
      have b8 : w4.cell? ⟨g3, 8, none⟩ = some (.slice va L.length vc) := HX.out.cell 8
      have b9 : w4.cell? ⟨g3, 9, none⟩ = some (.string dd) := HX.out.cell 9
      go_wp2_with fail
      clear b0 b1 b2 b3 b4 b5 b6 b7 b8 b9
      have HSH := specShowMsg_any ⟨(k : Nat), (f : Nat), (g : Nat), (m : Nat), (i : Nat), (j : Nat), (c : Nat), yb, L, dd⟩ (.slice va L.length vc) w4.heap.size w4 (Nat.le_refl _) HO3.out.rowAll (by simp only; omega)
      simp only [msV, msA] at HSH
      refine HSH.mono ?_
      clear HSH
      rintro e w6 ⟨rfl, b⟩
      replace X0 := Hid.intro (X0.out.kept b)
      replace HX := Hid.intro (HX.out.kept b)
      replace HO3 := Hid.intro (HO3.out.kept b)
      replace B0 := B0.trans (b.mono B0.size)
      clear b
      by_cases hq : shMs ⟨(k : Nat), (f : Nat), (g : Nat), (m : Nat), (i : Nat), (j : Nat), (c : Nat), yb, L, dd⟩ = s
      · have hqb : ((shMs ⟨(k : Nat), (f : Nat), (g : Nat), (m : Nat), (i : Nat), (j : Nat), (c : Nat), yb, L, dd⟩).toList == s.toList) = true := by rw [hq]; simp
        have HP : Hid (outSM s.data.toList = some ⟨(k : Nat), (f : Nat), (g : Nat), (m : Nat), (i : Nat), (j : Nat), (c : Nat), yb, L, dd⟩) := by
          unfold Hid outSM
          rw [HF.out, Option.bind_some, ba_of, if_pos hq]
        generalize shMs ⟨(k : Nat), (f : Nat), (g : Nat), (m : Nat), (i : Nat), (j : Nat), (c : Nat), yb, L, dd⟩ = u at hqb ⊢
        clear hq HF
        have b0 : w6.cell? ⟨g3, 0, none⟩ = some (.int .i64 (k : Nat)) := HX.out.cell 0
        have r0 : w6.cell? ⟨w.heap.size, 0, none⟩ = some (.int .i64 0) := X0.out.cell 0
        have fr0 : w6.frozen? ⟨w.heap.size, 0, none⟩ = false := X0.out.fro 0
        have b1 : w6.cell? ⟨g3, 1, none⟩ = some (.int .i64 (f : Nat)) := HX.out.cell 1
        have r1 : w6.cell? ⟨w.heap.size, 1, none⟩ = some (.int .i64 0) := X0.out.cell 1
        have fr1 : w6.frozen? ⟨w.heap.size, 1, none⟩ = false := X0.out.fro 1
        have b2 : w6.cell? ⟨g3, 2, none⟩ = some (.int .i64 (g : Nat)) := HX.out.cell 2
        have r2 : w6.cell? ⟨w.heap.size, 2, none⟩ = some (.int .i64 0) := X0.out.cell 2
        have fr2 : w6.frozen? ⟨w.heap.size, 2, none⟩ = false := X0.out.fro 2
        have b3 : w6.cell? ⟨g3, 3, none⟩ = some (.int .i64 (m : Nat)) := HX.out.cell 3
        have r3 : w6.cell? ⟨w.heap.size, 3, none⟩ = some (.int .i64 0) := X0.out.cell 3
        have fr3 : w6.frozen? ⟨w.heap.size, 3, none⟩ = false := X0.out.fro 3
        have b4 : w6.cell? ⟨g3, 4, none⟩ = some (.int .i64 (i : Nat)) := HX.out.cell 4
        have r4 : w6.cell? ⟨w.heap.size, 4, none⟩ = some (.int .i64 0) := X0.out.cell 4
        have fr4 : w6.frozen? ⟨w.heap.size, 4, none⟩ = false := X0.out.fro 4
        have b5 : w6.cell? ⟨g3, 5, none⟩ = some (.int .i64 (j : Nat)) := HX.out.cell 5
        have r5 : w6.cell? ⟨w.heap.size, 5, none⟩ = some (.int .i64 0) := X0.out.cell 5
        have fr5 : w6.frozen? ⟨w.heap.size, 5, none⟩ = false := X0.out.fro 5
        have b6 : w6.cell? ⟨g3, 6, none⟩ = some (.int .i64 (c : Nat)) := HX.out.cell 6
        have r6 : w6.cell? ⟨w.heap.size, 6, none⟩ = some (.int .i64 0) := X0.out.cell 6
        have fr6 : w6.frozen? ⟨w.heap.size, 6, none⟩ = false := X0.out.fro 6
        have b7 : w6.cell? ⟨g3, 7, none⟩ = some (.bool yb) := HX.out.cell 7
        have r7 : w6.cell? ⟨w.heap.size, 7, none⟩ = some (.bool false) := X0.out.cell 7
        have fr7 : w6.frozen? ⟨w.heap.size, 7, none⟩ = false := X0.out.fro 7
        have b8 : w6.cell? ⟨g3, 8, none⟩ = some (.slice va L.length vc) := HX.out.cell 8
        have r8 : w6.cell? ⟨w.heap.size, 8, none⟩ = some (.slice none 0 0) := X0.out.cell 8
        have fr8 : w6.frozen? ⟨w.heap.size, 8, none⟩ = false := X0.out.fro 8
        have b9 : w6.cell? ⟨g3, 9, none⟩ = some (.string dd) := HX.out.cell 9
        have r9 : w6.cell? ⟨w.heap.size, 9, none⟩ = some (.string ⟨#[]⟩) := X0.out.cell 9
        have fr9 : w6.frozen? ⟨w.heap.size, 9, none⟩ = false := X0.out.fro 9
        have o1 := set10_only w.heap.size w6 (.int .i64 (k : Nat)) (.int .i64 (f : Nat)) (.int .i64 (g : Nat)) (.int .i64 (m : Nat)) (.int .i64 (i : Nat)) (.int .i64 (j : Nat)) (.int .i64 (c : Nat)) (.bool yb) (.slice va L.length vc) (.string dd)
        have hO := (HO3.out.only o1 (fun k hk e => by have := (HO3.out.lt k hk).1; omega)).lower hwg
        clear X0 HX HO3
        go_wp2
        exact bodyPost_ret (v := .tuple #[msV ⟨(k : Nat), (f : Nat), (g : Nat), (m : Nat), (i : Nat), (j : Nat), (c : Nat), yb, L, dd⟩ (.slice va L.length vc), .bool true]) (by simp [results, Try.results13, go_sem, r0, r1, r2, r3, r4, r5, r6, r7, r8, r9]) rfl ⟨.inl ⟨_, _, rfl, HP, hO⟩, B0.trans (o1.below B0.size (fun k hk h => by omega))⟩
      · have hqb : ((shMs ⟨(k : Nat), (f : Nat), (g : Nat), (m : Nat), (i : Nat), (j : Nat), (c : Nat), yb, L, dd⟩).toList == s.toList) = false := by
          rw [beq_eq_false_iff_ne]
          intro h
          rw [ByteArray.toList_eq, ByteArray.toList_eq] at h
          exact hq (by rw [← ba_of (shMs ⟨(k : Nat), (f : Nat), (g : Nat), (m : Nat), (i : Nat), (j : Nat), (c : Nat), yb, L, dd⟩), h, ba_of])
        have HP : Hid (outSM s.data.toList = none) := by
          unfold Hid outSM
          rw [HF.out, Option.bind_some, ba_of, if_neg hq]
        generalize shMs ⟨(k : Nat), (f : Nat), (g : Nat), (m : Nat), (i : Nat), (j : Nat), (c : Nat), yb, L, dd⟩ = u at hqb ⊢
        clear hq HF HX HO3
        have r0 : w6.cell? ⟨w.heap.size, 0, none⟩ = some (.int .i64 0) := X0.out.cell 0
        have fr0 : w6.frozen? ⟨w.heap.size, 0, none⟩ = false := X0.out.fro 0
        have r1 : w6.cell? ⟨w.heap.size, 1, none⟩ = some (.int .i64 0) := X0.out.cell 1
        have fr1 : w6.frozen? ⟨w.heap.size, 1, none⟩ = false := X0.out.fro 1
        have r2 : w6.cell? ⟨w.heap.size, 2, none⟩ = some (.int .i64 0) := X0.out.cell 2
        have fr2 : w6.frozen? ⟨w.heap.size, 2, none⟩ = false := X0.out.fro 2
        have r3 : w6.cell? ⟨w.heap.size, 3, none⟩ = some (.int .i64 0) := X0.out.cell 3
        have fr3 : w6.frozen? ⟨w.heap.size, 3, none⟩ = false := X0.out.fro 3
        have r4 : w6.cell? ⟨w.heap.size, 4, none⟩ = some (.int .i64 0) := X0.out.cell 4
        have fr4 : w6.frozen? ⟨w.heap.size, 4, none⟩ = false := X0.out.fro 4
        have r5 : w6.cell? ⟨w.heap.size, 5, none⟩ = some (.int .i64 0) := X0.out.cell 5
        have fr5 : w6.frozen? ⟨w.heap.size, 5, none⟩ = false := X0.out.fro 5
        have r6 : w6.cell? ⟨w.heap.size, 6, none⟩ = some (.int .i64 0) := X0.out.cell 6
        have fr6 : w6.frozen? ⟨w.heap.size, 6, none⟩ = false := X0.out.fro 6
        have r7 : w6.cell? ⟨w.heap.size, 7, none⟩ = some (.bool false) := X0.out.cell 7
        have fr7 : w6.frozen? ⟨w.heap.size, 7, none⟩ = false := X0.out.fro 7
        have r8 : w6.cell? ⟨w.heap.size, 8, none⟩ = some (.slice none 0 0) := X0.out.cell 8
        have fr8 : w6.frozen? ⟨w.heap.size, 8, none⟩ = false := X0.out.fro 8
        have r9 : w6.cell? ⟨w.heap.size, 9, none⟩ = some (.string ⟨#[]⟩) := X0.out.cell 9
        have fr9 : w6.frozen? ⟨w.heap.size, 9, none⟩ = false := X0.out.fro 9
        have o1 := set10_only w.heap.size w6 (.int .i64 0) (.int .i64 0) (.int .i64 0) (.int .i64 0) (.int .i64 0) (.int .i64 0) (.int .i64 0) (.bool false) (.slice none 0 0) (.string ⟨#[]⟩)
        clear X0
        go_wp2
        exact bodyPost_ret (v := .tuple #[.agg zM, .bool false]) (by simp [results, Try.results13, go_sem, r0, r1, r2, r3, r4, r5, r6, r7, r8, r9]) rfl ⟨.inr ⟨rfl, HP⟩, B0.trans (o1.below B0.size (fun k hk h => by omega))⟩
end Go.Proofs.Ytdnngbdkmdphoaa
