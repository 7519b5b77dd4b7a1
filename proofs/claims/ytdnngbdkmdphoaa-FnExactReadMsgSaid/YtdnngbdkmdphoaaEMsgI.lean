/- The program's MsgOk. -/
import Derived.Test.YtdnngbdkmdphoaaEEnt
namespace Go.Proofs.Ytdnngbdkmdphoaa
open Go.RowKit
set_option linter.unusedVariables false
theorem bi_eq (a b : Bool) : (bi a = bi b) = (a = b) := propext ⟨bi_inj, fun h => by rw [h]⟩
theorem eq_dec {b : Bool} {P : Prop} [Decidable P] (h : b = true ↔ P) : b = decide P := by
  cases b with
  | true => exact (decide_eq_true (h.1 rfl)).symm
  | false => exact (decide_eq_false (fun k => by cases h.2 k)).symm
theorem empty_ofE {d : ByteArray} (h : d.size = 0) : d = ⟨#[]⟩ := by
  obtain ⟨a⟩ := d
  congr
  exact Array.eq_empty_of_size_eq_zero h
theorem bl_iff (a b : ByteArray) : (a.toList = b.toList) = (a = b) := propext ⟨fun h => by
    rw [ByteArray.toList_eq, ByteArray.toList_eq] at h
    obtain ⟨x⟩ := a
    obtain ⟨y⟩ := b
    congr
    exact Array.toList_inj.1 h, fun h => by rw [h]⟩
set_option maxRecDepth 100000 in
set_option maxHeartbeats 4000000 in
theorem hasOnly_any (a b : Ms) (p q : Option Addr) (k1 k2 : Nat) (w : World) :
    Calls Try.prog 26 #[msV a (.slice p a.es.length k1), msV b (.slice q b.es.length k2)] w fun e w' => e = .returned (.bool (decide (hasP a b))) ∧ Below w.heap.size w w' := by
  go_enter Try.func26, Try.ntmps26
  go_wp2
  all_goals go_ret
  all_goals refine ⟨ret_bool (eq_dec ?_), two_below _ _ _⟩
  all_goals unfold hasP
  all_goals simp only [bi_eq]
  all_goals first | (simp_all [bl_iff]; done) | (simp_all [bl_iff]; omega)
set_option maxRecDepth 100000 in
set_option maxHeartbeats 4000000 in
theorem atPlace_any (a : Ms) (v : Value) (w : World) :
    Calls Try.prog 27 #[msV a v] w fun e w' => e = .returned (.bool (decide (placeP a.i a.j ∧ a.j ≤ a.m))) ∧ Below w.heap.size w w' := by
  by_cases h1 : placeP a.i a.j
  · have b1 : decide (placeP a.i a.j) = true := decide_eq_true h1
    go_enter Try.func27, Try.ntmps27
    go_wp2_with (go_at_call 49; refine (isPlace_any _ _ _).mono ?_; rintro e w9 ⟨rfl, rfl⟩; simp only [b1])
    all_goals go_ret
    all_goals exact ⟨ret_bool (eq_dec (by simp [h1])), one_below _ _⟩
  · have b1 : decide (placeP a.i a.j) = false := decide_eq_false h1
    go_enter Try.func27, Try.ntmps27
    go_wp2_with (go_at_call 49; refine (isPlace_any _ _ _).mono ?_; rintro e w9 ⟨rfl, rfl⟩; simp only [b1])
    all_goals go_ret
    all_goals exact ⟨ret_bool (eq_dec (by simp [h1])), one_below _ _⟩
set_option maxRecDepth 100000 in
set_option maxHeartbeats 4000000 in
theorem snapshotOk_any (a : Ms) (v : Value) (w : World) :
    Calls Try.prog 29 #[msV a v] w fun e w' => e = .returned (.bool (decide ((1 ≤ a.i ∧ a.i ≤ 100000) ∧ (1 ≤ a.j ∧ a.j ≤ a.m) ∧ a.d.size ≤ 20000))) ∧ Below w.heap.size w w' := by
  by_cases h1 : 1 ≤ a.i ∧ a.i ≤ 100000
  · have b1 := inB_true h1
    by_cases h2 : 1 ≤ a.j ∧ a.j ≤ a.m
    · have b2 := inB_true h2
      go_enter Try.func29, Try.ntmps29
      go_wp2_with (go_at_call 25; refine (within_any _ _ _ _).mono ?_; rintro e w9 ⟨rfl, rfl⟩)
      all_goals go_ret
      all_goals exact ⟨ret_bool (eq_dec (by simp only [decide_eq_true_eq]; omega)), one_below _ _⟩
    · have b2 := inB_false h2
      go_enter Try.func29, Try.ntmps29
      go_wp2_with (go_at_call 25; refine (within_any _ _ _ _).mono ?_; rintro e w9 ⟨rfl, rfl⟩)
      all_goals go_ret
      all_goals exact ⟨ret_bool (eq_dec (by simp only [Bool.false_eq_true, false_iff]; omega)), one_below _ _⟩
  · have b1 := inB_false h1
    go_enter Try.func29, Try.ntmps29
    go_wp2_with (go_at_call 25; refine (within_any _ _ _ _).mono ?_; rintro e w9 ⟨rfl, rfl⟩)
    all_goals go_ret
    all_goals exact ⟨ret_bool (eq_dec (by simp only [Bool.false_eq_true, false_iff]; omega)), one_below _ _⟩
set_option maxHeartbeats 2000000 in
theorem followOk_any (L : List En) (lo top : Int) (v : Value) (N : Nat) (w : World) (hN : N ≤ w.heap.size) (hr : Row enE w N v L) :
    Calls Try.prog 50 #[v, .int .i64 lo, .int .i64 top] w fun e w' => e = .returned (.bool (runB (max lo 1) top L)) ∧ Below w.heap.size w w' := by
  obtain ⟨a, cap, rfl, hl, hm, hcells⟩ := enE_cell hr
  have HC := Hid.intro hcells
  clear hcells hr
  go_enter Try.func50, Try.ntmps50
  go_wp2
  all_goals
    go_loopw [7, 14] (fun lo' i wr => ∃ (j : Nat) (x : Int), i = .int .i64 j ∧ lo' = .int .i64 x ∧ j ≤ L.length ∧ Hid (runB (max lo 1) top L = runB x top (L.drop j)) ∧ Below w.heap.size w wr) (fun _ i _ => L.length - (intOf i).toNat)
    case atStart => exact ⟨0, _, rfl, rfl, Nat.zero_le _, by unfold Hid; rw [List.drop_zero]; congr 1; omega, Below.refl _ _⟩
    case round =>
      obtain ⟨j, x, rfl, rfl, hj, HE, hbel⟩ := hrel
      have hs2 := hbel.size
      by_cases hlt : j < L.length
      · obtain ⟨b, off, rfl, hbN, hcc⟩ := HC.out (by intro h; rw [h] at hlt; simp at hlt)
        have hE := runB_at (lo := x) (top := top) hlt
        obtain ⟨c0, c1⟩ := hcc j hlt
        generalize L[j] = ej at c0 c1 hE
        have HX := Hid.intro hE
        have g0 := atCell hbel c0 (by omega)
        have g1 := atCell hbel c1 (by omega)
        clear hE hcc c0 c1
        by_cases hok : x ≤ ej.t ∧ ej.t ≤ top
        · have hok' := inB_true hok
          by_cases hsz : ej.d.size ≤ 1600
          · go_wp2_with (go_at_call 25; refine (within_any _ _ _ _).mono ?_; rintro e w' ⟨rfl, rfl⟩)
            go_roundw
            case rel => exact ⟨j + 1, _, by go_num, rfl, by omega, by unfold Hid; rw [HE.out, HX.out, decide_eq_true ⟨hok.1, hok.2, hsz⟩]; rfl, hbel.alloc hs2 _⟩
            case measure => simp [intOf]; omega
          · go_wp2_with (go_at_call 25; refine (within_any _ _ _ _).mono ?_; rintro e w' ⟨rfl, rfl⟩)
            go_ret
            exact ⟨ret_bool (by rw [HE.out, HX.out, decide_eq_false (p := x ≤ ej.t ∧ ej.t ≤ top ∧ ej.d.size ≤ 1600) (fun h => hsz h.2.2)]; simp), hbel.alloc hs2 _⟩
        · have hok' := inB_false hok
          go_wp2_with (go_at_call 25; refine (within_any _ _ _ _).mono ?_; rintro e w' ⟨rfl, rfl⟩)
          go_ret
          exact ⟨ret_bool (by rw [HE.out, HX.out, decide_eq_false (p := x ≤ ej.t ∧ ej.t ≤ top ∧ ej.d.size ≤ 1600) (fun h => hok ⟨h.1, h.2.1⟩)]; simp), hbel.alloc hs2 _⟩
      · obtain rfl : j = L.length := by omega
        go_wp2
        go_ret
        exact ⟨ret_bool (by rw [HE.out, runB_end (Nat.le_refl _)]), hbel⟩
set_option maxRecDepth 100000 in
set_option maxHeartbeats 4000000 in
theorem batchOk_any (a : Ms) (v : Value) (N : Nat) (w : World) (hN : N ≤ w.heap.size) (hr : Row enE w N v a.es) (hlen : a.es.length ≤ 1000000000000) :
    Calls Try.prog 28 #[msV a v] w fun e w' => e = .returned (.bool (decide ((placeP a.i a.j ∧ a.j ≤ a.m) ∧ (0 ≤ a.c ∧ a.c ≤ 100000) ∧ a.es.length ≤ 4 ∧ bi (runB (max a.j 1) a.m a.es) = 1 ∧ a.i + a.es.length ≤ 100000))) ∧ Below w.heap.size w w' := by
  obtain ⟨x, cap, rfl, hl, hm⟩ := hr.slice
  have HR := Hid.intro hr
  have HL := Hid.intro hlen
  clear hr hlen
  go_enter Try.func28, Try.ntmps28
  go_wp2_with fail
  obtain ⟨W, hW, bW, zW, c1, f1⟩ := boxed w (msA a (.slice x a.es.length cap)) 29
  simp only [hW]
  refine (atPlace_any a _ W).mono ?_
  rintro e w1 ⟨rfl, b1⟩
  replace c1 := keepC b1 (by omega) c1
  have z1 := b1.size
  have HB := Hid.intro (bW.trans (b1.mono (by omega)))
  have hz1 : w.heap.size < w1.heap.size := by omega
  have HRW := Hid.intro (HR.out.kept ((bW.trans (b1.mono (by omega))).mono hN))
  clear hW bW b1 f1 HR
  by_cases h1 : placeP a.i a.j ∧ a.j ≤ a.m
  · have k1 : decide (placeP a.i a.j ∧ a.j ≤ a.m) = true := decide_eq_true h1
    have hi : -1 ≤ a.i ∧ a.i ≤ 100000 := by omega
    by_cases h2 : 0 ≤ a.c ∧ a.c ≤ 100000
    · have k2 := inB_true h2
      by_cases h3 : a.es.length ≤ 4
      · have g3 : ¬ (4 : Int) < (a.es.length : Int) := by omega
        by_cases h4 : a.i + a.es.length ≤ 100000
        · have g4 : a.i + (a.es.length : Int) ≤ 100000 := h4
          clear HL
          go_wp2_with (first | (go_at_call 25; refine (within_any _ _ _ _).mono ?_; rintro e w' ⟨rfl, rfl⟩) | fail)
          refine (followOk_any a.es a.j a.m _ N w1 (by omega) HRW.out).mono ?_
          rintro e w2 ⟨rfl, b2⟩
          replace HB := Hid.intro (HB.out.trans (b2.mono (by omega)))
          clear b2 c1
          go_wp2
          go_ret
          refine ⟨ret_bool (eq_dec ?_), HB.out⟩
          cases hq : runB (max a.j 1) a.m a.es with
          | true => simp only [true_iff, bi]; exact ⟨h1, h2, h3, by simp, h4⟩
          | false => simp [bi]
        · have g4 : ¬ a.i + (a.es.length : Int) ≤ 100000 := h4
          go_wp2_with (first | (go_at_call 25; refine (within_any _ _ _ _).mono ?_; rintro e w' ⟨rfl, rfl⟩) | fail)
          go_ret
          exact ⟨ret_bool (by simp [g4]), HB.out⟩
      · have g3 : (4 : Int) < (a.es.length : Int) := by omega
        go_wp2_with (first | (go_at_call 25; refine (within_any _ _ _ _).mono ?_; rintro e w' ⟨rfl, rfl⟩) | fail)
        go_ret
        exact ⟨ret_bool (eq_dec (by first | (simp only [Bool.false_eq_true, false_iff]; omega) | (simp only [decide_eq_true_eq]; omega) | (simp only [beq_iff_eq]; omega))), HB.out⟩
    · have k2 := inB_false h2
      go_wp2_with (first | (go_at_call 25; refine (within_any _ _ _ _).mono ?_; rintro e w' ⟨rfl, rfl⟩) | fail)
      go_ret
      exact ⟨ret_bool (eq_dec (by first | (simp only [Bool.false_eq_true, false_iff]; omega) | (simp only [decide_eq_true_eq]; omega) | (simp only [beq_iff_eq]; omega))), HB.out⟩
  · have k1 : decide (placeP a.i a.j ∧ a.j ≤ a.m) = false := decide_eq_false h1
    go_wp2_with fail
    go_ret
    exact ⟨ret_bool (eq_dec (by first | (simp only [Bool.false_eq_true, false_iff]; omega) | (simp only [decide_eq_true_eq]; omega) | (simp only [beq_iff_eq]; omega))), HB.out⟩
theorem has1 {a : Ms} : hasP a ⟨0, 0, 0, 0, a.i, a.j, 0, false, [], ⟨#[]⟩⟩ ↔ (a.c = 0 ∧ bi a.y = 0 ∧ a.es.length = 0 ∧ a.d.size = 0) := by
  unfold hasP
  simp only [bi, Bool.false_eq_true, if_false, List.length_nil, true_and]
  exact ⟨fun h => ⟨h.1, h.2.1, h.2.2.1, by rw [h.2.2.2]; rfl⟩, fun h => ⟨h.1, h.2.1, h.2.2.1, empty_ofE h.2.2.2⟩⟩
theorem has2 {a : Ms} : hasP a ⟨0, 0, 0, 0, 0, 0, 0, a.y, [], ⟨#[]⟩⟩ ↔ (a.i = 0 ∧ a.j = 0 ∧ a.c = 0 ∧ a.es.length = 0 ∧ a.d.size = 0) := by
  unfold hasP
  simp only [List.length_nil, true_and]
  exact ⟨fun h => ⟨h.1, h.2.1, h.2.2.1, h.2.2.2.1, by rw [h.2.2.2.2]; rfl⟩, fun h => ⟨h.1, h.2.1, h.2.2.1, h.2.2.2.1, empty_ofE h.2.2.2.2⟩⟩
theorem has3 {a : Ms} : hasP a ⟨0, 0, 0, 0, a.i, a.j, a.c, false, a.es, ⟨#[]⟩⟩ ↔ (bi a.y = 0 ∧ a.d.size = 0) := by
  unfold hasP
  simp only [bi, Bool.false_eq_true, if_false, true_and]
  exact ⟨fun h => ⟨h.1, by rw [h.2]; rfl⟩, fun h => ⟨h.1, empty_ofE h.2⟩⟩
theorem has4 {a : Ms} : hasP a ⟨0, 0, 0, 0, a.i, 0, 0, a.y, [], ⟨#[]⟩⟩ ↔ (a.j = 0 ∧ a.c = 0 ∧ a.es.length = 0 ∧ a.d.size = 0) := by
  unfold hasP
  simp only [List.length_nil, true_and]
  exact ⟨fun h => ⟨h.1, h.2.1, h.2.2.1, by rw [h.2.2.2]; rfl⟩, fun h => ⟨h.1, h.2.1, h.2.2.1, empty_ofE h.2.2.2⟩⟩
theorem has5 {a : Ms} : hasP a ⟨0, 0, 0, 0, a.i, a.j, 0, false, [], a.d⟩ ↔ (a.c = 0 ∧ bi a.y = 0 ∧ a.es.length = 0) := by
  unfold hasP
  simp only [bi, Bool.false_eq_true, if_false, List.length_nil, true_and, and_true]
theorem msgP_1 {f g m i j c : Int} {y : Bool} {es : List En} {d : ByteArray} : msgP ⟨1, f, g, m, i, j, c, y, es, d⟩ ↔ (((0 ≤ f ∧ f ≤ 4) ∧ (0 ≤ g ∧ g ≤ 4) ∧ ¬ f = g ∧ (1 ≤ m ∧ m ≤ 100000)) ∧ placeP i j ∧ j ≤ m ∧ c = 0 ∧ bi y = 0 ∧ es.length = 0 ∧ d.size = 0) := by
  unfold msgP
  constructor
  · rintro ⟨h, h1 | h1 | h1 | h1 | h1⟩
    · exact ⟨h, h1.2⟩
    all_goals exact absurd h1.1 (by simp)
  · rintro ⟨h, h1⟩
    exact ⟨h, Or.inl ⟨rfl, h1⟩⟩
theorem msgP_2 {f g m i j c : Int} {y : Bool} {es : List En} {d : ByteArray} : msgP ⟨2, f, g, m, i, j, c, y, es, d⟩ ↔ (((0 ≤ f ∧ f ≤ 4) ∧ (0 ≤ g ∧ g ≤ 4) ∧ ¬ f = g ∧ (1 ≤ m ∧ m ≤ 100000)) ∧ i = 0 ∧ j = 0 ∧ c = 0 ∧ es.length = 0 ∧ d.size = 0) := by
  unfold msgP
  constructor
  · rintro ⟨h, h1 | h1 | h1 | h1 | h1⟩
    · exact absurd h1.1 (by simp)
    · exact ⟨h, h1.2⟩
    all_goals exact absurd h1.1 (by simp)
  · rintro ⟨h, h1⟩
    exact ⟨h, Or.inr (Or.inl ⟨rfl, h1⟩)⟩
theorem msgP_3 {f g m i j c : Int} {y : Bool} {es : List En} {d : ByteArray} : msgP ⟨3, f, g, m, i, j, c, y, es, d⟩ ↔ (((0 ≤ f ∧ f ≤ 4) ∧ (0 ≤ g ∧ g ≤ 4) ∧ ¬ f = g ∧ (1 ≤ m ∧ m ≤ 100000)) ∧ placeP i j ∧ j ≤ m ∧ (0 ≤ c ∧ c ≤ 100000) ∧ es.length ≤ 4 ∧ bi (runB (max j 1) m es) = 1 ∧ i + es.length ≤ 100000 ∧ bi y = 0 ∧ d.size = 0) := by
  unfold msgP
  constructor
  · rintro ⟨h, h1 | h1 | h1 | h1 | h1⟩
    · exact absurd h1.1 (by simp)
    · exact absurd h1.1 (by simp)
    · exact ⟨h, h1.2⟩
    all_goals exact absurd h1.1 (by simp)
  · rintro ⟨h, h1⟩
    exact ⟨h, Or.inr (Or.inr (Or.inl ⟨rfl, h1⟩))⟩
theorem msgP_4 {f g m i j c : Int} {y : Bool} {es : List En} {d : ByteArray} : msgP ⟨4, f, g, m, i, j, c, y, es, d⟩ ↔ (((0 ≤ f ∧ f ≤ 4) ∧ (0 ≤ g ∧ g ≤ 4) ∧ ¬ f = g ∧ (1 ≤ m ∧ m ≤ 100000)) ∧ (0 ≤ i ∧ i ≤ 100000) ∧ j = 0 ∧ c = 0 ∧ es.length = 0 ∧ d.size = 0) := by
  unfold msgP
  constructor
  · rintro ⟨h, h1 | h1 | h1 | h1 | h1⟩
    · exact absurd h1.1 (by simp)
    · exact absurd h1.1 (by simp)
    · exact absurd h1.1 (by simp)
    · exact ⟨h, h1.2⟩
    all_goals exact absurd h1.1 (by simp)
  · rintro ⟨h, h1⟩
    exact ⟨h, Or.inr (Or.inr (Or.inr (Or.inl ⟨rfl, h1⟩)))⟩
theorem msgP_5 {f g m i j c : Int} {y : Bool} {es : List En} {d : ByteArray} : msgP ⟨5, f, g, m, i, j, c, y, es, d⟩ ↔ (((0 ≤ f ∧ f ≤ 4) ∧ (0 ≤ g ∧ g ≤ 4) ∧ ¬ f = g ∧ (1 ≤ m ∧ m ≤ 100000)) ∧ (1 ≤ i ∧ i ≤ 100000) ∧ (1 ≤ j ∧ j ≤ m) ∧ d.size ≤ 20000 ∧ c = 0 ∧ bi y = 0 ∧ es.length = 0) := by
  unfold msgP
  constructor
  · rintro ⟨h, h1 | h1 | h1 | h1 | h1⟩
    · exact absurd h1.1 (by simp)
    · exact absurd h1.1 (by simp)
    · exact absurd h1.1 (by simp)
    · exact absurd h1.1 (by simp)
    · exact ⟨h, h1.2⟩
  · rintro ⟨h, h1⟩
    exact ⟨h, Or.inr (Or.inr (Or.inr (Or.inr ⟨rfl, h1⟩)))⟩
theorem msgP_k {a : Ms} (h : msgP a) : a.k = 1 ∨ a.k = 2 ∨ a.k = 3 ∨ a.k = 4 ∨ a.k = 5 := by
  obtain ⟨_, h1 | h1 | h1 | h1 | h1⟩ := h
  · exact Or.inl h1.1
  · exact Or.inr (Or.inl h1.1)
  · exact Or.inr (Or.inr (Or.inl h1.1))
  · exact Or.inr (Or.inr (Or.inr (Or.inl h1.1)))
  · exact Or.inr (Or.inr (Or.inr (Or.inr h1.1)))
end Go.Proofs.Ytdnngbdkmdphoaa
