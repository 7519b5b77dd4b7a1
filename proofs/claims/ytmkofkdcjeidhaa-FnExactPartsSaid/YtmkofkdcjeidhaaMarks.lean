/- Marks: a row that is marked holds its marks. -/
import Derived.Test.YtmkofkdcjeidhaaParts
namespace Go.Proofs.Ytmkofkdcjeidhaa
open Go.RowKit
set_option linter.unusedVariables false

def mk (k : Nat) : List UInt8 := 109 :: markD 4 k []
def markTo (L : List (List UInt8)) : Nat → List (List UInt8)
  | 0 => L
  | j + 1 => (markTo L j).set j (mk (1 + j))
theorem markTo_length (L : List (List UInt8)) (j : Nat) : (markTo L j).length = L.length := by
  induction j with
  | zero => rfl
  | succ j ih => simp [markTo, ih]
theorem markTo_get (L : List (List UInt8)) (n i : Nat) (hi : i < n) (hL : i < (markTo L n).length) : (markTo L n)[i] = mk (1 + i) := by
  induction n with
  | zero => omega
  | succ n ih =>
    simp only [markTo, List.getElem_set]
    split
    · rename_i h; subst h; rfl
    · exact ih (by omega) (by rw [markTo_length] at hL ⊢; exact hL)
theorem sVals_set (L : List (List UInt8)) (j : Nat) (x : List UInt8) : sVals (L.set j x) = (sVals L).set j (sVal x) := by
  simp [sVals, List.map_set]

theorem RowS.store {w : World} {base g cap n j : Nat} {L : List (List UInt8)} (hn : L.length = n) (h : RowS w base (.slice (some ⟨g, 0, none⟩) n cap) L) (x : List UInt8) :
    RowS (w.setCell ⟨g, j, none⟩ (.string ⟨x.toArray⟩)) base (.slice (some ⟨g, 0, none⟩) n cap) (L.set j x) := by
  subst hn
  have := (World.ownsRow.stored h j (sVal x)).1
  unfold RowS
  rw [sVals_set, List.length_set]
  exact this

/-- Any row stays where what changes lies elsewhere. -/
theorem RowS.keptB {w w' : World} {base B : Nat} {v : Value} {L : List (List UInt8)} (h : RowS w base v L) (hb : Below B w w') (hv : ∀ k, v.ownBlock = some k → k < B) : RowS w' base v L := by
  refine ⟨h.1, ?_⟩
  rcases h.2 with hn | ⟨g, cap, cur, rfl, hg, hgg, rest⟩
  · exact .inl hn
  · exact .inr ⟨g, cap, cur, rfl, hg, (hb.block g (hv g rfl)).trans hgg, rest⟩

/-- The mark of a number that is an Int. -/
def markI (x : Int) : ByteArray := markS x.toNat
theorem markI_nat (j : Nat) : markI (1 + (j : Int)) = ⟨(mk (1 + j)).toArray⟩ := by
  rw [markI, show (1 + (j : Int)).toNat = 1 + j by omega]; rfl
theorem markText_int (x : Int) (w : World) (h1 : 1 ≤ x) (hk : x ≤ 1000) :
    Calls Try.prog 37 #[.int .i64 x] w fun e w' => e = .returned (.string (markI x)) ∧ Below w.heap.size w w' := by
  obtain ⟨k, rfl⟩ := Int.eq_ofNat_of_zero_le (show 0 ≤ x by omega)
  exact markText_any k w (by omega) (by omega)

theorem mark_empty (a : Option Addr) (c : Nat) (w : World) :
    Calls Try.prog 21 #[.slice a 0 c, .int .i64 1] w fun e w' => e = .returned (.int .i64 1) ∧ w = w' := by
  go_enter Try.func21, Try.ntmps21
  go_wp2
  refine wp_loop_rounds 1 ?_
  rw [rounds_succ]
  go_wp2
  go_ret
  exact ⟨rfl, rfl⟩
theorem held_empty (a : Option Addr) (c : Nat) (w : World) :
    Calls Try.prog 22 #[.slice a 0 c, .int .i64 1] w fun e w' => e = .returned (.int .i64 1) ∧ w = w' := by
  go_enter Try.func22, Try.ntmps22
  go_wp2
  refine wp_loop_rounds 1 ?_
  rw [rounds_succ]
  go_wp2
  go_ret
  exact ⟨rfl, rfl⟩

set_option maxHeartbeats 400000 in
theorem mark_some (g c base n : Nat) (L : List (List UInt8)) (w : World) (hn : Hid (L.length = n)) (hL : n ≤ 900) (hbase : base ≤ w.heap.size) (r1 : RowS w base (.slice (some ⟨g, 0, none⟩) n c) L) :
    Calls Try.prog 21 #[.slice (some ⟨g, 0, none⟩) n c, .int .i64 1] w fun e w' => e = .returned (.int .i64 (1 + (n : Nat))) ∧ RowS w' base (.slice (some ⟨g, 0, none⟩) n c) (markTo L n) ∧ Below base w w' := by
  have hg : base ≤ g := (World.ownsRow.lt r1 g rfl).1
  go_enter Try.func21, Try.ntmps21
  go_wp2
  go_loopw [1, 5] (fun q i wr => ∃ j : Nat, i = .int .i64 j ∧ q = .int .i64 (1 + (j : Nat)) ∧ j ≤ n ∧ Hid (RowS wr base (.slice (some ⟨g, 0, none⟩) n c) (markTo L j)) ∧ Below base w wr) (fun _ i _ => n - (intOf i).toNat)
  case atStart => exact ⟨0, rfl, rfl, Nat.zero_le _, r1, Below.refl _ _⟩
  case round =>
    obtain ⟨j, rfl, rfl, hj, HR, hbel⟩ := hrel
    have hbs := hbel.size
    by_cases hlt : j < n
    · go_wp2_with fail
      refine (markText_int _ _ (by omega) (by omega)).mono ?_
      rintro e w1 ⟨rfl, b1⟩
      have HR1 : Hid (RowS w1 base (.slice (some ⟨g, 0, none⟩) n c) (markTo L j)) := HR.out.kept b1
      have hb1 := hbel.trans (b1.mono (Nat.le_trans hbase hbs))
      have hc := HR1.out
      have hlen := markTo_length L j
      have hfr : w1.frozen? ⟨g, j, none⟩ = false := by
        rw [hn.out] at hlen
        rw [← hlen] at hc
        exact World.ownsRow.frozenAt hc j
      have hcl : ∃ u, w1.cell? ⟨g, j, none⟩ = some u := by
        rw [hn.out] at hlen
        rw [← hlen] at hc
        exact ⟨_, RowS.at hc j (by rw [hlen]; exact hlt)⟩
      obtain ⟨u, hcl⟩ := hcl
      have HS : Hid (RowS (w1.setCell ⟨g, j, none⟩ (.string (markI (1 + (j : Int))))) base (.slice (some ⟨g, 0, none⟩) n c) (markTo L (j + 1))) := by
        unfold Hid
        rw [markI_nat]
        exact RowS.store (by rw [markTo_length]; exact hn.out) HR1.out _
      clear hc hlen HR HR1 hbel b1
      go_wp2
      go_roundw
      case rel => exact ⟨j + 1, by go_num, by go_num, by omega, HS.out, hb1.setCell hg _⟩
      case measure => simp [intOf]; omega
    · obtain rfl : j = n := by omega
      go_wp2
      go_ret
      exact ⟨rfl, HR.out, hbel⟩

set_option maxHeartbeats 400000 in
theorem held_some (g c base n : Nat) (M : List (List UInt8)) (w : World) (hn : Hid (M.length = n)) (hM : Hid (∀ i (h : i < M.length), M[i] = mk (1 + i))) (hL : n ≤ 900) (r1 : Hid (RowS w base (.slice (some ⟨g, 0, none⟩) n c) M)) :
    Calls Try.prog 22 #[.slice (some ⟨g, 0, none⟩) n c, .int .i64 1] w fun e w' => e = .returned (.int .i64 (1 + (n : Nat))) ∧ Below w.heap.size w w' := by
  go_enter Try.func22, Try.ntmps22
  go_wp2
  go_loopw [1, 5] (fun q i wr => ∃ j : Nat, i = .int .i64 j ∧ q = .int .i64 (1 + (j : Nat)) ∧ j ≤ n ∧ Below w.heap.size w wr) (fun _ i _ => n - (intOf i).toNat)
  case atStart => exact ⟨0, rfl, rfl, Nat.zero_le _, Below.refl _ _⟩
  case round =>
    obtain ⟨j, rfl, rfl, hj, hbel⟩ := hrel
    by_cases hlt : j < n
    · have hcell : ∀ w', Below wr.heap.size wr w' → w'.cell? ⟨g, j, none⟩ = some (.string (markI (1 + (j : Int)))) := by
        intro w' hb
        have h1 := r1.out
        have h2 := hM.out j (by rw [hn.out]; exact hlt)
        have h3 := hn.out
        subst h3
        have h4 := h1.text (hbel.trans (hb.mono hbel.size)) j hlt
        rw [h2] at h4
        rw [markI_nat]
        exact h4
      have HC := Hid.intro hcell
      have hc0 := hcell wr (Below.refl _ _)
      clear hcell
      go_wp2
      go_region_with (go_at_call 37; refine (markText_int _ _ (by omega) (by omega)).mono ?_; rintro e w1 ⟨rfl, b1⟩; have hc1 := HC.out w1 ((Below.refl wr.heap.size wr).drew.trans b1))
      all_goals
        have hb1 := hbel.trans (((Below.refl wr.heap.size wr).drew.trans b1).mono hbel.size)
        clear HC hc0 hc1 b1
        go_wp2
        go_roundw
        case rel => exact ⟨j + 1, by go_num, by go_num, by omega, hb1⟩
        case measure => simp [intOf]; omega
    · obtain rfl : j = n := by omega
      go_wp2
      go_ret
      exact ⟨rfl, hbel⟩

/-- The three helpers at any row. -/
theorem eqS_any {w : World} {b1 b2 : Nat} {v1 v2 : Value} {L : List (List UInt8)} (hL : L.length ≤ 900) (r1 : RowS w b1 v1 L) (r2 : RowS w b2 v2 L) :
    Calls Try.prog 20 #[v1, v2] w fun e w' => e = .returned (.bool true) ∧ Below w.heap.size w w' := by
  by_cases h0 : L = []
  · obtain ⟨a1, c1, rfl⟩ : ∃ a c, v1 = .slice a 0 c := by
      rcases r1.look with ⟨rfl, _⟩ | ⟨g, cap, rfl, _⟩
      · exact ⟨_, _, rfl⟩
      · rw [h0]; exact ⟨_, _, rfl⟩
    obtain ⟨a2, c2, rfl⟩ : ∃ a c, v2 = .slice a 0 c := by
      rcases r2.look with ⟨rfl, _⟩ | ⟨g, cap, rfl, _⟩
      · exact ⟨_, _, rfl⟩
      · rw [h0]; exact ⟨_, _, rfl⟩
    refine (eqS_empty a1 a2 c1 c2 w).mono ?_
    rintro e w' ⟨rfl, rfl⟩
    exact ⟨rfl, Below.refl _ _⟩
  · obtain ⟨g1, c1, rfl⟩ : ∃ g c, v1 = .slice (some ⟨g, 0, none⟩) L.length c := by
      rcases r1.look with ⟨_, h⟩ | ⟨g, cap, rfl, _⟩
      · exact absurd h h0
      · exact ⟨_, _, rfl⟩
    obtain ⟨g2, c2, rfl⟩ : ∃ g c, v2 = .slice (some ⟨g, 0, none⟩) L.length c := by
      rcases r2.look with ⟨_, h⟩ | ⟨g, cap, rfl, _⟩
      · exact absurd h h0
      · exact ⟨_, _, rfl⟩
    exact eqS_some g1 g2 c1 c2 b1 b2 L w (by omega) r1 r2

theorem mark_any {w : World} {base : Nat} {v : Value} {L : List (List UInt8)} (hL : L.length ≤ 900) (hbase : base ≤ w.heap.size) (r : RowS w base v L) :
    Calls Try.prog 21 #[v, .int .i64 1] w fun e w' => e = .returned (.int .i64 (1 + (L.length : Nat))) ∧ RowS w' base v (markTo L L.length) ∧ Below base w w' := by
  by_cases h0 : L = []
  · obtain ⟨a1, c1, rfl⟩ : ∃ a c, v = .slice a 0 c := by
      rcases r.look with ⟨rfl, _⟩ | ⟨g, cap, rfl, _⟩
      · exact ⟨_, _, rfl⟩
      · rw [h0]; exact ⟨_, _, rfl⟩
    refine (mark_empty a1 c1 w).mono ?_
    rintro e w' ⟨rfl, rfl⟩
    subst h0
    exact ⟨rfl, r, Below.refl _ _⟩
  · obtain ⟨g1, c1, rfl⟩ : ∃ g c, v = .slice (some ⟨g, 0, none⟩) L.length c := by
      rcases r.look with ⟨_, h⟩ | ⟨g, cap, rfl, _⟩
      · exact absurd h h0
      · exact ⟨_, _, rfl⟩
    exact mark_some g1 c1 base L.length L w rfl hL hbase r

theorem held_any {w : World} {base : Nat} {v : Value} {L : List (List UInt8)} (hL : L.length ≤ 900) (r : RowS w base v (markTo L L.length)) :
    Calls Try.prog 22 #[v, .int .i64 1] w fun e w' => e = .returned (.int .i64 (1 + (L.length : Nat))) ∧ Below w.heap.size w w' := by
  have hl := markTo_length L L.length
  by_cases h0 : L = []
  · obtain ⟨a1, c1, rfl⟩ : ∃ a c, v = .slice a 0 c := by
      rcases r.look with ⟨rfl, _⟩ | ⟨g, cap, rfl, _⟩
      · exact ⟨_, _, rfl⟩
      · rw [hl, h0]; exact ⟨_, _, rfl⟩
    refine (held_empty a1 c1 w).mono ?_
    rintro e w' ⟨rfl, rfl⟩
    subst h0
    exact ⟨rfl, Below.refl _ _⟩
  · obtain ⟨g1, c1, rfl⟩ : ∃ g c, v = .slice (some ⟨g, 0, none⟩) L.length c := by
      rcases r.look with ⟨_, h⟩ | ⟨g, cap, h, _⟩
      · rw [h] at hl; exact absurd (List.eq_nil_of_length_eq_zero hl.symm) h0
      · rw [hl] at h; exact ⟨_, _, h⟩
    exact held_some g1 c1 base L.length (markTo L L.length) w hl (fun i h => markTo_get L L.length i (by rw [hl] at h; exact h) h) hL r

theorem partsOf_len (l : List UInt8) : (partsOf l).length ≤ 900 := by
  cases hp : pathB l with
  | false => rw [partsOf_no hp]; simp
  | true =>
    rw [partsOf_yes hp]
    have h1 := parts_bound (pathB_len hp).2
    have h2 := cat_len (partsL l)
    omega

set_option maxHeartbeats 400000 in
theorem parts_law (s : ByteArray) (w : World) (hs : s.size ≤ maxLen) :
    Calls Try.prog 6 #[.string s] w fun e w' => e = .returned (.bool true) ∧ Below w.heap.size w w' := by
  by_cases h : 1048576 < (s.size : Int)
  · have hm : s.size ≤ 9223372036854775807 := hs
    go_enter Try.func6, Try.ntmps6
    go_wp2
    go_ret
    exact ⟨rfl, Below.refl _ _⟩
  · have hs' : s.size ≤ 1048576 := by omega
    have hlen := partsOf_len s.data.toList
    have PS := Hid.intro (specParts_any s w hs')
    generalize hL : partsOf s.data.toList = L at hlen PS
    have HL := Hid.intro hL
    clear hs hL
    go_enter Try.func6, Try.ntmps6
    go_wp2_with fail
    refine PS.out.mono ?_
    rintro e w1 ⟨v0, rfl, r0, b1⟩
    have R0 := Hid.intro r0
    have hz1 := b1.size
    clear r0
    go_wp2_with fail
    refine (implParts_any s w1 hs').mono ?_
    rintro e w2 ⟨v1, rfl, r1, b2⟩
    rw [HL.out] at r1
    have R1 := Hid.intro r1
    have R0' := Hid.intro (R0.out.kept b2)
    have hz2 := b2.size
    have bb2 := b1.trans (b2.mono hz1)
    clear r1
    go_wp2_with fail
    refine (eqS_any hlen R1.out R0'.out).mono ?_
    rintro e w3 ⟨rfl, b3⟩
    have hz3 := b3.size
    have bb3 := bb2.trans (b3.mono bb2.size)
    have R1' := Hid.intro (R1.out.kept b3)
    have R0'' := Hid.intro (R0'.out.kept b3)
    clear R0' R1
    go_wp2_with fail
    refine (mark_any hlen (by omega) R1'.out).mono ?_
    rintro e w4 ⟨rfl, r4, b4⟩
    have R4 := Hid.intro r4
    have hz4 := b4.size
    have bb4 := bb3.trans (b4.mono hz1)
    have Q4 := Hid.intro (R0''.out.keptB b4 (fun k hk => (World.ownsRow.lt R0.out k hk).2))
    clear r4
    go_wp2_with fail
    refine (held_any hlen R4.out).mono ?_
    rintro e w5 ⟨rfl, b5⟩
    have R5 := Hid.intro (R4.out.kept b5)
    have Q5 := Hid.intro (Q4.out.kept b5)
    have bb5 := bb4.trans (b5.mono bb4.size)
    go_wp2_with fail
    refine (implParts_any s w5 hs').mono ?_
    rintro e w6 ⟨v2, rfl, r6, b6⟩
    rw [HL.out] at r6
    have R6 := Hid.intro r6
    have Q6 := Hid.intro (Q5.out.kept b6)
    have P6 := Hid.intro (R5.out.kept b6)
    have bb6 := bb5.trans (b6.mono bb5.size)
    clear r6
    go_wp2_with fail
    refine (eqS_any hlen R6.out Q6.out).mono ?_
    rintro e w7 ⟨rfl, b7⟩
    have P7 := Hid.intro (P6.out.kept b7)
    have bb7 := bb6.trans (b7.mono bb6.size)
    go_wp2_with fail
    refine (held_any hlen P7.out).mono ?_
    rintro e w8 ⟨rfl, b8⟩
    have bb8 := bb7.trans (b8.mono bb7.size)
    clear b1 b2 b3 b4 b5 b6 b7 b8 bb2 bb3 bb4 bb5 bb6 bb7
    go_wp2
    go_ret
    exact ⟨rfl, bb8⟩

end Go.Proofs.Ytmkofkdcjeidhaa
