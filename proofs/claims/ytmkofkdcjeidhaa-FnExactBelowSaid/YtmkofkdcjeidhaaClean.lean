/- The contracts of the program's Clean and Below and of the specification's Below; the laws. -/
import Derived.Test.YtmkofkdcjeidhaaPoints
import Derived.Test.YtmkofkdcjeidhaaParts
namespace Go.Proofs.Ytmkofkdcjeidhaa
open Go.RowKit
set_option linter.unusedVariables false

theorem points_any {w : World} {base : Nat} {v : Value} {P : List (List UInt8)} (hP : P.length ≤ 100) (hbase : base ≤ w.heap.size) (r : RowS w base v P) :
    Calls Try.prog 30 #[v] w fun e w' => ∃ v', e = .returned v' ∧ RowS w' base v' (cleanL P) ∧ Below w.heap.size w w' := by
  by_cases h0 : P = []
  · obtain ⟨a1, c1, rfl⟩ : ∃ a c, v = .slice a 0 c := by
      rcases r.look with ⟨rfl, _⟩ | ⟨g, cap, rfl, _⟩
      · exact ⟨_, _, rfl⟩
      · rw [h0]; exact ⟨_, _, rfl⟩
    refine (points_empty a1 c1 w).mono ?_
    rintro e w' ⟨rfl, rfl⟩
    subst h0
    exact ⟨_, rfl, r, Below.refl _ _⟩
  · obtain ⟨g1, c1, rfl, h1, h2⟩ : ∃ g c, v = .slice (some ⟨g, 0, none⟩) P.length c ∧ P.length ≤ c ∧ c ≤ 9223372036854775807 := by
      rcases r.look with ⟨_, h⟩ | ⟨g, cap, rfl, _, _, h1, h2⟩
      · exact absurd h h0
      · exact ⟨_, _, rfl, h1, h2⟩
    exact points_some g1 c1 base P w hP h1 h2 hbase ⟨rfl, r⟩

/-- The texts of a row, as byte arrays. -/
def bas (L : List (List UInt8)) : List ByteArray := L.map (fun l => ⟨l.toArray⟩)
theorem bas_length (L : List (List UInt8)) : (bas L).length = L.length := by simp [bas]
theorem bas_lists (L : List (List UInt8)) : (bas L).map (·.data.toList) = L := by
  simp [bas, Function.comp_def]
theorem join_cat (p : List UInt8) (r : List (List UInt8)) : 47 :: Lib.join (p :: r) [47] = cat (p :: r) := by
  rw [Lib.join_cons, cat]
  congr 2
  induction r with
  | nil => rfl
  | cons q r ih => simp only [Lib.joinTail, List.map_cons, List.flatten_cons, cat] at ih ⊢; rw [ih]; simp
theorem join_joinL (L : List (List UInt8)) : 47 :: Lib.join L [47] = joinL L := by
  cases L with
  | nil => rfl
  | cons p r => rw [join_cat]; rfl

/-- strings.Join of a row with a 47 between. -/
theorem joinLib_any {w : World} {base : Nat} {v : Value} {L : List (List UInt8)} (hL : (cat L).length ≤ 1000) (r : RowS w base v L) :
    Calls Try.prog 29 #[v, .string ⟨#[47]⟩] w fun e w' => e = .returned (.string ⟨(Lib.join L [47]).toArray⟩) ∧ Below w.heap.size w w' := by
  by_cases h0 : L = []
  · obtain ⟨a1, c1, rfl⟩ : ∃ a c, v = .slice a 0 c := by
      rcases r.look with ⟨rfl, _⟩ | ⟨g, cap, rfl, _⟩
      · exact ⟨_, _, rfl⟩
      · rw [h0]; exact ⟨_, _, rfl⟩
    refine (sh_strings_Join_none a1 c1 ⟨#[47]⟩ w).mono ?_
    rintro e w' ⟨rfl, rfl⟩
    subst h0
    exact ⟨rfl, Below.refl _ _⟩
  · obtain ⟨g1, c1, rfl, h1, hg⟩ : ∃ g c, v = .slice (some ⟨g, 0, none⟩) L.length c ∧ L.length ≤ c ∧ g < w.heap.size := by
      rcases r.look with ⟨_, h⟩ | ⟨g, cap, rfl, _, h3, h1, h2⟩
      · exact absurd h h0
      · exact ⟨_, _, rfl, h1, h3⟩
    have hlen := cat_len L
    have hj : (Lib.join L [47]).length ≤ 1000 := by
      have h2 := congrArg List.length (join_joinL L)
      rw [joinL, if_neg h0] at h2
      simp at h2
      omega
    have h := sh_strings_Join g1 0 c1 (bas L) ⟨#[47]⟩ w (fun j x hx => by
      have hjl : j < L.length := by
        have := (List.getElem?_eq_some_iff.1 hx).1
        rwa [bas_length] at this
      rw [Nat.zero_add, r.at j hjl]
      simp only [bas, List.getElem?_map, List.getElem?_eq_getElem hjl, Option.map_some, Option.some.injEq] at hx
      rw [← hx]; rfl) hg (by rw [bas_length]; omega) (by rw [bas_length]; exact h1) (by rw [bas_lists]; exact Nat.le_trans hj (by omega))
    rw [bas_length, bas_lists] at h
    exact h

set_option maxHeartbeats 400000 in
theorem implClean_any (s : ByteArray) (w : World) (hs : s.size ≤ 1048576) :
    Calls Try.prog 11 #[.string s] w fun e w' => e = .returned (.string ⟨(clean s.data.toList).toArray⟩) ∧ Below w.heap.size w w' := by
  cases hp : pathB s.data.toList with
  | false =>
    rw [clean_no hp]
    go_enter Try.func11, Try.ntmps11
    go_wp2_with (go_at_call 18; refine (implPathOk_any _ _ hs).mono ?_; rintro e w1 ⟨rfl, rfl⟩)
    go_ret
    exact ⟨rfl, Below.refl _ _⟩
  | true =>
    have h60 : s.size ≤ 60 := by have := (pathB_len hp).2; rwa [size_data] at this
    have hb1 := parts_bound (l := s.data.toList) (by rw [size_data]; exact h60)
    have hb2 := clean_bound (l := s.data.toList) (by rw [size_data]; exact h60)
    have hl := cat_len (partsL s.data.toList)
    have BT := Hid.intro (between_any s w h60)
    rw [clean_yes hp]
    generalize partsL s.data.toList = P at *
    have HB2 := Hid.intro hb2
    have HJ := Hid.intro (join_joinL (cleanL P))
    go_enter Try.func11, Try.ntmps11
    go_wp2_with (go_at_call 18; refine (implPathOk_any _ _ hs).mono ?_; rintro e w1 ⟨rfl, rfl⟩)
    refine BT.out.mono ?_
    rintro e w2 ⟨v2, rfl, r2, b2⟩
    have R2 := Hid.intro r2
    have hz2 := b2.size
    clear r2
    go_wp2_with fail
    refine (points_any (by omega) hz2 R2.out).mono ?_
    rintro e w3 ⟨v3, rfl, r3, b3⟩
    have R3 := Hid.intro r3
    have bb3 := b2.trans (b3.mono hz2)
    clear r3
    go_wp2_with fail
    refine (joinLib_any (Nat.le_trans HB2.out (by omega)) R3.out).mono ?_
    rintro e w4 ⟨rfl, b4⟩
    have bb4 := bb3.trans (b4.mono bb3.size)
    generalize Lib.join (cleanL P) [47] = y at HJ ⊢
    have z1 : y.length ≤ 1000 := by
      have h := congrArg List.length HJ.out
      have h2 : (joinL (cleanL P)).length ≤ 61 := by
        unfold joinL
        split
        · simp
        · exact HB2.out
      simp at h
      omega
    clear b2 b3 b4 bb3 hb2
    go_wp2
    go_ret
    exact ⟨ret_str (by rw [append_one, HJ.out]), bb4⟩

set_option maxHeartbeats 400000 in
theorem clean_law (s : ByteArray) (w : World) (hs : s.size ≤ maxLen) :
    Calls Try.prog 7 #[.string s] w fun e w' => e = .returned (.bool true) ∧ Below w.heap.size w w' := by
  by_cases h : 1048576 < (s.size : Int)
  · have hm : s.size ≤ 9223372036854775807 := hs
    go_enter Try.func7, Try.ntmps7
    go_wp2
    go_ret
    exact ⟨rfl, Below.refl _ _⟩
  · clear hs
    go_enter Try.func7, Try.ntmps7
    go_wp2_with fail
    refine (specClean_any s _ (by omega)).mono ?_
    rintro e w1 ⟨rfl, b1⟩
    go_wp2_with fail
    refine (implClean_any s _ (by omega)).mono ?_
    rintro e w2 ⟨rfl, b2⟩
    go_wp2
    go_ret
    exact ⟨rfl, b1.trans (b2.mono b1.size)⟩

end Go.Proofs.Ytmkofkdcjeidhaa
