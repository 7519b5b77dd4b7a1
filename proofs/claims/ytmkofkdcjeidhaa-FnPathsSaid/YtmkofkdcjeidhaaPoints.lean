/- The contract of the program's withoutPoints. -/
import Derived.Test.YtmkofkdcjeidhaaWithout
namespace Go.Proofs.Ytmkofkdcjeidhaa
open Go.RowKit
set_option linter.unusedVariables false

/-- Ahead of place j no points are left. -/
def WInv (P M : List (List UInt8)) (n j : Nat) : Prop := M.length = n ∧ cleanFrom (M.take j) (M.drop j) = cleanL P
theorem WInv.start (P : List (List UInt8)) : WInv P P P.length 0 := ⟨rfl, rfl⟩
theorem WInv.done {P M : List (List UInt8)} {n : Nat} (h : WInv P M n n) : M = cleanL P := by
  obtain ⟨h1, h2⟩ := h
  subst h1
  rw [List.take_length, List.drop_length] at h2
  exact h2
theorem WInv.on {P M : List (List UInt8)} {n j : Nat} (h : WInv P M n j) (hj : j < M.length) (hx : (M[j] == [46]) = false) (hy : (M[j] == [46, 46]) = false) : WInv P M n (j + 1) := by
  obtain ⟨h1, h2⟩ := h
  refine ⟨h1, ?_⟩
  have e1 : M[j] ≠ [46] := by simpa using hx
  have e2 : M[j] ≠ [46, 46] := by simpa using hy
  have e3 : stepC (M.take j) M[j] = M.take j ++ [M[j]] := by rw [stepC, if_neg e1, if_neg e2]
  rw [List.drop_eq_getElem_cons hj] at h2
  rw [← h2, List.take_succ_eq_append_getElem hj, ← e3]
  rfl
theorem WInv.one {P M : List (List UInt8)} {m j : Nat} (h : WInv P M (m + 1) j) (hj : j < M.length) (hx : (M[j] == [46]) = true) : WInv P (M.take j ++ M.drop (j + 1)) m j := by
  obtain ⟨h1, h2⟩ := h
  have e1 : M[j] = [46] := by simpa using hx
  have hl : (M.take j).length = j := by rw [List.length_take]; omega
  refine ⟨by rw [List.length_append, hl, List.length_drop]; omega, ?_⟩
  rw [List.drop_eq_getElem_cons hj, e1] at h2
  rw [← h2, List.take_append_of_le_length (by omega), List.take_of_length_le (by omega), List.drop_append_of_le_length (by omega), List.drop_of_length_le (by omega)]
  simp [cleanFrom, stepC]
theorem WInv.two {P M : List (List UInt8)} {m j : Nat} (h : WInv P M (m + 2) (j + 1)) (hj : j + 1 < M.length) (hy : (M[j + 1] == [46, 46]) = true) : WInv P (M.take j ++ M.drop (j + 2)) m j := by
  obtain ⟨h1, h2⟩ := h
  have e1 : M[j + 1] = [46, 46] := by simpa using hy
  have hl : (M.take j).length = j := by rw [List.length_take]; omega
  refine ⟨by rw [List.length_append, hl, List.length_drop]; omega, ?_⟩
  rw [List.drop_eq_getElem_cons hj, e1] at h2
  rw [← h2, List.take_append_of_le_length (by omega), List.take_of_length_le (by omega), List.drop_append_of_le_length (by omega), List.drop_of_length_le (by omega)]
  have e2 : stepC (M.take (j + 1)) [46, 46] = M.take j := by
    rw [stepC, if_neg (by decide), if_pos rfl, List.take_succ_eq_append_getElem (show j < M.length by omega), List.dropLast_concat]
  show cleanFrom (M.take j) ([] ++ M.drop (j + 2)) = cleanFrom (stepC (M.take (j + 1)) [46, 46]) (M.drop (j + 1 + 1))
  rw [e2]
  rfl
theorem WInv.root {P M : List (List UInt8)} {m : Nat} (h : WInv P M (m + 1) 0) (hj : 0 < M.length) (hy : (M[0] == [46, 46]) = true) : WInv P (M.take 0 ++ M.drop 1) m 0 := by
  obtain ⟨h1, h2⟩ := h
  have e1 : M[0] = [46, 46] := by simpa using hy
  refine ⟨by rw [List.length_append, List.length_drop]; simp; omega, ?_⟩
  rw [List.drop_eq_getElem_cons hj, e1] at h2
  rw [← h2]
  simp [cleanFrom, stepC]

theorem RowN.lower {w : World} {base base' g n cap : Nat} {L : List (List UInt8)} (h : RowN w base g n cap L) (hb : base' ≤ base) : RowN w base' g n cap L := ⟨h.1, h.2.lower hb⟩
theorem RowN.kept {w w' : World} {base g n cap : Nat} {L : List (List UInt8)} (h : RowN w base g n cap L) (hb : Below w.heap.size w w') : RowN w' base g n cap L := ⟨h.1, h.2.kept hb⟩

theorem without_at (x y : Int) (g c n a b m base : Nat) (L : List (List UInt8)) (w : World) (hx : x = a) (hy : y = b) (hm : Hid (m + (b - a) = n)) (hab : a ≤ b) (hbn : b ≤ n) (hn60 : n ≤ 100) (hc : n ≤ c) (hc2 : c ≤ 9223372036854775807) (r : Hid (RowN w base g n c L)) :
    Calls Try.prog 44 #[.slice (some ⟨g, 0, none⟩) n c, .int .i64 x, .int .i64 y] w fun e w' => e = .returned (.slice (some ⟨w.heap.size, 0, none⟩) m m) ∧ RowN w' w.heap.size w.heap.size m m (L.take a ++ L.drop b) ∧ Below w.heap.size w w' := by
  subst hx
  subst hy
  exact without_any g c n a b m base L w hm hab hbn hn60 hc hc2 r

def lenV : Value → Nat | .slice _ n _ => n | _ => 0

theorem points_empty (a : Option Addr) (c : Nat) (w : World) :
    Calls Try.prog 30 #[.slice a 0 c] w fun e w' => e = .returned (.slice a 0 c) ∧ w = w' := by
  go_enter Try.func30, Try.ntmps30
  go_wp2
  refine wp_loop_rounds 1 ?_
  rw [rounds_succ]
  go_wp2
  go_ret
  exact ⟨rfl, rfl⟩

set_option maxHeartbeats 1000000 in
theorem points_some (g0 c0 base : Nat) (P : List (List UInt8)) (w : World) (hP : P.length ≤ 100) (hc : P.length ≤ c0) (hc2 : c0 ≤ 9223372036854775807) (hbase : base ≤ w.heap.size) (r : Hid (RowN w base g0 P.length c0 P)) :
    Calls Try.prog 30 #[.slice (some ⟨g0, 0, none⟩) P.length c0] w fun e w' => ∃ v, e = .returned v ∧ RowS w' base v (cleanL P) ∧ Below w.heap.size w w' := by
  go_enter Try.func30, Try.ntmps30
  go_wp2
  go_loopw [0, 3] (fun v i wr => ∃ (g cap n j : Nat) (M : List (List UInt8)), v = .slice (some ⟨g, 0, none⟩) n cap ∧ i = .int .i64 j ∧ j ≤ n ∧ n ≤ 100 ∧ n ≤ cap ∧ cap ≤ 9223372036854775807 ∧ Hid (WInv P M n j) ∧ Hid (RowN wr base g n cap M) ∧ Below w.heap.size w wr) (fun v i _ => lenV v - (intOf i).toNat)
  case atStart => exact ⟨g0, c0, P.length, 0, P, rfl, rfl, Nat.zero_le _, hP, hc, hc2, WInv.start P, r, Below.refl _ _⟩
  case round =>
    obtain ⟨g, cap, n, j, M, rfl, rfl, hj, hn100, hcap, hcap2, HI, HR, hbel⟩ := hrel
    have hbs := hbel.size
    by_cases hlt : j < n
    · have hjl : j < M.length := by rw [HR.out.1]; exact hlt
      have hcell : wr.cell? ⟨g, j, none⟩ = some (.string ⟨M[j].toArray⟩) := HR.out.2.textAt HR.out.1 j hjl
      cases hx : (M[j] == [46]) with
      | true =>
        have HX := Hid.intro hx
        obtain ⟨m, rfl⟩ : ∃ m, n = m + 1 := ⟨n - 1, by omega⟩
        go_wp2_with fail
        refine (without_at _ _ g cap _ j (j + 1) m base M wr (by omega) (by omega) (by unfold Hid; omega) (by omega) (by omega) hn100 hcap hcap2 HR).mono ?_
        rintro e w1 ⟨rfl, r1, b1⟩
        have R1 := Hid.intro (r1.lower (Nat.le_trans hbase hbs))
        have hb1 := hbel.trans (b1.mono hbs)
        clear r1 b1 HR hcell
        go_wp2
        go_roundw
        case rel => exact ⟨wr.heap.size, m, m, j, M.take j ++ M.drop (j + 1), rfl, by go_num, by omega, by omega, Nat.le_refl _, by omega, HI.out.one hjl HX.out, R1, hb1⟩
        case measure => simp [intOf, lenV]; omega
      | false =>
        have HX := Hid.intro hx
        cases hy : (M[j] == [46, 46]) with
        | false =>
          have HY := Hid.intro hy
          go_wp2
          go_roundw
          case rel => exact ⟨g, cap, n, j + 1, M, rfl, by go_num, by omega, hn100, hcap, hcap2, HI.out.on hjl HX.out HY.out, HR, hbel⟩
          case measure => simp [intOf, lenV]; omega
        | true =>
          have HY := Hid.intro hy
          cases j with
          | zero =>
            obtain ⟨m, rfl⟩ : ∃ m, n = m + 1 := ⟨n - 1, by omega⟩
            go_wp2_with fail
            refine (without_at _ _ g cap _ 0 1 m base M wr (by omega) (by omega) (by unfold Hid; omega) (by omega) (by omega) hn100 hcap hcap2 HR).mono ?_
            rintro e w1 ⟨rfl, r1, b1⟩
            have R1 := Hid.intro (r1.lower (Nat.le_trans hbase hbs))
            have hb1 := hbel.trans (b1.mono hbs)
            clear r1 b1 HR hcell
            go_wp2
            go_roundw
            case rel => exact ⟨wr.heap.size, m, m, 0, M.take 0 ++ M.drop 1, rfl, by go_num, by omega, by omega, Nat.le_refl _, by omega, HI.out.root hjl HY.out, R1, hb1⟩
            case measure => simp [intOf, lenV]
          | succ k =>
            obtain ⟨m, rfl⟩ : ∃ m, n = m + 2 := ⟨n - 2, by omega⟩
            go_wp2_with fail
            refine (without_at _ _ g cap _ k (k + 2) m base M wr (by omega) (by omega) (by unfold Hid; omega) (by omega) (by omega) hn100 hcap hcap2 HR).mono ?_
            rintro e w1 ⟨rfl, r1, b1⟩
            have R1 := Hid.intro (r1.lower (Nat.le_trans hbase hbs))
            have hb1 := hbel.trans (b1.mono hbs)
            clear r1 b1 HR hcell
            go_wp2
            go_roundw
            case rel => exact ⟨wr.heap.size, m, m, k, M.take k ++ M.drop (k + 2), rfl, by go_num, by omega, by omega, Nat.le_refl _, by omega, HI.out.two hjl HY.out, R1, hb1⟩
            case measure => simp [intOf, lenV]; omega
    · obtain rfl : j = n := by omega
      have HD : Hid (M = cleanL P) := HI.out.done
      go_wp2
      go_ret
      exact ⟨_, rfl, by rw [← HD.out]; exact HR.out.2, hbel⟩

end Go.Proofs.Ytmkofkdcjeidhaa
