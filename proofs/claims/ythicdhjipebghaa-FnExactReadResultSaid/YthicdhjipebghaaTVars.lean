/- The sentence's l8Vars: so many numbers from a place on. -/
import Derived.Test.YthicdhjipebghaaTVar
import Derived.Test.YthicdhjipebghaaTNum
import Derived.Laws.OwnMore
namespace Go.Proofs.Ythicdhjipebghaa
open Go.RowKit
set_option linter.unusedVariables false
/-- So many numbers from the front on, and what is left. -/
noncomputable def varsO : Nat → List UInt8 → Option (List Nat × List UInt8)
  | 0, l => some ([], l)
  | n + 1, l => (numO l).bind fun a => (varsO n a.2).bind fun b => some (a.1 :: b.1, b.2)
theorem varsO_zero (l : List UInt8) : varsO 0 l = some ([], l) := rfl
theorem varsO_no {n : Nat} {l : List UInt8} (hn : 0 < n) (h : numO l = none) : varsO n l = none := by
  obtain ⟨m, rfl⟩ : ∃ m, n = m + 1 := ⟨n - 1, by omega⟩
  simp only [varsO, h, Option.bind_none]
theorem varsO_yes {n x : Nat} {l r : List UInt8} (hn : 0 < n) (h : numO l = some (x, r)) : varsO n l = (varsO (n - 1) r).map fun y => (x :: y.1, y.2) := by
  obtain ⟨m, rfl⟩ : ∃ m, n = m + 1 := ⟨n - 1, by omega⟩
  simp only [varsO, h, Option.bind_some, Nat.add_sub_cancel]
  cases varsO m r <;> rfl
theorem varsO_one (l : List UInt8) : varsO 1 l = (numO l).map fun y => ([y.1], y.2) := by
  simp only [varsO]
  cases numO l <;> rfl
def cellsN (L : List Nat) : List Value := L.map (fun x => Value.int .i64 (x : Nat))
theorem cellsN_snoc (L : List Nat) (x : Nat) : cellsN (L ++ [x]) = cellsN L ++ [.int .i64 (x : Nat)] := by simp [cellsN]
/-- The numbers L lie in the slice v, in a block from B on. -/
def NumsAt (w : World) (B : Nat) (v : Value) (L : List Nat) : Prop := ∃ g cap, v = .slice (some ⟨g, 0, none⟩) L.length cap ∧ L.length ≤ cap ∧ B ≤ g ∧ g < w.heap.size ∧ ∀ j (h : j < L.length), w.cell? ⟨g, j, none⟩ = some (.int .i64 (L[j] : Nat))
theorem Try.infoI8 : (Try.prog.info? 3).map (fun i => (i.zero, i.size, i.bytes)) = some (some (.int .i64 0), 1, 8) := by kernel_rfl
theorem numsStart (w : World) : (w.alloc (.cells #[] 3)).ownsRow w.heap.size 3 1 (.slice (some ⟨w.heap.size, 0, none⟩) 0 0) 0 (cellsN []) :=
  World.ownsRow_made w #[] 0 (Nat.le_refl _) (by decide) rfl
theorem nums_of {w : World} {B : Nat} {v : Value} {L : List Nat} (h : w.ownsRow B 3 1 v L.length (cellsN L)) (hL : 0 < L.length) : NumsAt w B v L := by
  have hlt := h.lt
  have h0 := h
  obtain ⟨hl, h2⟩ := h
  rcases h2 with ⟨rfl, h3⟩ | ⟨g, cap, cur, rfl, hb, hg, hn, hc, hs, ht⟩
  · omega
  · refine ⟨g, cap, rfl, hn, (hlt g rfl).1, (hlt g rfl).2, fun j hj => ?_⟩
    have := h0.cellAt j (by omega)
    rw [this]
    simp [cellsN, hj]
theorem drop_extract (s : ByteArray) (a k : Nat) : ((s.extract a s.size).data.toList).drop k = s.data.toList.drop (a + k) := by
  rw [extract_toList, List.drop_drop]
set_option maxHeartbeats 1600000 in
set_option maxRecDepth 100000 in
theorem l8Vars_any (s : ByteArray) (a0 n : Nat) (w : World) (hs : s.size ≤ 1048576) (ha : a0 ≤ s.size) (hn : 1 ≤ n) (hn7 : n ≤ 7) :
    Calls Try.prog 13 #[.string s, .int .i64 (a0 : Nat), .int .i64 (n : Nat)] w fun e w' => (∃ v, (∃ (xs : List Nat) (a : Nat), e = .returned (.tuple #[v, .int .i64 (a : Nat)]) ∧ Hid (varsO n (s.data.toList.drop a0) = some (xs, s.data.toList.drop a)) ∧ a ≤ s.size ∧ xs.length = n ∧ NumsAt w' w.heap.size v xs) ∨ (e = .returned (.tuple #[v, .int .i64 (-1)]) ∧ Hid (varsO n (s.data.toList.drop a0) = none))) ∧ Below w.heap.size w w' := by
  obtain ⟨i0, hi, hz0, hz1, hz2⟩ := info_parts Try.infoI8
  go_enter Try.func13, Try.ntmps13
  go_wp2
  go_loopw [1, 8, 9] (fun at' v i wr => ∃ (j a : Nat) (pre : List Nat), at' = .int .i64 (a : Nat) ∧ i = .int .i64 (j : Nat) ∧ a ≤ s.size ∧ j ≤ n ∧ pre.length = j ∧ Hid (varsO n (s.data.toList.drop a0) = (varsO (n - j) (s.data.toList.drop a)).map fun y => (pre ++ y.1, y.2)) ∧ Hid (wr.ownsRow w.heap.size 3 1 v pre.length (cellsN pre)) ∧ Below w.heap.size w wr) (fun _ _ i _ => n - (intOf i).toNat)
  case atStart => exact ⟨0, a0, [], rfl, rfl, ha, by omega, rfl, by unfold Hid; simp, numsStart w, (Below.refl _ _).alloc (Nat.le_refl _) _⟩
  case round =>
    obtain ⟨j, a, pre, rfl, rfl, hale, hjn, hpl, HV, HO, hbel⟩ := hrel
    have hbs := hbel.size
    by_cases hlt : j < n
    · have g1 : (j : Int) < (n : Int) := by omega
      have g2 : ¬ (a : Int) < 0 := by omega
      have g3 : ¬ (s.size : Int) < (a : Int) := by omega
      have g4 : (0 : Int) ≤ (a : Int) ∧ (a : Int) ≤ (s.size : Int) := by omega
      go_wp2_with fail
      refine (specReadVar_any (s.extract a s.size) _ (by simp; omega)).mono ?_
      rintro e w1 ⟨x, k, rfl, hrv, b1⟩
      rw [extract_toList] at hrv
      have hk : k ≤ s.size - a := by
        rcases hrv with ⟨_, _, h, _⟩ | ⟨_, h, _⟩
        · simpa using h
        · omega
      have B1 := hbel.trans (b1.mono hbs)
      have HO1 : Hid (w1.ownsRow w.heap.size 3 1 u8 pre.length (cellsN pre)) := HO.out.kept (row := none) ⟨b1.os, b1.tape, b1.output, b1.size, fun k hk _ => b1.block k hk⟩ (Classical.em _)
      clear HO hbel
      by_cases h0 : k = 0
      · subst h0
        have HN : Hid (varsO n (s.data.toList.drop a0) = none) := by
          unfold Hid
          rw [HV.out, varsO_no (by omega) (numO_no (rv_none_num hrv))]
          rfl
        clear hrv HV
        go_wp2
        go_ret2
        exact ⟨⟨_, .inr ⟨rfl, HN⟩⟩, B1⟩
      · have hk0 : ((k : Int) == 0) = false := by simp; omega
        have HN : Hid (varsO n (s.data.toList.drop a0) = (varsO (n - (j + 1)) (s.data.toList.drop (a + k))).map fun y => ((pre ++ [x]) ++ y.1, y.2)) := by
          have hnum := numO_yes (num_of_rv hrv (by omega))
          rw [List.drop_drop] at hnum
          unfold Hid
          rw [HV.out, varsO_yes (by omega) hnum, Nat.sub_sub]
          cases varsO (n - (j + 1)) (s.data.toList.drop (a + k)) <;> simp
        clear hrv HV
        have hbs1 := B1.size
        have hown := HO1.out
        clear HO1
        go_wp2_with (at_builtin; refine wpList_append_own _ rfl _ _ 33 rfl w.heap.size 3 i0 (.int .i64 0) 1 8 Try.underlying33 hi hz0 hz1 hz2 rfl (by decide) _ _ _ rfl (hown.alloc _) ⟨w1.heap.size, 0, none⟩ 1 1 [.int .i64 (x : Nat)] rfl rfl ?c1 ?c2 ?c3 ?c4 ?c5 ?_)
        case c1 => exact cell_one_new _ _ _
        case c2 => intro u hu; simp at hu; subst hu; rfl
        case c3 => unfold maxLen; omega
        case c4 => omega
        case c5 => simp; omega
        intro v' w2 hown' hgrow _
        rw [← cellsN_snoc] at hown'
        have B2 := B1.trans (((Below.refl _ _).alloc hbs1 _).grown hgrow (by simp; omega) (fun k hk => (hown.lt k hk).1))
        have HO2 : Hid (w2.ownsRow w.heap.size 3 1 v' (pre ++ [x]).length (cellsN (pre ++ [x]))) := by
          unfold Hid
          rw [List.length_append, hpl]
          simpa using hown'
        clear hgrow hown hown'
        go_wp2
        go_roundw
        case rel => exact ⟨j + 1, a + k, pre ++ [x], by go_num, by go_num, by omega, by omega, by simp; omega, HN, HO2, B2⟩
        case measure => simp [intOf]; omega
    · have g1 : ¬ (j : Int) < (n : Int) := by omega
      have e1 : n - j = 0 := by omega
      have HN : Hid (varsO n (s.data.toList.drop a0) = some (pre, s.data.toList.drop a)) := by
        unfold Hid
        rw [HV.out, e1, varsO_zero]
        simp
      have HA := Hid.intro (nums_of HO.out (by omega))
      clear HV HO
      go_wp2
      go_ret2
      exact ⟨⟨_, .inl ⟨pre, a, rfl, HN, hale, by omega, HA.out⟩⟩, hbel⟩
set_option maxHeartbeats 800000 in
set_option maxRecDepth 100000 in
theorem l8Vars_none (s : ByteArray) (n : Nat) (w : World) (hn : 1 ≤ n) (hn7 : n ≤ 7) :
    Calls Try.prog 13 #[.string s, .int .i64 (-1), .int .i64 (n : Nat)] w fun e w' => (∃ v, e = .returned (.tuple #[v, .int .i64 (-1)])) ∧ Below w.heap.size w w' := by
  have g1 : (0 : Int) < (n : Int) := by omega
  go_enter Try.func13, Try.ntmps13
  go_wp2
  go_loopw [1, 9] (fun at' i wr => at' = .int .i64 (-1) ∧ i = .int .i64 0 ∧ Below w.heap.size w wr) (fun _ _ _ => 0)
  case atStart => exact ⟨rfl, rfl, (Below.refl _ _).alloc (Nat.le_refl _) _⟩
  case round =>
    obtain ⟨rfl, rfl, hbel⟩ := hrel
    go_wp2
    go_ret2
    exact ⟨⟨_, rfl⟩, hbel⟩
end Go.Proofs.Ythicdhjipebghaa
