/- The law FnPaths. -/
import Derived.Test.YtmkofkdcjeidhaaDrawR
import Derived.Test.YtmkofkdcjeidhaaBelow
import Derived.Test.YtmkofkdcjeidhaaMathP
namespace Go.Proofs.Ytmkofkdcjeidhaa
open Go.RowKit
set_option linter.unusedVariables false

theorem RowOk.up {w : World} {N N' : Nat} {a : Option Addr} {len : Nat} {zs : List Int} (h : RowOk w N a len zs) (hN : N ≤ N') : RowOk w N' a len zs := by
  intro j hj
  obtain ⟨b, off, e, hb, r⟩ := h j hj
  exact ⟨b, off, e, by omega, r⟩

theorem implParts_empty (w : World) :
    Calls Try.prog 14 #[.string ⟨#[]⟩] w fun e w' => ∃ (a : Option Addr) (c : Nat), e = .returned (.slice a 0 c) ∧ Below w.heap.size w w' := by
  refine (implParts_any ⟨#[]⟩ w (by decide)).mono ?_
  rintro e w' ⟨v, rfl, r, b⟩
  have h0 : partsOf (ByteArray.mk #[]).data.toList = [] := by decide
  rw [h0] at r
  rcases r.look with ⟨rfl, _⟩ | ⟨g, cap, rfl, _⟩
  · exact ⟨_, _, rfl, b⟩
  · exact ⟨_, _, rfl, b⟩

set_option maxHeartbeats 1000000 in
theorem paths_small (zs : List Int) (len cap : Nat) (a : Option Addr) (w : World) (hl : len ≤ 1048576) (HR : Hid (RowOk w w.heap.size a len zs))
    (HD : Hid (∀ w1 : World, w1 = w → Calls Try.prog 10 #[.slice a len cap] w1 fun e w' => ∃ s t : ByteArray, e = .returned (.tuple #[.string s, .string t]) ∧ s.size ≤ 6000 ∧ t.size ≤ 6000 ∧ Below w.heap.size w w')) :
    Calls Try.prog 3 #[.slice a len cap] w fun e w' => e = .returned (.bool true) ∧ Below w.heap.size w w' := by
  go_enter Try.func3, Try.ntmps3
  go_wp2_with fail
  refine (big_no a len cap w (by omega)).mono ?_
  rintro e w1 ⟨rfl, rfl⟩
  go_wp2_with fail
  refine (HD.out w rfl).mono ?_
  rintro e w2 ⟨s, t, rfl, hs, ht, b2⟩
  cases hp : pathB s.data.toList with
  | false =>
    have hcl := clean_no hp
    have IC := Hid.intro (implClean_any s w2 (by omega))
    rw [hcl] at IC
    clear hcl
    go_wp2_with fail
    refine IC.out.mono ?_
    rintro e w3 ⟨rfl, b3⟩
    have bb3 := b2.trans (b3.mono b2.size)
    clear b3 b2
    go_wp2_with fail
    refine (specPathOk_any s _ (by omega)).mono ?_
    rintro e w3' ⟨rfl, rfl⟩
    go_wp2_with fail
    refine (implParts_empty _).mono ?_
    rintro e w4 ⟨a4, c4, rfl, b4⟩
    have bbX := bb3.trans (b4.mono bb3.size)
    clear bb3 b4 hp
    go_wp2
    refine wp_loop_rounds 1 ?_
    rw [rounds_succ]
    go_wp2_with fail
    refine (fresh_any zs len w.heap.size cap a _ hl (by exact bbX.size) (HR.out.below bbX)).mono ?_
    intro e w5 h5
    obtain ⟨g, n, c, ys, he5, hn, hro, b5⟩ := h5
    subst he5
    have HRO := Hid.intro hro
    have bb5 := bbX.trans (b5.mono bbX.size)
    clear hro b5 bbX
    go_wp2_with fail
    refine (drawBelow_any ys n w5.heap.size c _ w5 (by omega) (Nat.le_refl _) HRO.out).mono ?_
    rintro e w6 ⟨s3, u, rfl, hs3, hu, b6⟩
    have bb6 := bb5.trans (b6.mono bb5.size)
    clear b6 bb5
    go_wp2_with fail
    refine (implBelow_any s t _ (by omega) (by omega)).mono ?_
    rintro e w7 ⟨rfl, b7⟩
    have bb7 := bb6.trans (b7.mono bb6.size)
    clear b7 bb6
    cases hAB : belowL s.data.toList t.data.toList with
    | false =>
      go_wp2
      go_ret
      exact ⟨rfl, bb7⟩
    | true =>
      go_wp2_with fail
      refine (implBelow_any t u _ (by omega) (by omega)).mono ?_
      rintro e w8 ⟨rfl, b8⟩
      have bb8 := bb7.trans (b8.mono bb7.size)
      clear b8 bb7
      cases hBC : belowL t.data.toList u.data.toList with
      | false =>
        go_wp2
        go_ret
        exact ⟨rfl, bb8⟩
      | true =>
        have hAC := below_trans hAB hBC
        go_wp2_with fail
        refine (implBelow_any s u _ (by omega) (by omega)).mono ?_
        rintro e w9 ⟨rfl, b9⟩
        have bb9 := bb8.trans (b9.mono bb8.size)
        clear b9 bb8
        go_wp2
        go_ret
        exact ⟨rfl, bb9⟩
  | true =>
    obtain ⟨hpX, hpartsX, hjoinX⟩ := clean_path hp
    have hcc := clean_clean hp
    have hself := below_self hp
    have hroot := below_root hp
    have hgood := cleanP_good (l := s.data.toList)
    have hpart := cleanP_part (l := s.data.toList)
    have hlen := path_len hp
    have hneX := clean_nil hp
    have IC := Hid.intro (implClean_any s w2 (by omega))
    have IP : Hid (partsOf (clean s.data.toList) = cleanP s.data.toList) := by unfold Hid; rw [partsOf_yes hpX, hpartsX]
    generalize clean s.data.toList = X at *
    generalize cleanP s.data.toList = C at *
    have HJ := Hid.intro hjoinX
    have HC := Hid.intro hcc
    have HG := Hid.intro hgood
    have HP := Hid.intro hpart
    have hXl : X.length ≤ 60 := (pathB_len hpX).2
    have hCl := cat_len C
    have hXe : X.isEmpty = false := by cases X with | nil => exact absurd rfl hneX | cons x r => rfl
    have IC2 := Hid.intro (fun w => implClean_any ⟨X.toArray⟩ w (by show X.toArray.size ≤ 1048576; simp; omega))
    have IP2 := Hid.intro (fun w => implParts_any ⟨X.toArray⟩ w (by show X.toArray.size ≤ 1048576; simp; omega))
    have e0 : (ByteArray.mk X.toArray).data.toList = X := rfl
    rw [e0, HC.out] at IC2
    rw [e0, IP.out] at IP2
    clear hjoinX hcc hgood hpart hpartsX hneX e0 IP hpX
    go_wp2_with fail
    refine IC.out.mono ?_
    rintro e w3 ⟨rfl, b3⟩
    have bb3 := b2.trans (b3.mono b2.size)
    clear b3 b2 IC
    go_wp2_with fail
    refine (specPathOk_any s _ (by omega)).mono ?_
    rintro e w3' ⟨rfl, rfl⟩
    go_wp2_with fail
    refine (IC2.out _).mono ?_
    rintro e w4 ⟨rfl, b4⟩
    have bb4 := bb3.trans (b4.mono bb3.size)
    clear b4 bb3 IC2
    go_wp2_with fail
    refine (implBelow_any s s _ (by omega) (by omega)).mono ?_
    rintro e w5 ⟨rfl, b5⟩
    have bb5 := bb4.trans (b5.mono bb4.size)
    clear b5 bb4
    go_wp2_with fail
    refine (implBelow_any s ⟨#[47]⟩ _ (by omega) (by decide)).mono ?_
    rintro e w6 ⟨rfl, b6⟩
    have bb6 := bb5.trans (b6.mono bb5.size)
    clear b6 bb5
    go_wp2_with fail
    refine (IP2.out _).mono ?_
    rintro e w7 ⟨v, rfl, r7, b7⟩
    have bbX := bb6.trans (b7.mono bb6.size)
    have R7 := Hid.intro r7
    clear b7 bb6 r7 IP2 hself hroot hp
    by_cases hC0 : C = []
    · subst hC0
      obtain ⟨a4, c4, rfl⟩ : ∃ a c, v = .slice a 0 c := by
        rcases R7.out.look with ⟨rfl, _⟩ | ⟨g, cap, rfl, _⟩
        · exact ⟨_, _, rfl⟩
        · exact ⟨_, _, rfl⟩
      have HX : X = [47] := HJ.out
      subst HX
      clear R7 HJ HC HG HP
      go_wp2
      refine wp_loop_rounds 1 ?_
      rw [rounds_succ]
      go_wp2_with fail
      refine (fresh_any zs len w.heap.size cap a _ hl (by exact bbX.size) (HR.out.below bbX)).mono ?_
      intro e w5 h5
      obtain ⟨g, n, c, ys, he5, hn, hro, b5⟩ := h5
      subst he5
      have HRO := Hid.intro hro
      have bb5 := bbX.trans (b5.mono bbX.size)
      clear hro b5 bbX
      go_wp2_with fail
      refine (drawBelow_any ys n w5.heap.size c _ w5 (by omega) (Nat.le_refl _) HRO.out).mono ?_
      rintro e w6 ⟨s3, u, rfl, hs3, hu, b6⟩
      have bb6 := bb5.trans (b6.mono bb5.size)
      clear b6 bb5
      go_wp2_with fail
      refine (implBelow_any s t _ (by omega) (by omega)).mono ?_
      rintro e w7 ⟨rfl, b7⟩
      have bb7 := bb6.trans (b7.mono bb6.size)
      clear b7 bb6
      cases hAB : belowL s.data.toList t.data.toList with
      | false =>
        go_wp2
        go_ret
        exact ⟨rfl, bb7⟩
      | true =>
        go_wp2_with fail
        refine (implBelow_any t u _ (by omega) (by omega)).mono ?_
        rintro e w8 ⟨rfl, b8⟩
        have bb8 := bb7.trans (b8.mono bb7.size)
        clear b8 bb7
        cases hBC : belowL t.data.toList u.data.toList with
        | false =>
          go_wp2
          go_ret
          exact ⟨rfl, bb8⟩
        | true =>
          have hAC := below_trans hAB hBC
          go_wp2_with fail
          refine (implBelow_any s u _ (by omega) (by omega)).mono ?_
          rintro e w9 ⟨rfl, b9⟩
          have bb9 := bb8.trans (b9.mono bb8.size)
          clear b9 bb8
          go_wp2
          go_ret
          exact ⟨rfl, bb9⟩
    · obtain ⟨g4, c4, rfl⟩ : ∃ g c, v = .slice (some ⟨g, 0, none⟩) C.length c := by
        rcases R7.out.look with ⟨_, h⟩ | ⟨g, cap, rfl, _⟩
        · exact absurd h hC0
        · exact ⟨_, _, rfl⟩
      have HX : Hid (X = cat C) := by
        have := HJ.out
        rw [joinL, if_neg hC0] at this
        exact this
      clear hC0
      go_wp2
      go_loop [7, 8] (fun o i => ∃ j : Nat, i = .int .i64 j ∧ j ≤ C.length ∧ o = .string ⟨(cat (C.take j)).toArray⟩) (fun _ i => C.length - (intOf i).toNat)
      case atStart => exact ⟨0, rfl, Nat.zero_le _, rfl⟩
      case round =>
        obtain ⟨j, rfl, hj, rfl⟩ := hrel
        by_cases hlt : j < C.length
        · have hcell := R7.out.at j hlt
          have hcell' : w7.cell? ⟨g4, j, none⟩ = some (.string ⟨C[j].toArray⟩) := hcell
          clear hcell
          have HT : Hid (cat (C.take (j + 1)) = cat (C.take j) ++ (47 :: C[j])) := cat_take C j hlt
          have hle := cat_take_le C j
          have hle1 : C[j].length + 1 ≤ (cat C).length := cat_mem (List.getElem_mem hlt)
          have q1 : (C[j] == [46]) = false := by simpa using (HG.out _ (List.getElem_mem hlt)).1
          have q2 : (C[j] == [46, 46]) = false := by simpa using (HG.out _ (List.getElem_mem hlt)).2
          have q3 : C[j].isEmpty = false := by
            have := (HP.out _ (List.getElem_mem hlt)).1
            cases h : C[j] with
            | nil => exact absurd h this
            | cons x r => rfl
          generalize C[j] = x at *
          generalize cat (C.take j) = y at *
          go_wp2
          go_round
          case rel => exact ⟨j + 1, by go_num, by omega, val_str (by rw [HT.out, show (ByteArray.mk #[47]) = ByteArray.mk [47].toArray from rfl, append_mk, append_mk]; simp)⟩
          case measure => simp [intOf]; omega
        · obtain rfl : j = C.length := by omega
          have e1 : cat (C.take C.length) = X := by rw [List.take_length]; exact HX.out.symm
          rw [e1]
          clear e1 R7 HG HP HC HJ
          go_wp2_with fail
          refine (fresh_any zs len w.heap.size cap a _ hl (by exact bbX.size) (HR.out.below bbX)).mono ?_
          intro e w5 h5
          obtain ⟨g, n, c, ys, he5, hn, hro, b5⟩ := h5
          subst he5
          have HRO := Hid.intro hro
          have bb5 := bbX.trans (b5.mono bbX.size)
          clear hro b5 bbX
          go_wp2_with fail
          refine (drawBelow_any ys n w5.heap.size c _ w5 (by omega) (Nat.le_refl _) HRO.out).mono ?_
          rintro e w6 ⟨s3, u, rfl, hs3, hu, b6⟩
          have bb6 := bb5.trans (b6.mono bb5.size)
          clear b6 bb5
          go_wp2_with fail
          refine (implBelow_any s t _ (by omega) (by omega)).mono ?_
          rintro e w7 ⟨rfl, b7⟩
          have bb7 := bb6.trans (b7.mono bb6.size)
          clear b7 bb6
          cases hAB : belowL s.data.toList t.data.toList with
          | false =>
            go_wp2
            go_ret
            exact ⟨rfl, bb7⟩
          | true =>
            go_wp2_with fail
            refine (implBelow_any t u _ (by omega) (by omega)).mono ?_
            rintro e w8 ⟨rfl, b8⟩
            have bb8 := bb7.trans (b8.mono bb7.size)
            clear b8 bb7
            cases hBC : belowL t.data.toList u.data.toList with
            | false =>
              go_wp2
              go_ret
              exact ⟨rfl, bb8⟩
            | true =>
              have hAC := below_trans hAB hBC
              go_wp2_with fail
              refine (implBelow_any s u _ (by omega) (by omega)).mono ?_
              rintro e w9 ⟨rfl, b9⟩
              have bb9 := bb8.trans (b9.mono bb8.size)
              clear b9 bb8
              go_wp2
              go_ret
              exact ⟨rfl, bb9⟩

theorem big_yes (a : Option Addr) (len cap : Nat) (w : World) (hl : 1048576 < (len : Int)) (hm : len ≤ 9223372036854775807) :
    Calls Try.prog 9 #[.slice a len cap] w fun e w' => e = .returned (.bool true) ∧ w = w' := by
  go_enter Try.func9, Try.ntmps9
  go_wp2
  go_ret
  exact ⟨rfl, rfl⟩

set_option maxHeartbeats 400000 in
theorem paths_law (zs : List Int) (len cap : Nat) (a : Option Addr) (w : World) (hlen : len ≤ 9223372036854775807) (hr : RowOk w w.heap.size a len zs) :
    Calls Try.prog 3 #[.slice a len cap] w fun e w' => e = .returned (.bool true) ∧ Below w.heap.size w w' := by
  by_cases hl : len ≤ 1048576
  · exact paths_small zs len cap a w hl hr (fun w1 h1 => by subst h1; exact drawBelow_any zs len w1.heap.size cap a w1 hl (Nat.le_refl _) hr)
  · clear hr
    go_enter Try.func3, Try.ntmps3
    go_wp2_with fail
    refine (big_yes a len cap w (by omega) hlen).mono ?_
    rintro e w1 ⟨rfl, rfl⟩
    go_wp2
    go_ret
    exact ⟨rfl, Below.refl _ _⟩

end Go.Proofs.Ytmkofkdcjeidhaa
