/- The sentence's MsgOk, kind by kind. -/
import Derived.Test.YtdnngbdkmdphoaaEMsgS
namespace Go.Proofs.Ytdnngbdkmdphoaa
open Go.RowKit
set_option linter.unusedVariables false
set_option maxRecDepth 100000 in
set_option maxHeartbeats 8000000 in
theorem specMsg4_any (k f g m i j c : Int) (y : Bool) (es : List En) (d : ByteArray) (v : Value) (N : Nat) (w : World) (hN : N ≤ w.heap.size) (hr : Row enE w N v es) (hlen : es.length ≤ 1000000000000) :
    Calls Try.prog 7 #[msV ⟨4, f, g, m, i, j, c, y, es, d⟩ v] w fun e w' => e = .returned (.bool (msgB ⟨4, f, g, m, i, j, c, y, es, d⟩)) ∧ Below w.heap.size w w' := by
  obtain ⟨x, cap, rfl, hl, hm⟩ := hr.slice
  have HR := Hid.intro hr
  have HL := Hid.intro hlen
  clear hr hlen
  have kp : True := trivial
  by_cases h1 : 0 ≤ f ∧ f ≤ 4
  · have k1 := inB_true h1
    by_cases h2 : 0 ≤ g ∧ g ≤ 4
    · have k2 := inB_true h2
      by_cases h3 : f = g
      · have k3 : (f != g) = false := by simpa using h3
        go_enter Try.func7, Try.ntmps7
        go_wp2_with (first | (go_at_call 18; refine (l12Server_any _ _).mono ?_; rintro e w9 ⟨rfl, rfl⟩) | (go_at_call 19; refine (l1In_any _ _ _ _).mono ?_; rintro e w9 ⟨rfl, rfl⟩) | (go_at_call 20; refine (l3PlaceE_any _ _ _).mono ?_; rintro e w9 ⟨rfl, rfl⟩; simp only [kp]) | fail)
        go_ret
        refine ⟨ret_bool (msgB_no (fun h => by replace h := msgP_4.1 h; omega)), ?_⟩
        repeat (refine Below.setCell ?_ (by simp <;> omega) _)
        exact two_below _ _ _
      · have k3 : (f != g) = true := by simpa using h3
        by_cases h4 : 1 ≤ m ∧ m ≤ 100000
        · have k4 := inB_true h4
          by_cases h5 : 0 ≤ i ∧ i ≤ 100000
          · have k5 := inB_true h5
            go_enter Try.func7, Try.ntmps7
            go_wp2_with (first | (go_at_call 18; refine (l12Server_any _ _).mono ?_; rintro e w9 ⟨rfl, rfl⟩) | (go_at_call 19; refine (l1In_any _ _ _ _).mono ?_; rintro e w9 ⟨rfl, rfl⟩) | (go_at_call 20; refine (l3PlaceE_any _ _ _).mono ?_; rintro e w9 ⟨rfl, rfl⟩; simp only [kp]) | fail)
            obtain ⟨W, hW, bW, zW, c1, f1, c2, f2⟩ := boxed2 w (msA ⟨4, f, g, m, i, j, c, y, es, d⟩ (.slice x es.length cap)) #[.int .i64 4, .int .i64 f, .int .i64 g, .int .i64 m, .int .i64 i, .int .i64 0, .int .i64 0, .bool y, .slice none 0 0, .string ⟨#[]⟩] 29 29
            simp only [hW]
            have HB := Hid.intro bW
            have hz1 : w.heap.size + 1 < W.heap.size := by omega
            replace HR := Hid.intro (HR.out.kept (bW.mono hN))
            clear hW bW f1 f2
            have HO := l12Same_any ⟨4, f, g, m, i, j, c, y, es, d⟩ ⟨4, f, g, m, i, 0, 0, y, [], ⟨#[]⟩⟩ (.slice x es.length cap) (.slice none 0 0) W (sameE_none ⟨4, f, g, m, i, j, c, y, es, d⟩ ⟨4, f, g, m, i, 0, 0, y, [], ⟨#[]⟩⟩ (.slice x es.length cap) N W (by omega) HR.out rfl)
            simp only [msV, msA] at HO
            refine HO.mono ?_
            clear HO
            rintro e w3 ⟨rfl, b3⟩
            replace HB := Hid.intro (HB.out.trans (b3.mono (by omega)))
            obtain ⟨q, hq⟩ : ∃ q, decide (sameP ⟨4, f, g, m, i, j, c, y, es, d⟩ ⟨4, f, g, m, i, 0, 0, y, [], ⟨#[]⟩⟩) = q := ⟨_, rfl⟩
            try simp only
            rw [hq]
            have HQ := Hid.intro hq
            clear hq b3 c1 c2 HR HL
            go_wp2
            go_ret
            refine ⟨ret_bool ?_, HB.out⟩
            cases q with
            | true =>
              have h10 := (has4 (a := ⟨4, f, g, m, i, j, c, y, es, d⟩)).1 ((same_has (a := ⟨4, f, g, m, i, j, c, y, es, d⟩) (b := ⟨4, f, g, m, i, 0, 0, y, [], ⟨#[]⟩⟩) rfl rfl rfl rfl).1 (of_decide_eq_true HQ.out))
              simp only at h10
              exact msgB_yes (msgP_4.2 (by omega))
            | false =>
              have h10 := mt (fun h => (same_has (a := ⟨4, f, g, m, i, j, c, y, es, d⟩) (b := ⟨4, f, g, m, i, 0, 0, y, [], ⟨#[]⟩⟩) rfl rfl rfl rfl).2 ((has4 (a := ⟨4, f, g, m, i, j, c, y, es, d⟩)).2 h)) (of_decide_eq_false HQ.out)
              simp only at h10
              exact msgB_no (fun h => by replace h := msgP_4.1 h; omega)
          · have k5 := inB_false h5
            go_enter Try.func7, Try.ntmps7
            go_wp2_with (first | (go_at_call 18; refine (l12Server_any _ _).mono ?_; rintro e w9 ⟨rfl, rfl⟩) | (go_at_call 19; refine (l1In_any _ _ _ _).mono ?_; rintro e w9 ⟨rfl, rfl⟩) | (go_at_call 20; refine (l3PlaceE_any _ _ _).mono ?_; rintro e w9 ⟨rfl, rfl⟩; simp only [kp]) | fail)
            go_ret
            refine ⟨ret_bool (msgB_no (fun h => by replace h := msgP_4.1 h; omega)), ?_⟩
            repeat (refine Below.setCell ?_ (by simp <;> omega) _)
            exact two_below _ _ _
        · have k4 := inB_false h4
          go_enter Try.func7, Try.ntmps7
          go_wp2_with (first | (go_at_call 18; refine (l12Server_any _ _).mono ?_; rintro e w9 ⟨rfl, rfl⟩) | (go_at_call 19; refine (l1In_any _ _ _ _).mono ?_; rintro e w9 ⟨rfl, rfl⟩) | (go_at_call 20; refine (l3PlaceE_any _ _ _).mono ?_; rintro e w9 ⟨rfl, rfl⟩; simp only [kp]) | fail)
          go_ret
          refine ⟨ret_bool (msgB_no (fun h => by replace h := msgP_4.1 h; omega)), ?_⟩
          repeat (refine Below.setCell ?_ (by simp <;> omega) _)
          exact two_below _ _ _
    · have k2 := inB_false h2
      go_enter Try.func7, Try.ntmps7
      go_wp2_with (first | (go_at_call 18; refine (l12Server_any _ _).mono ?_; rintro e w9 ⟨rfl, rfl⟩) | (go_at_call 19; refine (l1In_any _ _ _ _).mono ?_; rintro e w9 ⟨rfl, rfl⟩) | (go_at_call 20; refine (l3PlaceE_any _ _ _).mono ?_; rintro e w9 ⟨rfl, rfl⟩; simp only [kp]) | fail)
      go_ret
      refine ⟨ret_bool (msgB_no (fun h => by replace h := msgP_4.1 h; omega)), ?_⟩
      repeat (refine Below.setCell ?_ (by simp <;> omega) _)
      exact two_below _ _ _
  · have k1 := inB_false h1
    go_enter Try.func7, Try.ntmps7
    go_wp2_with (first | (go_at_call 18; refine (l12Server_any _ _).mono ?_; rintro e w9 ⟨rfl, rfl⟩) | (go_at_call 19; refine (l1In_any _ _ _ _).mono ?_; rintro e w9 ⟨rfl, rfl⟩) | (go_at_call 20; refine (l3PlaceE_any _ _ _).mono ?_; rintro e w9 ⟨rfl, rfl⟩; simp only [kp]) | fail)
    go_ret
    refine ⟨ret_bool (msgB_no (fun h => by replace h := msgP_4.1 h; omega)), ?_⟩
    repeat (refine Below.setCell ?_ (by simp <;> omega) _)
    exact two_below _ _ _
set_option maxRecDepth 100000 in
set_option maxHeartbeats 8000000 in
theorem specMsg5_any (k f g m i j c : Int) (y : Bool) (es : List En) (d : ByteArray) (v : Value) (N : Nat) (w : World) (hN : N ≤ w.heap.size) (hr : Row enE w N v es) (hlen : es.length ≤ 1000000000000) :
    Calls Try.prog 7 #[msV ⟨5, f, g, m, i, j, c, y, es, d⟩ v] w fun e w' => e = .returned (.bool (msgB ⟨5, f, g, m, i, j, c, y, es, d⟩)) ∧ Below w.heap.size w w' := by
  obtain ⟨x, cap, rfl, hl, hm⟩ := hr.slice
  have HR := Hid.intro hr
  have HL := Hid.intro hlen
  clear hr hlen
  have kp : True := trivial
  by_cases h1 : 0 ≤ f ∧ f ≤ 4
  · have k1 := inB_true h1
    by_cases h2 : 0 ≤ g ∧ g ≤ 4
    · have k2 := inB_true h2
      by_cases h3 : f = g
      · have k3 : (f != g) = false := by simpa using h3
        go_enter Try.func7, Try.ntmps7
        go_wp2_with (first | (go_at_call 18; refine (l12Server_any _ _).mono ?_; rintro e w9 ⟨rfl, rfl⟩) | (go_at_call 19; refine (l1In_any _ _ _ _).mono ?_; rintro e w9 ⟨rfl, rfl⟩) | (go_at_call 20; refine (l3PlaceE_any _ _ _).mono ?_; rintro e w9 ⟨rfl, rfl⟩; simp only [kp]) | fail)
        go_ret
        refine ⟨ret_bool (msgB_no (fun h => by replace h := msgP_5.1 h; omega)), ?_⟩
        repeat (refine Below.setCell ?_ (by simp <;> omega) _)
        exact two_below _ _ _
      · have k3 : (f != g) = true := by simpa using h3
        by_cases h4 : 1 ≤ m ∧ m ≤ 100000
        · have k4 := inB_true h4
          by_cases h5 : 1 ≤ i ∧ i ≤ 100000
          · have k5 := inB_true h5
            by_cases h6 : 1 ≤ j ∧ j ≤ m
            · have k6 := inB_true h6
              by_cases h7 : (d.size : Int) ≤ 20000
              · skip
                go_enter Try.func7, Try.ntmps7
                go_wp2_with (first | (go_at_call 18; refine (l12Server_any _ _).mono ?_; rintro e w9 ⟨rfl, rfl⟩) | (go_at_call 19; refine (l1In_any _ _ _ _).mono ?_; rintro e w9 ⟨rfl, rfl⟩) | (go_at_call 20; refine (l3PlaceE_any _ _ _).mono ?_; rintro e w9 ⟨rfl, rfl⟩; simp only [kp]) | fail)
                obtain ⟨W, hW, bW, zW, c1, f1, c2, f2⟩ := boxed2 w (msA ⟨5, f, g, m, i, j, c, y, es, d⟩ (.slice x es.length cap)) #[.int .i64 5, .int .i64 f, .int .i64 g, .int .i64 m, .int .i64 i, .int .i64 j, .int .i64 0, .bool false, .slice none 0 0, .string d] 29 29
                simp only [hW]
                have HB := Hid.intro bW
                have hz1 : w.heap.size + 1 < W.heap.size := by omega
                replace HR := Hid.intro (HR.out.kept (bW.mono hN))
                clear hW bW f1 f2
                have HO := l12Same_any ⟨5, f, g, m, i, j, c, y, es, d⟩ ⟨5, f, g, m, i, j, 0, false, [], d⟩ (.slice x es.length cap) (.slice none 0 0) W (sameE_none ⟨5, f, g, m, i, j, c, y, es, d⟩ ⟨5, f, g, m, i, j, 0, false, [], d⟩ (.slice x es.length cap) N W (by omega) HR.out rfl)
                simp only [msV, msA] at HO
                refine HO.mono ?_
                clear HO
                rintro e w3 ⟨rfl, b3⟩
                replace HB := Hid.intro (HB.out.trans (b3.mono (by omega)))
                obtain ⟨q, hq⟩ : ∃ q, decide (sameP ⟨5, f, g, m, i, j, c, y, es, d⟩ ⟨5, f, g, m, i, j, 0, false, [], d⟩) = q := ⟨_, rfl⟩
                try simp only
                rw [hq]
                have HQ := Hid.intro hq
                clear hq b3 c1 c2 HR HL
                go_wp2
                go_ret
                refine ⟨ret_bool ?_, HB.out⟩
                cases q with
                | true =>
                  have h10 := (has5 (a := ⟨5, f, g, m, i, j, c, y, es, d⟩)).1 ((same_has (a := ⟨5, f, g, m, i, j, c, y, es, d⟩) (b := ⟨5, f, g, m, i, j, 0, false, [], d⟩) rfl rfl rfl rfl).1 (of_decide_eq_true HQ.out))
                  simp only at h10
                  exact msgB_yes (msgP_5.2 (by omega))
                | false =>
                  have h10 := mt (fun h => (same_has (a := ⟨5, f, g, m, i, j, c, y, es, d⟩) (b := ⟨5, f, g, m, i, j, 0, false, [], d⟩) rfl rfl rfl rfl).2 ((has5 (a := ⟨5, f, g, m, i, j, c, y, es, d⟩)).2 h)) (of_decide_eq_false HQ.out)
                  simp only at h10
                  exact msgB_no (fun h => by replace h := msgP_5.1 h; omega)
              · skip
                go_enter Try.func7, Try.ntmps7
                go_wp2_with (first | (go_at_call 18; refine (l12Server_any _ _).mono ?_; rintro e w9 ⟨rfl, rfl⟩) | (go_at_call 19; refine (l1In_any _ _ _ _).mono ?_; rintro e w9 ⟨rfl, rfl⟩) | (go_at_call 20; refine (l3PlaceE_any _ _ _).mono ?_; rintro e w9 ⟨rfl, rfl⟩; simp only [kp]) | fail)
                go_ret
                refine ⟨ret_bool (msgB_no (fun h => by replace h := msgP_5.1 h; omega)), ?_⟩
                repeat (refine Below.setCell ?_ (by simp <;> omega) _)
                exact two_below _ _ _
            · have k6 := inB_false h6
              go_enter Try.func7, Try.ntmps7
              go_wp2_with (first | (go_at_call 18; refine (l12Server_any _ _).mono ?_; rintro e w9 ⟨rfl, rfl⟩) | (go_at_call 19; refine (l1In_any _ _ _ _).mono ?_; rintro e w9 ⟨rfl, rfl⟩) | (go_at_call 20; refine (l3PlaceE_any _ _ _).mono ?_; rintro e w9 ⟨rfl, rfl⟩; simp only [kp]) | fail)
              go_ret
              refine ⟨ret_bool (msgB_no (fun h => by replace h := msgP_5.1 h; omega)), ?_⟩
              repeat (refine Below.setCell ?_ (by simp <;> omega) _)
              exact two_below _ _ _
          · have k5 := inB_false h5
            go_enter Try.func7, Try.ntmps7
            go_wp2_with (first | (go_at_call 18; refine (l12Server_any _ _).mono ?_; rintro e w9 ⟨rfl, rfl⟩) | (go_at_call 19; refine (l1In_any _ _ _ _).mono ?_; rintro e w9 ⟨rfl, rfl⟩) | (go_at_call 20; refine (l3PlaceE_any _ _ _).mono ?_; rintro e w9 ⟨rfl, rfl⟩; simp only [kp]) | fail)
            go_ret
            refine ⟨ret_bool (msgB_no (fun h => by replace h := msgP_5.1 h; omega)), ?_⟩
            repeat (refine Below.setCell ?_ (by simp <;> omega) _)
            exact two_below _ _ _
        · have k4 := inB_false h4
          go_enter Try.func7, Try.ntmps7
          go_wp2_with (first | (go_at_call 18; refine (l12Server_any _ _).mono ?_; rintro e w9 ⟨rfl, rfl⟩) | (go_at_call 19; refine (l1In_any _ _ _ _).mono ?_; rintro e w9 ⟨rfl, rfl⟩) | (go_at_call 20; refine (l3PlaceE_any _ _ _).mono ?_; rintro e w9 ⟨rfl, rfl⟩; simp only [kp]) | fail)
          go_ret
          refine ⟨ret_bool (msgB_no (fun h => by replace h := msgP_5.1 h; omega)), ?_⟩
          repeat (refine Below.setCell ?_ (by simp <;> omega) _)
          exact two_below _ _ _
    · have k2 := inB_false h2
      go_enter Try.func7, Try.ntmps7
      go_wp2_with (first | (go_at_call 18; refine (l12Server_any _ _).mono ?_; rintro e w9 ⟨rfl, rfl⟩) | (go_at_call 19; refine (l1In_any _ _ _ _).mono ?_; rintro e w9 ⟨rfl, rfl⟩) | (go_at_call 20; refine (l3PlaceE_any _ _ _).mono ?_; rintro e w9 ⟨rfl, rfl⟩; simp only [kp]) | fail)
      go_ret
      refine ⟨ret_bool (msgB_no (fun h => by replace h := msgP_5.1 h; omega)), ?_⟩
      repeat (refine Below.setCell ?_ (by simp <;> omega) _)
      exact two_below _ _ _
  · have k1 := inB_false h1
    go_enter Try.func7, Try.ntmps7
    go_wp2_with (first | (go_at_call 18; refine (l12Server_any _ _).mono ?_; rintro e w9 ⟨rfl, rfl⟩) | (go_at_call 19; refine (l1In_any _ _ _ _).mono ?_; rintro e w9 ⟨rfl, rfl⟩) | (go_at_call 20; refine (l3PlaceE_any _ _ _).mono ?_; rintro e w9 ⟨rfl, rfl⟩; simp only [kp]) | fail)
    go_ret
    refine ⟨ret_bool (msgB_no (fun h => by replace h := msgP_5.1 h; omega)), ?_⟩
    repeat (refine Below.setCell ?_ (by simp <;> omega) _)
    exact two_below _ _ _
set_option maxRecDepth 100000 in
set_option maxHeartbeats 8000000 in
theorem specMsg0_any (k f g m i j c : Int) (y : Bool) (es : List En) (d : ByteArray) (v : Value) (N : Nat) (w : World) (hN : N ≤ w.heap.size) (hr : Row enE w N v es) (hlen : es.length ≤ 1000000000000) (g1 : (k == 1) = false) (g2 : (k == 2) = false) (g3 : (k == 3) = false) (g4 : (k == 4) = false) (g5 : (k == 5) = false) (hk : ¬ (k = 1 ∨ k = 2 ∨ k = 3 ∨ k = 4 ∨ k = 5)) :
    Calls Try.prog 7 #[msV ⟨k, f, g, m, i, j, c, y, es, d⟩ v] w fun e w' => e = .returned (.bool (msgB ⟨k, f, g, m, i, j, c, y, es, d⟩)) ∧ Below w.heap.size w w' := by
  obtain ⟨x, cap, rfl, hl, hm⟩ := hr.slice
  have HR := Hid.intro hr
  have HL := Hid.intro hlen
  clear hr hlen
  have kp : True := trivial
  by_cases h1 : 0 ≤ f ∧ f ≤ 4
  · have k1 := inB_true h1
    by_cases h2 : 0 ≤ g ∧ g ≤ 4
    · have k2 := inB_true h2
      by_cases h3 : f = g
      · have k3 : (f != g) = false := by simpa using h3
        go_enter Try.func7, Try.ntmps7
        go_wp2_with (first | (go_at_call 18; refine (l12Server_any _ _).mono ?_; rintro e w9 ⟨rfl, rfl⟩) | (go_at_call 19; refine (l1In_any _ _ _ _).mono ?_; rintro e w9 ⟨rfl, rfl⟩) | (go_at_call 20; refine (l3PlaceE_any _ _ _).mono ?_; rintro e w9 ⟨rfl, rfl⟩; simp only [kp]) | fail)
        go_ret
        refine ⟨ret_bool (msgB_no (fun h => hk (msgP_k h))), ?_⟩
        repeat (refine Below.setCell ?_ (by simp <;> omega) _)
        exact two_below _ _ _
      · have k3 : (f != g) = true := by simpa using h3
        by_cases h4 : 1 ≤ m ∧ m ≤ 100000
        · have k4 := inB_true h4
          go_enter Try.func7, Try.ntmps7
          go_wp2_with (first | (go_at_call 18; refine (l12Server_any _ _).mono ?_; rintro e w9 ⟨rfl, rfl⟩) | (go_at_call 19; refine (l1In_any _ _ _ _).mono ?_; rintro e w9 ⟨rfl, rfl⟩) | (go_at_call 20; refine (l3PlaceE_any _ _ _).mono ?_; rintro e w9 ⟨rfl, rfl⟩; simp only [kp]) | fail)
          go_ret
          refine ⟨ret_bool (msgB_no (fun h => hk (msgP_k h))), ?_⟩
          repeat (refine Below.setCell ?_ (by simp <;> omega) _)
          exact two_below _ _ _
        · have k4 := inB_false h4
          go_enter Try.func7, Try.ntmps7
          go_wp2_with (first | (go_at_call 18; refine (l12Server_any _ _).mono ?_; rintro e w9 ⟨rfl, rfl⟩) | (go_at_call 19; refine (l1In_any _ _ _ _).mono ?_; rintro e w9 ⟨rfl, rfl⟩) | (go_at_call 20; refine (l3PlaceE_any _ _ _).mono ?_; rintro e w9 ⟨rfl, rfl⟩; simp only [kp]) | fail)
          go_ret
          refine ⟨ret_bool (msgB_no (fun h => hk (msgP_k h))), ?_⟩
          repeat (refine Below.setCell ?_ (by simp <;> omega) _)
          exact two_below _ _ _
    · have k2 := inB_false h2
      go_enter Try.func7, Try.ntmps7
      go_wp2_with (first | (go_at_call 18; refine (l12Server_any _ _).mono ?_; rintro e w9 ⟨rfl, rfl⟩) | (go_at_call 19; refine (l1In_any _ _ _ _).mono ?_; rintro e w9 ⟨rfl, rfl⟩) | (go_at_call 20; refine (l3PlaceE_any _ _ _).mono ?_; rintro e w9 ⟨rfl, rfl⟩; simp only [kp]) | fail)
      go_ret
      refine ⟨ret_bool (msgB_no (fun h => hk (msgP_k h))), ?_⟩
      repeat (refine Below.setCell ?_ (by simp <;> omega) _)
      exact two_below _ _ _
  · have k1 := inB_false h1
    go_enter Try.func7, Try.ntmps7
    go_wp2_with (first | (go_at_call 18; refine (l12Server_any _ _).mono ?_; rintro e w9 ⟨rfl, rfl⟩) | (go_at_call 19; refine (l1In_any _ _ _ _).mono ?_; rintro e w9 ⟨rfl, rfl⟩) | (go_at_call 20; refine (l3PlaceE_any _ _ _).mono ?_; rintro e w9 ⟨rfl, rfl⟩; simp only [kp]) | fail)
    go_ret
    refine ⟨ret_bool (msgB_no (fun h => hk (msgP_k h))), ?_⟩
    repeat (refine Below.setCell ?_ (by simp <;> omega) _)
    exact two_below _ _ _
end Go.Proofs.Ytdnngbdkmdphoaa
