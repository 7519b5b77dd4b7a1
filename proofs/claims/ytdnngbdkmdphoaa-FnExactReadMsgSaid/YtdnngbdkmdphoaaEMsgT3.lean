/- The sentence's MsgOk, kind by kind. -/
import Derived.Test.YtdnngbdkmdphoaaEMsgS
namespace Go.Proofs.Ytdnngbdkmdphoaa
open Go.RowKit
set_option linter.unusedVariables false
set_option maxRecDepth 100000 in
set_option maxHeartbeats 8000000 in
theorem specMsg3_any (k f g m i j c : Int) (y : Bool) (es : List En) (d : ByteArray) (v : Value) (N : Nat) (w : World) (hN : N ≤ w.heap.size) (hr : Row enE w N v es) (hlen : es.length ≤ 1000000000000) :
    Calls Try.prog 7 #[msV ⟨3, f, g, m, i, j, c, y, es, d⟩ v] w fun e w' => e = .returned (.bool (msgB ⟨3, f, g, m, i, j, c, y, es, d⟩)) ∧ Below w.heap.size w w' := by
  obtain ⟨x, cap, rfl, hl, hm⟩ := hr.slice
  have HR := Hid.intro hr
  have HL := Hid.intro hlen
  clear hr hlen
  have kp : True := trivial
  by_cases h1 : 0 ≤ f ∧ f ≤ 4
  · have k1 := inB_true h1
    by_cases h2 : 0 ≤ g ∧ g ≤ 4
    · have k2 := inB_true h2
      by_cases h3 : f = g
      · have k3 : (f != g) = false := by simpa using h3
        go_enter Try.func7, Try.ntmps7
        go_wp2_with (first | (go_at_call 18; refine (l12Server_any _ _).mono ?_; rintro e w9 ⟨rfl, rfl⟩) | (go_at_call 19; refine (l1In_any _ _ _ _).mono ?_; rintro e w9 ⟨rfl, rfl⟩) | (go_at_call 20; refine (l3PlaceE_any _ _ _).mono ?_; rintro e w9 ⟨rfl, rfl⟩; simp only [kp]) | fail)
        go_ret
        refine ⟨ret_bool (msgB_no (fun h => by replace h := msgP_3.1 h; omega)), ?_⟩
        repeat (refine Below.setCell ?_ (by simp <;> omega) _)
        exact two_below _ _ _
      · have k3 : (f != g) = true := by simpa using h3
        by_cases h4 : 1 ≤ m ∧ m ≤ 100000
        · have k4 := inB_true h4
          by_cases h5 : placeP i j
          · replace kp : decide (placeP i j) = true := decide_eq_true h5
            have H5 := Hid.intro h5
            clear h5
            by_cases h6 : j ≤ m
            · skip
              by_cases h7 : 0 ≤ c ∧ c ≤ 100000
              · have k7 := inB_true h7
                by_cases h8 : es.length ≤ 4
                · have g8 : (es.length : Int) ≤ 4 := by omega
                  go_enter Try.func7, Try.ntmps7
                  go_wp2_with (first | (go_at_call 18; refine (l12Server_any _ _).mono ?_; rintro e w9 ⟨rfl, rfl⟩) | (go_at_call 19; refine (l1In_any _ _ _ _).mono ?_; rintro e w9 ⟨rfl, rfl⟩) | (go_at_call 20; refine (l3PlaceE_any _ _ _).mono ?_; rintro e w9 ⟨rfl, rfl⟩; simp only [kp]) | fail)
                  obtain ⟨W, hW, bW, zW, c1, f1, c2, f2⟩ := boxed2 w (msA ⟨3, f, g, m, i, j, c, y, es, d⟩ (.slice x es.length cap)) #[.int .i64 3, .int .i64 f, .int .i64 g, .int .i64 m, .int .i64 i, .int .i64 j, .int .i64 c, .bool false, .slice x es.length cap, .string ⟨#[]⟩] 29 29
                  simp only [hW]
                  have HB := Hid.intro bW
                  have hz1 : w.heap.size + 1 < W.heap.size := by omega
                  replace HR := Hid.intro (HR.out.kept (bW.mono hN))
                  clear hW bW f1 f2
                  have HO := l12Run_any es j m _ N W (by omega) HR.out
                  refine HO.mono ?_
                  clear HO
                  rintro e w1 ⟨rfl, b1⟩
                  have z1 := b1.size
                  replace c1 := keepC b1 (by omega) c1
                  replace c2 := keepC b1 (by omega) c2
                  simp only [msA] at c1 c2
                  replace HB := Hid.intro (HB.out.trans (b1.mono (by omega)))
                  replace HR := Hid.intro (HR.out.kept (b1.mono (by omega)))
                  have hz2 : w.heap.size + 1 < w1.heap.size := by omega
                  clear b1
                  cases hq0 : runB (max j 1) m es with
                  | false =>
                    have HQ0 := Hid.intro hq0
                    clear hq0
                    go_wp2_with fail
                    go_ret
                    exact ⟨ret_bool (msgB_no (fun h => by replace h := msgP_3.1 h; rw [HQ0.out] at h; simp only [bi_f] at h; omega)), HB.out⟩
                  | true =>
                    have HQ0 := Hid.intro hq0
                    clear hq0
                    have hi : -1 ≤ i ∧ i ≤ 100000 := by have h5 := H5.out; omega
                    by_cases h9 : i + (es.length : Int) ≤ 100000
                    · have H9 := Hid.intro h9
                      go_wp2_with fail
                      have HO := l12Same_any ⟨3, f, g, m, i, j, c, y, es, d⟩ ⟨3, f, g, m, i, j, c, false, es, ⟨#[]⟩⟩ (.slice x es.length cap) (.slice x es.length cap) w1 (sameE_self ⟨3, f, g, m, i, j, c, y, es, d⟩ ⟨3, f, g, m, i, j, c, false, es, ⟨#[]⟩⟩ (.slice x es.length cap) N w1 (by omega) HR.out rfl)
                      simp only [msV, msA] at HO
                      refine HO.mono ?_
                      clear HO
                      rintro e w3 ⟨rfl, b3⟩
                      replace HB := Hid.intro (HB.out.trans (b3.mono (by omega)))
                      obtain ⟨q, hq⟩ : ∃ q, decide (sameP ⟨3, f, g, m, i, j, c, y, es, d⟩ ⟨3, f, g, m, i, j, c, false, es, ⟨#[]⟩⟩) = q := ⟨_, rfl⟩
                      try simp only
                      rw [hq]
                      have HQ := Hid.intro hq
                      clear hq b3 c1 c2 HR HL
                      go_wp2
                      go_ret
                      refine ⟨ret_bool ?_, HB.out⟩
                      cases q with
                      | true =>
                        have h10 := (has3 (a := ⟨3, f, g, m, i, j, c, y, es, d⟩)).1 ((same_has (a := ⟨3, f, g, m, i, j, c, y, es, d⟩) (b := ⟨3, f, g, m, i, j, c, false, es, ⟨#[]⟩⟩) rfl rfl rfl rfl).1 (of_decide_eq_true HQ.out))
                        simp only at h10
                        exact msgB_yes (msgP_3.2 (by have h5 := H5.out; have q8 : bi (runB (max j 1) m es) = 1 := (congrArg bi HQ0.out); have q9 := H9.out; omega))
                      | false =>
                        have h10 := mt (fun h => (same_has (a := ⟨3, f, g, m, i, j, c, y, es, d⟩) (b := ⟨3, f, g, m, i, j, c, false, es, ⟨#[]⟩⟩) rfl rfl rfl rfl).2 ((has3 (a := ⟨3, f, g, m, i, j, c, y, es, d⟩)).2 h)) (of_decide_eq_false HQ.out)
                        simp only at h10
                        exact msgB_no (fun h => by replace h := msgP_3.1 h; have h5 := H5.out; omega)
                    · go_wp2_with fail
                      go_ret
                      exact ⟨ret_bool (msgB_no (fun h => by replace h := msgP_3.1 h; omega)), HB.out⟩
                · have g8 : ¬ (es.length : Int) ≤ 4 := by omega
                  go_enter Try.func7, Try.ntmps7
                  go_wp2_with (first | (go_at_call 18; refine (l12Server_any _ _).mono ?_; rintro e w9 ⟨rfl, rfl⟩) | (go_at_call 19; refine (l1In_any _ _ _ _).mono ?_; rintro e w9 ⟨rfl, rfl⟩) | (go_at_call 20; refine (l3PlaceE_any _ _ _).mono ?_; rintro e w9 ⟨rfl, rfl⟩; simp only [kp]) | fail)
                  go_ret
                  refine ⟨ret_bool (msgB_no (fun h => by replace h := msgP_3.1 h; have h5 := H5.out; omega)), ?_⟩
                  repeat (refine Below.setCell ?_ (by simp <;> omega) _)
                  exact two_below _ _ _
              · have k7 := inB_false h7
                go_enter Try.func7, Try.ntmps7
                go_wp2_with (first | (go_at_call 18; refine (l12Server_any _ _).mono ?_; rintro e w9 ⟨rfl, rfl⟩) | (go_at_call 19; refine (l1In_any _ _ _ _).mono ?_; rintro e w9 ⟨rfl, rfl⟩) | (go_at_call 20; refine (l3PlaceE_any _ _ _).mono ?_; rintro e w9 ⟨rfl, rfl⟩; simp only [kp]) | fail)
                go_ret
                refine ⟨ret_bool (msgB_no (fun h => by replace h := msgP_3.1 h; have h5 := H5.out; omega)), ?_⟩
                repeat (refine Below.setCell ?_ (by simp <;> omega) _)
                exact two_below _ _ _
            · skip
              go_enter Try.func7, Try.ntmps7
              go_wp2_with (first | (go_at_call 18; refine (l12Server_any _ _).mono ?_; rintro e w9 ⟨rfl, rfl⟩) | (go_at_call 19; refine (l1In_any _ _ _ _).mono ?_; rintro e w9 ⟨rfl, rfl⟩) | (go_at_call 20; refine (l3PlaceE_any _ _ _).mono ?_; rintro e w9 ⟨rfl, rfl⟩; simp only [kp]) | fail)
              go_ret
              refine ⟨ret_bool (msgB_no (fun h => by replace h := msgP_3.1 h; have h5 := H5.out; omega)), ?_⟩
              repeat (refine Below.setCell ?_ (by simp <;> omega) _)
              exact two_below _ _ _
          · replace kp : decide (placeP i j) = false := decide_eq_false h5
            have H5 := Hid.intro h5
            clear h5
            go_enter Try.func7, Try.ntmps7
            go_wp2_with (first | (go_at_call 18; refine (l12Server_any _ _).mono ?_; rintro e w9 ⟨rfl, rfl⟩) | (go_at_call 19; refine (l1In_any _ _ _ _).mono ?_; rintro e w9 ⟨rfl, rfl⟩) | (go_at_call 20; refine (l3PlaceE_any _ _ _).mono ?_; rintro e w9 ⟨rfl, rfl⟩; simp only [kp]) | fail)
            go_ret
            refine ⟨ret_bool (msgB_no (fun h => by replace h := msgP_3.1 h; have h5 := H5.out; omega)), ?_⟩
            repeat (refine Below.setCell ?_ (by simp <;> omega) _)
            exact two_below _ _ _
        · have k4 := inB_false h4
          go_enter Try.func7, Try.ntmps7
          go_wp2_with (first | (go_at_call 18; refine (l12Server_any _ _).mono ?_; rintro e w9 ⟨rfl, rfl⟩) | (go_at_call 19; refine (l1In_any _ _ _ _).mono ?_; rintro e w9 ⟨rfl, rfl⟩) | (go_at_call 20; refine (l3PlaceE_any _ _ _).mono ?_; rintro e w9 ⟨rfl, rfl⟩; simp only [kp]) | fail)
          go_ret
          refine ⟨ret_bool (msgB_no (fun h => by replace h := msgP_3.1 h; omega)), ?_⟩
          repeat (refine Below.setCell ?_ (by simp <;> omega) _)
          exact two_below _ _ _
    · have k2 := inB_false h2
      go_enter Try.func7, Try.ntmps7
      go_wp2_with (first | (go_at_call 18; refine (l12Server_any _ _).mono ?_; rintro e w9 ⟨rfl, rfl⟩) | (go_at_call 19; refine (l1In_any _ _ _ _).mono ?_; rintro e w9 ⟨rfl, rfl⟩) | (go_at_call 20; refine (l3PlaceE_any _ _ _).mono ?_; rintro e w9 ⟨rfl, rfl⟩; simp only [kp]) | fail)
      go_ret
      refine ⟨ret_bool (msgB_no (fun h => by replace h := msgP_3.1 h; omega)), ?_⟩
      repeat (refine Below.setCell ?_ (by simp <;> omega) _)
      exact two_below _ _ _
  · have k1 := inB_false h1
    go_enter Try.func7, Try.ntmps7
    go_wp2_with (first | (go_at_call 18; refine (l12Server_any _ _).mono ?_; rintro e w9 ⟨rfl, rfl⟩) | (go_at_call 19; refine (l1In_any _ _ _ _).mono ?_; rintro e w9 ⟨rfl, rfl⟩) | (go_at_call 20; refine (l3PlaceE_any _ _ _).mono ?_; rintro e w9 ⟨rfl, rfl⟩; simp only [kp]) | fail)
    go_ret
    refine ⟨ret_bool (msgB_no (fun h => by replace h := msgP_3.1 h; omega)), ?_⟩
    repeat (refine Below.setCell ?_ (by simp <;> omega) _)
    exact two_below _ _ _
end Go.Proofs.Ytdnngbdkmdphoaa
