/- The program's MsgOk. -/
import Derived.Test.YtdnngbdkmdphoaaEMsgI
namespace Go.Proofs.Ytdnngbdkmdphoaa
open Go.RowKit
set_option linter.unusedVariables false
set_option maxRecDepth 100000 in
set_option maxHeartbeats 8000000 in
theorem implMsgOk_any (a : Ms) (v : Value) (N : Nat) (w : World) (hN : N ≤ w.heap.size) (hr : Row enE w N v a.es) (hlen : a.es.length ≤ 1000000000000) :
    Calls Try.prog 9 #[msV a v] w fun e w' => e = .returned (.bool (msgB a)) ∧ Below w.heap.size w w' := by
  obtain ⟨k, f, g, m, i, j, c, y, es, d⟩ := a
  obtain ⟨x, cap, rfl, hl, hm⟩ := hr.slice
  have HR := Hid.intro hr
  have HL := Hid.intro hlen
  simp only at hl
  clear hr hlen
  go_enter Try.func9, Try.ntmps9
  go_upto_region 1 with fail
  obtain ⟨W, hW, bW, zW, c1, f1⟩ := boxed w (msA ⟨k, f, g, m, i, j, c, y, es, d⟩ (.slice x es.length cap)) 29
  try simp only [hW]
  have HB := Hid.intro bW
  have hz1 : w.heap.size < W.heap.size := by omega
  replace HR := Hid.intro (HR.out.kept (bW.mono hN))
  simp only at HR HL
  clear hW bW f1
  by_cases h1 : twoP f g
  · have k1 : decide (twoP f g) = true := decide_eq_true h1
    unfold twoP at h1
    by_cases h2 : 1 ≤ m ∧ m ≤ 100000
    · have k2 := inB_true h2
      by_cases e1 : k = 1
      · subst e1
        go_wp2_with (first | (go_at_call 24; refine (twoServers_any _ _ _).mono ?_; rintro e w9 ⟨rfl, rfl⟩; simp only [k1]) | (go_at_call 25; refine (within_any _ _ _ _).mono ?_; rintro e w9 ⟨rfl, rfl⟩) | fail)
        have HO := hasOnly_any ⟨1, f, g, m, i, j, c, y, es, d⟩ ⟨0, 0, 0, 0, i, j, 0, false, [], ⟨#[]⟩⟩ x none cap 0 W
        simp only [msV, msA, List.length_nil] at HO
        refine HO.mono ?_
        clear HO
        rintro e w1 ⟨rfl, b1⟩
        replace c1 := keepC b1 (by omega) c1
        simp only [msA] at c1
        have z1 := b1.size
        replace HB := Hid.intro (HB.out.trans (b1.mono (by omega)))
        replace HR := Hid.intro (HR.out.kept (b1.mono (by omega)))
        clear b1
        by_cases h3 : hasP ⟨1, f, g, m, i, j, c, y, es, d⟩ ⟨0, 0, 0, 0, i, j, 0, false, [], ⟨#[]⟩⟩
        · have k3 : decide (hasP ⟨1, f, g, m, i, j, c, y, es, d⟩ ⟨0, 0, 0, 0, i, j, 0, false, [], ⟨#[]⟩⟩) = true := decide_eq_true h3
          simp only [k3]
          have H3 := Hid.intro (has1.1 h3)
          simp only at H3
          clear h3
          go_wp2_with fail
          have HO := atPlace_any ⟨1, f, g, m, i, j, c, y, es, d⟩ (.slice x es.length cap) w1
          simp only [msV, msA] at HO
          refine HO.mono ?_
          clear HO
          rintro e w2 ⟨rfl, b2⟩
          replace HB := Hid.intro (HB.out.trans (b2.mono (by omega)))
          clear b2 c1 HR HL
          obtain ⟨q, hq⟩ : ∃ q, decide (placeP i j ∧ j ≤ m) = q := ⟨_, rfl⟩
          try simp only
          rw [hq]
          have HQ := Hid.intro hq
          clear hq
          go_wp2
          go_ret
          refine ⟨ret_bool ?_, HB.out⟩
          have h3 := H3.out
          cases q with
          | true =>
            have h4 := of_decide_eq_true HQ.out
            exact msgB_yes (msgP_1.2 (by omega))
          | false =>
            have h4 := of_decide_eq_false HQ.out
            exact msgB_no (fun h => by replace h := msgP_1.1 h; omega)
        · have k3 : decide (hasP ⟨1, f, g, m, i, j, c, y, es, d⟩ ⟨0, 0, 0, 0, i, j, 0, false, [], ⟨#[]⟩⟩) = false := decide_eq_false h3
          simp only [k3]
          replace h3 := mt has1.2 h3
          simp only at h3
          go_wp2_with fail
          go_ret
          exact ⟨ret_bool (msgB_no (fun h => by replace h := msgP_1.1 h; omega)), HB.out⟩
      · skip
        by_cases e2 : k = 2
        · subst e2
          go_wp2_with (first | (go_at_call 24; refine (twoServers_any _ _ _).mono ?_; rintro e w9 ⟨rfl, rfl⟩; simp only [k1]) | (go_at_call 25; refine (within_any _ _ _ _).mono ?_; rintro e w9 ⟨rfl, rfl⟩) | fail)
          have HO := hasOnly_any ⟨2, f, g, m, i, j, c, y, es, d⟩ ⟨0, 0, 0, 0, 0, 0, 0, y, [], ⟨#[]⟩⟩ x none cap 0 W
          simp only [msV, msA, List.length_nil] at HO
          refine HO.mono ?_
          clear HO
          rintro e w1 ⟨rfl, b1⟩
          replace c1 := keepC b1 (by omega) c1
          simp only [msA] at c1
          have z1 := b1.size
          replace HB := Hid.intro (HB.out.trans (b1.mono (by omega)))
          replace HR := Hid.intro (HR.out.kept (b1.mono (by omega)))
          clear b1
          by_cases h3 : hasP ⟨2, f, g, m, i, j, c, y, es, d⟩ ⟨0, 0, 0, 0, 0, 0, 0, y, [], ⟨#[]⟩⟩
          · have k3 : decide (hasP ⟨2, f, g, m, i, j, c, y, es, d⟩ ⟨0, 0, 0, 0, 0, 0, 0, y, [], ⟨#[]⟩⟩) = true := decide_eq_true h3
            simp only [k3]
            have H3 := Hid.intro (has2.1 h3)
            simp only at H3
            clear h3
            go_wp2
            go_ret
            have h3 := H3.out
            exact ⟨ret_bool (msgB_yes (msgP_2.2 (by omega))), HB.out⟩
          · have k3 : decide (hasP ⟨2, f, g, m, i, j, c, y, es, d⟩ ⟨0, 0, 0, 0, 0, 0, 0, y, [], ⟨#[]⟩⟩) = false := decide_eq_false h3
            simp only [k3]
            replace h3 := mt has2.2 h3
            simp only at h3
            go_wp2_with fail
            go_ret
            exact ⟨ret_bool (msgB_no (fun h => by replace h := msgP_2.1 h; omega)), HB.out⟩
        · skip
          by_cases e3 : k = 3
          · subst e3
            go_wp2_with (first | (go_at_call 24; refine (twoServers_any _ _ _).mono ?_; rintro e w9 ⟨rfl, rfl⟩; simp only [k1]) | (go_at_call 25; refine (within_any _ _ _ _).mono ?_; rintro e w9 ⟨rfl, rfl⟩) | fail)
            have HO := hasOnly_any ⟨3, f, g, m, i, j, c, y, es, d⟩ ⟨0, 0, 0, 0, i, j, c, false, es, ⟨#[]⟩⟩ x x cap cap W
            simp only [msV, msA] at HO
            refine HO.mono ?_
            clear HO
            rintro e w1 ⟨rfl, b1⟩
            replace c1 := keepC b1 (by omega) c1
            simp only [msA] at c1
            have z1 := b1.size
            replace HB := Hid.intro (HB.out.trans (b1.mono (by omega)))
            replace HR := Hid.intro (HR.out.kept (b1.mono (by omega)))
            clear b1
            by_cases h3 : hasP ⟨3, f, g, m, i, j, c, y, es, d⟩ ⟨0, 0, 0, 0, i, j, c, false, es, ⟨#[]⟩⟩
            · have k3 : decide (hasP ⟨3, f, g, m, i, j, c, y, es, d⟩ ⟨0, 0, 0, 0, i, j, c, false, es, ⟨#[]⟩⟩) = true := decide_eq_true h3
              simp only [k3]
              have H3 := Hid.intro (has3.1 h3)
              simp only at H3
              clear h3
              go_wp2_with fail
              have HO := batchOk_any ⟨3, f, g, m, i, j, c, y, es, d⟩ (.slice x es.length cap) N w1 (by omega) HR.out HL.out
              simp only [msV, msA] at HO
              refine HO.mono ?_
              clear HO
              rintro e w2 ⟨rfl, b2⟩
              replace HB := Hid.intro (HB.out.trans (b2.mono (by omega)))
              clear b2 c1 HR HL
              obtain ⟨q, hq⟩ : ∃ q, decide ((placeP i j ∧ j ≤ m) ∧ (0 ≤ c ∧ c ≤ 100000) ∧ es.length ≤ 4 ∧ bi (runB (max j 1) m es) = 1 ∧ i + es.length ≤ 100000) = q := ⟨_, rfl⟩
              try simp only
              rw [hq]
              have HQ := Hid.intro hq
              clear hq
              go_wp2
              go_ret
              refine ⟨ret_bool ?_, HB.out⟩
              have h3 := H3.out
              cases q with
              | true =>
                have h4 := of_decide_eq_true HQ.out
                exact msgB_yes (msgP_3.2 (by omega))
              | false =>
                have h4 := of_decide_eq_false HQ.out
                exact msgB_no (fun h => by replace h := msgP_3.1 h; omega)
            · have k3 : decide (hasP ⟨3, f, g, m, i, j, c, y, es, d⟩ ⟨0, 0, 0, 0, i, j, c, false, es, ⟨#[]⟩⟩) = false := decide_eq_false h3
              simp only [k3]
              replace h3 := mt has3.2 h3
              simp only at h3
              go_wp2_with fail
              go_ret
              exact ⟨ret_bool (msgB_no (fun h => by replace h := msgP_3.1 h; omega)), HB.out⟩
          · skip
            by_cases e4 : k = 4
            · subst e4
              go_wp2_with (first | (go_at_call 24; refine (twoServers_any _ _ _).mono ?_; rintro e w9 ⟨rfl, rfl⟩; simp only [k1]) | (go_at_call 25; refine (within_any _ _ _ _).mono ?_; rintro e w9 ⟨rfl, rfl⟩) | fail)
              have HO := hasOnly_any ⟨4, f, g, m, i, j, c, y, es, d⟩ ⟨0, 0, 0, 0, i, 0, 0, y, [], ⟨#[]⟩⟩ x none cap 0 W
              simp only [msV, msA, List.length_nil] at HO
              refine HO.mono ?_
              clear HO
              rintro e w1 ⟨rfl, b1⟩
              replace c1 := keepC b1 (by omega) c1
              simp only [msA] at c1
              have z1 := b1.size
              replace HB := Hid.intro (HB.out.trans (b1.mono (by omega)))
              replace HR := Hid.intro (HR.out.kept (b1.mono (by omega)))
              clear b1
              by_cases h3 : hasP ⟨4, f, g, m, i, j, c, y, es, d⟩ ⟨0, 0, 0, 0, i, 0, 0, y, [], ⟨#[]⟩⟩
              · have k3 : decide (hasP ⟨4, f, g, m, i, j, c, y, es, d⟩ ⟨0, 0, 0, 0, i, 0, 0, y, [], ⟨#[]⟩⟩) = true := decide_eq_true h3
                simp only [k3]
                have H3 := Hid.intro (has4.1 h3)
                simp only at H3
                clear h3
                by_cases h4 : 0 ≤ i ∧ i ≤ 100000
                · have k4 := inB_true h4
                  go_wp2_with (first | (go_at_call 25; refine (within_any _ _ _ _).mono ?_; rintro e w9 ⟨rfl, rfl⟩) | fail)
                  go_ret
                  have h3 := H3.out
                  exact ⟨ret_bool (msgB_yes (msgP_4.2 (by omega))), HB.out⟩
                · have k4 := inB_false h4
                  go_wp2_with (first | (go_at_call 25; refine (within_any _ _ _ _).mono ?_; rintro e w9 ⟨rfl, rfl⟩) | fail)
                  go_ret
                  have h3 := H3.out
                  exact ⟨ret_bool (msgB_no (fun h => by replace h := msgP_4.1 h; omega)), HB.out⟩
              · have k3 : decide (hasP ⟨4, f, g, m, i, j, c, y, es, d⟩ ⟨0, 0, 0, 0, i, 0, 0, y, [], ⟨#[]⟩⟩) = false := decide_eq_false h3
                simp only [k3]
                replace h3 := mt has4.2 h3
                simp only at h3
                go_wp2_with fail
                go_ret
                exact ⟨ret_bool (msgB_no (fun h => by replace h := msgP_4.1 h; omega)), HB.out⟩
            · skip
              by_cases e5 : k = 5
              · subst e5
                go_wp2_with (first | (go_at_call 24; refine (twoServers_any _ _ _).mono ?_; rintro e w9 ⟨rfl, rfl⟩; simp only [k1]) | (go_at_call 25; refine (within_any _ _ _ _).mono ?_; rintro e w9 ⟨rfl, rfl⟩) | fail)
                have HO := hasOnly_any ⟨5, f, g, m, i, j, c, y, es, d⟩ ⟨0, 0, 0, 0, i, j, 0, false, [], d⟩ x none cap 0 W
                simp only [msV, msA, List.length_nil] at HO
                refine HO.mono ?_
                clear HO
                rintro e w1 ⟨rfl, b1⟩
                replace c1 := keepC b1 (by omega) c1
                simp only [msA] at c1
                have z1 := b1.size
                replace HB := Hid.intro (HB.out.trans (b1.mono (by omega)))
                replace HR := Hid.intro (HR.out.kept (b1.mono (by omega)))
                clear b1
                by_cases h3 : hasP ⟨5, f, g, m, i, j, c, y, es, d⟩ ⟨0, 0, 0, 0, i, j, 0, false, [], d⟩
                · have k3 : decide (hasP ⟨5, f, g, m, i, j, c, y, es, d⟩ ⟨0, 0, 0, 0, i, j, 0, false, [], d⟩) = true := decide_eq_true h3
                  simp only [k3]
                  have H3 := Hid.intro (has5.1 h3)
                  simp only at H3
                  clear h3
                  go_wp2_with fail
                  have HO := snapshotOk_any ⟨5, f, g, m, i, j, c, y, es, d⟩ (.slice x es.length cap) w1
                  simp only [msV, msA] at HO
                  refine HO.mono ?_
                  clear HO
                  rintro e w2 ⟨rfl, b2⟩
                  replace HB := Hid.intro (HB.out.trans (b2.mono (by omega)))
                  clear b2 c1 HR HL
                  obtain ⟨q, hq⟩ : ∃ q, decide ((1 ≤ i ∧ i ≤ 100000) ∧ (1 ≤ j ∧ j ≤ m) ∧ d.size ≤ 20000) = q := ⟨_, rfl⟩
                  try simp only
                  rw [hq]
                  have HQ := Hid.intro hq
                  clear hq
                  go_wp2
                  go_ret
                  refine ⟨ret_bool ?_, HB.out⟩
                  have h3 := H3.out
                  cases q with
                  | true =>
                    have h4 := of_decide_eq_true HQ.out
                    exact msgB_yes (msgP_5.2 (by omega))
                  | false =>
                    have h4 := of_decide_eq_false HQ.out
                    exact msgB_no (fun h => by replace h := msgP_5.1 h; omega)
                · have k3 : decide (hasP ⟨5, f, g, m, i, j, c, y, es, d⟩ ⟨0, 0, 0, 0, i, j, 0, false, [], d⟩) = false := decide_eq_false h3
                  simp only [k3]
                  replace h3 := mt has5.2 h3
                  simp only at h3
                  go_wp2_with fail
                  go_ret
                  exact ⟨ret_bool (msgB_no (fun h => by replace h := msgP_5.1 h; omega)), HB.out⟩
              · skip
                have g1 : (k == 1) = false := by simpa using e1
                have g2 : (k == 2) = false := by simpa using e2
                have g3 : (k == 3) = false := by simpa using e3
                have g4 : (k == 4) = false := by simpa using e4
                have g5 : (k == 5) = false := by simpa using e5
                go_wp2_with (first | (go_at_call 24; refine (twoServers_any _ _ _).mono ?_; rintro e w9 ⟨rfl, rfl⟩; simp only [k1]) | (go_at_call 25; refine (within_any _ _ _ _).mono ?_; rintro e w9 ⟨rfl, rfl⟩) | fail)
                go_ret
                exact ⟨ret_bool (msgB_no (fun h => by replace h := msgP_k h; simp only at h; omega)), HB.out⟩
    · have k2 := inB_false h2
      go_wp2_with (first | (go_at_call 24; refine (twoServers_any _ _ _).mono ?_; rintro e w9 ⟨rfl, rfl⟩; simp only [k1]) | (go_at_call 25; refine (within_any _ _ _ _).mono ?_; rintro e w9 ⟨rfl, rfl⟩) | fail)
      go_ret
      exact ⟨ret_bool (msgB_no (fun h => by replace h := h.1; simp only at h; omega)), HB.out⟩
  · have k1 : decide (twoP f g) = false := decide_eq_false h1
    unfold twoP at h1
    go_wp2_with (first | (go_at_call 24; refine (twoServers_any _ _ _).mono ?_; rintro e w9 ⟨rfl, rfl⟩; simp only [k1]) | (go_at_call 25; refine (within_any _ _ _ _).mono ?_; rintro e w9 ⟨rfl, rfl⟩) | fail)
    go_ret
    exact ⟨ret_bool (msgB_no (fun h => by replace h := h.1; simp only at h; omega)), HB.out⟩
end Go.Proofs.Ytdnngbdkmdphoaa
