/- The contract of the specification's Clean. -/
import Derived.Test.YtmkofkdcjeidhaaSParts
import Derived.Maps.AppendAt
namespace Go.Proofs.Ytmkofkdcjeidhaa
open Go.RowKit
set_option linter.unusedVariables false

theorem toList_mk (l : List UInt8) : (ByteArray.mk l.toArray).toList = l := by rw [ByteArray.toList_eq]
theorem append_mk (a b : List UInt8) : (ByteArray.mk a.toArray) ++ ⟨b.toArray⟩ = ⟨(a ++ b).toArray⟩ := by
  apply ByteArray.ext
  rw [ByteArray.data_append]
  apply Array.ext'
  simp
theorem cat_take (L : List (List UInt8)) (j : Nat) (h : j < L.length) : cat (L.take (j + 1)) = cat (L.take j) ++ (47 :: L[j]) := by
  rw [List.take_succ_eq_append_getElem h, cat_append]
  simp [cat]
theorem cat_take_le (L : List (List UInt8)) (j : Nat) : (cat (L.take j)).length ≤ (cat L).length := by
  have h : cat L = cat (L.take j) ++ cat (L.drop j) := by rw [← cat_append, List.take_append_drop]
  rw [h]
  simp

theorem RowS.textAt {w : World} {base g cap n : Nat} {L : List (List UInt8)} (hn : L.length = n) (h : RowS w base (.slice (some ⟨g, 0, none⟩) n cap) L) (j : Nat) (hj : j < L.length) : w.cell? ⟨g, j, none⟩ = some (.string ⟨L[j].toArray⟩) := by
  subst hn
  exact h.at j hj

set_option maxHeartbeats 400000 in
theorem join_empty (a : Option Addr) (c : Nat) (w : World) :
    Calls Try.prog 38 #[.slice a 0 c] w fun e w' => e = .returned (.string ⟨(joinL []).toArray⟩) ∧ w = w' := by
  go_enter Try.func38, Try.ntmps38
  go_wp2
  go_ret
  exact ⟨rfl, rfl⟩

set_option maxHeartbeats 400000 in
theorem join_some (g c base n : Nat) (L : List (List UInt8)) (w : World) (hn : Hid (L.length = n)) (h0 : 0 < n) (hc : (cat L).length ≤ 1000) (r : Hid (RowS w base (.slice (some ⟨g, 0, none⟩) n c) L)) :
    Calls Try.prog 38 #[.slice (some ⟨g, 0, none⟩) n c] w fun e w' => e = .returned (.string ⟨(joinL L).toArray⟩) ∧ w = w' := by
  have hnl : n ≤ 1000 := by have := cat_len L; rw [hn.out] at this; omega
  have g0 : ((n : Int) == 0) = false := by simp; omega
  have HJ : Hid (joinL L = cat L) := by
    unfold Hid joinL
    rw [if_neg]
    intro e
    have := hn.out
    rw [e] at this
    simp at this
    omega
  go_enter Try.func38, Try.ntmps38
  go_wp2
  go_loop [3, 4] (fun o i => ∃ j : Nat, i = .int .i64 j ∧ j ≤ n ∧ o = .string ⟨(cat (L.take j)).toArray⟩) (fun _ i => n - (intOf i).toNat)
  case atStart => exact ⟨0, rfl, Nat.zero_le _, rfl⟩
  case round =>
    obtain ⟨j, rfl, hj, rfl⟩ := hrel
    by_cases hlt : j < n
    · have hjl : j < L.length := by rw [hn.out]; exact hlt
      have hcell := r.out.textAt hn.out j hjl
      have HC : Hid (cat (L.take (j + 1)) = cat (L.take j) ++ (47 :: L[j])) := cat_take L j hjl
      have hle := cat_take_le L j
      have hle1 : L[j].length + 1 ≤ (cat L).length := cat_mem (List.getElem_mem hjl)
      generalize L[j] = x at *
      generalize cat (L.take j) = y at *
      have z1 : (ByteArray.mk y.toArray).size ≤ 1000 := by show y.toArray.size ≤ 1000; simp; omega
      have z2 : (ByteArray.mk x.toArray).size ≤ 1000 := by show x.toArray.size ≤ 1000; simp; omega
      go_wp2
      go_round
      case rel => exact ⟨j + 1, by go_num, by omega, val_str (by rw [HC.out, show (ByteArray.mk #[47]) = ByteArray.mk [47].toArray from rfl, append_mk, append_mk]; simp)⟩
      case measure => simp [intOf]; omega
    · obtain rfl : j = n := by omega
      have HT : Hid (L.take j = L) := List.take_of_length_le (by rw [hn.out]; exact Nat.le_refl _)
      go_wp2
      go_ret
      exact ⟨ret_str (by rw [HT.out, HJ.out]), rfl⟩

/-- The row v, n texts, is L. -/
theorem join_any {w : World} {base : Nat} {v : Value} {L : List (List UInt8)} (hc : (cat L).length ≤ 1000) (r : RowS w base v L) :
    Calls Try.prog 38 #[v] w fun e w' => e = .returned (.string ⟨(joinL L).toArray⟩) ∧ w = w' := by
  by_cases h0 : L = []
  · obtain ⟨a1, c1, rfl⟩ : ∃ a c, v = .slice a 0 c := by
      rcases r.look with ⟨rfl, _⟩ | ⟨g, cap, rfl, _⟩
      · exact ⟨_, _, rfl⟩
      · rw [h0]; exact ⟨_, _, rfl⟩
    subst h0
    exact join_empty a1 c1 w
  · obtain ⟨g1, c1, rfl⟩ : ∃ g c, v = .slice (some ⟨g, 0, none⟩) L.length c := by
      rcases r.look with ⟨_, h⟩ | ⟨g, cap, rfl, _⟩
      · exact absurd h h0
      · exact ⟨_, _, rfl⟩
    exact join_some g1 c1 base L.length L w rfl (by cases L with | nil => exact absurd rfl h0 | cons a r => simp) hc r

theorem clean_no {l : List UInt8} (h : pathB l = false) : clean l = [] := by simp [clean, h]
theorem clean_yes {l : List UInt8} (h : pathB l = true) : clean l = joinL (cleanL (partsL l)) := by simp [clean, h]

/-- What Clean's loop has found: st is left of the first j parts. -/
def CInv (P : List (List UInt8)) (j n : Nat) (st : List (List UInt8)) : Prop := st.length = n ∧ n ≤ j ∧ cleanFrom st (P.drop j) = cleanL P
theorem CInv.start (P : List (List UInt8)) : CInv P 0 0 [] := ⟨rfl, Nat.le_refl _, rfl⟩
theorem CInv.one {P : List (List UInt8)} {j n : Nat} {st : List (List UInt8)} (h : CInv P j n st) (hj : j < P.length) (hx : (P[j] == [46]) = true) : CInv P (j + 1) n st := by
  obtain ⟨h1, h2, h3⟩ := h
  refine ⟨h1, by omega, ?_⟩
  have e : P[j] = [46] := by simpa using hx
  rw [List.drop_eq_getElem_cons hj, e] at h3
  rw [← h3]
  simp [cleanFrom, stepC]
theorem CInv.push {P : List (List UInt8)} {j n : Nat} {st : List (List UInt8)} (h : CInv P j n st) (hj : j < P.length) (hx : (P[j] == [46]) = false) (hy : (P[j] == [46, 46]) = false) : CInv P (j + 1) (n + 1) (st ++ [P[j]]) := by
  obtain ⟨h1, h2, h3⟩ := h
  refine ⟨by simp [h1], by omega, ?_⟩
  have e1 : P[j] ≠ [46] := by simpa using hx
  have e2 : P[j] ≠ [46, 46] := by simpa using hy
  rw [List.drop_eq_getElem_cons hj] at h3
  have e3 : stepC st P[j] = st ++ [P[j]] := by rw [stepC, if_neg e1, if_neg e2]
  rw [← h3, ← e3]
  rfl
theorem CInv.pop {P : List (List UInt8)} {j m : Nat} {st : List (List UInt8)} (h : CInv P j (m + 1) st) (hj : j < P.length) (hy : (P[j] == [46, 46]) = true) : CInv P (j + 1) m st.dropLast := by
  obtain ⟨h1, h2, h3⟩ := h
  refine ⟨by simp [h1], by omega, ?_⟩
  have e : P[j] = [46, 46] := by simpa using hy
  rw [List.drop_eq_getElem_cons hj, e] at h3
  rw [← h3]
  simp [cleanFrom, stepC]
theorem CInv.none {P : List (List UInt8)} {j : Nat} {st : List (List UInt8)} (h : CInv P j 0 st) (hj : j < P.length) (hy : (P[j] == [46, 46]) = true) : CInv P (j + 1) 0 st := by
  obtain ⟨h1, h2, h3⟩ := h
  refine ⟨h1, by omega, ?_⟩
  have e : P[j] = [46, 46] := by simpa using hy
  have e0 : st = [] := List.eq_nil_of_length_eq_zero h1
  rw [List.drop_eq_getElem_cons hj, e] at h3
  rw [← h3, e0]
  simp [cleanFrom, stepC]
theorem CInv.done {P : List (List UInt8)} {n : Nat} {st : List (List UInt8)} (h : CInv P P.length n st) : st = cleanL P := by
  have h3 := h.2.2
  rw [List.drop_length] at h3
  exact h3

/-- A row with its length named. -/
def RowN (w : World) (base g n cap : Nat) (L : List (List UInt8)) : Prop := L.length = n ∧ RowS w base (.slice (some ⟨g, 0, none⟩) n cap) L
theorem RowN.own {w : World} {base g n cap : Nat} {L : List (List UInt8)} (h : RowN w base g n cap L) : w.ownsRow base 9 1 (.slice (some ⟨g, 0, none⟩) n cap) n (sVals L) := by
  obtain ⟨rfl, h2⟩ := h
  exact h2
theorem RowN.of {w : World} {base g n cap : Nat} {L : List (List UInt8)} (hl : L.length = n) (h : w.ownsRow base 9 1 (.slice (some ⟨g, 0, none⟩) n cap) n (sVals L)) : RowN w base g n cap L := by
  subst hl
  exact ⟨rfl, h⟩
theorem RowN.push {w : World} {base n : Nat} {v : Value} {L : List (List UInt8)} {x : List UInt8} (hl : L.length = n) (h : w.ownsRow base 9 1 v (n + 1) (sVals L ++ [.string ⟨x.toArray⟩])) (hv : ¬ v = .slice none 0 0) : ∃ g cap, v = .slice (some ⟨g, 0, none⟩) (n + 1) cap ∧ RowN w base g (n + 1) cap (L ++ [x]) := by
  have h2 : w.ownsRow base 9 1 v (n + 1) (sVals (L ++ [x])) := by rw [sVals_append]; exact h
  rcases h2.2 with ⟨hv', _⟩ | ⟨g, cap, cur, rfl, _⟩
  · exact absurd hv' hv
  · exact ⟨g, cap, rfl, RowN.of (by simp [hl]) h2⟩
theorem RowN.pop {w : World} {base g m cap : Nat} {L : List (List UInt8)} (h : RowN w base g (m + 1) cap L) : RowN w base g m cap L.dropLast := by
  have ho := h.own
  obtain ⟨hl, _⟩ := h
  have hne : L ≠ [] := by intro e; rw [e] at hl; simp at hl
  have e : L = L.dropLast ++ [L.getLast hne] := (List.dropLast_concat_getLast hne).symm
  rw [e, sVals_append] at ho
  exact RowN.of (by simp [hl]) (ownsRow_pop (by rw [sVals_length]; simp [hl]) ho)
theorem RowN.capLe {w : World} {base g n cap : Nat} {L : List (List UInt8)} (h : RowN w base g n cap L) : n ≤ cap ∧ cap ≤ 9223372036854775807 := by
  rcases h.2.look with ⟨h, _⟩ | ⟨g', cap', h, _, _, h1, h2⟩
  · cases h
  · cases h
    rw [h.1] at h1
    exact ⟨h1, h2⟩

set_option maxHeartbeats 400000 in
theorem specClean_no (s : ByteArray) (w : World) (hs : s.size ≤ 1048576) (hp : pathB s.data.toList = false) :
    Calls Try.prog 23 #[.string s] w fun e w' => e = .returned (.string ⟨#[]⟩) ∧ Below w.heap.size w w' := by
  go_enter Try.func23, Try.ntmps23
  go_wp2_with (go_at_call 12; refine (specPathOk_any _ _ hs).mono ?_; rintro e w1 ⟨rfl, rfl⟩)
  go_ret
  exact ⟨rfl, Below.refl _ _⟩

set_option maxHeartbeats 1000000 in
theorem specClean_yes (s : ByteArray) (w : World) (hs : s.size ≤ 60) (hp : pathB s.data.toList = true) :
    Calls Try.prog 23 #[.string s] w fun e w' => e = .returned (.string ⟨(joinL (cleanL (partsL s.data.toList))).toArray⟩) ∧ Below w.heap.size w w' := by
  obtain ⟨i0, hi0, hz0, hz1, hz2⟩ := info_parts Try.info9
  have HB := Hid.intro (clean_bound (l := s.data.toList) (by rw [size_data]; exact hs))
  have hb2 := parts_bound (l := s.data.toList) (by rw [size_data]; exact hs)
  have SP := Hid.intro (fun w => specParts_yes s w hs hp)
  generalize hP : partsL s.data.toList = P at *
  have hPn := cat_len P
  clear hP
  go_enter Try.func23, Try.ntmps23
  go_wp2_with (go_at_call 12; refine (specPathOk_any _ _ (by omega)).mono ?_; rintro e w1 ⟨rfl, rfl⟩)
  refine (SP.out _).mono ?_
  rintro e w2 ⟨v0, rfl, r0, b2⟩
  have hsz2 : w.heap.size + 1 ≤ w2.heap.size := by have := b2.size; simpa using this
  have bb2 : Below w.heap.size w w2 := ((Below.refl _ w).alloc (Nat.le_refl _) _).trans (b2.mono (by simp))
  have ro : RowN w2 w.heap.size w.heap.size 0 0 [] := RowN.of rfl (World.ownsRow.kept (startS w) (w' := w2) (row := none) ⟨b2.os, b2.tape, b2.output, b2.size, fun k hk _ => b2.block k hk⟩ (by right; simp [Value.ownBlock]))
  clear b2
  rcases r0.look with ⟨rfl, hP0⟩ | ⟨gl, cl, rfl, hgl, hgl2, hcl⟩
  · subst hP0
    go_wp2
    refine wp_loop_rounds 1 ?_
    rw [rounds_succ]
    go_wp2_with fail
    refine (join_any (L := []) (by simp [cat]) ro.own).mono ?_
    rintro e w3 ⟨rfl, rfl⟩
    go_wp2
    go_ret
    exact ⟨rfl, bb2⟩
  · have hgl3 : w.heap.size < gl := by
      have : w.heap.size + 1 ≤ gl := by simpa using hgl
      omega
    have RL : Hid (RowS w2 w.heap.size (.slice (some ⟨gl, 0, none⟩) P.length cl) P) := r0.lower (by simp)
    have hPl : P.length ≤ 61 := by omega
    clear r0 hgl hcl SP
    go_wp2
    go_loopw [3, 5] (fun v i wr => ∃ (g cap n j : Nat) (st : List (List UInt8)), v = .slice (some ⟨g, 0, none⟩) n cap ∧ i = .int .i64 j ∧ j ≤ P.length ∧ n ≤ cap ∧ cap ≤ 9223372036854775807 ∧ n ≤ j ∧ g ≠ gl ∧ Hid (CInv P j n st) ∧ Hid (RowN wr w.heap.size g n cap st) ∧ Hid (RowS wr w.heap.size (.slice (some ⟨gl, 0, none⟩) P.length cl) P) ∧ Below w.heap.size w wr) (fun _ i _ => P.length - (intOf i).toNat)
    case atStart => exact ⟨w.heap.size, 0, 0, 0, [], rfl, rfl, Nat.zero_le _, Nat.le_refl _, by omega, Nat.le_refl _, by omega, CInv.start P, ro, RL, bb2⟩
    case round =>
      obtain ⟨g, cap, n, j, st, rfl, rfl, hj, hcap, hcap2, hnj, hgg, HI, HR, HL, hbel⟩ := hrel
      have hbs := hbel.size
      clear ro RL bb2
      by_cases hlt : j < P.length
      · have hcell := HL.out.at j hlt
        have hcell' : wr.cell? ⟨gl, j, none⟩ = some (.string ⟨P[j].toArray⟩) := hcell
        clear hcell
        cases hx : (P[j] == [46]) with
        | true =>
          have HX := Hid.intro hx
          go_wp2
          go_roundw
          case rel => exact ⟨g, cap, n, j + 1, st, rfl, by go_num, by omega, hcap, hcap2, by omega, hgg, HI.out.one hlt HX.out, HR, HL, hbel⟩
          case measure => simp [intOf]; omega
        | false =>
          have HX := Hid.intro hx
          cases hy : (P[j] == [46, 46]) with
          | false =>
            have HY := Hid.intro hy
            go_wp2_with (at_builtin; refine wpList_append_own_at _ rfl _ _ 29 rfl w.heap.size 9 i0 (.string ⟨#[]⟩) 1 16 Try.underlying29 hi0 hz0 hz1 hz2 rfl (by decide) _ _ _ rfl (World.ownsRow.alloc HR.out.own _) ⟨wr.heap.size, 0, none⟩ 1 1 [.string ⟨P[j].toArray⟩] rfl rfl ?c1A ?c2A ?c3A ?c4A ?c5A ?_)
            case c1A => exact cell_one_new _ _ _
            case c2A => intro u hu; simp at hu; subst hu; rfl
            case c3A => unfold maxLen; omega
            case c4A => omega
            case c5A => simp; omega
            intro v' w4 hown' hgrow hne hat
            obtain ⟨g', cap', hv', hrow'⟩ := RowN.push HI.out.1 hown' hne
            have hgg' : g' ≠ gl := by
              rw [hv'] at hat
              have hlt' := (World.ownsRow.lt HL.out gl rfl).2
              rcases hat with h | h
              · have : g' = g := by simpa [Value.ownBlock] using h
                omega
              · have : g' = wr.heap.size + 1 := by simpa [Value.ownBlock] using h
                omega
            have HL' : Hid (RowS w4 w.heap.size (.slice (some ⟨gl, 0, none⟩) P.length cl) P) := World.ownsRow.kept (World.ownsRow.alloc HL.out _) hgrow (by right; simpa [Value.ownBlock] using fun e => hgg e.symm)
            have hb' := HR.out.2.bel hbel hbs hgrow
            have HR' := Hid.intro hrow'
            obtain ⟨hc1, hc2⟩ := hrow'.capLe
            rw [hv']
            clear hgrow hown' hne hat hv' hrow' HL HR hbel
            go_wp2
            go_roundw
            case rel => exact ⟨g', cap', n + 1, j + 1, st ++ [P[j]], rfl, by go_num, by omega, hc1, hc2, by omega, hgg', HI.out.push hlt HX.out HY.out, HR', HL', hb'⟩
            case measure => simp [intOf]; omega
          | true =>
            have HY := Hid.intro hy
            cases n with
            | zero =>
              go_wp2
              go_roundw
              case rel => exact ⟨g, cap, 0, j + 1, st, rfl, by go_num, by omega, hcap, hcap2, by omega, hgg, HI.out.none hlt HY.out, HR, HL, hbel⟩
              case measure => simp [intOf]; omega
            | succ m =>
              go_wp2
              go_roundw
              case rel => exact ⟨g, cap, m, j + 1, st.dropLast, rfl, by go_num, by omega, by omega, hcap2, by omega, hgg, HI.out.pop hlt HY.out, HR.out.pop, HL, hbel⟩
              case measure => simp [intOf]; omega
      · obtain rfl : j = P.length := by omega
        have HD : Hid (st = cleanL P) := HI.out.done
        go_wp2_with fail
        refine (join_any (L := st) (by rw [HD.out]; exact Nat.le_trans HB.out (by omega)) (by have := HR.out; rw [RowN] at this; obtain ⟨h1, h2⟩ := this; exact h2)).mono ?_
        rintro e w3 ⟨rfl, rfl⟩
        go_wp2
        go_ret
        exact ⟨ret_str (by rw [HD.out]), hbel⟩

theorem specClean_any (s : ByteArray) (w : World) (hs : s.size ≤ 1048576) :
    Calls Try.prog 23 #[.string s] w fun e w' => e = .returned (.string ⟨(clean s.data.toList).toArray⟩) ∧ Below w.heap.size w w' := by
  cases hp : pathB s.data.toList with
  | false => rw [clean_no hp]; exact specClean_no s w hs hp
  | true => rw [clean_yes hp]; exact specClean_yes s w (by have := (pathB_len hp).2; rwa [size_data] at this) hp

end Go.Proofs.Ytmkofkdcjeidhaa
