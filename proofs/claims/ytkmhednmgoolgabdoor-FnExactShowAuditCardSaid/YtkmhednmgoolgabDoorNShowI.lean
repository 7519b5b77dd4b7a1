/- The program's ShowAudit. -/
import Derived.Test.YtkmhednmgoolgabDoorNNoteI
namespace Go.Proofs.YtkmhednmgoolgabDoor
open Go.RowKit
set_option linter.unusedVariables false
theorem infoS' : (Tryd.prog.info? 9).map (fun i => (i.zero, i.size, i.bytes)) = some (some (.string ⟨#[]⟩), 1, 16) := by kernel_rfl
theorem info_parts2 {t : TypeId} {z : Option Value} {s b : Nat} (h : (Tryd.prog.info? t).map (fun i => (i.zero, i.size, i.bytes)) = some (z, s, b)) : ∃ i, Tryd.prog.info? t = some i ∧ i.zero = z ∧ i.size = s ∧ i.bytes = b := by
  cases hi : Tryd.prog.info? t with
  | none => rw [hi] at h; cases h
  | some i =>
    rw [hi] at h
    simp only [Option.map_some, Option.some.injEq, Prod.mk.injEq] at h
    exact ⟨i, rfl, h.1, h.2.1, h.2.2⟩
def cellsS (L : List ByteArray) : List Value := L.map (fun x => Value.string x)
theorem cellsS_snoc (L : List ByteArray) (x : ByteArray) : cellsS (L ++ [x]) = cellsS L ++ [.string x] := by simp [cellsS]
/-- strings.Join of a row that the call owns. -/
theorem join_own (v : Value) (B : Nat) (M : List ByteArray) (w : World) (h : w.ownsRow B 9 1 v M.length (cellsS M)) (hM : M.length ≤ 1000) (hlen : (Lib.join (M.map (·.data.toList)) [32]).length ≤ 100000) :
    Calls Tryd.prog 15 #[v, .string ⟨#[32]⟩] w fun e w' => e = .returned (.string ⟨(Lib.join (M.map (·.data.toList)) [32]).toArray⟩) ∧ Below w.heap.size w w' := by
  rcases h.2 with ⟨hv, hn⟩ | ⟨g, cap, cur, rfl, hg, hgg, hc, hm, rest⟩
  · have hM0 : M = [] := List.eq_nil_of_length_eq_zero hn
    subst hM0 hv
    refine (sh_strings_Join_none none 0 ⟨#[32]⟩ w).mono ?_
    rintro e w' ⟨rfl, rfl⟩
    exact ⟨rfl, Below.refl _ _⟩
  · refine (join_any g M.length cap M ⟨#[32]⟩ w rfl (fun j x hx => ?_) (Array.getElem?_eq_some_iff.1 hgg).1 (by omega) hc (by simpa using (show (Lib.join (M.map (·.data.toList)) [32]).length ≤ 140737488355328 by omega))).mono ?_
    · have h1 := World.ownsRow.cells h (g := g) rfl j (.string x) (by simp only [cellsS, List.getElem?_map, hx, Option.map_some])
      rw [add_none, Nat.zero_add] at h1
      exact h1
    · rintro e w' ⟨rfl, hb⟩
      exact ⟨by simp, hb⟩
theorem less6 (n : Nat) : ∃ m : Nat, lessI 6 [(n : Int)] = (m : Int) ∧ m ≤ 6 ∧ m ≤ n ∧ (m = 6 ∨ m = n) := by
  show ∃ m : Nat, (if (n : Int) < 6 then (n : Int) else 6) = (m : Int) ∧ m ≤ 6 ∧ m ≤ n ∧ (m = 6 ∨ m = n)
  by_cases h : n < 6
  · exact ⟨n, by rw [if_pos (by omega)], by omega, by omega, by omega⟩
  · exact ⟨6, by rw [if_neg (by omega)]; rfl, by omega, by omega, by omega⟩
set_option maxRecDepth 100000 in
set_option maxHeartbeats 8000000 in
theorem implShowAudit_any (L : List Nt) (v : Value) (fr : Int) (N : Nat) (w : World) (hN : N ≤ w.heap.size) (hr : Row ntE w N v L) (hlo : -9223372036854775808 ≤ fr) (hhi : fr ≤ 9223372036854775807) (ht : ∀ w', Below w.heap.size w w' → tabOk w') :
    Calls Tryd.prog 7 #[v, .int .i64 fr] w fun e w' => e = .returned (.string (showS L fr)) ∧ Below w.heap.size w w' := by
  have HT := Hid.intro ht
  clear ht
  obtain ⟨a, cap, rfl, hl, hm, hcells⟩ := ntE_cell hr
  have HC0 := Hid.intro hcells
  have HR := Hid.intro hr
  clear hcells hr
  cases hA : auditB L with
  | false =>
    have hS := showS_no (.inl hA) (fr := fr)
    rw [hS]
    go_enter Tryd.func7, Tryd.ntmps7
    go_wp2_with fail
    refine (implAuditOk_any L _ N w hN HR.out).mono ?_
    rintro e w1 ⟨rfl, b1⟩
    simp only [hA]
    go_wp2
    go_ret
    exact ⟨rfl, b1⟩
  | true =>
    by_cases hneg : fr < 0
    · have hS := showS_no (.inr hneg) (L := L)
      rw [hS]
      go_enter Tryd.func7, Tryd.ntmps7
      go_wp2_with fail
      refine (implAuditOk_any L _ N w hN HR.out).mono ?_
      rintro e w1 ⟨rfl, b1⟩
      simp only [hA]
      go_wp2
      go_ret
      exact ⟨rfl, b1⟩
    · obtain ⟨f, rfl⟩ := Int.eq_ofNat_of_zero_le (show 0 ≤ fr by omega)
      have HS := Hid.intro (showS_yes hA f)
      have HE := Hid.intro (audit_each hA)
      have h20 := audit_len hA
      obtain ⟨i0, hi0, hz0, hz1, hz2⟩ := info_parts2 infoS'
      go_enter Tryd.func7, Tryd.ntmps7
      go_wp2_with fail
      refine (implAuditOk_any L _ N w hN HR.out).mono ?_
      rintro e w1 ⟨rfl, b1⟩
      have HB1 := Hid.intro b1
      have hz1' := b1.size
      clear b1
      simp only [hA]
      go_wp2_with fail
      obtain ⟨X, hX, bX, zX, cX, fX⟩ := boxed w1 #[.int .i64 (L.length : Int)] 3
      simp only [hX]
      refine (lesser_any (f : Int) [(L.length : Int)] _ X.heap.size X (Nat.le_refl _) (row1 (cX 0) (by omega))).mono ?_
      rintro e w2 ⟨rfl, rfl⟩
      have HB2 : Hid (Below w.heap.size w X) := HB1.out.trans (bX.mono hz1')
      clear hX bX cX fX HB1
      by_cases hfl : f < L.length
      · have e1 : lessI (f : Int) [(L.length : Int)] = (f : Int) := by
          show (if (L.length : Int) < (f : Int) then (L.length : Int) else (f : Int)) = _
          rw [if_neg (by omega)]
        rw [e1]
        clear e1
        have hcf : ¬ cap = f := by omega
        obtain ⟨b2, o2, rfl, hb2, hdd⟩ := HC0.out (by intro h; rw [h] at hfl; simp at hfl)
        have HDD := Hid.intro hdd
        clear hdd
        have q2 : (0 : Int) ≤ (f : Int) ∧ (f : Int) ≤ (L.length : Int) := by omega
        obtain ⟨n, hn⟩ : ∃ n, L.length - f = n := ⟨_, rfl⟩
        have HN := Hid.intro hn
        go_wp2_with fail
        try simp only [hn]
        obtain ⟨Y, hY, bY, zY, cY, fY⟩ := boxed X #[.int .i64 (n : Int)] 3
        try simp only [hY]
        rw [zX] at cY
        refine (lesser_any 6 [(n : Int)] _ Y.heap.size Y (Nat.le_refl _) (row1 (cY 0) (by omega))).mono ?_
        rintro e w3 ⟨rfl, rfl⟩
        have HB3 : Hid (Below w.heap.size w Y) := HB2.out.trans (bY.mono HB2.out.size)
        obtain ⟨m, hmm, hm6, hmn, hmor⟩ := less6 n
        rw [hmm]
        clear hY bY zY cY fY HB2 hmm
        have q3 : (0 : Int) ≤ (m : Int) ∧ (m : Int) ≤ (n : Int) := by omega
        have hfn : f + n = L.length := by omega
        clear hn
        go_wp2_with fail
        go_loopw [6, 30] (fun sv i wr => ∃ (j : Nat), i = .int .i64 (j : Nat) ∧ j ≤ m ∧ Hid (wr.ownsRow w.heap.size 9 1 sv j (cellsS (((L.drop f).take j).map noteS))) ∧ Hid (Below w.heap.size w wr)) (fun _ i _ => m - (intOf i).toNat)
        case atStart => exact ⟨0, rfl, Nat.zero_le _, (by unfold Hid; exact World.ownsRow_nil _ _ _ _), HB3⟩
        case round =>
          obtain ⟨j, rfl, hj, HO, HBW⟩ := hrel
          have hzr := HBW.out.size
          have hsl : (((L.drop f).take j).map noteS).length = j := by simp; omega
          by_cases hlt : j < m
          · have hlt' : (j : Int) < (m : Int) := by omega
            have i1 : (0 : Int) ≤ (j : Int) ∧ (j : Int) < (m : Int) := by omega
            obtain ⟨c0, c1, c2, c3, c4⟩ := HDD.out (f + j) (by omega)
            have hx := HE.out L[f + j] (List.getElem_mem (by omega))
            have hst : ((L.drop f).take (j + 1)).map noteS = ((L.drop f).take j).map noteS ++ [noteS L[f + j]] := by
              rw [List.take_succ_eq_append_getElem (by simp; omega), List.map_append]
              simp [List.getElem_drop]
            generalize L[f + j] = x at c0 c1 c2 c3 c4 hx hst
            generalize hM : ((L.drop f).take j).map noteS = M at hst HO hsl
            clear hM
            have ea : o2 + (f + j) * 5 = o2 + f * 5 + j * 5 := by omega
            rw [ea] at c0 c1 c2 c3 c4
            replace c0 := atCell HBW.out c0 (by omega)
            replace c1 := atCell HBW.out c1 (by omega)
            replace c2 := atCell HBW.out c2 (by omega)
            replace c3 := atCell HBW.out c3 (by omega)
            replace c4 := atCell HBW.out c4 (by omega)
            have HST := Hid.intro hst
            have HX := Hid.intro hx
            clear hst hx ea
            go_upto_region 8 with fail
            obtain ⟨U, hU, bU, zU, cU, fU⟩ := boxed wr (ntA x) 32
            try simp only [hU]
            have k0 : U.cell? ⟨wr.heap.size, 0, none⟩ = some (.int .i64 x.i) := cU 0
            have k1 : U.cell? ⟨wr.heap.size, 1, none⟩ = some (.int .i64 x.c) := cU 1
            have k2 : U.cell? ⟨wr.heap.size, 2, none⟩ = some (.int .i64 x.s) := cU 2
            have k3 : U.cell? ⟨wr.heap.size, 3, none⟩ = some (.int .i64 x.k) := cU 3
            have k4 : U.cell? ⟨wr.heap.size, 4, none⟩ = some (.int .i64 x.d) := cU 4
            have HBU : Hid (Below w.heap.size w U) := HBW.out.trans (bU.mono hzr)
            have HOU : Hid (U.ownsRow w.heap.size 9 1 u6 j (cellsS M)) := HO.out.kept (row := none) ⟨bU.os, bU.tape, bU.output, bU.size, fun k hk _ => bU.block k hk⟩ (Classical.em _)
            clear hU bU cU fU HO HBW c0 c1 c2 c3 c4
            go_wp2_with fail
            refine (showNote_any x U HX.out (fun w' hb => HT.out w' (HBU.out.trans (hb.mono HBU.out.size)))).mono ?_
            rintro e V ⟨rfl, bV⟩
            have HBV : Hid (Below w.heap.size w V) := HBU.out.trans (bV.mono HBU.out.size)
            have HOV : Hid (V.ownsRow w.heap.size 9 1 u6 j (cellsS M)) := HOU.out.kept (row := none) ⟨bV.os, bV.tape, bV.output, bV.size, fun k hk _ => bV.block k hk⟩ (Classical.em _)
            clear bV HOU HBU k0 k1 k2 k3 k4
            have hbs1 := HBV.out.size
            have hown := HOV.out
            clear HOV
            go_wp2_with (at_builtin; refine wpList_append_own _ rfl _ _ 36 rfl w.heap.size 9 i0 (.string ⟨#[]⟩) 1 16 Tryd.underlying36 hi0 hz0 hz1 hz2 rfl (by decide) _ _ _ rfl (hown.alloc _) ⟨V.heap.size, 0, none⟩ 1 1 [.string (noteS x)] rfl rfl ?c1 ?c2 ?c3 ?c4 ?c5 ?_)
            case c1 => exact cell_one_new _ _ _
            case c2 => intro u hu; simp at hu; subst hu; rfl
            case c3 => unfold maxLen; omega
            case c4 => omega
            case c5 => simp; omega
            intro v' w2 hown' hgrow _
            rw [← cellsS_snoc, ← HST.out] at hown'
            have B2 : Hid (Below w.heap.size w w2) := HBV.out.trans (((Below.refl _ _).alloc (Nat.le_refl _) _ |>.mono hbs1).trans (((Below.refl _ _)).grown hgrow (by simp; omega) (fun k hk => (hown.lt k hk).1)))
            have HO2 : Hid (w2.ownsRow w.heap.size 9 1 v' (j + 1) (cellsS (((L.drop f).take (j + 1)).map noteS))) := by
              unfold Hid
              simpa using hown'
            clear hgrow hown hown'
            go_wp2
            go_roundw
            case rel => exact ⟨j + 1, by go_num, by omega, HO2, B2⟩
            case measure => simp [intOf]; omega
          · obtain rfl : j = m := by omega
            have hlt' : ¬ (j : Int) < (j : Int) := by omega
            have hres : (⟨(Lib.join ((((L.drop f).take j).map noteS).map (·.data.toList)) [32]).toArray⟩ : ByteArray) = showS L (f : Nat) := by
              rw [HS.out]
              unfold accS accL
              rw [show f + 6 - f = 6 by omega, List.map_map]
              congr 3
              have : (L.drop f).take 6 = (L.drop f).take j := by
                rcases hmor with h | h
                · rw [h]
                · rw [List.take_of_length_le (by simp; omega), List.take_of_length_le (by simp; omega)]
              rw [this]
              apply List.map_congr_left
              intro x _
              simp [noteS]
            have hjs : (Lib.join ((((L.drop f).take j).map noteS).map (·.data.toList)) [32]).length ≤ 100000 := by
              have h1 := acc_size HE.out f (f + 6) (by omega)
              have h2 := congrArg ByteArray.size (hres.trans HS.out)
              have h3 : (Lib.join ((((L.drop f).take j).map noteS).map (·.data.toList)) [32]).toArray.size = (accS L f (f + 6)).size := h2
              simp only [List.size_toArray] at h3
              omega
            have HRES := Hid.intro hres
            have HJS := Hid.intro hjs
            clear hres hjs
            go_wp2_with fail
            refine (join_own u6 w.heap.size _ wr (by rw [hsl]; exact HO.out) (by rw [hsl]; omega) HJS.out).mono ?_
            rintro e w9 ⟨rfl, b9⟩
            have HBF : Hid (Below w.heap.size w w9) := HBW.out.trans (b9.mono hzr)
            rw [HRES.out]
            clear b9
            go_wp2
            go_ret
            exact ⟨rfl, HBF.out⟩
      · have e1 : lessI (f : Int) [(L.length : Int)] = (L.length : Int) := by
          show (if (L.length : Int) < (f : Int) then (L.length : Int) else (f : Int)) = _
          split <;> omega
        rw [e1]
        clear e1
        have q2 : (0 : Int) ≤ (L.length : Int) ∧ (L.length : Int) ≤ (L.length : Int) := by omega
        have hE : showS L (f : Nat) = ⟨#[]⟩ := by
          rw [HS.out]
          unfold accS accL
          rw [List.drop_eq_nil_of_le (by omega), List.take_nil]
          rfl
        have HEE := Hid.intro hE
        clear hE HE HS
        go_wp2_with fail
        all_goals
          obtain ⟨Y, hY, bY, zY, cY, fY⟩ := boxed X #[.int .i64 0] 3
          try simp only [hY]
          rw [zX] at cY
          refine (lesser_any 6 [(0 : Int)] _ Y.heap.size Y (Nat.le_refl _) (row1 (cY 0) (by omega))).mono ?_
          rintro e w3 ⟨rfl, rfl⟩
          have HB3 : Hid (Below w.heap.size w Y) := HB2.out.trans (bY.mono HB2.out.size)
          have e0 : lessI 6 [(0 : Int)] = 0 := by decide
          rw [e0]
          clear hY bY zY cY fY HB2 e0
          go_wp2_with fail
          go_loopw [6, 30] (fun sv i wr => i = .int .i64 0 ∧ sv = .slice none 0 0 ∧ Hid (Below w.heap.size w wr)) (fun _ _ _ => 0)
          case atStart => exact ⟨rfl, rfl, HB3⟩
          case round =>
            obtain ⟨rfl, rfl, HBW⟩ := hrel
            go_wp2_with fail
            refine (sh_strings_Join_none none 0 ⟨#[32]⟩ wr).mono ?_
            rintro e w9 ⟨rfl, rfl⟩
            go_wp2
            go_ret
            exact ⟨ret_str HEE.out.symm, HBW.out⟩
end Go.Proofs.YtkmhednmgoolgabDoor
