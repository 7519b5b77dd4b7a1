/- The program's ShowVol. -/
import Derived.Test.YtegdogdlohoheaaTShowIno
import Derived.Test.YtegdogdlohoheaaVImpJ
import Derived.Test.YtegdogdlohoheaaTCurP
namespace Go.Proofs.Ytegdogdlohoheaa
open Go.RowKit
set_option linter.unusedVariables false
def inosL (L : List Nd) : List UInt8 := L.flatMap shN
/-- What is shown of a volume. -/
def shV (next : Int) (L : List Nd) : ByteArray := if volB next L then ⟨(varL next.toNat ++ varL L.length ++ inosL L).toArray⟩ else ByteArray.empty
theorem shV_yes {next : Int} {L : List Nd} (h : volB next L = true) : shV next L = ⟨(varL next.toNat ++ varL L.length ++ inosL L).toArray⟩ := if_pos h
theorem shV_no {next : Int} {L : List Nd} (h : volB next L = false) : shV next L = ByteArray.empty := by simp [shV, h]
theorem inB_out {x a b : Int} (h : inB x a b = true) : a ≤ x ∧ x ≤ b := by simpa [inB] using h
theorem indB_id {M : List Nd} {next : Int} (l : List Nd) : ∀ {p : Option Int}, indB M next p l = true → ∀ n ∈ l, 1 ≤ n.id ∧ n.id ≤ next - 1 := by
 induction l with
 | nil => intro p _ n hn; cases hn
 | cons a l ih =>
  intro p h n hn
  rw [indB] at h
  simp only [Bool.and_eq_true] at h
  rcases List.mem_cons.1 hn with rfl | hn
  ·exact inB_out h.1.1.1
  ·exact ih h.2 n hn
theorem nmsB_mem {L : List Nd} (l : List Di) : ∀ {p : Option ByteArray}, nmsB L p l = true → ∀ e ∈ l, nameB e.nm.data.toList = true ∧ (atN L e.id).isSome = true := by
 induction l with
 | nil => intro p _ n hn; cases hn
 | cons a l ih =>
  intro p h n hn
  rw [nmsB] at h
  simp only [Bool.and_eq_true] at h
  rcases List.mem_cons.1 hn with rfl | hn
  ·exact ⟨h.1.1.1.1, h.1.2⟩
  ·exact ih h.2 n hn
theorem atN_mem {L : List Nd} {x : Int} {i : Nat} (h : atN L x = some i) : ∃ n ∈ L, n.id = x := by
 obtain ⟨h1, h2, _⟩ := atN_some.1 h
 exact ⟨L[i], List.getElem_mem h1, h2⟩
theorem ndB_of {next : Int} {L : List Nd} (h : volB next L = true) : (2 ≤ next ∧ next ≤ 100000) ∧ L.length ≤ 24 ∧ ∀ n ∈ L, NdB n := by
 unfold volB at h
 simp only [Bool.and_eq_true] at h
 obtain ⟨⟨⟨⟨⟨⟨h1, h2⟩, h3⟩, h4⟩, h5⟩, h6⟩, h7⟩ := h
 have hnext := inB_out h1
 have hlen := inB_out h2
 refine ⟨hnext, by omega, fun n hn => ?_⟩
 have hid := indB_id L h4 n hn
 have hnd := indB_mem L h4 n hn
 unfold nodeB at hnd
 simp only [Bool.and_eq_true] at hnd
 obtain ⟨⟨⟨m1, m2⟩, m3⟩, m4⟩ := hnd
 have m1 := inB_out m1
 have m2 := inB_out m2
 have m3 := inB_out m3
 have names0 : n.names = [] → ∀ j (h : j < n.names.length), n.names[j].nm.size ≤ 8 ∧ 0 ≤ n.names[j].id ∧ n.names[j].id ≤ 100000 := fun e j hj => by rw [e] at hj; simp at hj
 split at m4
 ·rename_i hk
  simp only [plainB, Bool.and_eq_true, decide_eq_true_eq] at m4
  exact ⟨by omega, by omega, m1, m2, m3, by omega, by omega, m4.2, by omega, names0 (List.length_eq_zero_iff.1 m4.1.1.1)⟩
 ·split at m4
  ·rename_i hk
   simp only [plainB, Bool.and_eq_true, decide_eq_true_eq] at m4
   have hp : n.data.size ≤ 60 := by
    have h9 := m4.1.2
    simp only [pbB, Bool.and_eq_true, decide_eq_true_eq] at h9
    have hs : n.data.data.toList.length = n.data.size := by simp
    omega
   exact ⟨by omega, by omega, m1, m2, m3, by omega, by omega, by omega, by omega, names0 (List.length_eq_zero_iff.1 m4.1.1.1.1)⟩
  ·split at m4
   ·rename_i hk
    simp only [Bool.and_eq_true, decide_eq_true_eq] at m4
    obtain ⟨⟨⟨⟨d1, d2⟩, d3⟩, d4⟩, d5⟩ := m4
    have d3 := inB_out d3
    have d4 := inB_out d4
    have hd0 : n.data.size = 0 := by
     have e := beq_iff_eq.1 d1
     exact size_of_nil e
    refine ⟨by omega, by omega, m1, m2, m3, d3, d4, by omega, d2, fun j hj => ?_⟩
    obtain ⟨e1, e2⟩ := nmsB_mem n.names d5 n.names[j] (List.getElem_mem hj)
    obtain ⟨i, hi⟩ := Option.isSome_iff_exists.1 e2
    obtain ⟨n2, hn2, e3⟩ := atN_mem hi
    have hid2 := indB_id L h4 n2 hn2
    simp only [nameB, Bool.and_eq_true, decide_eq_true_eq] at e1
    have hs : n.names[j].nm.data.toList.length = n.names[j].nm.size := by simp
    exact ⟨by omega, by omega, by omega⟩
   ·cases m4
theorem vars2_any (g : Nat) (w : World) (a b : Nat) (hg : g < w.heap.size) (h0 : a ≤ 100000) (h1 : b ≤ 100000) (hc : ∀ o, w.cell? ⟨g, o, none⟩ = #[Value.int .i64 (a : Nat), .int .i64 (b : Nat)][o]?) :
  Calls Try.prog 89 #[.slice (some ⟨g, 0, none⟩) 2 2] w fun e' w' => e' = .returned (.string ⟨(varsL [a, b]).toArray⟩) ∧ Below w.heap.size w w' := by
 have hx : ∀ j (h : j < [a, b].length), [a, b][j] ≤ 562949953421311 := fun j h => by
  have h2 : [a, b][j] ≤ 100000 := two_at (fun v => v ≤ 100000) h0 h1 j h
  omega
 have hcc : ∀ j (h : j < [a, b].length), w.cell? ⟨g, 0 + j, none⟩ = some (.int .i64 ([a, b][j] : Nat)) := fun j h => two_cells hc j h
 exact vars_any g 0 2 [a, b] w (by simp) hg hx (by simp) hcc
theorem inosL_snoc (L : List Np) (j : Nat) (h : j < L.length) : inosL ((L.take j).map Np.n) ++ shN L[j].n = inosL ((L.take (j + 1)).map Np.n) := by
 rw [List.take_succ_eq_append_getElem h]
 unfold inosL
 rw [List.map_append, List.flatMap_append]
 congr 1
 simp only [List.map_cons, List.map_nil, List.flatMap_cons, List.flatMap_nil, List.append_nil]
theorem inosL_le (L : List Nd) (h : ∀ n ∈ L, NdB n) : (inosL L).length ≤ 400 * L.length := by
 induction L with
 | nil => simp [inosL]
 | cons a L ih =>
  have h0 := shN_le (h a (by simp))
  have h1 := ih (fun n hn => h n (by simp [hn]))
  simp only [inosL, List.flatMap_cons, List.length_append, List.length_cons] at h1 ⊢
  omega
set_option maxRecDepth 100000 in
set_option maxHeartbeats 4000000 in
theorem implShowVol_any (next : Int) (L : List Np) (u : Value) (N : Nat) (w : World) (hN : N ≤ w.heap.size) (hr : VolR w N u L) (hw : ∀ p ∈ L, NdW p.n) :
  Calls Try.prog 88 #[volV next u] w fun e w' => e = .returned (.string (shV next (L.map Np.n))) ∧ Below w.heap.size w w' := by
 have HV := Hid.intro hr
 have HW := Hid.intro hw
 obtain ⟨a, cap, rfl, hl, hm, hcells⟩ := ndE_cell hr.row
 have HCC := Hid.intro hcells
 clear hr hw hcells
 cases hv : volB next (L.map Np.n) with
 | false =>
  rw [shV_no hv]
  go_enter Try.func88, Try.ntmps88
  go_wp2_with fail
  refine (implVolOk_any next L _ N _ (by simp; omega) (HV.out.kept ((one_below w _).mono hN)) HW.out).mono ?_
  rw [right_vol, hv]
  rintro e w1 ⟨rfl, b1⟩
  have B1 := (one_below w _).trans (b1.mono (by simp))
  go_wp2
  go_ret
  exact ⟨rfl, B1⟩
 | true =>
  obtain ⟨⟨hn1, hn2⟩, hl24, hnd⟩ := ndB_of hv
  rw [shV_yes hv]
  have HND : Hid (∀ p ∈ L, NdB p.n) := fun p hp => hnd p.n (List.mem_map_of_mem hp)
  obtain ⟨nx, rfl⟩ := Int.eq_ofNat_of_zero_le (show 0 ≤ next by omega)
  rw [List.length_map] at hl24
  simp only [Int.toNat_natCast, List.length_map]
  clear hnd
  go_enter Try.func88, Try.ntmps88
  go_wp2_with fail
  obtain ⟨W, hW, bW, zW, cW, fW⟩ := boxed w #[.int .i64 (nx : Nat), .slice a L.length cap] 24
  simp only [hW]
  refine (implVolOk_any nx L _ N W (by omega) (HV.out.kept (bW.mono hN)) HW.out).mono ?_
  rw [right_vol, hv]
  rintro e w1 ⟨rfl, b1⟩
  have z1 := b1.size
  have HX := Hid.intro (keepC b1 (by omega) cW)
  have BW : Below w.heap.size w w1 := bW.trans (b1.mono (by omega))
  have hlt1 : w.heap.size < w1.heap.size := by omega
  clear hW bW zW cW fW b1 z1 hv HW
  go_upto_region 4 with fail
  have HL := Hid.intro (bld_fresh w1)
  have BB : Below w1.heap.size w1 (w1.alloc (.cells #[.pointer none, .slice none 0 0] 86)) := one_below _ _
  generalize w1.alloc (.cells #[.pointer none, .slice none 0 0] 86) = U at HL BB ⊢
  replace HX := Hid.intro (keepC BB (by omega) HX.out)
  have k0 : U.cell? ⟨w.heap.size, 0, none⟩ = some (.int .i64 (nx : Nat)) := HX.out 0
  have k1 : U.cell? ⟨w.heap.size, 1, none⟩ = some (.slice a L.length cap) := HX.out 1
  go_wp2_with fail
  clear k0 k1
  obtain ⟨Z, hZ, bZ, zZ, cZ, fZ⟩ := boxed U #[Value.int .i64 (nx : Nat), .int .i64 (L.length : Nat)] 3
  simp only [hZ]
  have hzU := BB.size
  replace HX := Hid.intro (keepC bZ (by omega) HX.out)
  replace HL := Hid.intro (bld_kept HL.out bZ)
  replace BB := BB.trans (bZ.mono hzU)
  clear hZ bZ fZ
  refine (vars2_any U.heap.size Z nx L.length (by omega) (by omega) (by omega) cZ).mono ?_
  rintro e w2 ⟨rfl, b2⟩
  replace HX := Hid.intro (keepC b2 (by omega) HX.out)
  replace HL := Hid.intro (bld_kept HL.out b2)
  replace BB := BB.trans (b2.mono BB.size)
  clear b2 cZ zZ hzU
  have hvl : (varsL [nx, L.length]).length ≤ 14 := varsL_le [nx, L.length]
  go_wp2_with fail
  refine (bldWrite_any w1.heap.size w1.heap.size [] ⟨(varsL [nx, L.length]).toArray⟩ _ HL.out (by have e : (⟨(varsL [nx, L.length]).toArray⟩ : ByteArray).size = (varsL [nx, L.length]).length := rfl; rw [e]; simp only [List.length_nil]; omega) BB.size).mono ?_
  rintro e w3 ⟨rfl, hl2, b2⟩
  replace HX := Hid.intro (keepC b2 (by omega) HX.out)
  replace HL := Hid.intro hl2
  replace BB := BB.trans b2
  clear hl2 b2
  have HP : Hid (varL nx ++ varL L.length = varsL [nx, L.length]) := by
   unfold Hid varsL
   simp only [List.flatMap_cons, List.flatMap_nil, List.append_nil]
  simp only [List.nil_append] at HL
  generalize varsL [nx, L.length] = P at HL HP hvl
  have k1 : w3.cell? ⟨w.heap.size, 1, none⟩ = some (.slice a L.length cap) := HX.out 1
  have HBB := Hid.intro BB
  clear HX BB
  go_wp2
  clear k1
  go_loopw [20] (fun i wr => ∃ j : Nat, i = .int .i64 j ∧ j ≤ L.length ∧ Hid (BldAt w1.heap.size w1.heap.size (P ++ inosL ((L.take j).map Np.n)) wr) ∧ Hid (Below w1.heap.size w1 wr)) (fun i _ => L.length - (intOf i).toNat)
  case atStart => exact ⟨0, rfl, Nat.zero_le _, by unfold Hid; simpa [inosL] using HL.out, HBB⟩
  case round =>
   obtain ⟨j, rfl, hj, HL, BB⟩ := hrel
   have hzr := BB.out.size
   by_cases hlt : j < L.length
   ·obtain ⟨b, off, rfl, hbN, hcells⟩ := HCC.out (fun h => by rw [h] at hlt; simp at hlt)
    have HBW : Hid (Below w.heap.size w wr) := BW.trans (BB.out.mono (by omega))
    have hc := (hcells j hlt).kept HBW.out (by omega)
    have hst := inosL_snoc L j hlt
    have hpn := HND.out L[j] (List.getElem_mem hlt)
    have hrow := (HV.out.nms L[j] (List.getElem_mem hlt))
    have htk := inosL_le ((L.take j).map Np.n) (fun n hn => by
     obtain ⟨p, hp, rfl⟩ := List.mem_map.1 hn
     exact HND.out p (List.mem_of_mem_take hp))
    have htl : ((L.take j).map Np.n).length ≤ 24 := by simp; omega
    generalize L[j] = p at hc hst hpn hrow
    obtain ⟨g0, g1, g2, g3, g4, g5, g6, g7, g8⟩ := hc
    have hsh := shN_le hpn
    have HPN := Hid.intro hpn
    have HROW := Hid.intro hrow
    have HS := Hid.intro hst
    have hjl : (j : Int) < (L.length : Int) := by omega
    have i1 : (0 : Int) ≤ (j : Int) ∧ (j : Int) < (L.length : Int) := by omega
    clear hst hcells hpn hrow
    go_upto_region 8 with fail
    obtain ⟨Y, hY, bY, zY, cY, fY⟩ := boxed wr (ndA p.n p.v) 96
    simp only [hY]
    replace HL := Hid.intro (bld_kept HL.out bY)
    replace BB := Hid.intro (BB.out.trans (bY.mono hzr))
    have HBY := Hid.intro (HBW.out.trans (bY.mono (by omega)))
    have hzY : N ≤ Y.heap.size := by omega
    clear hY bY fY g0 g1 g2 g3 g4 g5 g6 g7 g8
    go_wp2_with fail
    clear cY
    refine (showInode_any p.n p.v N _ hzY (HROW.out.kept (HBY.out.mono hN)) HPN.out).mono ?_
    rintro e y1 ⟨rfl, b2⟩
    replace HL := Hid.intro (bld_kept HL.out b2)
    replace BB := Hid.intro (BB.out.trans (b2.mono (by omega)))
    clear b2
    go_wp2_with fail
    refine (bldWrite_any w1.heap.size w1.heap.size _ ⟨(shN p.n).toArray⟩ _ HL.out (by have e : (⟨(shN p.n).toArray⟩ : ByteArray).size = (shN p.n).length := rfl; rw [e]; simp only [List.length_append]; omega) BB.out.size).mono ?_
    rintro e y2 ⟨rfl, hl2, b2⟩
    have HL2 : Hid (BldAt w1.heap.size w1.heap.size (P ++ inosL ((L.take (j + 1)).map Np.n)) y2) := by
     rw [← HS.out]
     unfold Hid
     simpa only [List.append_assoc] using hl2
    replace BB := Hid.intro (BB.out.trans b2)
    clear hl2 b2 HL HS HPN HROW
    go_wp2
    go_roundw
    case rel => exact ⟨j + 1, by go_num, by omega, HL2, BB⟩
    case measure => simp [intOf]; omega
   ·have hlt' : ¬ (j : Int) < (L.length : Int) := by omega
    have e1 : L.take j = L := List.take_of_length_le (by omega)
    rw [e1] at HL
    go_wp2_with fail
    refine (bldString_any w1.heap.size w1.heap.size (P ++ inosL (L.map Np.n)) _ HL.out hzr).mono ?_
    rintro e y ⟨rfl, b2⟩
    have B2 := BW.trans ((BB.out.trans b2).mono (by omega))
    go_wp2
    go_ret
    exact ⟨ret_str (by rw [HP.out]), B2⟩
end Go.Proofs.Ytegdogdlohoheaa
