/- What is shown of a state; ShowState on both sides; the law. -/
import Derived.Test.YtknckbedddeijaaGreatXSta
import Derived.Test.YtknckbedddeijaaGreatXShowS
namespace Go.Proofs.YtknckbedddeijaaGreat
open Go.RowKit
set_option linter.unusedVariables false
theorem ba_ofS (s : ByteArray) : (⟨s.data.toList.toArray⟩ : ByteArray) = s := by
 obtain ⟨⟨l⟩⟩ := s
 rfl
def pcL (t : Ten) : List UInt8 := varL (shTen t.key).size ++ (shTen t.key).data.toList
def pcsL (l : List Ten) : List UInt8 := l.flatMap pcL
/-- What is shown of a state. -/
def shSt (L : List Ten) : ByteArray := if stateB L then ⟨(pcsL L).toArray⟩ else ByteArray.empty
theorem shSt_yes {L : List Ten} (h : stateB L = true) : shSt L = ⟨(pcsL L).toArray⟩ := if_pos h
theorem shSt_no {L : List Ten} (h : stateB L = false) : shSt L = ByteArray.empty := by simp [shSt, h]
theorem pcsL_key {L M : List Ten} (h : L.map Ten.key = M.map Ten.key) : pcsL L = pcsL M := by
 have h1 : ∀ L : List Ten, pcsL L = (L.map Ten.key).flatMap (fun k => varL (shTen k).size ++ (shTen k).data.toList) := fun L => by unfold pcsL; rw [List.flatMap_map]; rfl
 rw [h1, h1, h]
theorem shSt_key {L M : List Ten} (h : L.map Ten.key = M.map Ten.key) : shSt L = shSt M := by
 unfold shSt
 rw [stateB_key h, pcsL_key h]
theorem tenL_le {nx : Int} {L : List Nd} {tk : Int} {A : List Nt} {S : List Se} (h : tenB (nx, L, tk, A, S) = true) : (tenL (nx, L, tk, A, S)).length ≤ 12100 := by
 obtain ⟨b1, b2, b3, b4, b5, b6⟩ := tenB_of h
 have h1 := shV_le b1
 have h2 := varL_le (shV nx L).size
 have h3 := varsL_le [tk.toNat, A.length]
 have h4 := notsL_le A
 have h5 := varL_le S.length
 have h6 := sessL_le S b6
 have h7 : (shV nx L).data.toList.length = (shV nx L).size := by simp
 simp only [tenL, List.length_append, List.length_cons, List.length_nil] at h3 ⊢
 omega
theorem shTen_le (k : Int × List Nd × Int × List Nt × List Se) : (shTen k).size ≤ 12100 := by
 cases h : tenB k with
 | false => rw [shTen_no h]; decide
 | true =>
  obtain ⟨nx, L, tk, A, S⟩ := k
  rw [shTen_yes h]
  exact tenL_le h
theorem pcL_le (t : Ten) : (pcL t).length ≤ 12107 := by
 have h1 := shTen_le t.key
 have h2 := varL_le (shTen t.key).size
 have h3 : (shTen t.key).data.toList.length = (shTen t.key).size := by simp
 simp only [pcL, List.length_append]
 omega
theorem pcsL_le (l : List Ten) : (pcsL l).length ≤ 12107 * l.length := by
 induction l with
 | nil => simp [pcsL]
 | cons a l ih =>
  have h1 := pcL_le a
  simp only [pcsL, List.flatMap_cons, List.length_append, List.length_cons] at ih ⊢
  omega
theorem pcsL_snoc (l : List Ten) (j : Nat) (h : j < l.length) : pcsL (l.take j) ++ pcL l[j] = pcsL (l.take (j + 1)) := by
 rw [List.take_succ_eq_append_getElem h]
 simp only [pcsL, List.flatMap_append, List.flatMap_cons, List.flatMap_nil, List.append_nil]
theorem stateB_len {L : List Ten} (h : stateB L = true) : L.length = 3 := by
 simp only [stateB, Bool.and_eq_true, decide_eq_true_eq] at h
 exact h.1
set_option maxRecDepth 100000 in
set_option maxHeartbeats 8000000 in
theorem specShowState_any (L : List Ten) (v : Value) (N : Nat) (w : World) (hN : N ≤ w.heap.size) (hr : StR w N v L) (hz : ∀ t ∈ L, TenW t) :
  Calls Tryz.prog 11 #[v] w fun e w' => e = .returned (.string (shSt L)) ∧ Below w.heap.size w w' := by
 have HR := Hid.intro hr
 have HZ := Hid.intro hz
 cases hv : stateB L with
 | false =>
  rw [shSt_no hv]
  go_enter Tryz.func11, Tryz.ntmps11
  go_wp2_with fail
  refine (specStateOk_any L v N w hN hr hz).mono ?_
  rw [hv]
  rintro e w1 ⟨rfl, b1⟩
  go_wp2
  go_ret
  exact ⟨rfl, b1⟩
 | true =>
  rw [shSt_yes hv]
  have h3 := stateB_len hv
  go_enter Tryz.func11, Tryz.ntmps11
  go_wp2_with fail
  refine (specStateOk_any L v N w hN hr hz).mono ?_
  rw [hv]
  rintro e w1 ⟨rfl, b1⟩
  have z1 := b1.size
  obtain ⟨a, cap, rfl, hl, hm, hcells⟩ := tnE_cell (HR.out.row.kept (b1.mono hN))
  have HCA := Hid.intro hcells
  have HT : Hid (∀ t ∈ L, TenR w1 N t) := fun t ht => (HR.out.ten t ht).kept (b1.mono hN)
  have BW := Hid.intro b1
  clear hcells hl hm b1 hr hv HR hz
  go_wp2_with fail
  go_loopw [3, 4] (fun x i wr => ∃ (j : Nat) (s : ByteArray), i = .int .i64 j ∧ x = .string s ∧ j ≤ L.length ∧ s.size ≤ 12107 * j ∧ Hid (s.data.toList = pcsL (L.take j)) ∧ Hid (Below w1.heap.size w1 wr)) (fun _ i _ => L.length - (intOf i).toNat)
  case atStart => exact ⟨0, ⟨#[]⟩, rfl, rfl, Nat.zero_le _, (by decide), by unfold Hid; simp [pcsL], Below.refl _ _⟩
  case round =>
   obtain ⟨j, s, rfl, rfl, hj, hsj, HP, HB⟩ := hrel
   have hzr := HB.out.size
   by_cases hlt : j < L.length
   ·obtain ⟨b, off, rfl, hbN, hcc⟩ := HCA.out (fun h => by rw [h] at hlt; simp at hlt)
    have hd := (hcc j hlt).at HB.out (by omega)
    have hst := pcsL_snoc L j hlt
    have htr := (HT.out _ (List.getElem_mem hlt)).kept (HB.out.mono (by omega))
    have htw := HZ.out _ (List.getElem_mem hlt)
    generalize L[j] = ej at hd hst htr htw
    obtain ⟨g0, g1, g2, g3, g4⟩ := hd
    have HST := Hid.intro hst
    have HRR := Hid.intro htr
    have HWW := Hid.intro htw
    have hjl : (j : Int) < (L.length : Int) := by omega
    have i1 : (0 : Int) ≤ (j : Int) ∧ (j : Int) < (L.length : Int) := by omega
    clear hst htr htw hcc
    go_wp2_with fail
    refine (specShowTenant_any ej N wr (by omega) HRR.out HWW.out).mono ?_
    rintro e w2 ⟨rfl, b2⟩
    replace HB := Hid.intro (HB.out.trans (b2.mono hzr))
    have hle := shTen_le ej.key
    have HPC : Hid (pcL ej = varL (shTen ej.key).size ++ (shTen ej.key).data.toList) := rfl
    clear b2 g0 g1 g2 g3 g4 HRR HWW
    generalize shTen ej.key = u at hle HPC ⊢
    go_wp2_with fail
    refine (specPiece_any u _ (by omega)).mono ?_
    rintro e w3 ⟨rfl, b3⟩
    replace HB := Hid.intro (HB.out.trans (b3.mono HB.out.size))
    have hpl := piece_le u
    have HQ : Hid ((s ++ piece u).data.toList = pcsL (L.take (j + 1))) := by
     unfold Hid
     rw [ba_app, HP.out, piece_toList, ← HPC.out, HST.out]
    clear b3 HP HPC HST
    generalize piece u = pu at hpl HQ ⊢
    have hsz2 : s.size + pu.size ≤ 281474976710656 := by omega
    have hsz : (s.size : Int) + (pu.size : Int) ≤ 281474976710656 := by omega
    have hsz3 : (s ++ pu).size ≤ 12107 * (j + 1) := by simp only [ByteArray.size_append]; omega
    go_wp2
    go_roundw
    case rel => exact ⟨j + 1, s ++ pu, by go_num, rfl, by omega, hsz3, HQ, HB⟩
    case measure => simp [intOf]; omega
   ·obtain rfl : j = L.length := by omega
    have HF : Hid (s = ⟨(pcsL L).toArray⟩) := by
     have h := HP.out
     rw [List.take_length] at h
     unfold Hid
     rw [← h, ba_ofS]
    replace HB := Hid.intro (BW.out.trans (HB.out.mono z1))
    go_wp2_with fail
    go_ret
    exact ⟨by rw [HF.out]; rfl, HB.out⟩
end Go.Proofs.YtknckbedddeijaaGreat
