/- Usage, on both sides. -/
import Derived.Test.YtfllkhkopogngaaVImpJ
import Derived.Test.YtfllkhkopogngaaVSpecE
namespace Go.Proofs.Ytfllkhkopogngaa
open Go.RowKit Go.Maps
set_option linter.unusedVariables false
theorem dirNil_any (id : Int) (w : World) (hw : (Lit.int .i64 id).wf = true) :
    Calls Try.prog 37 #[.map none, .int .i64 id] w fun e w' => e = .returned (.pointer none) ∧ w = w' := by
  have hl := Maps.look_nil (P := Try.prog) (w := w) (t := 50) (e := 56) false int_law Try.underlying50 (zeroP w) (key_int hw)
  simp only [Bool.false_eq_true, if_false] at hl
  go_enter Try.func37, Try.ntmps37
  go_wp2
  go_ret
  exact ⟨rfl, rfl⟩
/-- What a right volume is good for. -/
structure Good (L : List Np) : Prop where
  ids : IdsD (L.map Np.n)
  ld : Leads L
  n24 : L.length ≤ 24
  sm : ∀ p ∈ L, p.n.data.size ≤ 64 ∧ p.n.names.length ≤ 12
  pos : 0 < L.length
  root : ∀ h : 0 < L.length, L[0].n.id = 1
  each : eachB (L.map Np.n) = true
  whole : wholeI (L.map Np.n) = true
theorem good_of {next : Int} {L : List Np} (hw : ∀ p ∈ L, NdW p.n) (h : rightB next (L.map Np.n) = true) : Good L := by
  unfold rightB at h
  simp only [Bool.and_eq_true] at h
  obtain ⟨⟨⟨hib, heb⟩, hwb⟩, -⟩ := h
  unfold idsB at hib
  simp only [Bool.and_eq_true] at hib
  obtain ⟨⟨⟨i1, i2⟩, i3⟩, i4⟩ := hib
  have hnx : 2 ≤ next ∧ next ≤ 100000 := by simpa [inB] using i1
  have hlw : (1 : Int) ≤ (L.length : Int) ∧ (L.length : Int) ≤ 24 := by simpa [inB] using i2
  refine ⟨ids_of i4 hnx.2, each_leads hw heb, by omega, fun p hp => (nodeB_small (each_node heb p hp)).1, by omega, fun h0 => ?_, heb, hwb⟩
  unfold headI at i3
  rw [List.head?_map, List.head?_eq_getElem?, List.getElem?_eq_getElem h0] at i3
  simpa using i3
def usageB (next : Int) (L : List Nd) (id : Int) : Int × Int := if volB next L = true then (match dirO L id with | some x => (usB L (belowB L x), usI (belowB L x)) | none => (0, 0)) else (0, 0)
theorem usageB_no {next : Int} {L : List Nd} {id : Int} (h : volB next L = false) : usageB next L id = (0, 0) := by simp [usageB, h]
theorem usageB_none {next : Int} {L : List Nd} {id : Int} (h : dirO L id = none) : usageB next L id = (0, 0) := by simp [usageB, h]
theorem usageB_some {next : Int} {L : List Nd} {id : Int} {x : Nat} (h : volB next L = true) (hx : dirO L id = some x) : usageB next L id = (usB L (belowB L x), usI (belowB L x)) := by simp [usageB, h, hx]
theorem dirO_at {L : List Nd} {id : Int} {x : Nat} (h : dirO L id = some x) : atN L id = some x := by
  unfold dirO at h
  cases ha : atN L id with
  | none => rw [ha] at h; cases h
  | some y =>
    rw [ha] at h
    simp only [Option.bind_some] at h
    split at h
    · cases h; rfl
    · cases h
set_option maxRecDepth 100000 in
set_option maxHeartbeats 2000000 in
theorem l4Dir_any (next : Int) (L : List Np) (u : Value) (N : Nat) (id : Int) (w : World) (hN : N ≤ w.heap.size) (hr : VolR w N u L) :
    Calls Try.prog 35 #[volV next u, .int .i64 id] w fun e w' => e = .returned (.bool (dirO (L.map Np.n) id).isSome) ∧ Below w.heap.size w w' := by
  have HV := Hid.intro hr
  obtain ⟨a, cap, rfl, hl, hm, hcells⟩ := ndE_cell hr.row
  have HC := Hid.intro hcells
  clear hcells hr
  go_enter Try.func35, Try.ntmps35
  go_wp2_with fail
  obtain ⟨W, hW, bW, zW, cW, fW⟩ := boxed w #[.int .i64 next, .slice a L.length cap] 29
  try simp only [hW]
  clear hW fW
  refine (l4At_any next L _ N id W (by omega) (HV.out.kept (bW.mono hN))).mono ?_
  rintro e w1 ⟨rfl, b1⟩
  replace cW := keepC b1 (by omega) cW
  have HB := Hid.intro (bW.trans (b1.mono (by omega)))
  clear b1 bW
  cases hat : atN (L.map Np.n) id with
  | none =>
    have he := atI_none hat
    have HD := Hid.intro (dirO_none hat)
    simp only [he]
    clear he hat
    go_wp2_with fail
    go_ret
    exact ⟨ret_bool (by rw [HD.out]; rfl), HB.out⟩
  | some x =>
    have he := atI_some hat
    have hx : x < L.length := by have := atN_lt hat; simpa using this
    obtain ⟨b, off, rfl, hbN, hcc⟩ := HC.out (by intro h; rw [h] at hx; simp at hx)
    have hc := hcc x hx
    have hd := dirO_some hat (map_get hx)
    generalize L[x] = p at hc hd
    have g1 := (hc.kept HB.out (by omega)).c1
    have i1 : (0 : Int) ≤ (x : Int) ∧ (x : Int) < (L.length : Int) := by omega
    simp only [he]
    clear he hat hcc hc
    by_cases hk : p.n.kind = 2
    · have k2 : (p.n.kind == 2) = true := by simpa using hk
      rw [if_pos hk] at hd
      have HD := Hid.intro hd
      clear hd hk
      go_wp2_with fail
      go_ret
      exact ⟨ret_bool (by rw [HD.out]; rfl), HB.out⟩
    · have k2 : (p.n.kind == 2) = false := by simpa using hk
      rw [if_neg hk] at hd
      have HD := Hid.intro hd
      clear hd hk
      go_wp2_with fail
      go_ret
      exact ⟨ret_bool (by rw [HD.out]; rfl), HB.out⟩
set_option maxRecDepth 100000 in
set_option maxHeartbeats 2000000 in
theorem specUsage_any (next : Int) (L : List Np) (u : Value) (N : Nat) (id : Int) (w : World) (hN : N ≤ w.heap.size) (hr : VolR w N u L) (hw : ∀ p ∈ L, NdW p.n) (hid : (Lit.int .i64 id).wf = true) :
    Calls Try.prog 17 #[volV next u, .int .i64 id] w fun e w' => e = .returned (.tuple #[.int .i64 (usageB next (L.map Np.n) id).1, .int .i64 (usageB next (L.map Np.n) id).2]) ∧ Below w.heap.size w w' := by
  have HV := Hid.intro hr
  have HW := Hid.intro hw
  obtain ⟨a, cap, rfl, hl, hm, -⟩ := ndE_cell hr.row
  clear hr hw
  go_enter Try.func17, Try.ntmps17
  go_wp2_with fail
  obtain ⟨W, hW, bW, zW, cW, fW⟩ := boxed w #[.int .i64 next, .slice a L.length cap] 29
  try simp only [hW]
  clear hW fW
  refine (specVolOk_any next L _ N W (by omega) (HV.out.kept (bW.mono hN)) (fun p hp => (HW.out p hp).1)).mono ?_
  rintro e w1 ⟨rfl, b1⟩
  replace cW := keepC b1 (by omega) cW
  have HB := Hid.intro (bW.trans (b1.mono (by omega)))
  have z1 : w.heap.size < w1.heap.size := by have := b1.size; omega
  clear b1 bW zW
  cases hvb : volB next (L.map Np.n) with
  | false =>
    have HU := Hid.intro (usageB_no (id := id) hvb)
    go_wp2_with fail
    go_ret2
    exact ⟨by rw [HU.out]; rfl, HB.out⟩
  | true =>
    have hg := good_of HW.out (by rw [right_vol]; exact hvb)
    have HSM : Hid (SmN L) := ⟨hg.n24, hg.sm⟩
    clear hg
    go_wp2_with fail
    refine (l4Dir_any next L _ N id w1 (by omega) (HV.out.kept (HB.out.mono hN))).mono ?_
    rintro e w2 ⟨rfl, b2⟩
    replace cW := keepC b2 z1 cW
    replace HB := Hid.intro (HB.out.trans (b2.mono (by omega)))
    have z2 : w.heap.size < w2.heap.size := by have := b2.size; omega
    clear b2
    cases hd : dirO (L.map Np.n) id with
    | none =>
      have HU := Hid.intro (usageB_none (next := next) hd)
      simp only [Option.isSome_none]
      go_wp2_with fail
      go_ret2
      exact ⟨by rw [HU.out]; rfl, HB.out⟩
    | some x =>
      have HU := Hid.intro (usageB_some hvb hd)
      have HBL := Hid.intro (belL_some (dirO_at hd))
      simp only [Option.isSome_some]
      clear hd
      go_wp2_with fail
      refine (l4Usage_any next L _ N id w2 (by omega) (HV.out.kept (HB.out.mono hN)) HSM.out).mono ?_
      rw [HBL.out]
      rintro e w3 ⟨rfl, b3⟩
      have HBE := Hid.intro (HB.out.trans (b3.mono (by omega)))
      clear b3 cW
      go_wp2_with fail
      go_ret2
      exact ⟨by rw [HU.out]; rfl, HBE.out⟩
set_option maxRecDepth 100000 in
set_option maxHeartbeats 2000000 in
theorem implUsage_any (next : Int) (L : List Np) (u : Value) (N : Nat) (id : Int) (w : World) (hN : N ≤ w.heap.size) (hr : VolR w N u L) (hw : ∀ p ∈ L, NdW p.n) (hid : (Lit.int .i64 id).wf = true) :
    Calls Try.prog 18 #[volV next u, .int .i64 id] w fun e w' => e = .returned (.tuple #[.int .i64 (usageB next (L.map Np.n) id).1, .int .i64 (usageB next (L.map Np.n) id).2]) ∧ Below w.heap.size w w' := by
  have HV := Hid.intro hr
  have HW := Hid.intro hw
  have HID := Hid.intro hid
  obtain ⟨a, cap, rfl, hl, hm, -⟩ := ndE_cell hr.row
  clear hr hw hid
  go_enter Try.func18, Try.ntmps18
  go_wp2_with fail
  obtain ⟨W, hW, bW, zW, cW, fW⟩ := boxed w #[.int .i64 next, .slice a L.length cap] 29
  try simp only [hW]
  clear hW fW
  refine (right_any next L _ N W (by omega) (HV.out.kept (bW.mono hN)) HW.out).mono ?_
  rintro e w1 ⟨m, rfl, ht, hf, b1⟩
  have HB := Hid.intro (bW.trans (b1.mono (by omega)))
  have HTT := Hid.intro ht
  have HFF := Hid.intro hf
  clear b1 bW zW cW ht hf
  cases hvb : rightB next (L.map Np.n) with
  | false =>
    have HU := Hid.intro (usageB_no (id := id) (by rw [← right_vol]; exact hvb))
    have hmn := HFF.out hvb
    subst hmn
    go_wp2_with fail
    refine (dirNil_any id w1 HID.out).mono ?_
    rintro e w2 ⟨rfl, rfl⟩
    go_wp2_with fail
    go_ret2
    exact ⟨by rw [HU.out]; rfl, HB.out⟩
  | true =>
    have HG := Hid.intro (good_of HW.out hvb)
    obtain ⟨tb, b, off, hmn, htc⟩ := HTT.out hvb
    subst hmn
    have HTC := Hid.intro htc
    clear htc
    go_wp2_with fail
    refine (dir_any L tb b off N id w1 HTC.out HID.out).mono ?_
    rintro e w2 ⟨rfl, rfl⟩
    cases hd : dirO (L.map Np.n) id with
    | none =>
      have HU := Hid.intro (usageB_none (next := next) hd)
      simp only [ptrO]
      go_wp2_with fail
      go_ret2
      exact ⟨by rw [HU.out]; rfl, HB.out⟩
    | some x =>
      have HU := Hid.intro (usageB_some (by rw [← right_vol]; exact hvb) hd)
      have hx : x < L.length := by have := atN_lt (dirO_at hd); simpa using this
      simp only [ptrO]
      clear hd
      go_wp2_with fail
      refine (used_any L tb b off N HG.out.ids HG.out.ld HG.out.n24 (fun p hp => (HG.out.sm p hp).1) x hx w1 HTC.out).mono ?_
      rintro e w3 ⟨rfl, b3⟩
      have HBE := Hid.intro (HB.out.trans (b3.mono HB.out.size))
      clear b3
      go_wp2_with fail
      go_ret2
      exact ⟨by rw [HU.out]; rfl, HBE.out⟩
end Go.Proofs.Ytfllkhkopogngaa
