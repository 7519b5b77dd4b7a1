/- Walk: the program's. -/
import Derived.Test.YtmkegmndcbpblaaGreatDoorWTo
import Derived.Test.YtmkegmndcbpblaaGreatDoorVImpJ
import Derived.Test.YtmkegmndcbpblaaGreatDoorPLeaf
import Derived.Test.YtmkegmndcbpblaaGreatDoorWLeft
namespace Go.Proofs.YtmkegmndcbpblaaGreatDoor
open Go.RowKit Go.Maps
set_option linter.unusedVariables false
set_option linter.unusedSimpArgs false
theorem root_dirW {next : Int} {L : List Np} (hG : Good L) (hv : volB next (L.map Np.n) = true) : dirO (L.map Np.n) 1 = some 0 := by
 have h0 := hG.pos
 have h1 := hG.ids.at_ 0 (by simpa using h0)
 rw [List.getElem_map, hG.root h0] at h1
 have hk : L[0].n.kind = 2 := by
  unfold volB at hv
  simp only [Bool.and_eq_true] at hv
  have hh := hv.1.1.1.1.2
  cases L with
  | nil => simp at h0
  | cons a l =>
   simp only [headB, List.map_cons, List.head?_cons, Option.map_some, Option.getD_some, Bool.and_eq_true, decide_eq_true_eq] at hh
   exact hh.2
 rw [dirO_some h1 (map_get h0), if_pos hk]
set_option maxRecDepth 100000 in
set_option maxHeartbeats 8000000 in
theorem wayTo_any (next : Int) (L : List Np) (u : Value) (c : Cr) (cv : Value) (path : ByteArray) (follow : Bool) (N : Nat) (E : Nat → Addr) (w : World) (hN : N ≤ w.heap.size) (hr : VolR w N u L) (hw : ∀ p ∈ L, NdW p.n) (hcr : Row intE w N cv c.l) (hE : ErrW w E) (h6 : 6 ≤ w.heap.size) (hp : path.size ≤ 9223372036854775807) (ans : Sp) (hans : ans = if volB next (L.map Np.n) = true ∧ credB c = true ∧ pathB path.data.toList = true then walkW (L.map Np.n) (fun n => mayB c n 1) follow 1 (partsL path.data.toList) 0 else sp0 22) :
  Calls Tryz.prog 21 #[.agg #[.int .i64 next, u], .agg #[.int .i64 c.u, .int .i64 c.g, cv], .string path, .bool follow] w fun e w' => e = .returned (.tuple #[spW ans, erV E ans.code]) ∧ Below w.heap.size w w' ∧ EndC ans.code := by
 obtain ⟨ua, uc, rfl, _, _⟩ := hr.row.slice
 obtain ⟨ca, cc, rfl, _, _⟩ := hcr.slice
 have HA := Hid.intro hans
 have HV := Hid.intro hr
 have HR := Hid.intro hcr
 have HZ := Hid.intro hw
 have HE := Hid.intro hE
 clear hr hcr hw hE hans
 go_enter Tryz.func21, Tryz.ntmps21
 go_upto_region 1 with fail
 obtain ⟨W, hW, bW, zW, c0, f0, c1, f1, c2, f2⟩ := boxed3 w #[.int .i64 next, .slice ua L.length uc] #[.int .i64 c.u, .int .i64 c.g, .slice ca c.l.length cc] spot0 35 37 31
 simp only [spot0] at hW
 try simp only [hW]
 have HS : Hid (Blk W (w.heap.size + 1 + 1) spot0) := ⟨by omega, c2, f2⟩
 have HY : Hid (∀ y, Below W.heap.size W y → (∀ o, y.cell? ⟨w.heap.size + 1, o, none⟩ = (#[.int .i64 c.u, .int .i64 c.g, .slice ca c.l.length cc] : Array Value)[o]?) ∧ Blk y (w.heap.size + 1 + 1) spot0 ∧ N ≤ y.heap.size ∧ VolR y N (.slice ua L.length uc) L ∧ Row intE y N (.slice ca c.l.length cc) c.l ∧ ErrW y E ∧ Below w.heap.size w y ∧ W.heap.size ≤ y.heap.size) := fun y hy => by
  have hz := hy.size
  have hb := bW.trans (hy.mono (by omega))
  exact ⟨keepC hy (by omega) c1, HS.out.kept hy, by omega, HV.out.kept (hb.mono hN), HR.out.kept (hb.mono hN), HE.out.kept h6 hb, hb, hz⟩
 have k0 : W.cell? ⟨w.heap.size, 0, none⟩ = some (.int .i64 next) := c0 0
 have k1 : W.cell? ⟨w.heap.size, 1, none⟩ = some (.slice ua L.length uc) := c0 1
 have hws : w.heap.size + 3 = W.heap.size := by omega
 clear hW bW zW c0 f0 c1 f1 c2 f2
 go_wp2_with fail
 refine (right_any next L _ N W (HY.out W (Below.refl _ _)).2.2.1 (HY.out W (Below.refl _ _)).2.2.2.1 HZ.out).mono ?_
 rintro e w1 ⟨m, rfl, hyes, hno, b1⟩
 clear k0 k1
 rw [right_vol] at hyes hno ⊢
 have HB1 := Hid.intro b1
 clear b1
 cases hvb : volB next (L.map Np.n) with
 | false =>
  have HEA : Hid (ans = sp0 22) := HA.out.trans (if_neg (fun h => by rw [hvb] at h; cases h.1))
  obtain rfl := hno hvb
  have v0 := (HY.out w1 HB1.out).2.2.2.2.2.1.var 0 (by decide)
  have HS1 := Hid.intro (HY.out w1 HB1.out).2.1
  have z0 : w1.cell? ⟨w.heap.size + 1 + 1, 0, none⟩ = some (.int .i64 0) := HS1.out.cell 0
  have f0 := HS1.out.fro 0
  have z1 : w1.cell? ⟨w.heap.size + 1 + 1, 1, none⟩ = some (.string ⟨#[]⟩) := HS1.out.cell 1
  have f1 := HS1.out.fro 1
  have z2 : w1.cell? ⟨w.heap.size + 1 + 1, 2, none⟩ = some (.int .i64 0) := HS1.out.cell 2
  have f2 := HS1.out.fro 2
  have z3 : w1.cell? ⟨w.heap.size + 1 + 1, 3, none⟩ = some (.int .i64 0) := HS1.out.cell 3
  have f3 := HS1.out.fro 3
  clear hyes hno
  go_upto_region 3 with fail
  go_region
  all_goals
   go_wp2_with fail
   refine bodyPost_ret (v := .tuple #[spW (sp0 22), erV E 22]) (by simp [results, Tryz.results21, go_sem, z0, z1, z2, z3, spW, sp0, sVal, erV, erX]) rfl ?_
   rw [HEA.out]
   exact ⟨rfl, (spot_belowW (HY.out w1 HB1.out).2.2.2.2.2.2.1 (by omega)).drew, by unfold EndC sp0; simp⟩
 | true =>
  obtain ⟨tb, b, off, rfl, hT⟩ := hyes hvb
  have HT := Hid.intro hT
  have HG := Hid.intro (good_of HZ.out ((right_vol next (L.map Np.n)).trans hvb))
  have HVB := Hid.intro hvb
  have k0 : w1.cell? ⟨w.heap.size + 1, 0, none⟩ = some (.int .i64 c.u) := (HY.out w1 HB1.out).1 0
  have k1 : w1.cell? ⟨w.heap.size + 1, 1, none⟩ = some (.int .i64 c.g) := (HY.out w1 HB1.out).1 1
  have k2 : w1.cell? ⟨w.heap.size + 1, 2, none⟩ = some (.slice ca c.l.length cc) := (HY.out w1 HB1.out).1 2
  clear hyes hno hT hvb
  go_wp2_with fail
  refine (implCredOk_any c (.slice ca c.l.length cc) N w1 (HY.out w1 HB1.out).2.2.1 (HY.out w1 HB1.out).2.2.2.2.1).mono ?_
  rintro e w2 ⟨rfl, b2⟩
  have HB2 := Hid.intro (HB1.out.trans (b2.mono HB1.out.size))
  have HT2 := Hid.intro (HT.out.kept b2 HT.out.lt)
  clear b2 k0 k1 k2 HT
  cases hcb : credB c with
  | false =>
   have HEA : Hid (ans = sp0 22) := HA.out.trans (if_neg (fun h => by rw [hcb] at h; cases h.2.1))
   have v0 := (HY.out w2 HB2.out).2.2.2.2.2.1.var 0 (by decide)
   have HS2 := Hid.intro (HY.out w2 HB2.out).2.1
   have z0 : w2.cell? ⟨w.heap.size + 1 + 1, 0, none⟩ = some (.int .i64 0) := HS2.out.cell 0
   have f0 := HS2.out.fro 0
   have z1 : w2.cell? ⟨w.heap.size + 1 + 1, 1, none⟩ = some (.string ⟨#[]⟩) := HS2.out.cell 1
   have f1 := HS2.out.fro 1
   have z2 : w2.cell? ⟨w.heap.size + 1 + 1, 2, none⟩ = some (.int .i64 0) := HS2.out.cell 2
   have f2 := HS2.out.fro 2
   have z3 : w2.cell? ⟨w.heap.size + 1 + 1, 3, none⟩ = some (.int .i64 0) := HS2.out.cell 3
   have f3 := HS2.out.fro 3
   go_upto_region 3 with fail
   go_region
   all_goals
    go_wp2_with fail
    refine bodyPost_ret (v := .tuple #[spW (sp0 22), erV E 22]) (by simp [results, Tryz.results21, go_sem, z0, z1, z2, z3, spW, sp0, sVal, erV, erX]) rfl ?_
    rw [HEA.out]
    exact ⟨rfl, (spot_belowW (HY.out w2 HB2.out).2.2.2.2.2.2.1 (by omega)).drew, by unfold EndC sp0; simp⟩
  | true =>
   have HEA : Hid (ans = toA (L.map Np.n) c follow path) := by
    unfold Hid toA
    rw [HA.out]
    by_cases hpb : pathB path.data.toList = true
    ·rw [if_pos ⟨HVB.out, hcb, hpb⟩, if_pos hpb]
    ·rw [if_neg (fun h => hpb h.2.2), if_neg hpb]
   have k0 : w2.cell? ⟨w.heap.size + 1, 0, none⟩ = some (.int .i64 c.u) := (HY.out w2 HB2.out).1 0
   have k1 : w2.cell? ⟨w.heap.size + 1, 1, none⟩ = some (.int .i64 c.g) := (HY.out w2 HB2.out).1 1
   have k2 : w2.cell? ⟨w.heap.size + 1, 2, none⟩ = some (.slice ca c.l.length cc) := (HY.out w2 HB2.out).1 2
   clear hcb
   go_wp2_with fail
   refine (twayTo_any L tb b off N c (.slice ca c.l.length cc) follow path E w2 HG.out (wOk HVB.out) HT2.out (HY.out w2 HB2.out).2.2.2.2.1 (HY.out w2 HB2.out).2.2.2.2.2.1 (by have := (HY.out w2 HB2.out).2.2.2.2.2.2.2; omega) (HY.out w2 HB2.out).2.2.1 0 (root_dirW HG.out HVB.out) hp).mono ?_
   rintro e w3 ⟨rfl, b3, he3⟩
   rw [← HEA.out] at he3 ⊢
   have HEC := Hid.intro he3
   have HB3 := Hid.intro (HB2.out.trans (b3.mono HB2.out.size))
   clear he3 b3 HEA HA k0 k1 k2
   obtain ⟨sd, sn, si, sc⟩ := ans
   have HS3 := Hid.intro (HY.out w3 HB3.out).2.1
   have z0 : w3.cell? ⟨w.heap.size + 1 + 1, 0, none⟩ = some (.int .i64 0) := HS3.out.cell 0
   have f0 := HS3.out.fro 0
   have z1 : w3.cell? ⟨w.heap.size + 1 + 1, 1, none⟩ = some (.string ⟨#[]⟩) := HS3.out.cell 1
   have f1 := HS3.out.fro 1
   have z2 : w3.cell? ⟨w.heap.size + 1 + 1, 2, none⟩ = some (.int .i64 0) := HS3.out.cell 2
   have f2 := HS3.out.fro 2
   have z3 : w3.cell? ⟨w.heap.size + 1 + 1, 3, none⟩ = some (.int .i64 0) := HS3.out.cell 3
   have f3 := HS3.out.fro 3
   simp only [spW, sVal]
   go_wp2_with fail
   refine bodyPost_ret (v := .tuple #[spW ⟨sd, sn, si, sc⟩, erV E sc]) (by simp [results, Tryz.results21, go_sem, z0, z1, z2, z3, spW, sVal]) rfl ?_
   exact ⟨rfl, spot_belowW (HY.out w3 HB3.out).2.2.2.2.2.2.1 (by omega), HEC.out⟩
end Go.Proofs.YtmkegmndcbpblaaGreatDoor
