/- The sentence's Walk. -/
import Derived.Test.YtmkegmndcbpblaaGreatDoorWWalkS
import Derived.Test.YtmkegmndcbpblaaGreatDoorWPath
import Derived.Test.YtmkegmndcbpblaaGreatDoorPLeaf
namespace Go.Proofs.YtmkegmndcbpblaaGreatDoor
open Go.RowKit
set_option linter.unusedVariables false
/-- Where a path leads in a volume; 22 where one of the three is not right. -/
def walkA (next : Int) (L : List Nd) (c : Cr) (path : ByteArray) (follow : Bool) : Sp :=
 if volB next L = true ∧ credB c = true ∧ pathB path.data.toList = true then walkW L (fun n => mayB c n 1) follow 1 (partsL path.data.toList) 0 else sp0 22
theorem pathB_le {s : ByteArray} (h : pathB s.data.toList = true) : s.size ≤ 60 := by
 simp only [pathB, Bool.and_eq_true, decide_eq_true_eq, size_data] at h
 omega
set_option maxRecDepth 100000 in
set_option maxHeartbeats 4000000 in
theorem specWalk_any (next : Int) (L : List Np) (u : Value) (c : Cr) (cv : Value) (path : ByteArray) (follow : Bool) (N : Nat) (w : World) (hN : N ≤ w.heap.size) (hr : VolR w N u L) (hz : ∀ p ∈ L, NdSz p.n) (hcr : Row intE w N cv c.l) (hp : path.size ≤ 9223372036854775807) :
  Calls Tryz.prog 6 #[volV next u, crV c cv, .string path, .bool follow] w fun e w' => e = .returned (spV (walkA next (L.map Np.n) c path follow)) ∧ Below w.heap.size w w' := by
 obtain ⟨ua, uc, rfl, _, _⟩ := hr.row.slice
 obtain ⟨ca, cc, rfl, _, _⟩ := hcr.slice
 have HV := Hid.intro hr
 have HR := Hid.intro hcr
 have HZ := Hid.intro hz
 clear hr hcr hz
 obtain ⟨ans, hans⟩ : ∃ ans, walkA next (L.map Np.n) c path follow = ans := ⟨_, rfl⟩
 rw [hans]
 have HA := Hid.intro hans
 clear hans
 go_enter Tryz.func6, Tryz.ntmps6
 go_upto_region 1 with fail
 obtain ⟨W, hW, bW, zW, c0, f0, c1, f1, c2, f2⟩ := boxed3 w #[.int .i64 next, .slice ua L.length uc] #[.int .i64 c.u, .int .i64 c.g, .slice ca c.l.length cc] #[.int .i64 0, .string ⟨#[]⟩, .int .i64 0, .int .i64 0] 35 37 31
 try simp only [hW]
 have X2 : Blk W (w.heap.size + 1 + 1) #[.int .i64 0, .string ⟨#[]⟩, .int .i64 0, .int .i64 0] := ⟨by omega, c2, f2⟩
 have HKEEP : Hid (∀ y, Below W.heap.size W y → (∀ o, y.cell? ⟨w.heap.size, o, none⟩ = (#[.int .i64 next, .slice ua L.length uc] : Array Value)[o]?) ∧ (∀ o, y.cell? ⟨w.heap.size + 1, o, none⟩ = (#[.int .i64 c.u, .int .i64 c.g, .slice ca c.l.length cc] : Array Value)[o]?) ∧ Blk y (w.heap.size + 1 + 1) #[.int .i64 0, .string ⟨#[]⟩, .int .i64 0, .int .i64 0] ∧ N ≤ y.heap.size ∧ VolR y N (.slice ua L.length uc) L ∧ Row intE y N (.slice ca c.l.length cc) c.l ∧ Below w.heap.size w y) := fun y hy => by
  have hz := hy.size
  have h1 := bW.trans (hy.mono (by omega))
  exact ⟨keepC hy (by omega) c0, keepC hy (by omega) c1, X2.kept hy, by omega, HV.out.kept (h1.mono hN), HR.out.kept (h1.mono hN), h1⟩
 have HB : Hid (Below W.heap.size W W) := Below.refl _ _
 clear hW f0 f1 f2 c0 c1 c2 X2
 obtain ⟨v0, v1, hX, hNy, hVy, hRy, hBy⟩ := HKEEP.out W HB.out
 have k0 : W.cell? ⟨w.heap.size + 1 + 1, 0, none⟩ = some (.int .i64 0) := hX.cell 0
 have k1 : W.cell? ⟨w.heap.size + 1 + 1, 1, none⟩ = some (.string ⟨#[]⟩) := hX.cell 1
 have k2 : W.cell? ⟨w.heap.size + 1 + 1, 2, none⟩ = some (.int .i64 0) := hX.cell 2
 have k3 : W.cell? ⟨w.heap.size + 1 + 1, 3, none⟩ = some (.int .i64 0) := hX.cell 3
 have f0 := hX.fro 0
 have f1 := hX.fro 1
 have f2 := hX.fro 2
 have f3 := hX.fro 3
 have HBW := Hid.intro hBy
 clear hX hBy
 go_wp2_with fail
 refine (specVolOk_any next L _ N W hNy hVy HZ.out).mono ?_
 rintro e w1 ⟨rfl, b1⟩
 replace HB : Hid (Below W.heap.size W w1) := b1
 clear b1 v0 v1 hNy hVy hRy k0 k1 k2 k3 f0 f1 f2 f3 HBW
 obtain ⟨v0, v1, hX, hNy, hVy, hRy, hBy⟩ := HKEEP.out w1 HB.out
 have k0 : w1.cell? ⟨w.heap.size + 1 + 1, 0, none⟩ = some (.int .i64 0) := hX.cell 0
 have k1 : w1.cell? ⟨w.heap.size + 1 + 1, 1, none⟩ = some (.string ⟨#[]⟩) := hX.cell 1
 have k2 : w1.cell? ⟨w.heap.size + 1 + 1, 2, none⟩ = some (.int .i64 0) := hX.cell 2
 have k3 : w1.cell? ⟨w.heap.size + 1 + 1, 3, none⟩ = some (.int .i64 0) := hX.cell 3
 have f0 := hX.fro 0
 have f1 := hX.fro 1
 have f2 := hX.fro 2
 have f3 := hX.fro 3
 have HBW := Hid.intro hBy
 clear hX hBy
 cases hvb : volB next (L.map Np.n) with
 | false =>
  have HE : Hid (ans = sp0 22) := by
   unfold Hid
   rw [← HA.out, walkA, if_neg (fun h => by rw [hvb] at h; cases h.1)]
  clear HA v0 v1
  go_wp2
  exact bodyPost_ret (v := spV (sp0 22)) (by simp [results, Tryz.results6, go_sem, k0, k1, k2, k3, spV, spA, sVal, sp0]) rfl ⟨by rw [HE.out], spot_below HBW.out (by omega)⟩
 | true =>
  have HVB := Hid.intro hvb
  clear hvb
  go_wp2_with fail
  refine (specCredOk_any c _ N w1 hNy hRy).mono ?_
  rintro e w2 ⟨rfl, b2⟩
  replace HB : Hid (Below W.heap.size W w2) := HB.out.trans (b2.mono HB.out.size)
  clear b2 v0 v1 hNy hVy hRy k0 k1 k2 k3 f0 f1 f2 f3 HBW
  obtain ⟨v0, v1, hX, hNy, hVy, hRy, hBy⟩ := HKEEP.out w2 HB.out
  have k0 : w2.cell? ⟨w.heap.size + 1 + 1, 0, none⟩ = some (.int .i64 0) := hX.cell 0
  have k1 : w2.cell? ⟨w.heap.size + 1 + 1, 1, none⟩ = some (.string ⟨#[]⟩) := hX.cell 1
  have k2 : w2.cell? ⟨w.heap.size + 1 + 1, 2, none⟩ = some (.int .i64 0) := hX.cell 2
  have k3 : w2.cell? ⟨w.heap.size + 1 + 1, 3, none⟩ = some (.int .i64 0) := hX.cell 3
  have f0 := hX.fro 0
  have f1 := hX.fro 1
  have f2 := hX.fro 2
  have f3 := hX.fro 3
  have HBW := Hid.intro hBy
  clear hX hBy
  cases hcb : credB c with
  | false =>
   have HE : Hid (ans = sp0 22) := by
    unfold Hid
    rw [← HA.out, walkA, if_neg (fun h => by rw [hcb] at h; cases h.2.1)]
   clear HA v0 v1
   go_wp2
   exact bodyPost_ret (v := spV (sp0 22)) (by simp [results, Tryz.results6, go_sem, k0, k1, k2, k3, spV, spA, sVal, sp0]) rfl ⟨by rw [HE.out], spot_below HBW.out (by omega)⟩
  | true =>
   have HCB := Hid.intro hcb
   clear hcb
   cases hpb : pathB path.data.toList with
   | false =>
    have HPB := Hid.intro hpb
    have HE : Hid (ans = sp0 22) := by
     unfold Hid
     rw [← HA.out, walkA, if_neg (fun h => by rw [HPB.out] at h; cases h.2.2)]
    clear HA v0 v1
    go_wp2_with (go_at_call 17; refine (specPathOk_any path _ hp).mono ?_; rintro e w9 ⟨rfl, rfl⟩; simp only [hpb])
    exact bodyPost_ret (v := spV (sp0 22)) (by simp [results, Tryz.results6, go_sem, k0, k1, k2, k3, spV, spA, sVal, sp0]) rfl ⟨by rw [HE.out], spot_below HBW.out (by omega)⟩
   | true =>
    have hp60 := pathB_le hpb
    have HE : Hid (walkW (L.map Np.n) (fun n => mayB c n 1) follow 1 (partsL path.data.toList) 0 = ans) := by
     unfold Hid
     rw [← HA.out, walkA, if_pos ⟨HVB.out, HCB.out, hpb⟩]
    clear HA
    go_wp2_with (first | (go_at_call 17; refine (specPathOk_any path _ hp).mono ?_; rintro e w9 ⟨rfl, rfl⟩; simp only [hpb]) | fail)
    refine (l6Walk_any next L _ c _ path follow N w2 hNy hVy hRy HVB.out hp60).mono ?_
    rintro e w3 ⟨rfl, b3⟩
    rw [HE.out]
    replace HB : Hid (Below W.heap.size W w3) := HB.out.trans (b3.mono HB.out.size)
    clear b3 v0 v1 hNy hVy hRy k0 k1 k2 k3 f0 f1 f2 f3 HBW
    obtain ⟨sd, sn, si, sc⟩ := ans
    obtain ⟨v0, v1, hX, hNy, hVy, hRy, hBy⟩ := HKEEP.out w3 HB.out
    have k0 : w3.cell? ⟨w.heap.size + 1 + 1, 0, none⟩ = some (.int .i64 0) := hX.cell 0
    have k1 : w3.cell? ⟨w.heap.size + 1 + 1, 1, none⟩ = some (.string ⟨#[]⟩) := hX.cell 1
    have k2 : w3.cell? ⟨w.heap.size + 1 + 1, 2, none⟩ = some (.int .i64 0) := hX.cell 2
    have k3 : w3.cell? ⟨w.heap.size + 1 + 1, 3, none⟩ = some (.int .i64 0) := hX.cell 3
    have f0 := hX.fro 0
    have f1 := hX.fro 1
    have f2 := hX.fro 2
    have f3 := hX.fro 3
    have HBW := Hid.intro hBy
    clear hX hBy
    clear v0 v1
    simp only [spV, spA, sVal]
    go_wp2_with fail
    refine bodyPost_ret (v := spV ⟨sd, sn, si, sc⟩) (by simp [results, Tryz.results6, go_sem, k0, k1, k2, k3, spV, spA, sVal]) rfl ?_
    exact ⟨rfl, spot_below HBW.out (by omega)⟩
end Go.Proofs.YtmkegmndcbpblaaGreatDoor
