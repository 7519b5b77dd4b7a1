/- Walk: the program's, whole. -/
import Derived.Test.YtmkegmndcbpblaaGreatDoorWGo
namespace Go.Proofs.YtmkegmndcbpblaaGreatDoor
open Go.RowKit Go.Maps
set_option linter.unusedVariables false
set_option linter.unusedSimpArgs false
/-- A spot with its code. -/
def spU (s : Sp) : Value := .agg #[.int .i64 s.dir, sVal s.nm, .int .i64 s.id, .int .i64 s.code]
set_option maxRecDepth 100000 in
set_option maxHeartbeats 8000000 in
theorem implWalk_any (next : Int) (L : List Np) (u : Value) (c : Cr) (cv : Value) (path : ByteArray) (follow : Bool) (N : Nat) (E : Nat → Addr) (w : World) (hN : N ≤ w.heap.size) (hr : VolR w N u L) (hw : ∀ p ∈ L, NdW p.n) (hcr : Row intE w N cv c.l) (hE : ErrW w E) (h6 : 6 ≤ w.heap.size) (hp : path.size ≤ 9223372036854775807) (ans : Sp) (hans : ans = if volB next (L.map Np.n) = true ∧ credB c = true ∧ pathB path.data.toList = true then walkW (L.map Np.n) (fun n => mayB c n 1) follow 1 (partsL path.data.toList) 0 else sp0 22) :
  Calls Tryz.prog 9 #[.agg #[.int .i64 next, u], .agg #[.int .i64 c.u, .int .i64 c.g, cv], .string path, .bool follow] w fun e w' => e = .returned (spU ans) ∧ Below w.heap.size w w' := by
 obtain ⟨ua, uc, rfl, _, _⟩ := hr.row.slice
 obtain ⟨ca, cc, rfl, _, _⟩ := hcr.slice
 have HV := Hid.intro hr
 have HR := Hid.intro hcr
 have HZ := Hid.intro hw
 have HE := Hid.intro hE
 clear hr hcr hw hE
 go_enter Tryz.func9, Tryz.ntmps9
 go_upto_region 1 with fail
 obtain ⟨W, hW, bW, zW, c0, f0, c1, f1, c2, f2⟩ := boxed3 w #[.int .i64 next, .slice ua L.length uc] #[.int .i64 c.u, .int .i64 c.g, .slice ca c.l.length cc] spot0 35 37 31
 simp only [spot0] at hW
 try simp only [hW]
 have HS : Hid (Blk W (w.heap.size + 1 + 1) spot0) := ⟨by omega, c2, f2⟩
 have hVW := HV.out.kept (bW.mono hN)
 have hRW := HR.out.kept (bW.mono hN)
 have hEW := HE.out.kept h6 bW
 have k0 : W.cell? ⟨w.heap.size, 0, none⟩ = some (.int .i64 next) := c0 0
 have k1 : W.cell? ⟨w.heap.size, 1, none⟩ = some (.slice ua L.length uc) := c0 1
 have d0 : W.cell? ⟨w.heap.size + 1, 0, none⟩ = some (.int .i64 c.u) := c1 0
 have d1 : W.cell? ⟨w.heap.size + 1, 1, none⟩ = some (.int .i64 c.g) := c1 1
 have d2 : W.cell? ⟨w.heap.size + 1, 2, none⟩ = some (.slice ca c.l.length cc) := c1 2
 have HBW := Hid.intro bW
 clear hW bW c0 f0 c1 f1 c2 f2
 go_wp2_with fail
 refine (wayTo_any next L _ c _ path follow N E W (by omega) hVW HZ.out hRW hEW (by omega) hp ans hans).mono ?_
 rintro e w1 ⟨rfl, b1, hec⟩
 have HEC := Hid.intro hec
 have HB1 := Hid.intro b1
 have hE1 := hEW.kept (by omega) b1
 have hz1 := b1.size
 have HS1 := Hid.intro (HS.out.kept b1)
 clear k0 k1 d0 d1 d2 hVW hRW b1 hec hans HS hEW
 obtain ⟨sd, sn, si, sc⟩ := ans
 simp only [spW, sVal]
 go_wp2_with fail
 obtain ⟨X, hX, bX, zX, cX, fX⟩ := boxed w1 #[.int .i64 sd, .string ⟨sn.toArray⟩, .int .i64 si, .int .i64 0] 31
 try simp only [hX]
 refine (codeOf_any E sc HEC.out X (hE1.kept (by omega) bX)).mono ?_
 rintro e w2 ⟨rfl, rfl⟩
 have x0 : w2.cell? ⟨w1.heap.size, 0, none⟩ = some (.int .i64 sd) := cX 0
 have x1 : w2.cell? ⟨w1.heap.size, 1, none⟩ = some (.string ⟨sn.toArray⟩) := cX 1
 have x2 : w2.cell? ⟨w1.heap.size, 2, none⟩ = some (.int .i64 si) := cX 2
 have x3 : w2.cell? ⟨w1.heap.size, 3, none⟩ = some (.int .i64 0) := cX 3
 have r0 := fX 0
 have r1 := fX 1
 have r2 := fX 2
 have r3 := fX 3
 have HS2 := Hid.intro (HS1.out.kept bX)
 have z0 : w2.cell? ⟨w.heap.size + 1 + 1, 0, none⟩ = some (.int .i64 0) := HS2.out.cell 0
 have f0 := HS2.out.fro 0
 have z1 : w2.cell? ⟨w.heap.size + 1 + 1, 1, none⟩ = some (.string ⟨#[]⟩) := HS2.out.cell 1
 have f1 := HS2.out.fro 1
 have z2 : w2.cell? ⟨w.heap.size + 1 + 1, 2, none⟩ = some (.int .i64 0) := HS2.out.cell 2
 have f2 := HS2.out.fro 2
 have z3 : w2.cell? ⟨w.heap.size + 1 + 1, 3, none⟩ = some (.int .i64 0) := HS2.out.cell 3
 have f3 := HS2.out.fro 3
 have hg1 : w.heap.size ≤ w1.heap.size := by omega
 have hne : w1.heap.size ≠ w.heap.size + 1 + 1 := by omega
 have hb2 := Hid.intro ((HBW.out.trans (HB1.out.mono (by omega))).trans (bX.mono (by have := HBW.out.size; omega)))
 generalize w1.heap.size = g1 at *
 clear hX cX fX bX HS1 HB1 hE1
 go_wp2_with fail
 refine bodyPost_ret (v := spU ⟨sd, sn, si, sc⟩) (by simp [results, Tryz.results9, go_sem, z0, z1, z2, z3, spU, sVal]) rfl ?_
 exact ⟨rfl, spot_belowW (hb2.out.setCell (p := ⟨g1, 3, none⟩) hg1 _) (by omega)⟩
end Go.Proofs.YtmkegmndcbpblaaGreatDoor
