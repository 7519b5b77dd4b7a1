/- Tenants in memory; the laws' helpers over them: how great, copies, equal. -/
import Derived.Test.YtpccnoiepmedeaaXLawN
import Derived.Test.YtpccnoiepmedeaaTCurVo
import Derived.Test.YtpccnoiepmedeaaVImpF
namespace Go.Proofs.Ytpccnoiepmedeaa
open Go.RowKit
set_option linter.unusedVariables false
/-- A tenant and where its lists lie. -/
structure Ten where
 nx : Int
 L : List Np
 ua : Option Addr
 uc : Nat
 tk : Int
 A : List Nt
 aa : Option Addr
 ac : Nat
 S : List Se
 sa : Option Addr
 sc : Nat
abbrev Ten.u (t : Ten) : Value := .slice t.ua t.L.length t.uc
abbrev Ten.va (t : Ten) : Value := .slice t.aa t.A.length t.ac
abbrev Ten.vs (t : Ten) : Value := .slice t.sa t.S.length t.sc
abbrev Ten.arr (t : Ten) : Array Value := #[.int .i64 t.nx, .slice t.ua t.L.length t.uc, .int .i64 t.tk, .slice t.aa t.A.length t.ac, .slice t.sa t.S.length t.sc]
abbrev Ten.v (t : Ten) : Value := .agg t.arr
def Ten.key (t : Ten) : Int × List Nd × Int × List Nt × List Se := (t.nx, t.L.map Np.n, t.tk, t.A, t.S)
structure TenR (w : World) (N : Nat) (t : Ten) : Prop where
 vol : VolR w N t.u t.L
 aud : Row ntE w N t.va t.A
 ses : Row seE w N t.vs t.S
theorem TenR.kept {w w' : World} {N : Nat} {t : Ten} (h : TenR w N t) (hb : Below N w w') : TenR w' N t := ⟨h.vol.kept hb, h.aud.kept hb, h.ses.kept hb⟩
theorem TenR.up {w : World} {N N' : Nat} {t : Ten} (h : TenR w N t) (hN : N ≤ N') : TenR w N' t := ⟨h.vol.up hN, h.aud.up hN, h.ses.up hN⟩
theorem TenR.on {w w' : World} {t : Ten} (h : TenR w w.heap.size t) (hb : Below w.heap.size w w') : TenR w' w'.heap.size t := (h.kept hb).up hb.size
structure TenO (w : World) (base : Nat) (t : Ten) : Prop where
 vol : VolO w base t.u t.L
 aud : Own ntE 42 w base t.va t.A
 ses : Own seE 48 w base t.vs t.S
theorem TenO.rowAll {w : World} {base : Nat} {t : Ten} (h : TenO w base t) : TenR w w.heap.size t := ⟨h.vol.rowAll, h.aud.rowAll, h.ses.rowAll⟩
theorem TenO.kept {w w' : World} {base : Nat} {t : Ten} (h : TenO w base t) (hb : Below w.heap.size w w') : TenO w' base t := ⟨h.vol.kept hb, h.aud.kept hb, h.ses.kept hb⟩
theorem TenO.lower {w : World} {base base' : Nat} {t : Ten} (h : TenO w base t) (hb : base' ≤ base) : TenO w base' t := ⟨h.vol.lower hb, h.aud.lower hb, h.ses.lower hb⟩
theorem Blk.put {w : World} {g : Nat} {A : Array Value} (h : Blk w g A) (i : Nat) (hi : i < A.size) (x : Value) : Blk (w.setCell ⟨g, i, none⟩ x) g (A.setIfInBounds i x) := by
 refine ⟨by simpa using h.hi, fun o => ?_, fun o => by rw [World.frozen?_setCell]; exact h.fro o⟩
 by_cases ho : o = i
 ·subst ho
  rw [World.cell?_setCell_same _ _ _ ((h.cell o).trans (Array.getElem?_eq_getElem hi)), Array.getElem?_setIfInBounds_self_of_lt hi]
 ·rw [World.cell?_setCell_other _ _ _ _ (by intro e; cases e; exact ho rfl), h.cell, Array.getElem?_setIfInBounds_ne (by omega)]
/-- What can be said of a tenant's texts. -/
structure TenW (t : Ten) : Prop where
 nod : ∀ p ∈ t.L, NdW p.n
 dat : ∀ e ∈ t.S, e.r.d.size ≤ 9223372036854775807
structure TenL (t : Ten) : Prop where
 l : t.L.length ≤ 1048576
 m : NmL t.L 1048576
 a : t.A.length ≤ 1048576
 s : t.S.length ≤ 1048576
theorem TenW.of_key {t s : Ten} (h : TenW t) (hk : s.key = t.key) : TenW s := by
 simp only [Ten.key, Prod.mk.injEq] at hk
 obtain ⟨_, h1, _, _, h2⟩ := hk
 refine ⟨fun p hp => ?_, by rw [h2]; exact h.dat⟩
 have h3 : p.n ∈ s.L.map Np.n := List.mem_map_of_mem hp
 rw [h1] at h3
 obtain ⟨p', hp', e⟩ := List.mem_map.1 h3
 rw [← e]
 exact h.nod p' hp'
set_option maxRecDepth 100000 in
set_option maxHeartbeats 4000000 in
theorem eqTenant_any (t s : Ten) (N : Nat) (w : World) (hN : N ≤ w.heap.size) (h1 : TenR w N t) (h2 : TenR w N s) (hk : t.key = s.key) :
  Calls Try.prog 6 #[t.v, s.v] w fun e w' => e = .returned (.bool true) ∧ Below w.heap.size w w' := by
 simp only [Ten.key, Prod.mk.injEq] at hk
 obtain ⟨k0, k1, k2, k3, k4⟩ := hk
 have H1 := Hid.intro h1
 have H2 := Hid.intro h2
 clear h1 h2
 go_enter Try.func6, Try.ntmps6
 go_wp2_with fail
 obtain ⟨W, hW, bW, zW, c1, f1, c2, f2⟩ := boxed2 w t.arr s.arr 28 28
 try simp only [hW]
 have HK3 := Hid.intro k3
 have HK4 := Hid.intro k4
 refine (eqVol_any s.nx t.L s.L t.u s.u N W (by omega) (H1.out.vol.kept (bW.mono hN)) (H2.out.vol.kept (bW.mono hN)) k1).mono ?_
 rintro e w1 ⟨rfl, b1⟩
 replace c1 := keepC b1 (by omega) c1
 replace c2 := keepC b1 (by omega) c2
 have z1 := b1.size
 have HB := Hid.intro (bW.trans (b1.mono (by omega)))
 have hz1 : w.heap.size + 1 < w1.heap.size := by omega
 clear hW bW b1 f1 f2 k1 k3 k4
 go_wp2_with fail
 refine (eqNoteS_any t.A t.va s.va N w1 (by omega) (H1.out.aud.kept (HB.out.mono hN)) (by rw [HK3.out]; exact H2.out.aud.kept (HB.out.mono hN))).mono ?_
 rintro e w2 ⟨rfl, b2⟩
 replace c1 := keepC b2 (by omega) c1
 replace c2 := keepC b2 (by omega) c2
 have z2 := b2.size
 have HB2 := Hid.intro (HB.out.trans (b2.mono (by omega)))
 have hz2 : w.heap.size + 1 < w2.heap.size := by omega
 clear b2
 go_wp2_with fail
 refine (eqSessionS_any t.S t.vs s.vs N w2 (by omega) (H1.out.ses.kept (HB2.out.mono hN)) (by rw [HK4.out]; exact H2.out.ses.kept (HB2.out.mono hN))).mono ?_
 rintro e w3 ⟨rfl, b3⟩
 have HB3 := Hid.intro (HB2.out.trans (b3.mono (by omega)))
 clear b3 c1 c2
 go_wp2
 go_ret
 exact ⟨rfl, HB3.out⟩
end Go.Proofs.Ytpccnoiepmedeaa
