/- The laws' marks over a tenant. -/
import Derived.Test.YtpccnoiepmedeaaXMark
import Derived.Test.YtpccnoiepmedeaaTMarkW
namespace Go.Proofs.Ytpccnoiepmedeaa
open Go.RowKit
set_option linter.unusedVariables false
/-- How great the lists of a right tenant are. -/
structure Gd (t : Ten) : Prop where
 inc : Inc t.L
 l : t.L.length ≤ 24
 n : ∀ p ∈ t.L, p.n.names.length ≤ 12
 a : t.A.length ≤ 20
 s : t.S.length ≤ 3
/-- A tenant's memory, from base to top; that of its volume from v0 to v1. -/
structure TenM (w : World) (base top v0 v1 : Nat) (t : Ten) : Prop where
 lo : base ≤ v0
 mid : v0 ≤ v1
 hi : v1 ≤ top
 vol : VolO w v0 t.u t.L
 vt : ∀ k, t.u.ownBlock = some k → k < v1
 vn : ∀ p ∈ t.L, ∀ k, p.v.ownBlock = some k → k < v1
 aud : Own ntE 42 w base t.va t.A
 ses : Own seE 48 w base t.vs t.S
 at' : ∀ k, t.va.ownBlock = some k → k < top ∧ ¬ (v0 ≤ k ∧ k < v1)
 st : ∀ k, t.vs.ownBlock = some k → k < top ∧ ¬ (v0 ≤ k ∧ k < v1)
theorem TenM.own {w : World} {base top v0 v1 : Nat} {t : Ten} (h : TenM w base top v0 v1 t) : TenO w base t := ⟨h.vol.lower h.lo, h.aud, h.ses⟩
theorem TenM.kept {w w' : World} {base top v0 v1 : Nat} {t : Ten} (h : TenM w base top v0 v1 t) (hb : Below w.heap.size w w') : TenM w' base top v0 v1 t :=
 ⟨h.lo, h.mid, h.hi, h.vol.kept hb, h.vt, h.vn, h.aud.kept hb, h.ses.kept hb, h.at', h.st⟩
def endT (q : Int) (t : Ten) : Int := kqI q t.L t.L.length + 5 * (t.A.length : Nat) + 5 * (t.S.length : Nat)
/-- A tenant that is marked from q on. -/
structure MkR (w : World) (N : Nat) (q : Int) (t : Ten) : Prop where
 vol : VolR w N t.u (markNL q t.L t.L.length)
 aud : Row ntE w N t.va (markTL (kqI q t.L t.L.length) t.A t.A.length)
 ses : Row seE w N t.vs (markSL (kqI q t.L t.L.length + 5 * (t.A.length : Nat)) t.S t.S.length)
theorem MkR.kept {w w' : World} {N : Nat} {q : Int} {t : Ten} (h : MkR w N q t) (hb : Below N w w') : MkR w' N q t := ⟨h.vol.kept hb, h.aud.kept hb, h.ses.kept hb⟩
theorem MkR.up {w : World} {N N' : Nat} {q : Int} {t : Ten} (h : MkR w N q t) (hN : N ≤ N') : MkR w N' q t := ⟨h.vol.up hN, h.aud.up hN, h.ses.up hN⟩
theorem MkR.on {w w' : World} {q : Int} {t : Ten} (h : MkR w w.heap.size q t) (hb : Below w.heap.size w w') : MkR w' w'.heap.size q t := (h.kept hb).up hb.size
theorem VolO.at' {w w' : World} {base : Nat} {S : Nat → Prop} {u : Value} {M : List Np} (h : VolO w base u M) (hb : Only S w w') (h1 : ∀ k, u.ownBlock = some k → ¬ S k) (h2 : ∀ p ∈ M, ∀ k, p.v.ownBlock = some k → ¬ S k) : VolO w' base u M := ⟨h.own.only hb h1, fun p hp => (h.nms p hp).only hb (h2 p hp)⟩
theorem endT_bd {q : Int} {t : Ten} (hg : Gd t) (h1 : 1 ≤ q) (h2 : q ≤ 100) : (1 ≤ kqI q t.L t.L.length ∧ kqI q t.L t.L.length ≤ 1000) ∧ (1 ≤ endT q t ∧ endT q t ≤ 2000) := by
 have hk := kqI_bd (q := q) hg.n t.L.length
 have := hg.l
 have := hg.a
 have := hg.s
 unfold endT
 omega
set_option maxHeartbeats 4000000 in
theorem markTenant_any (t : Ten) (base top v0 v1 : Nat) (q : Int) (w : World) (hb : top ≤ w.heap.size) (ho : TenM w base top v0 v1 t) (hg : Gd t) (h1 : 1 ≤ q) (h2 : q ≤ 100) :
  Calls Try.prog 7 #[t.v, .int .i64 q] w fun e w' => e = .returned (.int .i64 (endT q t)) ∧ MkR w' w'.heap.size q t ∧ Only (fun k => base ≤ k ∧ k < top) w w' := by
 have HO := Hid.intro ho
 have HG := Hid.intro hg
 have hbd := (endT_bd hg h1 h2).1
 clear ho hg
 go_enter Try.func7, Try.ntmps7
 go_wp2_with fail
 obtain ⟨W, hW, bW, zW, c1, f1⟩ := boxed w t.arr 28
 try simp only [hW]
 have HE : Hid (endT q t = kqI q t.L t.L.length + 5 * (t.A.length : Nat) + 5 * (t.S.length : Nat)) := rfl
 generalize hK : kqI q t.L t.L.length = K at hbd HE
 have HK := Hid.intro hK
 clear hK
 have HM := Hid.intro (HO.out.kept bW)
 have hlo := HO.out.lo
 have hmid := HO.out.mid
 have hhi := HO.out.hi
 have OB : Hid (Only (fun k => base ≤ k ∧ k < top) w W) := Below.any bW
 have hzt : top ≤ w.heap.size := hb
 clear hW bW f1 HO
 refine (markVol_any t.nx t.L t.u v0 v1 q W (by omega) HM.out.vol HG.out.inc HM.out.vt HM.out.vn HG.out.l HG.out.n h1 (by omega)).mono ?_
 rintro e w1 ⟨rfl, o1, n1⟩
 rw [HK.out]
 have z1 := n1.size
 replace c1 : ∀ o, w1.cell? ⟨w.heap.size, o, none⟩ = t.arr[o]? := fun o => (n1.cell (by omega) (fun h => by omega)).trans (c1 o)
 have HA1 : Hid (Own ntE 42 w1 base t.va t.A) := HM.out.aud.only n1 (fun k hk h => (HM.out.at' k hk).2 ⟨h.1, h.2⟩)
 have HS1 : Hid (Own seE 48 w1 base t.vs t.S) := HM.out.ses.only n1 (fun k hk h => (HM.out.st k hk).2 ⟨h.1, h.2⟩)
 replace OB : Hid (Only (fun k => base ≤ k ∧ k < top) w w1) := OB.out.trans (n1.mono (fun k _ h => ⟨by omega, by omega⟩))
 have HV1 := Hid.intro o1
 clear o1 n1
 have ha20 := HG.out.a
 have hs3 := HG.out.s
 go_wp2_with fail
 refine (markNoteS_any t.A t.va base K w1 (by omega) HA1.out (by omega) (by omega) (by omega)).mono ?_
 rintro e w2 ⟨rfl, o2, n2⟩
 have z2 := n2.size
 replace c1 : ∀ o, w2.cell? ⟨w.heap.size, o, none⟩ = t.arr[o]? := fun o => (n2.cell (by omega) (fun h => by have := (HM.out.at' _ h.symm).1; omega)).trans (c1 o)
 have HV2 : Hid (VolO w2 v0 t.u (markNL q t.L t.L.length)) := HV1.out.at' n2 (fun k hk h => own_apart (T := 65) (U := 42) (by decide) HV1.out.own HA1.out hk h.symm) (fun p hp k hk h => own_apart (T := 91) (U := 42) (by decide) (HV1.out.nms p hp) HA1.out hk h.symm)
 have HS2 : Hid (Own seE 48 w2 base t.vs t.S) := HS1.out.only n2 (fun k hk h => own_apart (T := 48) (U := 42) (by decide) HS1.out HA1.out hk h.symm)
 replace OB : Hid (Only (fun k => base ≤ k ∧ k < top) w w2) := OB.out.trans (n2.mono (fun k _ h => ⟨(HA1.out.lt k h.symm).1, (HM.out.at' k h.symm).1⟩))
 have HA2 := Hid.intro o2
 clear o2 n2 HV1 HS1 HA1
 go_wp2_with fail
 refine (markSessionS_any t.S t.vs base (K + 5 * (t.A.length : Nat)) w2 (by omega) HS2.out (by omega) (by omega) (by omega)).mono ?_
 rintro e w3 ⟨rfl, o3, n3⟩
 have HV3 : Hid (VolO w3 v0 t.u (markNL q t.L t.L.length)) := HV2.out.at' n3 (fun k hk h => own_apart (T := 65) (U := 48) (by decide) HV2.out.own HS2.out hk h.symm) (fun p hp k hk h => own_apart (T := 91) (U := 48) (by decide) (HV2.out.nms p hp) HS2.out hk h.symm)
 have HA3 : Hid (Own ntE 42 w3 base t.va (markTL K t.A t.A.length)) := HA2.out.only n3 (fun k hk h => own_apart (T := 42) (U := 48) (by decide) HA2.out HS2.out hk h.symm)
 replace OB : Hid (Only (fun k => base ≤ k ∧ k < top) w w3) := OB.out.trans (n3.mono (fun k _ h => ⟨(HS2.out.lt k h.symm).1, (HM.out.st k h.symm).1⟩))
 have HS3 := Hid.intro o3
 have HR : Hid (MkR w3 w3.heap.size q t) := ⟨HV3.out.rowAll, by rw [HK.out]; exact HA3.out.rowAll, by rw [HK.out]; exact HS3.out.rowAll⟩
 clear o3 n3 HV2 HS2 HA2 HV3 HA3 HS3 c1
 go_wp2
 go_ret
 exact ⟨ret_int HE.out.symm, HR.out, OB.out⟩
set_option maxHeartbeats 4000000 in
theorem heldTenant_any (t : Ten) (N : Nat) (q : Int) (w : World) (hN : N ≤ w.heap.size) (hr : MkR w N q t) (hg : Gd t) (h1 : 1 ≤ q) (h2 : q ≤ 100) :
  Calls Try.prog 8 #[t.v, .int .i64 q] w fun e w' => e = .returned (.int .i64 (endT q t)) ∧ Below w.heap.size w w' := by
 have HR := Hid.intro hr
 have HG := Hid.intro hg
 have hbd := (endT_bd hg h1 h2).1
 clear hr hg
 go_enter Try.func8, Try.ntmps8
 go_wp2_with fail
 obtain ⟨W, hW, bW, zW, c1, f1⟩ := boxed w t.arr 28
 try simp only [hW]
 have HE : Hid (endT q t = kqI q t.L t.L.length + 5 * (t.A.length : Nat) + 5 * (t.S.length : Nat)) := rfl
 have HML : Hid ((markNL q t.L t.L.length).length = t.L.length) := markNL_len _ _ _
 have HV0 : Hid (VolR w N t.u (markNL q t.L t.L.length)) := HR.out.vol
 have HA0 : Hid (Row ntE w N t.va (markTL (kqI q t.L t.L.length) t.A t.A.length)) := HR.out.aud
 have HS0 : Hid (Row seE w N t.vs (markSL (kqI q t.L t.L.length + 5 * (t.A.length : Nat)) t.S t.S.length)) := HR.out.ses
 have HGET : Hid (∀ i (h : i < (markNL q t.L t.L.length).length), (markNL q t.L t.L.length)[i] = mkAt q t.L i) := fun i h => markNL_get q t.L t.L.length i (by rw [markNL_len] at h; exact h) h
 have hzw : w.heap.size < W.heap.size := by omega
 have HB := Hid.intro bW
 clear hW bW f1 HR
 refine (heldVol_any t.nx (markNL q t.L t.L.length) t.L t.u N q W (by omega) (HV0.out.kept (HB.out.mono hN)) HGET.out (by rw [HML.out]; exact HG.out.l) HG.out.n h1 (by omega)).mono ?_
 rintro e w1 ⟨rfl, b1⟩
 rw [HML.out]
 generalize hK : kqI q t.L t.L.length = K at hbd HE HA0 HS0 ⊢
 have z1 := b1.size
 replace c1 := keepC b1 (by omega) c1
 replace HB := Hid.intro (HB.out.trans (b1.mono (by omega)))
 have ha20 := HG.out.a
 have hs3 := HG.out.s
 have hn1 : ¬ K < 0 := by omega
 clear b1 hK HV0 HGET HML
 go_wp2_with fail
 have HLT : Hid ((markTL K t.A t.A.length).length = t.A.length) := markTL_len _ _ _
 have HLS : Hid ((markSL (K + 5 * (t.A.length : Nat)) t.S t.S.length).length = t.S.length) := markSL_len _ _ _
 refine (heldNoteS_any (markTL K t.A t.A.length) t.va N K w1 (by omega) (HA0.out.kept (HB.out.mono hN)) (fun i h => markTL_get _ _ _ i (by rw [markTL_len] at h; exact h) h) (by rw [HLT.out]; omega) (by omega) (by omega)).mono ?_
 rintro e w2 ⟨rfl, b2⟩
 rw [HLT.out]
 have z2 := b2.size
 replace c1 := keepC b2 (by omega) c1
 replace HB := Hid.intro (HB.out.trans (b2.mono (by omega)))
 have hn2 : ¬ (K + 5 * (t.A.length : Int)) < 0 := by omega
 clear b2 HA0 HLT
 go_wp2_with fail
 refine (heldSessionS_any (markSL (K + 5 * (t.A.length : Nat)) t.S t.S.length) t.vs N (K + 5 * (t.A.length : Nat)) w2 (by omega) (HS0.out.kept (HB.out.mono hN)) (fun i h => markSL_get _ _ _ i (by rw [markSL_len] at h; exact h) h) (by rw [HLS.out]; omega) (by omega) (by omega)).mono ?_
 rintro e w3 ⟨rfl, b3⟩
 rw [HLS.out]
 replace HB := Hid.intro (HB.out.trans (b3.mono (by omega)))
 have hn3 : ¬ (K + 5 * (t.A.length : Int) + 5 * (t.S.length : Int)) < 0 := by omega
 clear b3 HS0 HLS c1
 go_wp2
 go_ret
 exact ⟨ret_int HE.out.symm, HB.out⟩
end Go.Proofs.Ytpccnoiepmedeaa
