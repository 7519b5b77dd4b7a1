/- A cursor's tenant. -/
import Derived.Test.YtknckbedddeijaaGreatXLawN
import Derived.Test.YtknckbedddeijaaGreatTCurVo
import Derived.Test.YtknckbedddeijaaGreatVImpF
import Derived.Deep.RegionHeld3
namespace Go.Proofs.YtknckbedddeijaaGreat
open Go.RowKit
set_option linter.unusedVariables false
/-- A tenant and where its lists lie. -/
structure Ten where
 nx : Int
 L : List Np
 ua : Option Addr
 uc : Nat
 tk : Int
 A : List Nt
 aa : Option Addr
 ac : Nat
 S : List Se
 sa : Option Addr
 sc : Nat
abbrev Ten.u (t : Ten) : Value := .slice t.ua t.L.length t.uc
abbrev Ten.va (t : Ten) : Value := .slice t.aa t.A.length t.ac
abbrev Ten.vs (t : Ten) : Value := .slice t.sa t.S.length t.sc
abbrev Ten.arr (t : Ten) : Array Value := #[.int .i64 t.nx, .slice t.ua t.L.length t.uc, .int .i64 t.tk, .slice t.aa t.A.length t.ac, .slice t.sa t.S.length t.sc]
abbrev Ten.v (t : Ten) : Value := .agg t.arr
def Ten.key (t : Ten) : Int × List Nd × Int × List Nt × List Se := (t.nx, t.L.map Np.n, t.tk, t.A, t.S)
structure TenR (w : World) (N : Nat) (t : Ten) : Prop where
 vol : VolR w N t.u t.L
 aud : Row ntE w N t.va t.A
 ses : Row seE w N t.vs t.S
theorem TenR.kept {w w' : World} {N : Nat} {t : Ten} (h : TenR w N t) (hb : Below N w w') : TenR w' N t := ⟨h.vol.kept hb, h.aud.kept hb, h.ses.kept hb⟩
theorem TenR.up {w : World} {N N' : Nat} {t : Ten} (h : TenR w N t) (hN : N ≤ N') : TenR w N' t := ⟨h.vol.up hN, h.aud.up hN, h.ses.up hN⟩
theorem TenR.on {w w' : World} {t : Ten} (h : TenR w w.heap.size t) (hb : Below w.heap.size w w') : TenR w' w'.heap.size t := (h.kept hb).up hb.size
structure TenO (w : World) (base : Nat) (t : Ten) : Prop where
 vol : VolO w base t.u t.L
 aud : Own ntE 55 w base t.va t.A
 ses : Own seE 61 w base t.vs t.S
theorem TenO.rowAll {w : World} {base : Nat} {t : Ten} (h : TenO w base t) : TenR w w.heap.size t := ⟨h.vol.rowAll, h.aud.rowAll, h.ses.rowAll⟩
theorem TenO.kept {w w' : World} {base : Nat} {t : Ten} (h : TenO w base t) (hb : Below w.heap.size w w') : TenO w' base t := ⟨h.vol.kept hb, h.aud.kept hb, h.ses.kept hb⟩
theorem TenO.lower {w : World} {base base' : Nat} {t : Ten} (h : TenO w base t) (hb : base' ≤ base) : TenO w base' t := ⟨h.vol.lower hb, h.aud.lower hb, h.ses.lower hb⟩
theorem Blk.put {w : World} {g : Nat} {A : Array Value} (h : Blk w g A) (i : Nat) (hi : i < A.size) (x : Value) : Blk (w.setCell ⟨g, i, none⟩ x) g (A.setIfInBounds i x) := by
 refine ⟨by simpa using h.hi, fun o => ?_, fun o => by rw [World.frozen?_setCell]; exact h.fro o⟩
 by_cases ho : o = i
 ·subst ho
  rw [World.cell?_setCell_same _ _ _ ((h.cell o).trans (Array.getElem?_eq_getElem hi)), Array.getElem?_setIfInBounds_self_of_lt hi]
 ·rw [World.cell?_setCell_other _ _ _ _ (by intro e; cases e; exact ho rfl), h.cell, Array.getElem?_setIfInBounds_ne (by omega)]
/-- What can be said of a tenant's texts. -/
structure TenW (t : Ten) : Prop where
 nod : ∀ p ∈ t.L, NdW p.n
 dat : ∀ e ∈ t.S, e.r.d.size ≤ 9223372036854775807
structure TenL (t : Ten) : Prop where
 l : t.L.length ≤ 1048576
 m : NmL t.L 1048576
 a : t.A.length ≤ 1048576
 s : t.S.length ≤ 1048576
theorem TenW.of_key {t s : Ten} (h : TenW t) (hk : s.key = t.key) : TenW s := by
 simp only [Ten.key, Prod.mk.injEq] at hk
 obtain ⟨_, h1, _, _, h2⟩ := hk
 refine ⟨fun p hp => ?_, by rw [h2]; exact h.dat⟩
 have h3 : p.n ∈ s.L.map Np.n := List.mem_map_of_mem hp
 rw [h1] at h3
 obtain ⟨p', hp', e⟩ := List.mem_map.1 h3
 rw [← e]
 exact h.nod p' hp'
set_option maxRecDepth 100000 in
set_option maxHeartbeats 4000000 in
theorem eqTenant_any (t s : Ten) (N : Nat) (w : World) (hN : N ≤ w.heap.size) (h1 : TenR w N t) (h2 : TenR w N s) (hk : t.key = s.key) :
  Calls Tryz.prog 15 #[t.v, s.v] w fun e w' => e = .returned (.bool true) ∧ Below w.heap.size w w' := by
 simp only [Ten.key, Prod.mk.injEq] at hk
 obtain ⟨k0, k1, k2, k3, k4⟩ := hk
 have H1 := Hid.intro h1
 have H2 := Hid.intro h2
 clear h1 h2
 go_enter Tryz.func15, Tryz.ntmps15
 go_wp2_with fail
 obtain ⟨W, hW, bW, zW, c1, f1, c2, f2⟩ := boxed2 w t.arr s.arr 36 36
 try simp only [hW]
 have HK3 := Hid.intro k3
 have HK4 := Hid.intro k4
 refine (eqVol_any s.nx t.L s.L t.u s.u N W (by omega) (H1.out.vol.kept (bW.mono hN)) (H2.out.vol.kept (bW.mono hN)) k1).mono ?_
 rintro e w1 ⟨rfl, b1⟩
 replace c1 := keepC b1 (by omega) c1
 replace c2 := keepC b1 (by omega) c2
 have z1 := b1.size
 have HB := Hid.intro (bW.trans (b1.mono (by omega)))
 have hz1 : w.heap.size + 1 < w1.heap.size := by omega
 clear hW bW b1 f1 f2 k1 k3 k4
 go_wp2_with fail
 refine (eqNoteS_any t.A t.va s.va N w1 (by omega) (H1.out.aud.kept (HB.out.mono hN)) (by rw [HK3.out]; exact H2.out.aud.kept (HB.out.mono hN))).mono ?_
 rintro e w2 ⟨rfl, b2⟩
 replace c1 := keepC b2 (by omega) c1
 replace c2 := keepC b2 (by omega) c2
 have z2 := b2.size
 have HB2 := Hid.intro (HB.out.trans (b2.mono (by omega)))
 have hz2 : w.heap.size + 1 < w2.heap.size := by omega
 clear b2
 go_wp2_with fail
 refine (eqSessionS_any t.S t.vs s.vs N w2 (by omega) (H1.out.ses.kept (HB2.out.mono hN)) (by rw [HK4.out]; exact H2.out.ses.kept (HB2.out.mono hN))).mono ?_
 rintro e w3 ⟨rfl, b3⟩
 have HB3 := Hid.intro (HB2.out.trans (b3.mono (by omega)))
 clear b3 c1 c2
 go_wp2
 go_ret
 exact ⟨rfl, HB3.out⟩
end Go.Proofs.YtknckbedddeijaaGreat
namespace Go.Proofs.YtknckbedddeijaaGreat
open Go.RowKit
set_option linter.unusedVariables false
/-- So many notes from the front on, and what is left. -/
noncomputable def notsO : Nat → List UInt8 → Option (List Nt × List UInt8)
 | 0, l => some ([], l)
 | n + 1, l => (notO l).bind fun a => (notsO n a.2).bind fun d => some (a.1 :: d.1, d.2)
theorem notsO_no {n : Nat} {l : List UInt8} (hn : 0 < n) (h : notO l = none) : notsO n l = none := by
 obtain ⟨m, rfl⟩ : ∃ m, n = m + 1 := ⟨n - 1, by omega⟩
 simp only [notsO, h, Option.bind_none]
theorem notsO_yes {n : Nat} {l q : List UInt8} {x : Nt} (hn : 0 < n) (h : notO l = some (x, q)) : notsO n l = (notsO (n - 1) q).map fun y => (x :: y.1, y.2) := by
 obtain ⟨m, rfl⟩ : ∃ m, n = m + 1 := ⟨n - 1, by omega⟩
 simp only [notsO, h, Option.bind_some, Nat.add_sub_cancel]
 cases notsO m q <;> rfl
/-- So many sessions from the front on, and what is left. -/
noncomputable def sessO : Nat → List UInt8 → Option (List Se × List UInt8)
 | 0, l => some ([], l)
 | n + 1, l => (sesO l).bind fun a => (sessO n a.2).bind fun d => some (a.1 :: d.1, d.2)
theorem sessO_no {n : Nat} {l : List UInt8} (hn : 0 < n) (h : sesO l = none) : sessO n l = none := by
 obtain ⟨m, rfl⟩ : ∃ m, n = m + 1 := ⟨n - 1, by omega⟩
 simp only [sessO, h, Option.bind_none]
theorem sessO_yes {n : Nat} {l q : List UInt8} {x : Se} (hn : 0 < n) (h : sesO l = some (x, q)) : sessO n l = (sessO (n - 1) q).map fun y => (x :: y.1, y.2) := by
 obtain ⟨m, rfl⟩ : ∃ m, n = m + 1 := ⟨n - 1, by omega⟩
 simp only [sessO, h, Option.bind_some, Nat.add_sub_cancel]
 cases sessO m q <;> rfl
/-- A tenant at the front, and what is left. -/
noncomputable def tenO (l : List UInt8) : Option ((Int × List Nd × Int × List Nt × List Se) × List UInt8) :=
 (insVO l).bind fun v => (numO v.2).bind fun k => (cntO 20 k.2).bind fun n => (notsO n.1 n.2).bind fun a => (cntO 3 a.2).bind fun m => (sessO m.1 m.2).bind fun s => some (((v.1.1 : Int), v.1.2, (k.1 : Int), a.1, s.1), s.2)
abbrev zTn : Array Value := #[.int .i64 0, .slice none 0 0, .int .i64 0, .slice none 0 0, .slice none 0 0]
theorem apartX {α β : Type} {E : Enc α} {F : Enc β} {T U : TypeId} (hTU : T ≠ U) {w : World} {B C : Nat} {u v : Value} {L : List α} {M : List β} (h : Own E T w B u L) (k : Own F U w C v M) {g : Nat} (hu : u.ownBlock = some g) (hv : v.ownBlock = some g) : False := by
 rcases h.2 with ⟨h0, _⟩ | ⟨g1, cap1, cur1, h1, _, hg1, _⟩
 ·rw [h0] at hu; cases hu
 ·rcases k.2 with ⟨k0, _⟩ | ⟨g2, cap2, cur2, k1, _, hg2, _⟩
  ·rw [k0] at hv; cases hv
  ·rw [h1] at hu
   rw [k1] at hv
   obtain rfl : g1 = g := by simpa [Value.ownBlock] using hu
   obtain rfl : g2 = g1 := by simpa [Value.ownBlock] using hv
   rw [hg1] at hg2
   simp only [Option.some.injEq, Obj.cells.injEq] at hg2
   exact hTU hg2.2.1
/-- What stands while a tenant is read: the volume below block g3, the tenant's box in it, the notes and sessions behind it. -/
structure TnR (w : World) (b g3 : Nat) (nx tk : Int) (u : Value) (M : List Np) (wr : World) (q : ByteArray) (va : Value) (A : List Nt) (vs : Value) (S : List Se) : Prop where
 cur : CurAt wr b q
 box : Blk wr g3 #[.int .i64 nx, u, .int .i64 tk, va, vs]
 res : Blk wr w.heap.size zTn
 vol : VolO wr (w.heap.size + 1) u M
 vt : ∀ k, u.ownBlock = some k → k < g3
 vn : ∀ p ∈ M, ∀ k, p.v.ownBlock = some k → k < g3
 inc : Inc M
 aud : Own ntE 55 wr (g3 + 1) va A
 ses : Own seE 61 wr (g3 + 1) vs S
 only : Only (fun k => k = b) w wr
 lt : b < w.heap.size ∧ w.heap.size < g3
theorem TnR.step {w : World} {b g3 : Nat} {nx tk : Int} {u va vs : Value} {M : List Np} {wr w2 : World} {q q2 : ByteArray} {A : List Nt} {S : List Se} (h : TnR w b g3 nx tk u M wr q va A vs S) (ho : Only (fun k => k = b) wr w2) (hc : CurAt w2 b q2) : TnR w b g3 nx tk u M w2 q2 va A vs S :=
 ⟨hc, h.box.only ho (by have := h.lt; omega), h.res.only ho (by have := h.lt; omega), h.vol.only ho (fun k hk e => by have := h.lt; omega), h.vt, h.vn, h.inc, h.aud.only ho (fun k hk e => by have := (h.aud.lt k hk).1; have := h.lt; omega), h.ses.only ho (fun k hk e => by have := (h.ses.lt k hk).1; have := h.lt; omega), h.only.trans ho, h.lt⟩
theorem TnR.kept {w : World} {b g3 : Nat} {nx tk : Int} {u va vs : Value} {M : List Np} {wr w2 : World} {q : ByteArray} {A : List Nt} {S : List Se} (h : TnR w b g3 nx tk u M wr q va A vs S) (hb : Below wr.heap.size wr w2) : TnR w b g3 nx tk u M w2 q va A vs S :=
 h.step (ob_any hb) (h.cur.kept hb)
theorem TnR.putA {w : World} {b g3 : Nat} {nx tk : Int} {u va vs : Value} {M : List Np} {wr w4 : World} {q : ByteArray} {A : List Nt} {S : List Se} {n : Nt} {g m cap : Nat} (h : TnR w b g3 nx tk u M wr q va A vs S) (ho : Only (fun k => some k = va.ownBlock) wr w4) (hown : Own ntE 55 w4 (g3 + 1) (.slice (some ⟨g, 0, none⟩) m cap) (A ++ [n])) :
  TnR w b g3 nx tk u M (w4.setCell ⟨g3, 3, none⟩ (.slice (some ⟨g, 0, none⟩) m cap)) q (.slice (some ⟨g, 0, none⟩) m cap) (A ++ [n]) vs S := by
 have hlt := h.lt
 have nb : ∀ k, some k = va.ownBlock → g3 + 1 ≤ k := fun k hk => (h.aud.lt k hk.symm).1
 have hb : ¬ some b = va.ownBlock := fun e => by have := nb b e; omega
 have h3 : ¬ some g3 = va.ownBlock := fun e => by have := nb g3 e; omega
 have h2 : ¬ some w.heap.size = va.ownBlock := fun e => by have := nb _ e; omega
 have st : Only (fun k => k = g3) w4 (w4.setCell ⟨g3, 3, none⟩ (.slice (some ⟨g, 0, none⟩) m cap)) := (Only.refl (fun k => k = g3) w4).setCell (p := ⟨g3, 3, none⟩) rfl _
 refine ⟨(h.cur.only ho hb).only st (by omega), (h.box.only ho h3).put 3 (by simp) _, (h.res.only ho h2).only st (by omega), ⟨(h.vol.own.only ho (fun k hk e => ?_)).only st (fun k hk e => ?_), fun p hp => ((h.vol.nms p hp).only ho (fun k hk e => ?_)).only st (fun k hk e => ?_)⟩, h.vt, h.vn, h.inc, hown.only st (fun k hk e => ?_), (h.ses.only ho (fun k hk e => ?_)).only st (fun k hk e => ?_), (h.only.then ho (fun k hk e => ?_)).then st (fun k hk e => ?_), hlt⟩
 ·have := nb k e; have := h.vt k hk; omega
 ·have := h.vt k hk; omega
 ·have := nb k e; have := h.vn p hp k hk; omega
 ·have := h.vn p hp k hk; omega
 ·have := (hown.lt k hk).1; omega
 ·exact apartX (T := 61) (U := 55) (by decide) h.ses h.aud hk e.symm
 ·have := (h.ses.lt k hk).1; omega
 ·have := nb k e; omega
 ·omega
theorem TnR.putS {w : World} {b g3 : Nat} {nx tk : Int} {u va vs : Value} {M : List Np} {wr w4 : World} {q : ByteArray} {A : List Nt} {S : List Se} {n : Se} {g m cap : Nat} (h : TnR w b g3 nx tk u M wr q va A vs S) (ho : Only (fun k => some k = vs.ownBlock) wr w4) (hown : Own seE 61 w4 (g3 + 1) (.slice (some ⟨g, 0, none⟩) m cap) (S ++ [n])) :
  TnR w b g3 nx tk u M (w4.setCell ⟨g3, 4, none⟩ (.slice (some ⟨g, 0, none⟩) m cap)) q va A (.slice (some ⟨g, 0, none⟩) m cap) (S ++ [n]) := by
 have hlt := h.lt
 have nb : ∀ k, some k = vs.ownBlock → g3 + 1 ≤ k := fun k hk => (h.ses.lt k hk.symm).1
 have hb : ¬ some b = vs.ownBlock := fun e => by have := nb b e; omega
 have h3 : ¬ some g3 = vs.ownBlock := fun e => by have := nb g3 e; omega
 have h2 : ¬ some w.heap.size = vs.ownBlock := fun e => by have := nb _ e; omega
 have st : Only (fun k => k = g3) w4 (w4.setCell ⟨g3, 4, none⟩ (.slice (some ⟨g, 0, none⟩) m cap)) := (Only.refl (fun k => k = g3) w4).setCell (p := ⟨g3, 4, none⟩) rfl _
 refine ⟨(h.cur.only ho hb).only st (by omega), (h.box.only ho h3).put 4 (by simp) _, (h.res.only ho h2).only st (by omega), ⟨(h.vol.own.only ho (fun k hk e => ?_)).only st (fun k hk e => ?_), fun p hp => ((h.vol.nms p hp).only ho (fun k hk e => ?_)).only st (fun k hk e => ?_)⟩, h.vt, h.vn, h.inc, (h.aud.only ho (fun k hk e => ?_)).only st (fun k hk e => ?_), hown.only st (fun k hk e => ?_), (h.only.then ho (fun k hk e => ?_)).then st (fun k hk e => ?_), hlt⟩
 ·have := nb k e; have := h.vt k hk; omega
 ·have := h.vt k hk; omega
 ·have := nb k e; have := h.vn p hp k hk; omega
 ·have := h.vn p hp k hk; omega
 ·exact apartX (T := 55) (U := 61) (by decide) h.aud h.ses hk e.symm
 ·have := (h.aud.lt k hk).1; omega
 ·have := (hown.lt k hk).1; omega
 ·have := nb k e; omega
 ·omega
end Go.Proofs.YtknckbedddeijaaGreat
namespace Go.Proofs.YtknckbedddeijaaGreat
open Go.RowKit
set_option linter.unusedVariables false
theorem infoNtR : (Tryz.prog.info? 55).map (fun i => (i.zero, i.size, i.bytes)) = some (some (.agg #[.int .i64 0, .int .i64 0, .int .i64 0, .int .i64 0, .int .i64 0]), 5, 40) := by kernel_rfl
theorem infoSeR : (Tryz.prog.info? 61).map (fun i => (i.zero, i.size, i.bytes)) = some (some (.agg #[.int .i64 0, .int .i64 0, .int .i64 0, .int .i64 0, .string ⟨#[]⟩]), 5, 48) := by kernel_rfl
/-- What a cursor's tenant hands back. -/
def TenC (b : Nat) (q : ByteArray) (w : World) (e : Ending) (w' : World) : Prop :=
 (∃ (t : Ten) (g3 : Nat) (q' : ByteArray), e = .returned t.v ∧ Hid (tenO q.data.toList = some (t.key, q'.data.toList)) ∧ CurAt w' b q' ∧ q'.size ≤ 1048576 ∧ Hid (VolO w' w.heap.size t.u t.L ∧ Own ntE 55 w' (g3 + 1) t.va t.A ∧ Own seE 61 w' (g3 + 1) t.vs t.S) ∧ Hid (w.heap.size < g3 ∧ (∀ k, t.u.ownBlock = some k → k < g3) ∧ (∀ p ∈ t.L, ∀ k, p.v.ownBlock = some k → k < g3) ∧ Inc t.L) ∧ Only (fun k => k = b) w w') ∨ (Lack e ∧ Hid (tenO q.data.toList = none) ∧ Only (fun k => k = b) w w')
/-- append of one onto a row of the call's own, inside a region that draws its order. -/
theorem step_Nt {w : World} {ops : Array Oper} {o : Oper} {a : Act} {KK : Act → World → Prop} {Q : Exit → Act → World → Prop} {Z : Prop} (hgd : o.guard = none) (s x : Operand)
  (ho : o.op = .call { callee := .builtin .append, args := #[s, x], argTypes := #[33, 33] })
  (base : Nat) (v : Value) (L : List Nt) (d : Nt) (hs : a.eval s = v) (hown : Own ntE 55 w base v L) (ad : Addr) (c : Nat) (hx : a.eval x = .slice (some ad) 1 c)
  (hnews : ∀ j u, (ntE.f [d])[j]? = some u → w.cell? (ad.add j) = some u) (hlen : L.length ≤ 2000000) (hbase : base ≤ w.heap.size)
  (h : ∀ g cap' w', Own ntE 55 w' base (.slice (some ⟨g, 0, none⟩) (L.length + 1) cap') (L ++ [d]) → Only (fun k => some k = v.ownBlock) w w' → (v.ownBlock = some g ∨ g = w.heap.size) → g < w'.heap.size →
   KK (a.put o.dst (.slice (some ⟨g, 0, none⟩) (L.length + 1) cap')) w') : if Region.wanted o (yielded ops a.tmps) = true then Oper.wp Tryz.prog o a w KK Q else Z := by
 obtain ⟨i0, hi, hz0, hz1, hz2⟩ := info_parts infoNtR
 refine step_append_lies w hgd s x 33 ho base 55 i0 (.agg #[.int .i64 0, .int .i64 0, .int .i64 0, .int .i64 0, .int .i64 0]) 5 40 Tryz.underlying33 hi hz0 hz1 hz2 rfl (by decide) v L.length (ntE.f L) hs hown ad 1 c (ntE.f [d]) hx (ntE.f_len [d]) hnews (ntE.f_one [d]) (by omega) (by unfold maxLen; omega) (by omega) hbase w.heap.size rfl ?_
 intro g cap' w' hown' hgrow hloc hg
 refine h g cap' w' (Own.mk hown' (by simp) (by rw [ntE.f_append])) (grown_only hgrow) hloc hg
/-- append of one onto a row of the call's own, inside a region that draws its order. -/
theorem step_Se {w : World} {ops : Array Oper} {o : Oper} {a : Act} {KK : Act → World → Prop} {Q : Exit → Act → World → Prop} {Z : Prop} (hgd : o.guard = none) (s x : Operand)
  (ho : o.op = .call { callee := .builtin .append, args := #[s, x], argTypes := #[34, 34] })
  (base : Nat) (v : Value) (L : List Se) (d : Se) (hs : a.eval s = v) (hown : Own seE 61 w base v L) (ad : Addr) (c : Nat) (hx : a.eval x = .slice (some ad) 1 c)
  (hnews : ∀ j u, (seE.f [d])[j]? = some u → w.cell? (ad.add j) = some u) (hlen : L.length ≤ 2000000) (hbase : base ≤ w.heap.size)
  (h : ∀ g cap' w', Own seE 61 w' base (.slice (some ⟨g, 0, none⟩) (L.length + 1) cap') (L ++ [d]) → Only (fun k => some k = v.ownBlock) w w' → (v.ownBlock = some g ∨ g = w.heap.size) → g < w'.heap.size →
   KK (a.put o.dst (.slice (some ⟨g, 0, none⟩) (L.length + 1) cap')) w') : if Region.wanted o (yielded ops a.tmps) = true then Oper.wp Tryz.prog o a w KK Q else Z := by
 obtain ⟨i0, hi, hz0, hz1, hz2⟩ := info_parts infoSeR
 refine step_append_lies w hgd s x 34 ho base 61 i0 (.agg #[.int .i64 0, .int .i64 0, .int .i64 0, .int .i64 0, .string ⟨#[]⟩]) 5 48 Tryz.underlying34 hi hz0 hz1 hz2 rfl (by decide) v L.length (seE.f L) hs hown ad 1 c (seE.f [d]) hx (seE.f_len [d]) hnews (seE.f_one [d]) (by omega) (by unfold maxLen; omega) (by omega) hbase w.heap.size rfl ?_
 intro g cap' w' hown' hgrow hloc hg
 refine h g cap' w' (Own.mk hown' (by simp) (by rw [seE.f_append])) (grown_only hgrow) hloc hg
set_option maxRecDepth 100000 in
set_option maxHeartbeats 16000000 in
theorem tenantC_any (b : Nat) (q0 : ByteArray) (w : World) (hc : CurAt w b q0) (s0 : q0.size ≤ 1048576) :
  Calls Tryz.prog 30 #[.pointer (some ⟨b, 0, none⟩)] w (TenC b q0 w) := by
 have hlt := hc.lt
 go_enter Tryz.func30, Tryz.ntmps30
 go_wp2_with fail
 obtain ⟨W0, hW, bW, zW, cW, fW⟩ := boxed w zTn 36
 simp only [hW]
 have c0 : CurAt W0 b q0 := hc.kept bW
 have b0 : Only (fun k => k = b) w W0 := ob_any bW
 have X0 : Hid (Blk W0 w.heap.size zTn) := ⟨by omega, cW, fW⟩
 have hne : ¬ w.heap.size = b := by omega
 have hz0 : Hid (W0.heap.size = w.heap.size + 1) := zW
 clear hW bW zW cW fW hc
 refine (insV_any b q0 W0 c0 s0).mono ?_
 rintro e W1 (⟨nx, u, M, q1, rfl, hv, c1, s1, hm, o1⟩ | ⟨⟨pv, rfl⟩, hv, o1⟩)
 rotate_left 1
 ·have HP : Hid (tenO q0.data.toList = none) := by unfold Hid; simp only [tenO, hv.out, Option.bind_none]
  have HB := Hid.intro (b0.trans o1)
  clear hv X0 o1
  go_wp2
  exact ⟨rfl, .inr ⟨⟨_, rfl⟩, HP, HB.out⟩⟩
 have b1 := b0.trans o1
 replace X0 := Hid.intro (X0.out.only o1 hne)
 have HM : Hid (VolO W1 (w.heap.size + 1) u M ∧ Inc M) := by unfold Hid; rw [← hz0.out]; exact hm.out
 have HT : Hid ((∀ k, u.ownBlock = some k → k < W1.heap.size) ∧ ∀ p ∈ M, ∀ k, p.v.ownBlock = some k → k < W1.heap.size) := ⟨fun k hk => (hm.out.1.own.lt k hk).2, fun p hp k hk => ((hm.out.1.nms p hp).lt k hk).2⟩
 obtain ⟨ua, uc, rfl⟩ := hm.out.1.own.slice
 clear hm o1 c0 b0 s0
 go_wp2_with fail
 refine (number_any b q1 W1 c1 s1).mono ?_
 rintro e w1 (⟨tk, q2, rfl, hn, rfl⟩ | ⟨⟨pv, rfl⟩, hn, rfl⟩)
 rotate_left 1
 ·have HP : Hid (tenO q0.data.toList = none) := by
   have e0 := numO_no hn
   unfold Hid
   simp only [tenO, hv.out, e0, Option.bind_some, Option.bind_none]
  clear hn X0 HM HT
  go_wp2
  exact ⟨rfl, .inr ⟨⟨_, rfl⟩, HP, b1⟩⟩
 have H0 : Hid (numO q1.data.toList = some (tk, q2.data.toList)) := numO_yes hn
 have s2 : q2.size ≤ 1048576 := num_size hn s1
 have c2 : CurAt (_) b q2 := c1.set
 have b2 := b1.trans (ob_set b _ (.string q2))
 replace X0 := Hid.intro (X0.out.only (ob_set b _ (.string q2)) hne)
 replace HM := Hid.intro (And.intro (HM.out.1.only (ob_set b _ (.string q2)) (fun k hk e => by omega)) HM.out.2)
 have hsz : (W1.setCell ⟨b, 0, none⟩ (.string q2)).heap.size = W1.heap.size := by simp
 rw [← hsz] at HT
 clear hsz
 revert c2 b2 X0 HM HT
 generalize World.setCell _ ⟨b, 0, none⟩ (.string q2) = W2
 intro HT c2 b2 X0 HM
 clear hn c1 b1 s1
 have z2 := X0.out.hi
 go_upto_region 2 with fail
 obtain ⟨Y, hY, bY, zY, cY, fY⟩ := boxed W2 #[.int .i64 (nx : Nat), .slice ua M.length uc, .int .i64 (tk : Nat), .slice none 0 0, .slice none 0 0] 36
 simp only [hY]
 have HI : Hid (TnR w b W2.heap.size (nx : Nat) (tk : Nat) (.slice ua M.length uc) M Y q2 (.slice none 0 0) [] (.slice none 0 0) []) :=
  ⟨c2.kept bY, ⟨by omega, cY, fY⟩, X0.out.kept bY, HM.out.1.kept bY, HT.out.1, HT.out.2, HM.out.2, Own.nil _ _, Own.nil _ _, b2.trans (ob_any bY), hlt, z2⟩
 clear hY bY zY cY fY c2 b2 X0 hne HM HT z2
 generalize W2.heap.size = g3 at HI ⊢
 go_wp2_with fail
 refine (countC_any b 20 q2 _ HI.out.cur s2).mono ?_
 rintro e Z (⟨n, q9, rfl, H8, hn24, c9, s9, k9⟩ | ⟨⟨pv, rfl⟩, hn, k9⟩)
 rotate_left 1
 ·have HP : Hid (tenO q0.data.toList = none) := by
   have e8 := hn.out
   unfold Hid
   simp only [tenO, hv.out, H0.out, e8, Option.bind_some, Option.bind_none]
  have b9 := HI.out.only.trans k9
  clear hn HI
  go_wp2
  exact ⟨rfl, .inr ⟨⟨_, rfl⟩, HP, b9⟩⟩
 replace HI := Hid.intro (HI.out.step k9 c9)
 clear c9 k9 s2
 have HIO : Hid (tenO q0.data.toList = (notsO n q9.data.toList).bind fun a => (cntO 3 a.2).bind fun m => (sessO m.1 m.2).bind fun s => some (((nx : Int), M.map Np.n, (tk : Int), a.1, s.1), s.2)) := by
  unfold Hid
  simp only [tenO, hv.out, H0.out, H8.out, Option.bind_some]
 clear H0 H8 hv
 go_wp2
 go_loopw [11] (fun i wr => ∃ (q : ByteArray) (v : Value) (A : List Nt), i = .int .i64 (A.length : Nat) ∧ A.length ≤ n ∧ q.size ≤ 1048576 ∧ Hid (notsO n q9.data.toList = (notsO (n - A.length) q.data.toList).map fun y => (A ++ y.1, y.2)) ∧ Hid (TnR w b g3 (nx : Nat) (tk : Nat) (.slice ua M.length uc) M wr q v A (.slice none 0 0) [])) (fun i _ => n - (intOf i).toNat)
 case atStart => exact ⟨q9, _, [], rfl, Nat.zero_le _, s9, by unfold Hid; simp, HI⟩
 case round =>
  clear HI
  obtain ⟨q, v, A, rfl, hj, sq, HN, HI⟩ := hrel
  by_cases hlt : A.length < n
  ·have hjn : (A.length : Int) < (n : Int) := by omega
   obtain ⟨va, vc, rfl⟩ := HI.out.aud.slice
   go_upto_region 4 with fail
   refine wp_region_held_drew (S := fun _ => True) (by kernel_rfl) trivial (fun hHeld => ?_)
   have HD := Hid.intro (HI.out.kept (w2 := wr.drew) (Below.refl _ _).drew)
   clear HI
   generalize wr.drew = D at HD hHeld ⊢
   refine tkk 0 13 (v := ?_) ?_ ?_
   rotate_left 1
   ·intro w hSw
    go_simp <;> with_reducible rfl
   simp only [Act.put, List.setIfInBounds_toArray]
   try simp only [List.set_cons_succ]
   try simp only [List.set_cons_zero]
   refine tkk 2 15 (v := ?_) ?_ ?_
   rotate_left 1
   ·intro w hSw
    go_simp <;> with_reducible rfl
   simp only [Act.put, List.setIfInBounds_toArray]
   try simp only [List.set_cons_succ]
   try simp only [List.set_cons_zero]
   refine wpAnyH_ready (rs := [1, 3]) (by kernel_rfl) (by simp) ?_
   refine (AllReadyH.cons rfl (fun KK hKK => ?_) (AllReadyH.cons rfl (fun KK hKK => ?_) AllReadyH.nil))
   ·skip
    have k6 : D.cell? ⟨g3, 3, none⟩ = some (.slice va A.length vc) := HD.out.box.cell 3
    go_simp
    refine hKK.out _ _ trivial (fun hHeld2 => ?_)
    clear hKK KK hHeld
    have hHeld := hHeld2
    clear hHeld2
    clear k6
    refine wpAnyH_ready (rs := [3]) (by kernel_rfl) (by simp) ?_
    refine (AllReadyH.cons rfl (fun KK hKK => ?_) AllReadyH.nil)
    go_simp
    refine (noteC_any b q D HD.out.cur sq).mono ?_
    rintro e x1 (⟨nd, q2, rfl, G1, c2, s2, o1⟩ | ⟨⟨pv, rfl⟩, G1, o1⟩)
    rotate_left 1
    ·have HP : Hid (tenO q0.data.toList = none) := by
      unfold Hid
      rw [HIO.out, HN.out, notsO_no (by omega) G1.out]
      rfl
     have B9 := HD.out.only.trans o1
     clear HD hKK
     go_simp
     go_wp2
     exact ⟨rfl, .inr ⟨⟨_, rfl⟩, HP, B9⟩⟩
    have HN2 : Hid (notsO n q9.data.toList = (notsO (n - (A.length + 1)) q2.data.toList).map fun y => ((A ++ [nd]) ++ y.1, y.2)) := by
     unfold Hid
     rw [HN.out, notsO_yes (by omega) G1.out, Nat.sub_sub]
     cases notsO (n - (A.length + 1)) q2.data.toList <;> simp
    replace HD := Hid.intro (HD.out.step o1 c2)
    clear o1 c2 HN
    go_simp
    refine hKK.out _ _ trivial (fun hHeld2 => ?_)
    clear hKK KK hHeld
    have hHeld := hHeld2
    clear hHeld2
    refine wpAnyH_ready (rs := [4]) (by kernel_rfl) (by simp) ?_
    refine (AllReadyH.cons rfl (fun KK hKK => ?_) AllReadyH.nil)
    go_simp
    have bM : Below x1.heap.size x1 (x1.alloc (.cells #[.int .i64 nd.i, .int .i64 nd.c, .int .i64 nd.s, .int .i64 nd.k, .int .i64 nd.d] 55)) := one_below _ _
    have cM : ∀ o, (x1.alloc (.cells #[.int .i64 nd.i, .int .i64 nd.c, .int .i64 nd.s, .int .i64 nd.k, .int .i64 nd.d] 55)).cell? ⟨x1.heap.size, o, none⟩ = (#[.int .i64 nd.i, .int .i64 nd.c, .int .i64 nd.s, .int .i64 nd.k, .int .i64 nd.d] : Array Value)[o]? := fun o => World.cell?_alloc_at _ _ _ _ rfl
    replace HD := Hid.intro (HD.out.kept bM)
    revert HD cM
    generalize x1.alloc (.cells #[.int .i64 nd.i, .int .i64 nd.c, .int .i64 nd.s, .int .i64 nd.k, .int .i64 nd.d] 55) = Mw at bM
    generalize x1.heap.size = sb
    intro cM HD
    refine hKK.out _ _ trivial (fun hHeld2 => ?_)
    clear hKK KK hHeld
    have hHeld := hHeld2
    clear hHeld2
    refine wpAnyH_ready (rs := [5]) (by kernel_rfl) (by simp) ?_
    refine (AllReadyH.cons rfl (fun KK hKK => ?_) AllReadyH.nil)
    have hnews : ∀ j u, (ntE.f [nd])[j]? = some u → Mw.cell? ((⟨sb, 0, none⟩ : Addr).add j) = some u := fun j u hj => by
     rw [add_none, Nat.zero_add, cM]
     simpa [ntE, Enc.f] using hj
    have hbase : g3 + 1 ≤ Mw.heap.size := HD.out.box.hi
    refine step_Nt rfl _ _ rfl (g3 + 1) (.slice va A.length vc) A nd rfl HD.out.aud ⟨sb, 0, none⟩ 1 rfl hnews (by omega) hbase ?_
    intro g cap2 w4 hown ho hloc hg
    have hne3 : ¬ some g3 = (Value.slice va A.length vc).ownBlock := fun e => by have := (HD.out.aud.lt g3 e.symm).1; omega
    have k6 : w4.cell? ⟨g3, 3, none⟩ = some (.slice va A.length vc) := (ho.cell (o := 3) HD.out.box.hi hne3).trans (HD.out.box.cell 3)
    have f6 := (ho.frozen (o := 3) HD.out.box.hi hne3).trans (HD.out.box.fro 3)
    have HE := Hid.intro (HD.out.putA ho hown)
    clear HD hown ho hloc hg hnews hbase cM hne3 bM
    go_simp
    refine hKK.out _ _ trivial (fun hHeld2 => ?_)
    clear hKK KK hHeld
    have hHeld := hHeld2
    clear hHeld2
    refine tkk 6 19 (v := ?_) ?_ ?_
    rotate_left 1
    ·intro w hSw
     go_simp <;> with_reducible rfl
    simp only [Act.put, List.setIfInBounds_toArray]
    try simp only [List.set_cons_succ]
    try simp only [List.set_cons_zero]
    refine wpAnyH_ready (rs := [7]) (by kernel_rfl) (by simp) ?_
    refine (AllReadyH.cons rfl (fun KK hKK => ?_) AllReadyH.nil)
    go_simp
    generalize w4.setCell ⟨g3, 3, none⟩ _ = w5 at HE ⊢
    clear k6 f6
    refine hKK.out _ _ trivial (fun hHeld2 => ?_)
    clear hKK KK hHeld
    have hHeld := hHeld2
    clear hHeld2
    refine wpAnyH_done (by kernel_rfl) ?_ _
    clear hHeld
    go_wp2
    go_roundw
    case rel => exact ⟨q2, _, A ++ [nd], by rw [List.length_append]; go_num, by rw [List.length_append, List.length_singleton]; omega, s2, by unfold Hid; rw [List.length_append, List.length_singleton]; exact HN2.out, HE⟩
    case measure => simp [intOf]; omega
   ·skip
    go_simp
    refine (noteC_any b q D HD.out.cur sq).mono ?_
    rintro e x1 (⟨nd, q2, rfl, G1, c2, s2, o1⟩ | ⟨⟨pv, rfl⟩, G1, o1⟩)
    rotate_left 1
    ·have HP : Hid (tenO q0.data.toList = none) := by
      unfold Hid
      rw [HIO.out, HN.out, notsO_no (by omega) G1.out]
      rfl
     have B9 := HD.out.only.trans o1
     clear HD hKK
     go_simp
     go_wp2
     exact ⟨rfl, .inr ⟨⟨_, rfl⟩, HP, B9⟩⟩
    have HN2 : Hid (notsO n q9.data.toList = (notsO (n - (A.length + 1)) q2.data.toList).map fun y => ((A ++ [nd]) ++ y.1, y.2)) := by
     unfold Hid
     rw [HN.out, notsO_yes (by omega) G1.out, Nat.sub_sub]
     cases notsO (n - (A.length + 1)) q2.data.toList <;> simp
    replace HD := Hid.intro (HD.out.step o1 c2)
    clear o1 c2 HN
    go_simp
    refine hKK.out _ _ trivial (fun hHeld2 => ?_)
    clear hKK KK hHeld
    have hHeld := hHeld2
    clear hHeld2
    refine wpAnyH_ready (rs := [1, 4]) (by kernel_rfl) (by simp) ?_
    refine (AllReadyH.cons rfl (fun KK hKK => ?_) (AllReadyH.cons rfl (fun KK hKK => ?_) AllReadyH.nil))
    ·skip
     have k6 : x1.cell? ⟨g3, 3, none⟩ = some (.slice va A.length vc) := HD.out.box.cell 3
     go_simp
     refine hKK.out _ _ trivial (fun hHeld2 => ?_)
     clear hKK KK hHeld
     have hHeld := hHeld2
     clear hHeld2
     clear k6
     refine wpAnyH_ready (rs := [4]) (by kernel_rfl) (by simp) ?_
     refine (AllReadyH.cons rfl (fun KK hKK => ?_) AllReadyH.nil)
     go_simp
     have bM : Below x1.heap.size x1 (x1.alloc (.cells #[.int .i64 nd.i, .int .i64 nd.c, .int .i64 nd.s, .int .i64 nd.k, .int .i64 nd.d] 55)) := one_below _ _
     have cM : ∀ o, (x1.alloc (.cells #[.int .i64 nd.i, .int .i64 nd.c, .int .i64 nd.s, .int .i64 nd.k, .int .i64 nd.d] 55)).cell? ⟨x1.heap.size, o, none⟩ = (#[.int .i64 nd.i, .int .i64 nd.c, .int .i64 nd.s, .int .i64 nd.k, .int .i64 nd.d] : Array Value)[o]? := fun o => World.cell?_alloc_at _ _ _ _ rfl
     replace HD := Hid.intro (HD.out.kept bM)
     revert HD cM
     generalize x1.alloc (.cells #[.int .i64 nd.i, .int .i64 nd.c, .int .i64 nd.s, .int .i64 nd.k, .int .i64 nd.d] 55) = Mw at bM
     generalize x1.heap.size = sb
     intro cM HD
     refine hKK.out _ _ trivial (fun hHeld2 => ?_)
     clear hKK KK hHeld
     have hHeld := hHeld2
     clear hHeld2
     refine wpAnyH_ready (rs := [5]) (by kernel_rfl) (by simp) ?_
     refine (AllReadyH.cons rfl (fun KK hKK => ?_) AllReadyH.nil)
     have hnews : ∀ j u, (ntE.f [nd])[j]? = some u → Mw.cell? ((⟨sb, 0, none⟩ : Addr).add j) = some u := fun j u hj => by
      rw [add_none, Nat.zero_add, cM]
      simpa [ntE, Enc.f] using hj
     have hbase : g3 + 1 ≤ Mw.heap.size := HD.out.box.hi
     refine step_Nt rfl _ _ rfl (g3 + 1) (.slice va A.length vc) A nd rfl HD.out.aud ⟨sb, 0, none⟩ 1 rfl hnews (by omega) hbase ?_
     intro g cap2 w4 hown ho hloc hg
     have hne3 : ¬ some g3 = (Value.slice va A.length vc).ownBlock := fun e => by have := (HD.out.aud.lt g3 e.symm).1; omega
     have k6 : w4.cell? ⟨g3, 3, none⟩ = some (.slice va A.length vc) := (ho.cell (o := 3) HD.out.box.hi hne3).trans (HD.out.box.cell 3)
     have f6 := (ho.frozen (o := 3) HD.out.box.hi hne3).trans (HD.out.box.fro 3)
     have HE := Hid.intro (HD.out.putA ho hown)
     clear HD hown ho hloc hg hnews hbase cM hne3 bM
     go_simp
     refine hKK.out _ _ trivial (fun hHeld2 => ?_)
     clear hKK KK hHeld
     have hHeld := hHeld2
     clear hHeld2
     refine tkk 6 19 (v := ?_) ?_ ?_
     rotate_left 1
     ·intro w hSw
      go_simp <;> with_reducible rfl
     simp only [Act.put, List.setIfInBounds_toArray]
     try simp only [List.set_cons_succ]
     try simp only [List.set_cons_zero]
     refine wpAnyH_ready (rs := [7]) (by kernel_rfl) (by simp) ?_
     refine (AllReadyH.cons rfl (fun KK hKK => ?_) AllReadyH.nil)
     go_simp
     generalize w4.setCell ⟨g3, 3, none⟩ _ = w5 at HE ⊢
     clear k6 f6
     refine hKK.out _ _ trivial (fun hHeld2 => ?_)
     clear hKK KK hHeld
     have hHeld := hHeld2
     clear hHeld2
     refine wpAnyH_done (by kernel_rfl) ?_ _
     clear hHeld
     go_wp2
     go_roundw
     case rel => exact ⟨q2, _, A ++ [nd], by rw [List.length_append]; go_num, by rw [List.length_append, List.length_singleton]; omega, s2, by unfold Hid; rw [List.length_append, List.length_singleton]; exact HN2.out, HE⟩
     case measure => simp [intOf]; omega
    ·skip
     go_simp
     have bM : Below x1.heap.size x1 (x1.alloc (.cells #[.int .i64 nd.i, .int .i64 nd.c, .int .i64 nd.s, .int .i64 nd.k, .int .i64 nd.d] 55)) := one_below _ _
     have cM : ∀ o, (x1.alloc (.cells #[.int .i64 nd.i, .int .i64 nd.c, .int .i64 nd.s, .int .i64 nd.k, .int .i64 nd.d] 55)).cell? ⟨x1.heap.size, o, none⟩ = (#[.int .i64 nd.i, .int .i64 nd.c, .int .i64 nd.s, .int .i64 nd.k, .int .i64 nd.d] : Array Value)[o]? := fun o => World.cell?_alloc_at _ _ _ _ rfl
     replace HD := Hid.intro (HD.out.kept bM)
     revert HD cM
     generalize x1.alloc (.cells #[.int .i64 nd.i, .int .i64 nd.c, .int .i64 nd.s, .int .i64 nd.k, .int .i64 nd.d] 55) = Mw at bM
     generalize x1.heap.size = sb
     intro cM HD
     refine hKK.out _ _ trivial (fun hHeld2 => ?_)
     clear hKK KK hHeld
     have hHeld := hHeld2
     clear hHeld2
     refine wpAnyH_ready (rs := [1]) (by kernel_rfl) (by simp) ?_
     refine (AllReadyH.cons rfl (fun KK hKK => ?_) AllReadyH.nil)
     have k6 : Mw.cell? ⟨g3, 3, none⟩ = some (.slice va A.length vc) := HD.out.box.cell 3
     go_simp
     refine hKK.out _ _ trivial (fun hHeld2 => ?_)
     clear hKK KK hHeld
     have hHeld := hHeld2
     clear hHeld2
     clear k6
     refine wpAnyH_ready (rs := [5]) (by kernel_rfl) (by simp) ?_
     refine (AllReadyH.cons rfl (fun KK hKK => ?_) AllReadyH.nil)
     have hnews : ∀ j u, (ntE.f [nd])[j]? = some u → Mw.cell? ((⟨sb, 0, none⟩ : Addr).add j) = some u := fun j u hj => by
      rw [add_none, Nat.zero_add, cM]
      simpa [ntE, Enc.f] using hj
     have hbase : g3 + 1 ≤ Mw.heap.size := HD.out.box.hi
     refine step_Nt rfl _ _ rfl (g3 + 1) (.slice va A.length vc) A nd rfl HD.out.aud ⟨sb, 0, none⟩ 1 rfl hnews (by omega) hbase ?_
     intro g cap2 w4 hown ho hloc hg
     have hne3 : ¬ some g3 = (Value.slice va A.length vc).ownBlock := fun e => by have := (HD.out.aud.lt g3 e.symm).1; omega
     have k6 : w4.cell? ⟨g3, 3, none⟩ = some (.slice va A.length vc) := (ho.cell (o := 3) HD.out.box.hi hne3).trans (HD.out.box.cell 3)
     have f6 := (ho.frozen (o := 3) HD.out.box.hi hne3).trans (HD.out.box.fro 3)
     have HE := Hid.intro (HD.out.putA ho hown)
     clear HD hown ho hloc hg hnews hbase cM hne3 bM
     go_simp
     refine hKK.out _ _ trivial (fun hHeld2 => ?_)
     clear hKK KK hHeld
     have hHeld := hHeld2
     clear hHeld2
     refine tkk 6 19 (v := ?_) ?_ ?_
     rotate_left 1
     ·intro w hSw
      go_simp <;> with_reducible rfl
     simp only [Act.put, List.setIfInBounds_toArray]
     try simp only [List.set_cons_succ]
     try simp only [List.set_cons_zero]
     refine wpAnyH_ready (rs := [7]) (by kernel_rfl) (by simp) ?_
     refine (AllReadyH.cons rfl (fun KK hKK => ?_) AllReadyH.nil)
     go_simp
     generalize w4.setCell ⟨g3, 3, none⟩ _ = w5 at HE ⊢
     clear k6 f6
     refine hKK.out _ _ trivial (fun hHeld2 => ?_)
     clear hKK KK hHeld
     have hHeld := hHeld2
     clear hHeld2
     refine wpAnyH_done (by kernel_rfl) ?_ _
     clear hHeld
     go_wp2
     go_roundw
     case rel => exact ⟨q2, _, A ++ [nd], by rw [List.length_append]; go_num, by rw [List.length_append, List.length_singleton]; omega, s2, by unfold Hid; rw [List.length_append, List.length_singleton]; exact HN2.out, HE⟩
     case measure => simp [intOf]; omega
  ·obtain rfl : A.length = n := by omega
   have hjn : ¬ (A.length : Int) < (A.length : Int) := by omega
   have HQ : Hid (notsO A.length q9.data.toList = some (A, q.data.toList)) := by
    unfold Hid
    rw [HN.out, Nat.sub_self]
    simp [notsO]
   clear HN
   go_wp2_with fail
   refine (countC_any b 3 q _ HI.out.cur sq).mono ?_
   rintro e Z2 (⟨m, q8, rfl, H7, hm3, c8, s8, k8⟩ | ⟨⟨pv, rfl⟩, hn, k8⟩)
   rotate_left 1
   ·have HP : Hid (tenO q0.data.toList = none) := by
     have e8 := hn.out
     unfold Hid
     rw [HIO.out, HQ.out]
     simp only [e8, Option.bind_some, Option.bind_none]
    have b9 := HI.out.only.trans k8
    clear hn HI
    go_wp2
    exact ⟨rfl, .inr ⟨⟨_, rfl⟩, HP, b9⟩⟩
   replace HI := Hid.intro (HI.out.step k8 c8)
   clear c8 k8 sq
   have HI2 : Hid (tenO q0.data.toList = (sessO m q8.data.toList).bind fun s => some (((nx : Int), M.map Np.n, (tk : Int), A, s.1), s.2)) := by
    unfold Hid
    rw [HIO.out, HQ.out]
    simp only [H7.out, Option.bind_some]
   clear H7 HIO HQ
   obtain ⟨aa, ac, rfl⟩ := HI.out.aud.slice
   go_wp2
   go_loopw [23] (fun i wr => ∃ (q : ByteArray) (v : Value) (S : List Se), i = .int .i64 (S.length : Nat) ∧ S.length ≤ m ∧ q.size ≤ 1048576 ∧ Hid (sessO m q8.data.toList = (sessO (m - S.length) q.data.toList).map fun y => (S ++ y.1, y.2)) ∧ Hid (TnR w b g3 (nx : Nat) (tk : Nat) (.slice ua M.length uc) M wr q (.slice aa A.length ac) A v S)) (fun i _ => m - (intOf i).toNat)
   case atStart => exact ⟨q8, _, [], rfl, Nat.zero_le _, s8, by unfold Hid; simp, HI⟩
   case round =>
    clear HI
    obtain ⟨q, v, S, rfl, hj, sq, HN, HI⟩ := hrel
    by_cases hlt : S.length < m
    ·have hjn : (S.length : Int) < (m : Int) := by omega
     obtain ⟨va, vc, rfl⟩ := HI.out.ses.slice
     go_upto_region 8 with fail
     refine wp_region_held_drew (S := fun _ => True) (by kernel_rfl) trivial (fun hHeld => ?_)
     have HD := Hid.intro (HI.out.kept (w2 := wr.drew) (Below.refl _ _).drew)
     clear HI
     generalize wr.drew = D at HD hHeld ⊢
     refine tkk 0 25 (v := ?_) ?_ ?_
     rotate_left 1
     ·intro w hSw
      go_simp <;> with_reducible rfl
     simp only [Act.put, List.setIfInBounds_toArray]
     try simp only [List.set_cons_succ]
     try simp only [List.set_cons_zero]
     refine tkk 2 27 (v := ?_) ?_ ?_
     rotate_left 1
     ·intro w hSw
      go_simp <;> with_reducible rfl
     simp only [Act.put, List.setIfInBounds_toArray]
     try simp only [List.set_cons_succ]
     try simp only [List.set_cons_zero]
     refine wpAnyH_ready (rs := [1, 3]) (by kernel_rfl) (by simp) ?_
     refine (AllReadyH.cons rfl (fun KK hKK => ?_) (AllReadyH.cons rfl (fun KK hKK => ?_) AllReadyH.nil))
     ·skip
      have k6 : D.cell? ⟨g3, 4, none⟩ = some (.slice va S.length vc) := HD.out.box.cell 4
      go_simp
      refine hKK.out _ _ trivial (fun hHeld2 => ?_)
      clear hKK KK hHeld
      have hHeld := hHeld2
      clear hHeld2
      clear k6
      refine wpAnyH_ready (rs := [3]) (by kernel_rfl) (by simp) ?_
      refine (AllReadyH.cons rfl (fun KK hKK => ?_) AllReadyH.nil)
      go_simp
      refine (sessionC_any b q D HD.out.cur sq).mono ?_
      rintro e x1 (⟨nd, q2, rfl, G1, c2, s2, o1⟩ | ⟨⟨pv, rfl⟩, G1, o1⟩)
      rotate_left 1
      ·have HP : Hid (tenO q0.data.toList = none) := by
        unfold Hid
        rw [HI2.out, HN.out, sessO_no (by omega) G1.out]
        rfl
       have B9 := HD.out.only.trans o1
       clear HD hKK
       go_simp
       go_wp2
       exact ⟨rfl, .inr ⟨⟨_, rfl⟩, HP, B9⟩⟩
      have HN2 : Hid (sessO m q8.data.toList = (sessO (m - (S.length + 1)) q2.data.toList).map fun y => ((S ++ [nd]) ++ y.1, y.2)) := by
       unfold Hid
       rw [HN.out, sessO_yes (by omega) G1.out, Nat.sub_sub]
       cases sessO (m - (S.length + 1)) q2.data.toList <;> simp
      replace HD := Hid.intro (HD.out.step o1 c2)
      clear o1 c2 HN
      go_simp
      refine hKK.out _ _ trivial (fun hHeld2 => ?_)
      clear hKK KK hHeld
      have hHeld := hHeld2
      clear hHeld2
      refine wpAnyH_ready (rs := [4]) (by kernel_rfl) (by simp) ?_
      refine (AllReadyH.cons rfl (fun KK hKK => ?_) AllReadyH.nil)
      go_simp
      have bM : Below x1.heap.size x1 (x1.alloc (.cells #[.int .i64 nd.c, .int .i64 nd.s, .int .i64 nd.i, .int .i64 nd.r.c, .string nd.r.d] 61)) := one_below _ _
      have cM : ∀ o, (x1.alloc (.cells #[.int .i64 nd.c, .int .i64 nd.s, .int .i64 nd.i, .int .i64 nd.r.c, .string nd.r.d] 61)).cell? ⟨x1.heap.size, o, none⟩ = (#[.int .i64 nd.c, .int .i64 nd.s, .int .i64 nd.i, .int .i64 nd.r.c, .string nd.r.d] : Array Value)[o]? := fun o => World.cell?_alloc_at _ _ _ _ rfl
      replace HD := Hid.intro (HD.out.kept bM)
      revert HD cM
      generalize x1.alloc (.cells #[.int .i64 nd.c, .int .i64 nd.s, .int .i64 nd.i, .int .i64 nd.r.c, .string nd.r.d] 61) = Mw at bM
      generalize x1.heap.size = sb
      intro cM HD
      refine hKK.out _ _ trivial (fun hHeld2 => ?_)
      clear hKK KK hHeld
      have hHeld := hHeld2
      clear hHeld2
      refine wpAnyH_ready (rs := [5]) (by kernel_rfl) (by simp) ?_
      refine (AllReadyH.cons rfl (fun KK hKK => ?_) AllReadyH.nil)
      have hnews : ∀ j u, (seE.f [nd])[j]? = some u → Mw.cell? ((⟨sb, 0, none⟩ : Addr).add j) = some u := fun j u hj => by
       rw [add_none, Nat.zero_add, cM]
       simpa [seE, Enc.f] using hj
      have hbase : g3 + 1 ≤ Mw.heap.size := HD.out.box.hi
      refine step_Se rfl _ _ rfl (g3 + 1) (.slice va S.length vc) S nd rfl HD.out.ses ⟨sb, 0, none⟩ 1 rfl hnews (by omega) hbase ?_
      intro g cap2 w4 hown ho hloc hg
      have hne3 : ¬ some g3 = (Value.slice va S.length vc).ownBlock := fun e => by have := (HD.out.ses.lt g3 e.symm).1; omega
      have k6 : w4.cell? ⟨g3, 4, none⟩ = some (.slice va S.length vc) := (ho.cell (o := 4) HD.out.box.hi hne3).trans (HD.out.box.cell 4)
      have f6 := (ho.frozen (o := 4) HD.out.box.hi hne3).trans (HD.out.box.fro 4)
      have HE := Hid.intro (HD.out.putS ho hown)
      clear HD hown ho hloc hg hnews hbase cM hne3 bM
      go_simp
      refine hKK.out _ _ trivial (fun hHeld2 => ?_)
      clear hKK KK hHeld
      have hHeld := hHeld2
      clear hHeld2
      refine tkk 6 31 (v := ?_) ?_ ?_
      rotate_left 1
      ·intro w hSw
       go_simp <;> with_reducible rfl
      simp only [Act.put, List.setIfInBounds_toArray]
      try simp only [List.set_cons_succ]
      try simp only [List.set_cons_zero]
      refine wpAnyH_ready (rs := [7]) (by kernel_rfl) (by simp) ?_
      refine (AllReadyH.cons rfl (fun KK hKK => ?_) AllReadyH.nil)
      go_simp
      generalize w4.setCell ⟨g3, 4, none⟩ _ = w5 at HE ⊢
      clear k6 f6
      refine hKK.out _ _ trivial (fun hHeld2 => ?_)
      clear hKK KK hHeld
      have hHeld := hHeld2
      clear hHeld2
      refine wpAnyH_done (by kernel_rfl) ?_ _
      clear hHeld
      go_wp2
      go_roundw
      case rel => exact ⟨q2, _, S ++ [nd], by rw [List.length_append]; go_num, by rw [List.length_append, List.length_singleton]; omega, s2, by unfold Hid; rw [List.length_append, List.length_singleton]; exact HN2.out, HE⟩
      case measure => simp [intOf]; omega
     ·skip
      go_simp
      refine (sessionC_any b q D HD.out.cur sq).mono ?_
      rintro e x1 (⟨nd, q2, rfl, G1, c2, s2, o1⟩ | ⟨⟨pv, rfl⟩, G1, o1⟩)
      rotate_left 1
      ·have HP : Hid (tenO q0.data.toList = none) := by
        unfold Hid
        rw [HI2.out, HN.out, sessO_no (by omega) G1.out]
        rfl
       have B9 := HD.out.only.trans o1
       clear HD hKK
       go_simp
       go_wp2
       exact ⟨rfl, .inr ⟨⟨_, rfl⟩, HP, B9⟩⟩
      have HN2 : Hid (sessO m q8.data.toList = (sessO (m - (S.length + 1)) q2.data.toList).map fun y => ((S ++ [nd]) ++ y.1, y.2)) := by
       unfold Hid
       rw [HN.out, sessO_yes (by omega) G1.out, Nat.sub_sub]
       cases sessO (m - (S.length + 1)) q2.data.toList <;> simp
      replace HD := Hid.intro (HD.out.step o1 c2)
      clear o1 c2 HN
      go_simp
      refine hKK.out _ _ trivial (fun hHeld2 => ?_)
      clear hKK KK hHeld
      have hHeld := hHeld2
      clear hHeld2
      refine wpAnyH_ready (rs := [1, 4]) (by kernel_rfl) (by simp) ?_
      refine (AllReadyH.cons rfl (fun KK hKK => ?_) (AllReadyH.cons rfl (fun KK hKK => ?_) AllReadyH.nil))
      ·skip
       have k6 : x1.cell? ⟨g3, 4, none⟩ = some (.slice va S.length vc) := HD.out.box.cell 4
       go_simp
       refine hKK.out _ _ trivial (fun hHeld2 => ?_)
       clear hKK KK hHeld
       have hHeld := hHeld2
       clear hHeld2
       clear k6
       refine wpAnyH_ready (rs := [4]) (by kernel_rfl) (by simp) ?_
       refine (AllReadyH.cons rfl (fun KK hKK => ?_) AllReadyH.nil)
       go_simp
       have bM : Below x1.heap.size x1 (x1.alloc (.cells #[.int .i64 nd.c, .int .i64 nd.s, .int .i64 nd.i, .int .i64 nd.r.c, .string nd.r.d] 61)) := one_below _ _
       have cM : ∀ o, (x1.alloc (.cells #[.int .i64 nd.c, .int .i64 nd.s, .int .i64 nd.i, .int .i64 nd.r.c, .string nd.r.d] 61)).cell? ⟨x1.heap.size, o, none⟩ = (#[.int .i64 nd.c, .int .i64 nd.s, .int .i64 nd.i, .int .i64 nd.r.c, .string nd.r.d] : Array Value)[o]? := fun o => World.cell?_alloc_at _ _ _ _ rfl
       replace HD := Hid.intro (HD.out.kept bM)
       revert HD cM
       generalize x1.alloc (.cells #[.int .i64 nd.c, .int .i64 nd.s, .int .i64 nd.i, .int .i64 nd.r.c, .string nd.r.d] 61) = Mw at bM
       generalize x1.heap.size = sb
       intro cM HD
       refine hKK.out _ _ trivial (fun hHeld2 => ?_)
       clear hKK KK hHeld
       have hHeld := hHeld2
       clear hHeld2
       refine wpAnyH_ready (rs := [5]) (by kernel_rfl) (by simp) ?_
       refine (AllReadyH.cons rfl (fun KK hKK => ?_) AllReadyH.nil)
       have hnews : ∀ j u, (seE.f [nd])[j]? = some u → Mw.cell? ((⟨sb, 0, none⟩ : Addr).add j) = some u := fun j u hj => by
        rw [add_none, Nat.zero_add, cM]
        simpa [seE, Enc.f] using hj
       have hbase : g3 + 1 ≤ Mw.heap.size := HD.out.box.hi
       refine step_Se rfl _ _ rfl (g3 + 1) (.slice va S.length vc) S nd rfl HD.out.ses ⟨sb, 0, none⟩ 1 rfl hnews (by omega) hbase ?_
       intro g cap2 w4 hown ho hloc hg
       have hne3 : ¬ some g3 = (Value.slice va S.length vc).ownBlock := fun e => by have := (HD.out.ses.lt g3 e.symm).1; omega
       have k6 : w4.cell? ⟨g3, 4, none⟩ = some (.slice va S.length vc) := (ho.cell (o := 4) HD.out.box.hi hne3).trans (HD.out.box.cell 4)
       have f6 := (ho.frozen (o := 4) HD.out.box.hi hne3).trans (HD.out.box.fro 4)
       have HE := Hid.intro (HD.out.putS ho hown)
       clear HD hown ho hloc hg hnews hbase cM hne3 bM
       go_simp
       refine hKK.out _ _ trivial (fun hHeld2 => ?_)
       clear hKK KK hHeld
       have hHeld := hHeld2
       clear hHeld2
       refine tkk 6 31 (v := ?_) ?_ ?_
       rotate_left 1
       ·intro w hSw
        go_simp <;> with_reducible rfl
       simp only [Act.put, List.setIfInBounds_toArray]
       try simp only [List.set_cons_succ]
       try simp only [List.set_cons_zero]
       refine wpAnyH_ready (rs := [7]) (by kernel_rfl) (by simp) ?_
       refine (AllReadyH.cons rfl (fun KK hKK => ?_) AllReadyH.nil)
       go_simp
       generalize w4.setCell ⟨g3, 4, none⟩ _ = w5 at HE ⊢
       clear k6 f6
       refine hKK.out _ _ trivial (fun hHeld2 => ?_)
       clear hKK KK hHeld
       have hHeld := hHeld2
       clear hHeld2
       refine wpAnyH_done (by kernel_rfl) ?_ _
       clear hHeld
       go_wp2
       go_roundw
       case rel => exact ⟨q2, _, S ++ [nd], by rw [List.length_append]; go_num, by rw [List.length_append, List.length_singleton]; omega, s2, by unfold Hid; rw [List.length_append, List.length_singleton]; exact HN2.out, HE⟩
       case measure => simp [intOf]; omega
      ·skip
       go_simp
       have bM : Below x1.heap.size x1 (x1.alloc (.cells #[.int .i64 nd.c, .int .i64 nd.s, .int .i64 nd.i, .int .i64 nd.r.c, .string nd.r.d] 61)) := one_below _ _
       have cM : ∀ o, (x1.alloc (.cells #[.int .i64 nd.c, .int .i64 nd.s, .int .i64 nd.i, .int .i64 nd.r.c, .string nd.r.d] 61)).cell? ⟨x1.heap.size, o, none⟩ = (#[.int .i64 nd.c, .int .i64 nd.s, .int .i64 nd.i, .int .i64 nd.r.c, .string nd.r.d] : Array Value)[o]? := fun o => World.cell?_alloc_at _ _ _ _ rfl
       replace HD := Hid.intro (HD.out.kept bM)
       revert HD cM
       generalize x1.alloc (.cells #[.int .i64 nd.c, .int .i64 nd.s, .int .i64 nd.i, .int .i64 nd.r.c, .string nd.r.d] 61) = Mw at bM
       generalize x1.heap.size = sb
       intro cM HD
       refine hKK.out _ _ trivial (fun hHeld2 => ?_)
       clear hKK KK hHeld
       have hHeld := hHeld2
       clear hHeld2
       refine wpAnyH_ready (rs := [1]) (by kernel_rfl) (by simp) ?_
       refine (AllReadyH.cons rfl (fun KK hKK => ?_) AllReadyH.nil)
       have k6 : Mw.cell? ⟨g3, 4, none⟩ = some (.slice va S.length vc) := HD.out.box.cell 4
       go_simp
       refine hKK.out _ _ trivial (fun hHeld2 => ?_)
       clear hKK KK hHeld
       have hHeld := hHeld2
       clear hHeld2
       clear k6
       refine wpAnyH_ready (rs := [5]) (by kernel_rfl) (by simp) ?_
       refine (AllReadyH.cons rfl (fun KK hKK => ?_) AllReadyH.nil)
       have hnews : ∀ j u, (seE.f [nd])[j]? = some u → Mw.cell? ((⟨sb, 0, none⟩ : Addr).add j) = some u := fun j u hj => by
        rw [add_none, Nat.zero_add, cM]
        simpa [seE, Enc.f] using hj
       have hbase : g3 + 1 ≤ Mw.heap.size := HD.out.box.hi
       refine step_Se rfl _ _ rfl (g3 + 1) (.slice va S.length vc) S nd rfl HD.out.ses ⟨sb, 0, none⟩ 1 rfl hnews (by omega) hbase ?_
       intro g cap2 w4 hown ho hloc hg
       have hne3 : ¬ some g3 = (Value.slice va S.length vc).ownBlock := fun e => by have := (HD.out.ses.lt g3 e.symm).1; omega
       have k6 : w4.cell? ⟨g3, 4, none⟩ = some (.slice va S.length vc) := (ho.cell (o := 4) HD.out.box.hi hne3).trans (HD.out.box.cell 4)
       have f6 := (ho.frozen (o := 4) HD.out.box.hi hne3).trans (HD.out.box.fro 4)
       have HE := Hid.intro (HD.out.putS ho hown)
       clear HD hown ho hloc hg hnews hbase cM hne3 bM
       go_simp
       refine hKK.out _ _ trivial (fun hHeld2 => ?_)
       clear hKK KK hHeld
       have hHeld := hHeld2
       clear hHeld2
       refine tkk 6 31 (v := ?_) ?_ ?_
       rotate_left 1
       ·intro w hSw
        go_simp <;> with_reducible rfl
       simp only [Act.put, List.setIfInBounds_toArray]
       try simp only [List.set_cons_succ]
       try simp only [List.set_cons_zero]
       refine wpAnyH_ready (rs := [7]) (by kernel_rfl) (by simp) ?_
       refine (AllReadyH.cons rfl (fun KK hKK => ?_) AllReadyH.nil)
       go_simp
       generalize w4.setCell ⟨g3, 4, none⟩ _ = w5 at HE ⊢
       clear k6 f6
       refine hKK.out _ _ trivial (fun hHeld2 => ?_)
       clear hKK KK hHeld
       have hHeld := hHeld2
       clear hHeld2
       refine wpAnyH_done (by kernel_rfl) ?_ _
       clear hHeld
       go_wp2
       go_roundw
       case rel => exact ⟨q2, _, S ++ [nd], by rw [List.length_append]; go_num, by rw [List.length_append, List.length_singleton]; omega, s2, by unfold Hid; rw [List.length_append, List.length_singleton]; exact HN2.out, HE⟩
       case measure => simp [intOf]; omega
    ·obtain rfl : S.length = m := by omega
     have hjn2 : ¬ (S.length : Int) < (S.length : Int) := by omega
     have HQ : Hid (sessO S.length q8.data.toList = some (S, q.data.toList)) := by
      unfold Hid
      rw [HN.out, Nat.sub_self]
      simp [sessO]
     have HP : Hid (tenO q0.data.toList = some (((nx : Int), M.map Np.n, (tk : Int), A, S), q.data.toList)) := by
      unfold Hid
      rw [HI2.out, HQ.out]
      simp only [Option.bind_some]
     clear HN HQ HI2
     obtain ⟨sa, sc, rfl⟩ := HI.out.ses.slice
     have kB := HI.out.box.cell
     have kR := HI.out.res.cell
     have fR := HI.out.res.fro
     have hl := HI.out.lt
     have hrl := HI.out.res.hi
     have r0 : wr.cell? ⟨w.heap.size, 0, none⟩ = some (.int .i64 0) := kR 0
     have r1 : wr.cell? ⟨w.heap.size, 1, none⟩ = some (.slice none 0 0) := kR 1
     have r2 : wr.cell? ⟨w.heap.size, 2, none⟩ = some (.int .i64 0) := kR 2
     have r3 : wr.cell? ⟨w.heap.size, 3, none⟩ = some (.slice none 0 0) := kR 3
     have r4 : wr.cell? ⟨w.heap.size, 4, none⟩ = some (.slice none 0 0) := kR 4
     have OE : Hid (∀ Z, Only (fun k => k = w.heap.size) wr Z → CurAt Z b q ∧ (VolO Z w.heap.size (.slice ua M.length uc) M ∧ Own ntE 55 Z (g3 + 1) (.slice aa A.length ac) A ∧ Own seE 61 Z (g3 + 1) (.slice sa S.length sc) S) ∧ Only (fun k => k = b) w Z) := fun Z hZ => ⟨HI.out.cur.only hZ (by omega), ⟨(HI.out.vol.only hZ (fun k hk e => by omega)).lower (by omega), HI.out.aud.only hZ (fun k hk e => by have := (HI.out.aud.lt k hk).1; omega), HI.out.ses.only hZ (fun k hk e => by have := (HI.out.ses.lt k hk).1; omega)⟩, HI.out.only.then hZ (fun k hk e => by omega)⟩
     have HG : Hid (w.heap.size < g3 ∧ (∀ k, (Value.slice ua M.length uc).ownBlock = some k → k < g3) ∧ (∀ p ∈ M, ∀ k, p.v.ownBlock = some k → k < g3) ∧ Inc M) := ⟨HI.out.lt.2, HI.out.vt, HI.out.vn, HI.out.inc⟩
     clear HI kR
     go_wp2
     refine bodyPost_ret (v := (Ten.mk (nx : Nat) M ua uc (tk : Nat) A aa ac S sa sc).v) (by simp [results, Tryz.results30, go_sem, r0, r1, r2, r3, r4]) rfl (.inl ⟨⟨(nx : Nat), M, ua, uc, (tk : Nat), A, aa, ac, S, sa, sc⟩, g3, q, rfl, HP, (OE.out _ ?_).1, sq, (OE.out _ ?_).2.1, HG, (OE.out _ ?_).2.2⟩)
     all_goals repeat (refine Only.setCell ?_ (by simp) _)
     all_goals exact Only.refl _ _
end Go.Proofs.YtknckbedddeijaaGreat
