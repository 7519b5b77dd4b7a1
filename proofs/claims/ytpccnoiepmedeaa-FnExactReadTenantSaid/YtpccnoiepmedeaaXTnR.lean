/- What stands while a tenant is read. -/
import Derived.Test.YtpccnoiepmedeaaXLawN
import Derived.Test.YtpccnoiepmedeaaXTen
namespace Go.Proofs.Ytpccnoiepmedeaa
open Go.RowKit
set_option linter.unusedVariables false
/-- So many notes from the front on, and what is left. -/
noncomputable def notsO : Nat → List UInt8 → Option (List Nt × List UInt8)
 | 0, l => some ([], l)
 | n + 1, l => (notO l).bind fun a => (notsO n a.2).bind fun d => some (a.1 :: d.1, d.2)
theorem notsO_no {n : Nat} {l : List UInt8} (hn : 0 < n) (h : notO l = none) : notsO n l = none := by
 obtain ⟨m, rfl⟩ : ∃ m, n = m + 1 := ⟨n - 1, by omega⟩
 simp only [notsO, h, Option.bind_none]
theorem notsO_yes {n : Nat} {l q : List UInt8} {x : Nt} (hn : 0 < n) (h : notO l = some (x, q)) : notsO n l = (notsO (n - 1) q).map fun y => (x :: y.1, y.2) := by
 obtain ⟨m, rfl⟩ : ∃ m, n = m + 1 := ⟨n - 1, by omega⟩
 simp only [notsO, h, Option.bind_some, Nat.add_sub_cancel]
 cases notsO m q <;> rfl
/-- So many sessions from the front on, and what is left. -/
noncomputable def sessO : Nat → List UInt8 → Option (List Se × List UInt8)
 | 0, l => some ([], l)
 | n + 1, l => (sesO l).bind fun a => (sessO n a.2).bind fun d => some (a.1 :: d.1, d.2)
theorem sessO_no {n : Nat} {l : List UInt8} (hn : 0 < n) (h : sesO l = none) : sessO n l = none := by
 obtain ⟨m, rfl⟩ : ∃ m, n = m + 1 := ⟨n - 1, by omega⟩
 simp only [sessO, h, Option.bind_none]
theorem sessO_yes {n : Nat} {l q : List UInt8} {x : Se} (hn : 0 < n) (h : sesO l = some (x, q)) : sessO n l = (sessO (n - 1) q).map fun y => (x :: y.1, y.2) := by
 obtain ⟨m, rfl⟩ : ∃ m, n = m + 1 := ⟨n - 1, by omega⟩
 simp only [sessO, h, Option.bind_some, Nat.add_sub_cancel]
 cases sessO m q <;> rfl
/-- A tenant at the front, and what is left. -/
noncomputable def tenO (l : List UInt8) : Option ((Int × List Nd × Int × List Nt × List Se) × List UInt8) :=
 (insVO l).bind fun v => (numO v.2).bind fun k => (cntO 20 k.2).bind fun n => (notsO n.1 n.2).bind fun a => (cntO 3 a.2).bind fun m => (sessO m.1 m.2).bind fun s => some (((v.1.1 : Int), v.1.2, (k.1 : Int), a.1, s.1), s.2)
abbrev zTn : Array Value := #[.int .i64 0, .slice none 0 0, .int .i64 0, .slice none 0 0, .slice none 0 0]
theorem apartX {α β : Type} {E : Enc α} {F : Enc β} {T U : TypeId} (hTU : T ≠ U) {w : World} {B C : Nat} {u v : Value} {L : List α} {M : List β} (h : Own E T w B u L) (k : Own F U w C v M) {g : Nat} (hu : u.ownBlock = some g) (hv : v.ownBlock = some g) : False := by
 rcases h.2 with ⟨h0, _⟩ | ⟨g1, cap1, cur1, h1, _, hg1, _⟩
 ·rw [h0] at hu; cases hu
 ·rcases k.2 with ⟨k0, _⟩ | ⟨g2, cap2, cur2, k1, _, hg2, _⟩
  ·rw [k0] at hv; cases hv
  ·rw [h1] at hu
   rw [k1] at hv
   obtain rfl : g1 = g := by simpa [Value.ownBlock] using hu
   obtain rfl : g2 = g1 := by simpa [Value.ownBlock] using hv
   rw [hg1] at hg2
   simp only [Option.some.injEq, Obj.cells.injEq] at hg2
   exact hTU hg2.2.1
/-- What stands while a tenant is read: the volume below block g3, the tenant's box in it, the notes and sessions behind it. -/
structure TnR (w : World) (b g3 : Nat) (nx tk : Int) (u : Value) (M : List Np) (wr : World) (q : ByteArray) (va : Value) (A : List Nt) (vs : Value) (S : List Se) : Prop where
 cur : CurAt wr b q
 box : Blk wr g3 #[.int .i64 nx, u, .int .i64 tk, va, vs]
 res : Blk wr w.heap.size zTn
 vol : VolO wr (w.heap.size + 1) u M
 vt : ∀ k, u.ownBlock = some k → k < g3
 vn : ∀ p ∈ M, ∀ k, p.v.ownBlock = some k → k < g3
 inc : Inc M
 aud : Own ntE 42 wr (g3 + 1) va A
 ses : Own seE 48 wr (g3 + 1) vs S
 only : Only (fun k => k = b) w wr
 lt : b < w.heap.size ∧ w.heap.size < g3
theorem TnR.step {w : World} {b g3 : Nat} {nx tk : Int} {u va vs : Value} {M : List Np} {wr w2 : World} {q q2 : ByteArray} {A : List Nt} {S : List Se} (h : TnR w b g3 nx tk u M wr q va A vs S) (ho : Only (fun k => k = b) wr w2) (hc : CurAt w2 b q2) : TnR w b g3 nx tk u M w2 q2 va A vs S :=
 ⟨hc, h.box.only ho (by have := h.lt; omega), h.res.only ho (by have := h.lt; omega), h.vol.only ho (fun k hk e => by have := h.lt; omega), h.vt, h.vn, h.inc, h.aud.only ho (fun k hk e => by have := (h.aud.lt k hk).1; have := h.lt; omega), h.ses.only ho (fun k hk e => by have := (h.ses.lt k hk).1; have := h.lt; omega), h.only.trans ho, h.lt⟩
theorem TnR.kept {w : World} {b g3 : Nat} {nx tk : Int} {u va vs : Value} {M : List Np} {wr w2 : World} {q : ByteArray} {A : List Nt} {S : List Se} (h : TnR w b g3 nx tk u M wr q va A vs S) (hb : Below wr.heap.size wr w2) : TnR w b g3 nx tk u M w2 q va A vs S :=
 h.step (ob_any hb) (h.cur.kept hb)
theorem TnR.putA {w : World} {b g3 : Nat} {nx tk : Int} {u va vs : Value} {M : List Np} {wr w4 : World} {q : ByteArray} {A : List Nt} {S : List Se} {n : Nt} {g m cap : Nat} (h : TnR w b g3 nx tk u M wr q va A vs S) (ho : Only (fun k => some k = va.ownBlock) wr w4) (hown : Own ntE 42 w4 (g3 + 1) (.slice (some ⟨g, 0, none⟩) m cap) (A ++ [n])) :
  TnR w b g3 nx tk u M (w4.setCell ⟨g3, 3, none⟩ (.slice (some ⟨g, 0, none⟩) m cap)) q (.slice (some ⟨g, 0, none⟩) m cap) (A ++ [n]) vs S := by
 have hlt := h.lt
 have nb : ∀ k, some k = va.ownBlock → g3 + 1 ≤ k := fun k hk => (h.aud.lt k hk.symm).1
 have hb : ¬ some b = va.ownBlock := fun e => by have := nb b e; omega
 have h3 : ¬ some g3 = va.ownBlock := fun e => by have := nb g3 e; omega
 have h2 : ¬ some w.heap.size = va.ownBlock := fun e => by have := nb _ e; omega
 have st : Only (fun k => k = g3) w4 (w4.setCell ⟨g3, 3, none⟩ (.slice (some ⟨g, 0, none⟩) m cap)) := (Only.refl (fun k => k = g3) w4).setCell (p := ⟨g3, 3, none⟩) rfl _
 refine ⟨(h.cur.only ho hb).only st (by omega), (h.box.only ho h3).put 3 (by simp) _, (h.res.only ho h2).only st (by omega), ⟨(h.vol.own.only ho (fun k hk e => ?_)).only st (fun k hk e => ?_), fun p hp => ((h.vol.nms p hp).only ho (fun k hk e => ?_)).only st (fun k hk e => ?_)⟩, h.vt, h.vn, h.inc, hown.only st (fun k hk e => ?_), (h.ses.only ho (fun k hk e => ?_)).only st (fun k hk e => ?_), (h.only.then ho (fun k hk e => ?_)).then st (fun k hk e => ?_), hlt⟩
 ·have := nb k e; have := h.vt k hk; omega
 ·have := h.vt k hk; omega
 ·have := nb k e; have := h.vn p hp k hk; omega
 ·have := h.vn p hp k hk; omega
 ·have := (hown.lt k hk).1; omega
 ·exact apartX (T := 48) (U := 42) (by decide) h.ses h.aud hk e.symm
 ·have := (h.ses.lt k hk).1; omega
 ·have := nb k e; omega
 ·omega
theorem TnR.putS {w : World} {b g3 : Nat} {nx tk : Int} {u va vs : Value} {M : List Np} {wr w4 : World} {q : ByteArray} {A : List Nt} {S : List Se} {n : Se} {g m cap : Nat} (h : TnR w b g3 nx tk u M wr q va A vs S) (ho : Only (fun k => some k = vs.ownBlock) wr w4) (hown : Own seE 48 w4 (g3 + 1) (.slice (some ⟨g, 0, none⟩) m cap) (S ++ [n])) :
  TnR w b g3 nx tk u M (w4.setCell ⟨g3, 4, none⟩ (.slice (some ⟨g, 0, none⟩) m cap)) q va A (.slice (some ⟨g, 0, none⟩) m cap) (S ++ [n]) := by
 have hlt := h.lt
 have nb : ∀ k, some k = vs.ownBlock → g3 + 1 ≤ k := fun k hk => (h.ses.lt k hk.symm).1
 have hb : ¬ some b = vs.ownBlock := fun e => by have := nb b e; omega
 have h3 : ¬ some g3 = vs.ownBlock := fun e => by have := nb g3 e; omega
 have h2 : ¬ some w.heap.size = vs.ownBlock := fun e => by have := nb _ e; omega
 have st : Only (fun k => k = g3) w4 (w4.setCell ⟨g3, 4, none⟩ (.slice (some ⟨g, 0, none⟩) m cap)) := (Only.refl (fun k => k = g3) w4).setCell (p := ⟨g3, 4, none⟩) rfl _
 refine ⟨(h.cur.only ho hb).only st (by omega), (h.box.only ho h3).put 4 (by simp) _, (h.res.only ho h2).only st (by omega), ⟨(h.vol.own.only ho (fun k hk e => ?_)).only st (fun k hk e => ?_), fun p hp => ((h.vol.nms p hp).only ho (fun k hk e => ?_)).only st (fun k hk e => ?_)⟩, h.vt, h.vn, h.inc, (h.aud.only ho (fun k hk e => ?_)).only st (fun k hk e => ?_), hown.only st (fun k hk e => ?_), (h.only.then ho (fun k hk e => ?_)).then st (fun k hk e => ?_), hlt⟩
 ·have := nb k e; have := h.vt k hk; omega
 ·have := h.vt k hk; omega
 ·have := nb k e; have := h.vn p hp k hk; omega
 ·have := h.vn p hp k hk; omega
 ·exact apartX (T := 42) (U := 48) (by decide) h.aud h.ses hk e.symm
 ·have := (h.aud.lt k hk).1; omega
 ·have := (hown.lt k hk).1; omega
 ·have := nb k e; omega
 ·omega
end Go.Proofs.Ytpccnoiepmedeaa
