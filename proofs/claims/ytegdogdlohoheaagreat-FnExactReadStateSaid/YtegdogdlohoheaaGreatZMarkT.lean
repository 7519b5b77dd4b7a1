/- The laws' marks over a tenant. -/
import Derived.Test.YtegdogdlohoheaaGreatXMark
import Derived.Test.YtegdogdlohoheaaGreatZMarkW
namespace Go.Proofs.YtegdogdlohoheaaGreat
open Go.RowKit
set_option linter.unusedVariables false
/-- How great the lists of a right tenant are. -/
structure Gd (t : Ten) : Prop where
 inc : Inc t.L
 l : t.L.length ≤ 24
 n : ∀ p ∈ t.L, p.n.names.length ≤ 12
 a : t.A.length ≤ 20
 s : t.S.length ≤ 3
/-- A tenant's memory, from base to top; that of its volume from v0 to v1. -/
structure TenM (w : World) (base top v0 v1 : Nat) (t : Ten) : Prop where
 lo : base ≤ v0
 mid : v0 ≤ v1
 hi : v1 ≤ top
 vol : VolO w v0 t.u t.L
 vt : ∀ k, t.u.ownBlock = some k → k < v1
 vn : ∀ p ∈ t.L, ∀ k, p.v.ownBlock = some k → k < v1
 aud : Own ntE 55 w base t.va t.A
 ses : Own seE 61 w base t.vs t.S
 at' : ∀ k, t.va.ownBlock = some k → k < top ∧ ¬ (v0 ≤ k ∧ k < v1)
 st : ∀ k, t.vs.ownBlock = some k → k < top ∧ ¬ (v0 ≤ k ∧ k < v1)
theorem TenM.own {w : World} {base top v0 v1 : Nat} {t : Ten} (h : TenM w base top v0 v1 t) : TenO w base t := ⟨h.vol.lower h.lo, h.aud, h.ses⟩
theorem TenM.kept {w w' : World} {base top v0 v1 : Nat} {t : Ten} (h : TenM w base top v0 v1 t) (hb : Below w.heap.size w w') : TenM w' base top v0 v1 t :=
 ⟨h.lo, h.mid, h.hi, h.vol.kept hb, h.vt, h.vn, h.aud.kept hb, h.ses.kept hb, h.at', h.st⟩
def endT (q : Int) (t : Ten) : Int := kqI q t.L t.L.length + 5 * (t.A.length : Nat) + 5 * (t.S.length : Nat)
/-- A tenant that is marked from q on. -/
structure MkR (w : World) (N : Nat) (q : Int) (t : Ten) : Prop where
 vol : VolR w N t.u (markNL q t.L t.L.length)
 aud : Row ntE w N t.va (markTL (kqI q t.L t.L.length) t.A t.A.length)
 ses : Row seE w N t.vs (markSL (kqI q t.L t.L.length + 5 * (t.A.length : Nat)) t.S t.S.length)
theorem MkR.kept {w w' : World} {N : Nat} {q : Int} {t : Ten} (h : MkR w N q t) (hb : Below N w w') : MkR w' N q t := ⟨h.vol.kept hb, h.aud.kept hb, h.ses.kept hb⟩
theorem MkR.up {w : World} {N N' : Nat} {q : Int} {t : Ten} (h : MkR w N q t) (hN : N ≤ N') : MkR w N' q t := ⟨h.vol.up hN, h.aud.up hN, h.ses.up hN⟩
theorem MkR.on {w w' : World} {q : Int} {t : Ten} (h : MkR w w.heap.size q t) (hb : Below w.heap.size w w') : MkR w' w'.heap.size q t := (h.kept hb).up hb.size
theorem VolO.at' {w w' : World} {base : Nat} {S : Nat → Prop} {u : Value} {M : List Np} (h : VolO w base u M) (hb : Only S w w') (h1 : ∀ k, u.ownBlock = some k → ¬ S k) (h2 : ∀ p ∈ M, ∀ k, p.v.ownBlock = some k → ¬ S k) : VolO w' base u M := ⟨h.own.only hb h1, fun p hp => (h.nms p hp).only hb (h2 p hp)⟩
theorem endT_bd {q : Int} {t : Ten} (hg : Gd t) (h1 : 1 ≤ q) (h2 : q ≤ 3000) : (1 ≤ kqI q t.L t.L.length ∧ kqI q t.L t.L.length ≤ 3900) ∧ (1 ≤ endT q t ∧ endT q t ≤ 5000) := by
 have hk := kqI_bd (q := q) hg.n t.L.length
 have := hg.l
 have := hg.a
 have := hg.s
 unfold endT
 omega
end Go.Proofs.YtegdogdlohoheaaGreat
