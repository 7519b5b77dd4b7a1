/- The laws' copy of a volume; two volumes held against each other. -/
import Derived.Test.YtegdogdlohoheaaGreatVLawC
import Derived.Test.YtegdogdlohoheaaGreatGSet
namespace Go.Proofs.YtegdogdlohoheaaGreat
open Go.RowKit
set_option linter.unusedVariables false
/-- The slice u, of memory from block base on, holds the inodes M. -/
structure VolO (w : World) (base : Nat) (u : Value) (M : List Np) : Prop where
  own : Own ndE 76 w base u M
  nms : ∀ p ∈ M, Own diE 102 w base p.v p.n.names
theorem VolO.rowAll {w : World} {base : Nat} {u : Value} {M : List Np} (h : VolO w base u M) : VolR w w.heap.size u M := ⟨h.own.rowAll, fun p hp => (h.nms p hp).rowAll⟩
theorem VolO.lower {w : World} {base base' : Nat} {u : Value} {M : List Np} (h : VolO w base u M) (hb : base' ≤ base) : VolO w base' u M := ⟨h.own.lower hb, fun p hp => (h.nms p hp).lower hb⟩
theorem VolO.kept {w w' : World} {base : Nat} {u : Value} {M : List Np} (h : VolO w base u M) (hb : Below w.heap.size w w') : VolO w' base u M := ⟨h.own.kept hb, fun p hp => (h.nms p hp).kept hb⟩
theorem VolO.only {w w' : World} {base : Nat} {S : Nat → Prop} {u : Value} {M : List Np} (h : VolO w base u M) (hb : Only S w w') (hv : ∀ k, base ≤ k → ¬ S k) : VolO w' base u M := ⟨h.own.only hb fun k hk => hv k (h.own.lt k hk).1, fun p hp => (h.nms p hp).only hb fun k hk => hv k ((h.nms p hp).lt k hk).1⟩
/-- The first inodes of a copy, with zeros behind. -/
def mixN (M : List Np) (k : Nat) : List Np := M ++ List.replicate (k - M.length) ndE.z
theorem mixN_len {M : List Np} {k : Nat} (h : M.length ≤ k) : (mixN M k).length = k := by simp [mixN]; omega
theorem mixN_nil (k : Nat) : mixN [] k = List.replicate k ndE.z := by simp [mixN]
theorem mixN_all {M : List Np} {k : Nat} (h : M.length = k) : mixN M k = M := by simp [mixN, h]
theorem mixN_step {M : List Np} {k : Nat} (h : M.length < k) (p : Np) : (mixN M k).set M.length p = mixN (M ++ [p]) k := by
  unfold mixN
  obtain ⟨m, hm⟩ : ∃ m, k - M.length = m + 1 := ⟨k - M.length - 1, by omega⟩
  rw [List.set_append_right _ _ (Nat.le_refl _), Nat.sub_self, hm, List.replicate_succ, List.set_cons_zero, List.length_append, List.length_singleton, show k - (M.length + 1) = m by omega, List.append_assoc]
  rfl
/-- So far copied: M, in block g. -/
structure CpI (w : World) (g len : Nat) (M : List Np) (L : List Np) : Prop where
  own : Own ndE 76 w g (.slice (some ⟨g, 0, none⟩) len len) (mixN M len)
  nms : ∀ p ∈ M, Own diE 102 w (g + 1) p.v p.n.names
  le : M.length ≤ len
  same : M.map Np.n = (L.take M.length).map Np.n
theorem CpI.kept {w w' : World} {g len : Nat} {M L : List Np} (h : CpI w g len M L) (hb : Below w.heap.size w w') : CpI w' g len M L := ⟨h.own.kept hb, fun p hp => (h.nms p hp).kept hb, h.le, h.same⟩
theorem CpI.next {w : World} {g len j : Nat} {M L : List Np} (h : CpI w g len M L) (hj : M.length = j) (hlt : j < len) (hL : len = L.length) (p : Np) (hp : Own diE 102 w (g + 1) p.v p.n.names) (hn : p.n = (L[j]'(by omega)).n) :
    CpI (setC w g (j * 9) (ndE.c p)) g len (M ++ [p]) L := by
  subst hj
  have hm := mixN_len h.le
  refine ⟨?_, ?_, by simp; omega, ?_⟩
  · have := h.own.store hm (show M.length < len by omega) p
    rw [mixN_step hlt] at this
    exact this
  · intro q hq
    have ho : Only (fun k => k = g) w (setC w g (M.length * 9) (ndE.c p)) := Only.setC (S := fun k => k = g) rfl _ _ (Only.refl _ _)
    have key : Own diE 102 w (g + 1) q.v q.n.names := by
      rcases List.mem_append.1 hq with hq | hq
      · exact h.nms q hq
      · rw [List.mem_singleton.1 hq]; exact hp
    exact key.only ho fun k hk e => by have := (key.lt k hk).1; omega
  · rw [List.map_append, h.same, List.length_append, List.length_singleton, List.take_succ_eq_append_getElem (by omega), List.map_append]
    simp [hn]
set_option maxHeartbeats 2000000 in
theorem eqVol_any (next : Int) (L1 L2 : List Np) (v1 v2 : Value) (N : Nat) (w : World) (hN : N ≤ w.heap.size) (h1 : VolR w N v1 L1) (h2 : VolR w N v2 L2) (he : L1.map Np.n = L2.map Np.n) :
    Calls Tryz.prog 32 #[volV next v1, volV next v2] w fun e w' => e = .returned (.bool true) ∧ Below w.heap.size w w' := by
  have H1 := Hid.intro h1
  have H2 := Hid.intro h2
  clear h1 h2
  go_enter Tryz.func32, Tryz.ntmps32
  go_wp2_with fail
  obtain ⟨W, hW, bW, zW, c1, f1, c2, f2⟩ := boxed2 w #[.int .i64 next, v1] #[.int .i64 next, v2] 32 32
  try simp only [hW]
  refine (eqInodeS_any L1 L2 v1 v2 N W (by omega) (H1.out.kept (bW.mono hN)) (H2.out.kept (bW.mono hN)) he).mono ?_
  rintro e w1 ⟨rfl, b1⟩
  have HB := Hid.intro (bW.trans (b1.mono (by omega)))
  clear hW bW b1 c1 c2 f1 f2
  go_wp2
  go_ret
  exact ⟨rfl, HB.out⟩
end Go.Proofs.YtegdogdlohoheaaGreat
