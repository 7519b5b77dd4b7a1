/- The laws' marks over a volume; the bounds of a right volume. -/
import Derived.Test.YtpccnoiepmedeaaTMarkH
import Derived.Test.YtpccnoiepmedeaaVSpecE
namespace Go.Proofs.Ytpccnoiepmedeaa
open Go.RowKit
set_option linter.unusedVariables false
set_option maxHeartbeats 2000000 in
theorem markVol_any (nx : Int) (M : List Np) (u : Value) (base top : Nat) (q : Int) (w : World) (hb : base ≤ w.heap.size) (ho : VolO w base u M) (hi : Inc M) (htv : ∀ k, u.ownBlock = some k → k < top) (htn : ∀ p ∈ M, ∀ k, p.v.ownBlock = some k → k < top) (hl : M.length ≤ 24) (hn : ∀ p ∈ M, p.n.names.length ≤ 12) (h1 : 1 ≤ q) (h2 : q ≤ 1000) :
  Calls Try.prog 20 #[volV nx u, .int .i64 q] w fun e w' => e = .returned (.int .i64 (kqI q M M.length)) ∧ VolO w' base u (markNL q M M.length) ∧ Only (fun k => base ≤ k ∧ k < top) w w' := by
 have HO := Hid.intro ho
 have HTV := Hid.intro htv
 have HTN := Hid.intro htn
 have HN := Hid.intro hn
 have HI := Hid.intro hi
 clear ho htv htn hn hi
 go_enter Try.func20, Try.ntmps20
 go_wp2_with fail
 obtain ⟨W, hW, bW, zW, cW, fW⟩ := boxed w #[.int .i64 nx, u] 24
 try simp only [hW]
 refine (markN_any M u base top q W (by omega) (HO.out.kept bW) HI.out HTV.out HTN.out hl HN.out h1 h2).mono ?_
 rintro e w1 ⟨rfl, r1, o1⟩
 have HR := Hid.intro r1
 have HB := Hid.intro ((Below.any bW : Only (fun k => base ≤ k ∧ k < top) w W).trans o1)
 generalize hzz : kqI q M M.length = z
 have HZ := Hid.intro hzz
 clear hzz
 clear hW bW cW fW r1 o1
 go_wp2
 go_ret
 exact ⟨ret_int HZ.out.symm, HR.out, HB.out⟩
set_option maxHeartbeats 2000000 in
theorem heldVol_any (nx : Int) (P M : List Np) (u : Value) (N : Nat) (q : Int) (w : World) (hN : N ≤ w.heap.size) (hr : VolR w N u P) (hP : ∀ i (h : i < P.length), P[i] = mkAt q M i) (hl : P.length ≤ 24) (hn : ∀ p ∈ M, p.n.names.length ≤ 12) (h1 : 1 ≤ q) (h2 : q ≤ 1000) :
  Calls Try.prog 23 #[volV nx u, .int .i64 q] w fun e w' => e = .returned (.int .i64 (kqI q M P.length)) ∧ Below w.heap.size w w' := by
 have HR := Hid.intro hr
 have HP := Hid.intro hP
 have HN := Hid.intro hn
 have hk := kqI_bd (q := q) hn P.length
 clear hr hP hn
 go_enter Try.func23, Try.ntmps23
 go_wp2_with fail
 obtain ⟨W, hW, bW, zW, cW, fW⟩ := boxed w #[.int .i64 nx, u] 24
 try simp only [hW]
 refine (heldN_any P M u N q W (by omega) (HR.out.kept (bW.mono hN)) HP.out hl HN.out h1 h2).mono ?_
 rintro e w1 ⟨rfl, b1⟩
 have HB := Hid.intro (bW.trans (b1.mono (by omega)))
 generalize hzz : kqI q M P.length = z at hk ⊢
 have HZ := Hid.intro hzz
 clear hzz
 have hz : ¬ z < 0 := by omega
 clear hW bW cW fW b1
 go_wp2
 go_ret
 exact ⟨ret_int HZ.out.symm, HB.out⟩
theorem nodeB_names {L : List Nd} {n : Nd} (h : nodeB L n = true) : n.names.length ≤ 12 := by
 unfold nodeB at h
 simp only [Bool.and_eq_true] at h
 obtain ⟨_, h⟩ := h
 split at h
 ·simp only [Bool.and_eq_true, plainB, decide_eq_true_eq] at h
  omega
 ·split at h
  ·simp only [Bool.and_eq_true, plainB, decide_eq_true_eq] at h
   omega
  ·split at h
   ·simp only [Bool.and_eq_true, decide_eq_true_eq] at h
    omega
   ·cases h
theorem volB_bd {next : Int} {L : List Nd} (h : volB next L = true) : L.length ≤ 24 ∧ ∀ n ∈ L, n.names.length ≤ 12 := by
 unfold volB at h
 simp only [Bool.and_eq_true] at h
 obtain ⟨⟨⟨⟨⟨⟨_, h2⟩, _⟩, h4⟩, _⟩, _⟩, _⟩ := h
 refine ⟨?_, fun n hn => nodeB_names (indB_mem L h4 n hn)⟩
 have : (1 : Int) ≤ (L.length : Int) ∧ (L.length : Int) ≤ 24 := by simpa [inB] using h2
 omega
end Go.Proofs.Ytpccnoiepmedeaa
