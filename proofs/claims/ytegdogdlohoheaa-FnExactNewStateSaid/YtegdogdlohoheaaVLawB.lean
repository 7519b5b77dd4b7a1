/- The laws' helpers over creds and inodes: how great, copies, equal. -/
import Derived.Test.YtegdogdlohoheaaVLawA
namespace Go.Proofs.Ytegdogdlohoheaa
open Go.RowKit
set_option linter.unusedVariables false
theorem New.slice {α : Type} {E : Enc α} {T : TypeId} {w w' : World} {v : Value} {L : List α} (h : New E T w w' v L) : ∃ a cap, v = .slice a L.length cap := h.own.slice
set_option maxHeartbeats 2000000 in
theorem szInode_any (n : Nd) (v : Value) (N : Nat) (left : Int) (w : World) (hN : N ≤ w.heap.size) (hs : n.data.size ≤ 9223372036854775807) (hr : Row diE w N v n.names) (hz : ∀ e ∈ n.names, e.nm.size ≤ 9223372036854775807) (h0 : 0 ≤ left) (h1 : left ≤ 1048576) :
  Calls Try.prog 120 #[ndV n v, .int .i64 left] w fun e w' => (∃ m, e = .returned (.int .i64 m) ∧ SzP left m n.names.length) ∧ Below w.heap.size w w' := by
 have HR := Hid.intro hr
 have HZ := Hid.intro hz
 clear hr hz
 by_cases hb : left - n.data.size < 0
 ·go_enter Try.func120, Try.ntmps120
  go_wp2
  go_ret
  exact ⟨⟨_, rfl, by unfold SzP; omega⟩, one_below _ _⟩
 ·go_enter Try.func120, Try.ntmps120
  go_wp2_with fail
  obtain ⟨W, hW, bW, zW, cW, fW⟩ := boxed w (ndA n v) 163
  try simp only [hW]
  refine (szDirentS_any n.names v N _ W (by omega) (HR.out.kept (bW.mono hN)) HZ.out (by omega) (by omega)).mono ?_
  rintro e w1 ⟨⟨m, rfl, hm⟩, b1⟩
  have HB := Hid.intro (bW.trans (b1.mono (by omega)))
  obtain ⟨m1, m2, m3⟩ := hm
  clear hW bW b1 cW fW
  by_cases hneg : m < 0
  ·clear m3
   go_wp2
   go_ret
   exact ⟨⟨_, rfl, by unfold SzP; omega⟩, HB.out⟩
  ·have m4 := m3 (by omega)
   clear m3
   go_wp2
   go_ret
   exact ⟨⟨_, rfl, by unfold SzP; omega⟩, HB.out⟩
set_option maxRecDepth 100000 in
set_option maxHeartbeats 2000000 in
theorem toInode_any (n : Nd) (v : Value) (N : Nat) (w : World) (hN : N ≤ w.heap.size) (hr : Row diE w N v n.names) (hl : n.names.length ≤ 1048576) :
  Calls Try.prog 126 #[ndV n v] w fun e w' => ∃ v', e = .returned (ndV n v') ∧ New diE 130 w w' v' n.names := by
 have HR := Hid.intro hr
 clear hr
 go_enter Try.func126, Try.ntmps126
 go_wp2_with fail
 obtain ⟨W, hW, bW, zW, c1, f1, c2, f2, c3, f3⟩ := boxed3 w (ndA n v) #[.int .i64 0, .int .i64 0, .int .i64 0, .int .i64 0, .int .i64 0, .string ⟨#[]⟩, .slice none 0 0, .int .i64 0, .int .i64 0] #[.int .i64 n.id, .int .i64 n.kind, .int .i64 n.mode, .int .i64 n.uid, .int .i64 n.gid, .string n.data, .slice none 0 0, .int .i64 0, .int .i64 0] 163 96 96
 simp only [hW]
 refine (toDirentS_any n.names v N W (by omega) (HR.out.kept (bW.mono hN)) hl).mono ?_
 rintro e w1 ⟨v', rfl, o1, b1⟩
 obtain ⟨a', cap', rfl⟩ := o1.slice
 replace c1 := keepC b1 (by omega) c1
 replace f1 := keepF b1 (by omega) f1
 replace c2 := keepC b1 (by omega) c2
 replace f2 := keepF b1 (by omega) f2
 replace c3 := keepC b1 (by omega) c3
 replace f3 := keepF b1 (by omega) f3
 have z1 := b1.size
 have HO := Hid.intro o1
 have HB := Hid.intro (bW.trans (b1.mono (by omega)))
 have HZ := Hid.intro zW
 have hz1 : w.heap.size + 1 + 1 < w1.heap.size := by omega
 clear hW b1 o1 bW zW
 go_wp2
 refine bodyPost_ret (v := ndV n (.slice a' n.names.length cap')) (by simp [results, Try.results126, go_sem, c2]) rfl ⟨_, rfl, ?_, ?_⟩
 ·refine Own.lower (Own.only HO.out (S := fun k => k = w.heap.size + 1 ∨ k = w.heap.size + 1 + 1) ?_ ?_) (by have := HZ.out; omega)
  ·repeat (refine Only.setCell ?_ (by simp) _)
   exact Only.refl _ _
  ·intro k hk h
   have := (HO.out.lt k hk).1
   have := HZ.out
   omega
 ·repeat (refine Below.setCell ?_ (by simp <;> omega) _)
  exact HB.out
set_option maxHeartbeats 2000000 in
theorem eqInode_any (n : Nd) (v1 v2 : Value) (N : Nat) (w : World) (hN : N ≤ w.heap.size) (h1 : Row diE w N v1 n.names) (h2 : Row diE w N v2 n.names) :
  Calls Try.prog 99 #[ndV n v1, ndV n v2] w fun e w' => e = .returned (.bool true) ∧ Below w.heap.size w w' := by
 have H1 := Hid.intro h1
 have H2 := Hid.intro h2
 clear h1 h2
 go_enter Try.func99, Try.ntmps99
 go_wp2_with fail
 obtain ⟨W, hW, bW, zW, c1, f1, c2, f2⟩ := boxed2 w (ndA n v1) (ndA n v2) 96 96
 try simp only [hW]
 refine (eqDirentS_any n.names v1 v2 N W (by omega) (H1.out.kept (bW.mono hN)) (H2.out.kept (bW.mono hN))).mono ?_
 rintro e w1 ⟨rfl, b1⟩
 replace c1 := keepC b1 (by omega) c1
 replace c2 := keepC b1 (by omega) c2
 have HB := Hid.intro (bW.trans (b1.mono (by omega)))
 clear hW bW b1 f1 f2
 go_wp2
 go_ret
 exact ⟨rfl, HB.out⟩
end Go.Proofs.Ytegdogdlohoheaa
