/- StoreOk and Held of the program. -/
import Derived.Test.YtkilepoimocoeabHeldI
namespace Go.Proofs.Ytkilepoimocoeab
open Go.RowKit
set_option linter.unusedVariables false
set_option maxRecDepth 100000 in
set_option maxHeartbeats 4000000 in
theorem implStoreOk_any (S : Sto) (v u : Value) (N : Nat) (w : World) (hN : N ≤ w.heap.size) (hr : RowE w N v S.k.e) (hu : RowR w N u S.l) :
    Calls Try.prog 12 #[stV S v u] w fun e w' => e = .returned (.bool (storeB S)) ∧ Below w.heap.size w w' := by
  have HR := Hid.intro hr
  have HU := Hid.intro hu
  clear hr hu
  go_enter Try.func12, Try.ntmps12
  go_wp2_with fail
  obtain ⟨W, hW, bW, zW, c1, f1⟩ := boxed w #[.int .i64 S.k.t, .int .i64 S.k.v, .int .i64 S.k.si, .int .i64 S.k.st, .string S.k.sd, v, u] 38
  simp only [hW]
  refine (held_any S v u N W (by omega) (HR.out.kept (bW.mono hN)) (HU.out.kept (bW.mono hN))).mono ?_
  rintro e w1 ⟨v1, rfl, o1, b1⟩
  obtain ⟨a1, cap1, rfl⟩ := o1.slice
  have z1 := b1.size
  have HB := Hid.intro (bW.trans (b1.mono (by omega)))
  have hz1 : w.heap.size < w1.heap.size := by omega
  clear hW bW zW c1 f1 b1 o1 z1
  go_wp2
  go_ret
  exact ⟨rfl, HB.out.alloc (by omega) _⟩
set_option maxRecDepth 100000 in
set_option maxHeartbeats 4000000 in
theorem implHeld_any (S : Sto) (v u : Value) (N : Nat) (w : World) (hN : N ≤ w.heap.size) (hr : RowE w N v S.k.e) (hu : RowR w N u S.l) :
    Calls Try.prog 19 #[stV S v u] w fun e w' => ∃ v', e = .returned (kpV (heldK S) v') ∧ NewE w w' v' (heldK S).e := by
  have HR := Hid.intro hr
  have HU := Hid.intro hu
  clear hr hu
  go_enter Try.func19, Try.ntmps19
  go_wp2_with fail
  obtain ⟨W, hW, bW, zW, c1, f1, c2, f2⟩ := boxed2 w #[.int .i64 S.k.t, .int .i64 S.k.v, .int .i64 S.k.si, .int .i64 S.k.st, .string S.k.sd, v, u] #[.int .i64 0, .int .i64 0, .int .i64 0, .int .i64 0, .string ⟨#[]⟩, .slice none 0 0] 38 35
  simp only [hW]
  refine (held_any S v u N W (by omega) (HR.out.kept (bW.mono hN)) (HU.out.kept (bW.mono hN))).mono ?_
  rintro e w1 ⟨v1, rfl, o1, b1⟩
  obtain ⟨a1, cap1, rfl⟩ := o1.slice
  replace c2 := keepC b1 (by omega) c2
  replace f2 := keepF b1 (by omega) f2
  have z1 := b1.size
  have B1 := bW.trans (b1.mono (by omega))
  have hz1 : w.heap.size + 1 < w1.heap.size := by omega
  have HO : Hid (OwnE w1 (w.heap.size + 1 + 1) (.slice a1 (heldK S).e.length cap1) (heldK S).e) := by
    have := o1
    rw [zW] at this
    exact this
  clear hW bW zW c1 f1 b1 o1 z1
  go_wp2
  refine bodyPost_ret (v := kpV (heldK S) (.slice a1 (heldK S).e.length cap1)) (by simp [results, Try.results19, go_sem, c2, hz1]) rfl ⟨_, rfl, ?_, ?_⟩
  · refine OwnE.lower (OwnE.only HO.out (S := fun k => k = w.heap.size + 1) (Only.alloc ?_ _) (fun k hk h => by have := (HO.out.lt k hk).1; omega)) (show w.heap.size ≤ w.heap.size + 1 + 1 by omega)
    repeat (refine Only.setCell ?_ (by simp) _)
    exact Only.refl _ _
  · refine Below.alloc ?_ (by simp; omega) _
    repeat (refine Below.setCell ?_ (by simp <;> omega) _)
    exact B1
end Go.Proofs.Ytkilepoimocoeab
