/- impl.RecOk: the ways of it. -/
import Derived.Test.YtkilepoimocoeaaRecA
import Derived.Deep.RegionWith
namespace Go.Proofs.Ytkilepoimocoeaa
open Go.RowKit
set_option linter.unusedVariables false
set_option maxRecDepth 100000 in
set_option maxHeartbeats 4000000 in
theorem recOk_1y (t v : Int) (w : World)  :
    Calls Try.prog 24 #[rcV ⟨1, t, 0, v, ⟨#[]⟩⟩] w fun e w' => e = .returned (.bool (inbB ⟨1, t, 0, v, ⟨#[]⟩⟩)) ∧ Below w.heap.size w w' := by
  go_enter Try.func24, Try.ntmps24
  go_wp2_with fail
  obtain ⟨W, hW, bW, zW, cW, _⟩ := boxed w #[.int .i64 1, .int .i64 t, .int .i64 0, .int .i64 v, .string ⟨#[]⟩] 43
  simp only [hW]
  refine (recordOf_any ⟨1, t, 0, v, ⟨#[]⟩⟩ _).mono ?_
  rintro e w1 ⟨rfl, b1⟩
  rw [show recI ⟨1, t, 0, v, ⟨#[]⟩⟩ = .iface 89 (.agg #[.int .i64 t, .int .i64 v]) from rfl]
  have hs1 := b1.size
  have hz1 : w.heap.size < w1.heap.size := by omega
  have k0 := atCell b1 (cW 0) (by omega)
  have k1 := atCell b1 (cW 1) (by omega)
  have k2 := atCell b1 (cW 2) (by omega)
  have k3 := atCell b1 (cW 3) (by omega)
  have k4 := atCell b1 (cW 4) (by omega)
  simp at k0 k1 k2 k3 k4
  have HB := Hid.intro (bW.trans (b1.mono (by omega)))
  clear cW hW bW zW b1
  have HC : Hid (∀ w', Below w1.heap.size w1 w' → w'.cell? ⟨w.heap.size, 0, none⟩ = some (.int .i64 1) ∧ w'.cell? ⟨w.heap.size, 1, none⟩ = some (.int .i64 t) ∧ w'.cell? ⟨w.heap.size, 2, none⟩ = some (.int .i64 0) ∧ w'.cell? ⟨w.heap.size, 3, none⟩ = some (.int .i64 v) ∧ w'.cell? ⟨w.heap.size, 4, none⟩ = some (.string ⟨#[]⟩) ∧ w.heap.size < w'.heap.size ∧ Below w.heap.size w w') :=
    fun w' hb => ⟨atCell hb k0 hz1, atCell hb k1 hz1, atCell hb k2 hz1, atCell hb k3 hz1, atCell hb k4 hz1, by have := hb.size; omega, HB.out.trans (hb.mono (by omega))⟩
  have hm : ∀ w : World, (method 253 89 (.agg #[.int .i64 t, .int .i64 v]) "loop.example/g00757/impl.rec").run Try.prog w = .ok (110, .agg #[.int .i64 t, .int .i64 v]) w := fun _ => by kernel_rfl
  go_wp2
  go_region_with (first
    | (go_at_call 110; refine (recHard_any _ _ _).mono ?_; rintro e w2 ⟨rfl, b2⟩; obtain ⟨j0, j1, j2, j3, j4, j5, B2⟩ := HC.out w2 (by first | exact b2 | exact ((Below.refl _ _).drew).trans b2 | exact ((Below.refl _ _).drew.drew).trans b2); clear b2)
    | (go_at_call 60; refine (inBounds_any ⟨1, t, 0, v, ⟨#[]⟩⟩ _).mono ?_; rintro e w3 ⟨rfl, b3⟩))
  all_goals
    clear hm HC
    go_wp2
    go_ret
    exact ⟨rfl, B2.trans (b3.mono (by omega))⟩

set_option maxRecDepth 100000 in
set_option maxHeartbeats 4000000 in
theorem recOk_1i (t i v : Int) (d : ByteArray) (w : World) (hx : ¬ i = 0) :
    Calls Try.prog 24 #[rcV ⟨1, t, i, v, d⟩] w fun e w' => e = .returned (.bool false) ∧ Below w.heap.size w w' := by
  have n1 : ¬ 0 = i := fun h => hx h.symm
  have n2 : (0 == i) = false := by simpa using n1
  have n3 : (i == 0) = false := by simpa using hx
  go_enter Try.func24, Try.ntmps24
  go_wp2_with fail
  obtain ⟨W, hW, bW, zW, cW, _⟩ := boxed w #[.int .i64 1, .int .i64 t, .int .i64 i, .int .i64 v, .string d] 43
  simp only [hW]
  refine (recordOf_any ⟨1, t, i, v, d⟩ _).mono ?_
  rintro e w1 ⟨rfl, b1⟩
  rw [show recI ⟨1, t, i, v, d⟩ = .iface 89 (.agg #[.int .i64 t, .int .i64 v]) from rfl]
  have hs1 := b1.size
  have hz1 : w.heap.size < w1.heap.size := by omega
  have k0 := atCell b1 (cW 0) (by omega)
  have k1 := atCell b1 (cW 1) (by omega)
  have k2 := atCell b1 (cW 2) (by omega)
  have k3 := atCell b1 (cW 3) (by omega)
  have k4 := atCell b1 (cW 4) (by omega)
  simp at k0 k1 k2 k3 k4
  have HB := Hid.intro (bW.trans (b1.mono (by omega)))
  clear cW hW bW zW b1
  have HC : Hid (∀ w', Below w1.heap.size w1 w' → w'.cell? ⟨w.heap.size, 0, none⟩ = some (.int .i64 1) ∧ w'.cell? ⟨w.heap.size, 1, none⟩ = some (.int .i64 t) ∧ w'.cell? ⟨w.heap.size, 2, none⟩ = some (.int .i64 i) ∧ w'.cell? ⟨w.heap.size, 3, none⟩ = some (.int .i64 v) ∧ w'.cell? ⟨w.heap.size, 4, none⟩ = some (.string d) ∧ w.heap.size < w'.heap.size ∧ Below w.heap.size w w') :=
    fun w' hb => ⟨atCell hb k0 hz1, atCell hb k1 hz1, atCell hb k2 hz1, atCell hb k3 hz1, atCell hb k4 hz1, by have := hb.size; omega, HB.out.trans (hb.mono (by omega))⟩
  have hm : ∀ w : World, (method 253 89 (.agg #[.int .i64 t, .int .i64 v]) "loop.example/g00757/impl.rec").run Try.prog w = .ok (110, .agg #[.int .i64 t, .int .i64 v]) w := fun _ => by kernel_rfl
  go_wp2
  go_region_with (first
    | (go_at_call 110; refine (recHard_any _ _ _).mono ?_; rintro e w2 ⟨rfl, b2⟩; obtain ⟨j0, j1, j2, j3, j4, j5, B2⟩ := HC.out w2 (by first | exact b2 | exact ((Below.refl _ _).drew).trans b2 | exact ((Below.refl _ _).drew.drew).trans b2); clear b2)
    | (go_at_call 60; refine (inBounds_any ⟨1, t, i, v, d⟩ _).mono ?_; rintro e w3 ⟨rfl, b3⟩))
  all_goals
    clear hm HC
    go_wp2
    go_ret
    exact ⟨rfl, B2⟩

set_option maxRecDepth 100000 in
set_option maxHeartbeats 4000000 in
theorem recOk_1d (t v : Int) (d : ByteArray) (w : World) (hd : ¬ d.size = 0) :
    Calls Try.prog 24 #[rcV ⟨1, t, 0, v, d⟩] w fun e w' => e = .returned (.bool false) ∧ Below w.heap.size w w' := by
  have n4 := empty_ne hd
  have n5 : ¬ [] = d.toList := fun h => n4 h.symm
  have n6 := empty_is hd
  have n7 : ([] == d.toList) = false := by simpa using n5
  have n8 : (d.toList == []) = false := by simpa using n4
  go_enter Try.func24, Try.ntmps24
  go_wp2_with fail
  obtain ⟨W, hW, bW, zW, cW, _⟩ := boxed w #[.int .i64 1, .int .i64 t, .int .i64 0, .int .i64 v, .string d] 43
  simp only [hW]
  refine (recordOf_any ⟨1, t, 0, v, d⟩ _).mono ?_
  rintro e w1 ⟨rfl, b1⟩
  rw [show recI ⟨1, t, 0, v, d⟩ = .iface 89 (.agg #[.int .i64 t, .int .i64 v]) from rfl]
  have hs1 := b1.size
  have hz1 : w.heap.size < w1.heap.size := by omega
  have k0 := atCell b1 (cW 0) (by omega)
  have k1 := atCell b1 (cW 1) (by omega)
  have k2 := atCell b1 (cW 2) (by omega)
  have k3 := atCell b1 (cW 3) (by omega)
  have k4 := atCell b1 (cW 4) (by omega)
  simp at k0 k1 k2 k3 k4
  have HB := Hid.intro (bW.trans (b1.mono (by omega)))
  clear cW hW bW zW b1
  have HC : Hid (∀ w', Below w1.heap.size w1 w' → w'.cell? ⟨w.heap.size, 0, none⟩ = some (.int .i64 1) ∧ w'.cell? ⟨w.heap.size, 1, none⟩ = some (.int .i64 t) ∧ w'.cell? ⟨w.heap.size, 2, none⟩ = some (.int .i64 0) ∧ w'.cell? ⟨w.heap.size, 3, none⟩ = some (.int .i64 v) ∧ w'.cell? ⟨w.heap.size, 4, none⟩ = some (.string d) ∧ w.heap.size < w'.heap.size ∧ Below w.heap.size w w') :=
    fun w' hb => ⟨atCell hb k0 hz1, atCell hb k1 hz1, atCell hb k2 hz1, atCell hb k3 hz1, atCell hb k4 hz1, by have := hb.size; omega, HB.out.trans (hb.mono (by omega))⟩
  have hm : ∀ w : World, (method 253 89 (.agg #[.int .i64 t, .int .i64 v]) "loop.example/g00757/impl.rec").run Try.prog w = .ok (110, .agg #[.int .i64 t, .int .i64 v]) w := fun _ => by kernel_rfl
  go_wp2
  go_region_with (first
    | (go_at_call 110; refine (recHard_any _ _ _).mono ?_; rintro e w2 ⟨rfl, b2⟩; obtain ⟨j0, j1, j2, j3, j4, j5, B2⟩ := HC.out w2 (by first | exact b2 | exact ((Below.refl _ _).drew).trans b2 | exact ((Below.refl _ _).drew.drew).trans b2); clear b2)
    | (go_at_call 60; refine (inBounds_any ⟨1, t, 0, v, d⟩ _).mono ?_; rintro e w3 ⟨rfl, b3⟩))
  all_goals
    clear hm HC
    go_wp2
    go_ret
    exact ⟨rfl, B2⟩

end Go.Proofs.Ytkilepoimocoeaa
