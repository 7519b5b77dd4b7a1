/- held, StoreOk, Held of the program. -/
import Derived.Test.YtkilepoimocoeaaAfter
namespace Go.Proofs.Ytkilepoimocoeaa
open Go.RowKit
set_option linter.unusedVariables false
abbrev stV (S : Sto) (v u : Value) : Value := .agg #[.int .i64 S.k.t, .int .i64 S.k.v, .int .i64 S.k.si, .int .i64 S.k.st, .string S.k.sd, v, u]
theorem storeB_after {S : Sto} (h1 : keptB S.k = true) (h2 : S.l.length ≤ 80) : storeB S = afterB S.k S.l := by simp [storeB, h1, h2, afterB]
theorem heldK_after {S : Sto} (h1 : keptB S.k = true) (h2 : S.l.length ≤ 80) : heldK S = afterK S.k S.l := by
  cases h : foldK S.k S.l with
  | none => rw [afterK_none h, heldK_no (storeB_no3 h)]
  | some K' => rw [afterK_some h, heldK_yes (storeB_mk h1 h2 h) h]
set_option maxRecDepth 100000 in
set_option maxHeartbeats 4000000 in
theorem held_any (S : Sto) (v u : Value) (N : Nat) (w : World) (hN : N ≤ w.heap.size) (hr : RowE w N v S.k.e) (hu : RowR w N u S.l) :
    Calls Try.prog 46 #[stV S v u] w fun e w' => ∃ v', e = .returned (.tuple #[kpV (heldK S) v', .bool (storeB S)]) ∧ NewE w w' v' (heldK S).e := by
  have HR := Hid.intro hr
  have HU := Hid.intro hu
  obtain ⟨au, cu, rfl, lu, mu, _⟩ := hu
  clear hr
  cases hkb : keptB S.k with
  | false =>
    rw [storeB_no1 hkb, heldK_no (storeB_no1 hkb)]
    go_enter Try.func46, Try.ntmps46
    go_wp2_with fail
    obtain ⟨W, hW, bW, zW, c1, f1, c2, f2⟩ := boxed2 w #[.int .i64 S.k.t, .int .i64 S.k.v, .int .i64 S.k.si, .int .i64 S.k.st, .string S.k.sd, v, .slice au S.l.length cu] #[.int .i64 0, .int .i64 0, .int .i64 0, .int .i64 0, .string ⟨#[]⟩, .slice none 0 0] 31 28
    simp only [hW]
    refine (keptOk_any S.k v N W (by omega) (HR.out.kept (bW.mono hN))).mono ?_
    rintro e w1 ⟨rfl, b1⟩
    replace c2 := keepC b1 (by omega) c2
    replace f2 := keepF b1 (by omega) f2
    have hz1 : w.heap.size + 1 < w1.heap.size := by have := b1.size; omega
    have HB := Hid.intro (bW.trans (b1.mono (by omega)))
    clear hW bW zW b1 f1 c1
    go_wp2
    refine bodyPost_ret (v := .tuple #[kpV kpZ (.slice none 0 0), .bool false]) (by simp [results, Try.results46, go_sem, c2, kpZ]) rfl ⟨_, rfl, OwnE.nil _ _, ?_⟩
    repeat (refine Below.setCell ?_ (by simp <;> omega) _)
    exact HB.out
  | true =>
    by_cases hl : S.l.length ≤ 80
    · rw [storeB_after hkb hl, heldK_after hkb hl]
      go_enter Try.func46, Try.ntmps46
      go_wp2_with fail
      obtain ⟨W, hW, bW, zW, c1, f1, c2, f2⟩ := boxed2 w #[.int .i64 S.k.t, .int .i64 S.k.v, .int .i64 S.k.si, .int .i64 S.k.st, .string S.k.sd, v, .slice au S.l.length cu] #[.int .i64 0, .int .i64 0, .int .i64 0, .int .i64 0, .string ⟨#[]⟩, .slice none 0 0] 31 28
      simp only [hW]
      refine (keptOk_any S.k v N W (by omega) (HR.out.kept (bW.mono hN))).mono ?_
      rintro e w1 ⟨rfl, b1⟩
      replace c1 := keepC b1 (by omega) c1
      replace c2 := keepC b1 (by omega) c2
      replace f2 := keepF b1 (by omega) f2
      have hz1 : w.heap.size + 1 < w1.heap.size := by have := b1.size; omega
      have hz1b : w.heap.size < w1.heap.size := by omega
      have B1 := bW.trans (b1.mono (by omega))
      clear hW bW zW b1 f1
      go_wp2_with fail
      refine (after_any S.k v N S.l _ w1 (by omega) (HR.out.kept (B1.mono hN)) (HU.out.kept (B1.mono hN)) (Sm.of hkb) (by omega)).mono ?_
      rintro e w2 ⟨v2, rfl, o2, b2⟩
      obtain ⟨a2, cap2, rfl⟩ := o2.slice
      replace c2 := keepC b2 (by omega) c2
      replace f2 := keepF b2 (by omega) f2
      have hz2 : w.heap.size + 1 < w2.heap.size := by have := b2.size; omega
      have HB := Hid.intro (B1.trans (b2.mono (by omega)))
      have HO := Hid.intro o2
      have HZ := Hid.intro hz1
      clear c1 b2 o2 B1 hz1 hz1b
      go_wp2
      refine bodyPost_ret (v := .tuple #[kpV (afterK S.k S.l) (.slice a2 (afterK S.k S.l).e.length cap2), .bool (afterB S.k S.l)]) (by simp [results, Try.results46, go_sem, c2]) rfl ⟨_, rfl, ?_, ?_⟩
      · refine OwnE.lower (OwnE.only HO.out (S := fun k => k = w.heap.size + 1) ?_ (fun k hk h => by have := (HO.out.lt k hk).1; have := HZ.out; omega)) (by have := HZ.out; omega)
        repeat (refine Only.setCell ?_ (by simp) _)
        exact Only.refl _ _
      · repeat (refine Below.setCell ?_ (by simp <;> omega) _)
        exact HB.out
    · rw [storeB_no2 hl, heldK_no (storeB_no2 hl)]
      have hl2 : (80 : Int) < (S.l.length : Int) := by omega
      go_enter Try.func46, Try.ntmps46
      go_wp2_with fail
      obtain ⟨W, hW, bW, zW, c1, f1, c2, f2⟩ := boxed2 w #[.int .i64 S.k.t, .int .i64 S.k.v, .int .i64 S.k.si, .int .i64 S.k.st, .string S.k.sd, v, .slice au S.l.length cu] #[.int .i64 0, .int .i64 0, .int .i64 0, .int .i64 0, .string ⟨#[]⟩, .slice none 0 0] 31 28
      simp only [hW]
      refine (keptOk_any S.k v N W (by omega) (HR.out.kept (bW.mono hN))).mono ?_
      rintro e w1 ⟨rfl, b1⟩
      replace c1 := keepC b1 (by omega) c1
      replace c2 := keepC b1 (by omega) c2
      replace f2 := keepF b1 (by omega) f2
      have hz1 : w.heap.size + 1 < w1.heap.size := by have := b1.size; omega
      have HB := Hid.intro (bW.trans (b1.mono (by omega)))
      clear hW bW zW b1 f1
      go_wp2
      refine bodyPost_ret (v := .tuple #[kpV kpZ (.slice none 0 0), .bool false]) (by simp [results, Try.results46, go_sem, c2, kpZ]) rfl ⟨_, rfl, OwnE.nil _ _, ?_⟩
      repeat (refine Below.setCell ?_ (by simp <;> omega) _)
      exact HB.out
end Go.Proofs.Ytkilepoimocoeaa
