/- StoreOk and Held of the specification. -/
import Derived.Test.YtkilepoimocoeabFoldS
import Derived.Test.YtkilepoimocoeabKeptS
import Derived.Test.YtkilepoimocoeabBlk
namespace Go.Proofs.Ytkilepoimocoeab
open Go.RowKit
set_option linter.unusedVariables false
theorem firstN_len (l : List Rc) : firstN ((l.length : Nat) : Int) l = l := by
  unfold firstN
  rw [List.take_of_length_le (by omega)]
set_option maxRecDepth 100000 in
set_option maxHeartbeats 4000000 in
theorem specStoreOk_any (S : Sto) (v u : Value) (N : Nat) (w : World) (hN : N ≤ w.heap.size) (hr : RowE w N v S.k.e) (hu : RowR w N u S.l) :
    Calls Try.prog 10 #[stV S v u] w fun e w' => e = .returned (.bool (storeB S)) ∧ Below w.heap.size w w' := by
  have HR := Hid.intro hr
  have HU := Hid.intro hu
  obtain ⟨au, cu, rfl, lu, mu, _⟩ := hu
  clear hr
  cases hkb : keptB S.k with
  | false =>
    have HF := Hid.intro (storeB_no1 hkb)
    go_enter Try.func10, Try.ntmps10
    go_wp2_with fail
    obtain ⟨W, hW, bW, zW, c1, f1⟩ := boxed w #[.int .i64 S.k.t, .int .i64 S.k.v, .int .i64 S.k.si, .int .i64 S.k.st, .string S.k.sd, v, .slice au S.l.length cu] 38
    simp only [hW]
    refine (specKeptOk_any S.k v N W (by omega) (HR.out.kept (bW.mono hN))).mono ?_
    rintro e w1 ⟨rfl, b1⟩
    rw [hkb]
    have HB := Hid.intro (bW.trans (b1.mono (by omega)))
    clear hW bW zW c1 f1 b1
    go_wp2
    go_ret
    exact ⟨ret_bool HF.out.symm, HB.out⟩
  | true =>
    have HSM := Hid.intro (Sm.of hkb)
    have HKB := Hid.intro hkb
    go_enter Try.func10, Try.ntmps10
    go_wp2_with fail
    obtain ⟨W, hW, bW, zW, c1, f1⟩ := boxed w #[.int .i64 S.k.t, .int .i64 S.k.v, .int .i64 S.k.si, .int .i64 S.k.st, .string S.k.sd, v, .slice au S.l.length cu] 38
    simp only [hW]
    refine (specKeptOk_any S.k v N W (by omega) (HR.out.kept (bW.mono hN))).mono ?_
    rintro e w1 ⟨rfl, b1⟩
    rw [hkb]
    replace c1 := keepC b1 (by omega) c1
    have B1 := bW.trans (b1.mono (by omega))
    have hz1 : w.heap.size < w1.heap.size := by have := b1.size; omega
    have HB := Hid.intro B1
    clear hW bW zW f1 b1 hkb B1
    by_cases h80 : S.l.length ≤ 80
    · have h81 : ¬ (80 : Int) < ((S.l.length : Nat) : Int) := by omega
      go_wp2_with fail
      refine (l3Fold_any S v _ N ((S.l.length : Nat) : Int) w1 (Nat.le_trans hN (by omega)) (HR.out.kept (HB.out.mono hN)) (HU.out.kept (HB.out.mono hN)) HSM.out (by omega)).mono ?_
      rintro e w2 (⟨K1, v', hf, rfl, o2, b2⟩ | ⟨hf, K1, a2, m2, cap2, rfl, b2⟩)
      · obtain ⟨a2, cap2, rfl⟩ := o2.slice
        rw [firstN_len] at hf
        have HF := Hid.intro (storeB_mk HKB.out h80 hf)
        have HB2 := Hid.intro (HB.out.trans (b2.mono HB.out.size))
        clear hf o2 b2 c1
        go_wp2
        go_ret
        exact ⟨ret_bool HF.out.symm, HB2.out.alloc HB2.out.size _⟩
      · rw [firstN_len] at hf
        have HF := Hid.intro (storeB_no3 hf)
        have HB2 := Hid.intro (HB.out.trans (b2.mono HB.out.size))
        clear hf b2 c1
        go_wp2
        go_ret
        exact ⟨ret_bool HF.out.symm, HB2.out.alloc HB2.out.size _⟩
    · have h81 : (80 : Int) < ((S.l.length : Nat) : Int) := by omega
      have HF := Hid.intro (storeB_no2 h80)
      go_wp2
      go_ret
      exact ⟨ret_bool HF.out.symm, HB.out⟩
set_option maxRecDepth 100000 in
set_option maxHeartbeats 4000000 in
theorem specHeld_any (S : Sto) (v u : Value) (N : Nat) (w : World) (hN : N ≤ w.heap.size) (hr : RowE w N v S.k.e) (hu : RowR w N u S.l) :
    Calls Try.prog 18 #[stV S v u] w fun e w' => ∃ v', e = .returned (kpV (heldK S) v') ∧ NewE w w' v' (heldK S).e := by
  have HR := Hid.intro hr
  have HU := Hid.intro hu
  obtain ⟨au, cu, rfl, lu, mu, _⟩ := hu
  clear hr
  cases hsb : storeB S with
  | false =>
    rw [heldK_no hsb]
    go_enter Try.func18, Try.ntmps18
    go_wp2_with fail
    obtain ⟨W, hW, bW, zW, c1, f1, c2, f2⟩ := boxed2 w #[.int .i64 S.k.t, .int .i64 S.k.v, .int .i64 S.k.si, .int .i64 S.k.st, .string S.k.sd, v, .slice au S.l.length cu] #[.int .i64 0, .int .i64 0, .int .i64 0, .int .i64 0, .string ⟨#[]⟩, .slice none 0 0] 38 35
    simp only [hW]
    refine (specStoreOk_any S v _ N W (by omega) (HR.out.kept (bW.mono hN)) (HU.out.kept (bW.mono hN))).mono ?_
    rintro e w1 ⟨rfl, b1⟩
    rw [hsb]
    replace c2 := keepC b1 (by omega) c2
    replace f2 := keepF b1 (by omega) f2
    have hz1 : w.heap.size + 1 < w1.heap.size := by have := b1.size; omega
    have HB := Hid.intro (bW.trans (b1.mono (by omega)))
    clear hW bW zW c1 f1 b1
    go_wp2
    refine bodyPost_ret (v := kpV kpZ (.slice none 0 0)) (by simp [results, Try.results18, go_sem, c2, kpZ]) rfl ⟨_, rfl, OwnE.nil _ _, ?_⟩
    repeat (refine Below.setCell ?_ (by simp <;> omega) _)
    exact HB.out
  | true =>
    obtain ⟨hkb, h80, K1, hf⟩ := storeB_out hsb
    rw [heldK_yes hsb hf]
    have HSM := Hid.intro (Sm.of hkb)
    have HF := Hid.intro hf
    clear hf hkb
    go_enter Try.func18, Try.ntmps18
    go_wp2_with fail
    obtain ⟨W, hW, bW, zW, c1, f1, c2, f2⟩ := boxed2 w #[.int .i64 S.k.t, .int .i64 S.k.v, .int .i64 S.k.si, .int .i64 S.k.st, .string S.k.sd, v, .slice au S.l.length cu] #[.int .i64 0, .int .i64 0, .int .i64 0, .int .i64 0, .string ⟨#[]⟩, .slice none 0 0] 38 35
    simp only [hW]
    refine (specStoreOk_any S v _ N W (by omega) (HR.out.kept (bW.mono hN)) (HU.out.kept (bW.mono hN))).mono ?_
    rintro e w1 ⟨rfl, b1⟩
    rw [hsb]
    replace c1 := keepC b1 (by omega) c1
    replace c2 := keepC b1 (by omega) c2
    replace f2 := keepF b1 (by omega) f2
    have hz1 : w.heap.size + 1 < w1.heap.size := by have := b1.size; omega
    have HB := Hid.intro (bW.trans (b1.mono (by omega)))
    clear hW bW zW f1 b1 hsb
    go_wp2_with fail
    refine (l3Fold_any S v _ N ((S.l.length : Nat) : Int) w1 (Nat.le_trans hN (by omega)) (HR.out.kept (HB.out.mono hN)) (HU.out.kept (HB.out.mono hN)) HSM.out (by omega)).mono ?_
    rintro e w2 (⟨K2, v', hf, rfl, o2, b2⟩ | ⟨hf, K2, a2, m2, cap2, rfl, b2⟩)
    · obtain ⟨a2, cap2, rfl⟩ := o2.slice
      rw [firstN_len, HF.out] at hf
      cases hf
      replace c2 := keepC b2 hz1 c2
      replace f2 := keepF b2 hz1 f2
      have z2 : w1.heap.size ≤ w2.heap.size := b2.size
      have hz2 : w.heap.size + 1 < w2.heap.size := by omega
      have HO := Hid.intro o2
      have HB2 := Hid.intro (HB.out.trans (b2.mono HB.out.size))
      clear o2 b2 c1
      go_wp2
      refine bodyPost_ret (v := kpV K1 (.slice a2 K1.e.length cap2)) (by simp [results, Try.results18, go_sem, c2, hz2]) rfl ⟨_, rfl, ?_, ?_⟩
      · refine OwnE.lower (OwnE.only HO.out (S := fun k => k = w.heap.size + 1) ?_ (fun k hk h => by have := (HO.out.lt k hk).1; omega)) (show w.heap.size ≤ w1.heap.size by omega)
        refine Only.alloc ?_ _
        repeat (refine Only.setCell ?_ (by simp) _)
        exact Only.refl _ _
      · refine Below.alloc ?_ (by simp; omega) _
        repeat (refine Below.setCell ?_ (by simp <;> omega) _)
        exact HB2.out
    · rw [firstN_len, HF.out] at hf
      cases hf
end Go.Proofs.Ytkilepoimocoeab
