/- KeptStep of the program. -/
import Derived.Test.YtkilepoimocoeaaTake2
namespace Go.Proofs.Ytkilepoimocoeaa
open Go.RowKit
set_option linter.unusedVariables false
/-- What KeptStep answers. -/
def ksK (K : Kp) (r : Rc) : Kp := if keptB K = true then nextK K r else kpZ
def ksB (K : Kp) (r : Rc) : Bool := if keptB K = true then goB K r else false
theorem ksK_no {K : Kp} {r : Rc} (h : keptB K = false) : ksK K r = kpZ := by simp [ksK, h]
theorem ksK_yes {K : Kp} {r : Rc} (h : keptB K = true) : ksK K r = nextK K r := by simp [ksK, h]
theorem ksB_no {K : Kp} {r : Rc} (h : keptB K = false) : ksB K r = false := by simp [ksB, h]
theorem ksB_yes {K : Kp} {r : Rc} (h : keptB K = true) : ksB K r = goB K r := by simp [ksB, h]
set_option maxRecDepth 100000 in
set_option maxHeartbeats 4000000 in
theorem implKeptStep_any (K : Kp) (v : Value) (N : Nat) (r : Rc) (w : World) (hN : N ≤ w.heap.size) (hr : RowE w N v K.e) :
    Calls Try.prog 23 #[kpV K v, rcV r] w fun e w' => ∃ v', e = .returned (.tuple #[kpV (ksK K r) v', .bool (ksB K r)]) ∧ NewE w w' v' (ksK K r).e := by
  have HR := Hid.intro hr
  clear hr
  cases hkb : keptB K with
  | false =>
    rw [ksK_no hkb, ksB_no hkb]
    go_enter Try.func23, Try.ntmps23
    go_wp2_with fail
    obtain ⟨W, hW, bW, zW, c1, f1, c2, f2, c3, f3⟩ := boxed3 w #[.int .i64 K.t, .int .i64 K.v, .int .i64 K.si, .int .i64 K.st, .string K.sd, v] #[.int .i64 r.k, .int .i64 r.t, .int .i64 r.i, .int .i64 r.v, .string r.d] #[.int .i64 0, .int .i64 0, .int .i64 0, .int .i64 0, .string ⟨#[]⟩, .slice none 0 0] 28 43 28
    simp only [hW]
    refine (keptOk_any K v N W (by omega) (HR.out.kept (bW.mono hN))).mono ?_
    rintro e w1 ⟨rfl, b1⟩
    replace c3 := keepC b1 (by omega) c3
    replace f3 := keepF b1 (by omega) f3
    have z1 := b1.size
    have HB := Hid.intro (bW.trans (b1.mono (by omega)))
    have hz1 : w.heap.size + 1 + 1 < w1.heap.size := by omega
    clear hW bW zW b1 f1 f2 c1 c2 z1
    go_wp2
    refine bodyPost_ret (v := .tuple #[kpV kpZ (.slice none 0 0), .bool false]) (by simp [results, Try.results23, go_sem, c3, kpZ]) rfl ⟨_, rfl, OwnE.nil _ _, ?_⟩
    repeat (refine Below.setCell ?_ (by simp <;> omega) _)
    exact HB.out
  | true =>
    have hs := Sm.of hkb
    have hle : K.e.length ≤ 60 := hs.2.2
    have HS := Hid.intro hs
    rw [ksK_yes hkb, ksB_yes hkb]
    clear hs
    go_enter Try.func23, Try.ntmps23
    go_wp2_with fail
    obtain ⟨W, hW, bW, zW, c1, f1, c2, f2, c3, f3⟩ := boxed3 w #[.int .i64 K.t, .int .i64 K.v, .int .i64 K.si, .int .i64 K.st, .string K.sd, v] #[.int .i64 r.k, .int .i64 r.t, .int .i64 r.i, .int .i64 r.v, .string r.d] #[.int .i64 0, .int .i64 0, .int .i64 0, .int .i64 0, .string ⟨#[]⟩, .slice none 0 0] 28 43 28
    simp only [hW]
    refine (keptOk_any K v N W (by omega) (HR.out.kept (bW.mono hN))).mono ?_
    rintro e w1 ⟨rfl, b1⟩
    replace c1 := keepC b1 (by omega) c1
    replace c2 := keepC b1 (by omega) c2
    replace c3 := keepC b1 (by omega) c3
    replace f3 := keepF b1 (by omega) f3
    have z1 := b1.size
    have B1 := bW.trans (b1.mono (by omega))
    have hz1 : w.heap.size + 1 + 1 < w1.heap.size := by omega
    clear hW bW zW b1 f1 f2 z1
    go_wp2_with fail
    refine (copied_any K v N w1 (by omega) (HR.out.kept (B1.mono hN)) (by omega)).mono ?_
    rintro e w2 ⟨v2, rfl, o2, b2⟩
    obtain ⟨a2, cap2, rfl⟩ := o2.slice
    replace c2 := keepC b2 (by omega) c2
    replace c3 := keepC b2 (by omega) c3
    replace f3 := keepF b2 (by omega) f3
    have z2 := b2.size
    have B2 := B1.trans (b2.mono (by omega))
    have hz2 : w.heap.size + 1 + 1 < w2.heap.size := by omega
    have HO2 := Hid.intro o2
    have HZ1 := Hid.intro hz1
    have hz2b : w.heap.size + 1 < w2.heap.size := by omega
    clear c1 b2 B1 o2 hz1
    go_wp2_with fail
    obtain ⟨X, hX, bX, zX, cX, fX⟩ := boxed w2 #[.int .i64 K.t, .int .i64 K.v, .int .i64 K.si, .int .i64 K.st, .string K.sd, .slice a2 K.e.length cap2] 28
    simp only [hX]
    replace c3 := keepC bX (by omega) c3
    replace f3 := keepF bX (by omega) f3
    have HKO : Hid (KOwn X w2.heap.size w1.heap.size K (.slice a2 K.e.length cap2)) :=
      ⟨⟨by omega, by rw [cX]; rfl, by rw [cX]; rfl, by rw [cX]; rfl, by rw [cX]; rfl, by rw [cX]; rfl, by rw [cX]; rfl, fX⟩, HO2.out.kept bX, fun k hk e => by have := (HO2.out.lt k hk).2; omega⟩
    have BX := B2.trans (bX.mono (by omega))
    have hzX : w.heap.size + 1 + 1 < X.heap.size := by omega
    have HV : Hid (∀ k, (Value.slice a2 K.e.length cap2).ownBlock = some k → w1.heap.size ≤ k) := fun k hk => (HO2.out.lt k hk).1
    have HZ2 := Hid.intro hz2
    have hw12 : Hid (w1.heap.size ≤ X.heap.size) := by unfold Hid; omega
    have hkX : Hid (w2.heap.size < X.heap.size ∧ w.heap.size + 1 + 1 < w2.heap.size ∧ w.heap.size + 1 + 1 < w1.heap.size) := ⟨by omega, hz2, HZ1.out⟩
    clear hX bX zX cX fX HO2 B2 hz2
    refine (take_any K _ w2.heap.size w1.heap.size r X hw12.out HKO.out HS.out).mono ?_
    rintro e w4 ⟨rfl, v4, hk4, hl4, ht4⟩
    obtain ⟨a4, cap4, rfl⟩ := hk4.2.1.slice
    have hS : ¬ (w.heap.size + 1 + 1 = w2.heap.size ∨ some (w.heap.size + 1 + 1) = (Value.slice a2 K.e.length cap2).ownBlock) := by
      rintro (h | h)
      · have := hkX.out; omega
      · have := HV.out _ h.symm; have := hkX.out; omega
    have d3 : ∀ o, w4.cell? ⟨w.heap.size + 1 + 1, o, none⟩ = #[.int .i64 0, .int .i64 0, .int .i64 0, .int .i64 0, .string ⟨#[]⟩, .slice none 0 0][o]? := fun o => (ht4.only.cell hzX hS).trans (c3 o)
    have g3 : ∀ o, w4.frozen? ⟨w.heap.size + 1 + 1, o, none⟩ = false := fun o => (ht4.only.frozen hzX hS).trans (f3 o)
    have hz4 : w.heap.size + 1 + 1 < w4.heap.size := Nat.lt_of_lt_of_le hzX ht4.only.size
    have HO4 := Hid.intro hk4.2.1
    have HK4 := Hid.intro hk4.1
    have HB4 : Hid (Below w.heap.size w w4) := BX.trans (ht4.only.below (by omega) (fun k hk h => by
      rcases h with h | h
      · have := hkX.out; omega
      · have := HV.out _ h.symm; have := hkX.out; omega))
    obtain ⟨x9, y0, y1, y2, y3, y4, y5, yf⟩ := hk4.1
    clear c2 c3 f3 BX hzX hk4 hl4 ht4 hS HKO
    go_wp2
    refine bodyPost_ret (v := .tuple #[kpV (nextK K r) (.slice a4 (nextK K r).e.length cap4), .bool (goB K r)]) (by simp [results, Try.results23, go_sem, d3]) rfl ⟨_, rfl, ?_, ?_⟩
    · refine OwnE.lower (OwnE.only HO4.out (S := fun k => k = w.heap.size + 1 + 1) ?_ (fun k hk h => by have := (HO4.out.lt k hk).1; have := hkX.out; omega)) (show w.heap.size ≤ w1.heap.size by have := hkX.out; omega)
      repeat (refine Only.setCell ?_ (by simp) _)
      exact Only.refl _ _
    · repeat (refine Below.setCell ?_ (by simp <;> omega) _)
      exact HB4.out
end Go.Proofs.Ytkilepoimocoeaa
