/- l3Step. -/
import Derived.Test.YtkilepoimocoeaaTake
import Derived.Test.YtkilepoimocoeaaStepC
import Derived.Test.YtkilepoimocoeaaFitsE
namespace Go.Proofs.Ytkilepoimocoeaa
open Go.RowKit
set_option linter.unusedVariables false
/-- What l3Step leaves: the row in its place or in a new one. -/
def SteppedP (w : World) (base : Nat) (K : Kp) (v : Value) (e : Ending) (g : Bool) (K' : Kp) (w' : World) : Prop := ∃ v', e = .returned (.tuple #[kpV K' v', .bool g]) ∧ OwnE w' base v' K'.e ∧ Loc v v' w ∧ Only (fun k => some k = v.ownBlock) w w'
theorem l3Fits_any (K : Kp) (v : Value) (N : Nat) (r : Rc) (w : World) (hN : N ≤ w.heap.size) (hr : RowE w N v K.e) (hs : Sx K) :
    Calls Try.prog 78 #[kpV K v, rcV r] w fun e w' => e = .returned (.bool (fitsB K r)) ∧ Below w.heap.size w w' := by
  obtain ⟨a, cap, rfl, h1, h2, h3⟩ := id hr
  by_cases hk : r.k = 2
  · obtain ⟨k, t, i, vo, d⟩ := r
    dsimp only at hk
    subst hk
    by_cases hi : i = K.si + K.e.length + 1
    · by_cases hl : K.e.length < 60
      · have e : (decide (lastT K ≤ t) && decide (t ≤ K.t)) = fitsB K ⟨2, t, i, vo, d⟩ := by
          rw [Bool.eq_iff_iff]
          simp only [Bool.and_eq_true, decide_eq_true_eq, fitsB, fitsP, true_and]
          omega
        rw [← e]
        exact l3Fits_2yes K a cap N t i vo d w hN hr hs hi hl
      · rw [fitsB_no (by simp only [fitsP]; omega)]
        exact l3Fits_2no K a cap t i vo d w hs (.inr hl)
    · rw [fitsB_no (by simp only [fitsP]; omega)]
      exact l3Fits_2no K a cap t i vo d w hs (.inl hi)
  · exact l3Fits_134 K a cap r w hs hk
set_option maxRecDepth 100000 in
set_option maxHeartbeats 4000000 in
theorem l3Step_no (K : Kp) (v : Value) (base : Nat) (r : Rc) (w : World) (ho : OwnE w base v K.e) (hs : Sx K) (hg : goB K r = false) :
    Calls Try.prog 42 #[kpV K v, rcV r] w fun e w' => SteppedP w base K v e (goB K r) (nextK K r) w' := by
  rw [hg, nextK_no hg]
  have HO := Hid.intro ho
  have HS := Hid.intro hs
  have hsh := ho.slice
  obtain ⟨a, cap, rfl⟩ := hsh
  clear ho hs
  cases hrb : recB r with
  | false =>
    clear hg
    go_enter Try.func42, Try.ntmps42
    go_wp2_with fail
    obtain ⟨W, hW, bW, zW, c1, f1, c2, f2, c3, f3⟩ := boxed3 w #[.int .i64 K.t, .int .i64 K.v, .int .i64 K.si, .int .i64 K.st, .string K.sd, .slice a K.e.length cap] #[.int .i64 r.k, .int .i64 r.t, .int .i64 r.i, .int .i64 r.v, .string r.d] #[.int .i64 0, .int .i64 0, .int .i64 0, .int .i64 0, .string ⟨#[]⟩, .slice none 0 0] 28 43 28
    simp only [hW]
    refine (specRecOk_any r _).mono ?_
    rintro e w1 ⟨rfl, b1⟩
    replace c1 := keepC b1 (by omega) c1
    replace c3 := keepC b1 (by omega) c3
    replace f3 := keepF b1 (by omega) f3
    have z1 := b1.size
    have B1 := bW.trans (b1.mono (by omega))
    have hz1 : w.heap.size + 1 + 1 < w1.heap.size := by omega
    have HB := Hid.intro B1
    clear hW bW zW b1 f1 f2 c2 z1 B1
    go_wp2
    refine bodyPost_ret (v := .tuple #[kpV K (.slice a K.e.length cap), .bool false]) (by simp [results, Try.results42, go_sem, c3]) rfl ⟨_, rfl, ?_, Loc.same _ _, ?_⟩
    · refine OwnE.only (HO.out.kept HB.out) (S := fun k => w.heap.size ≤ k) ?_ (fun k hk h => by have := (HO.out.lt k hk).2; omega)
      repeat (refine Only.setCell ?_ (by simp <;> omega) _)
      exact Only.refl _ _
    · refine Below.any ?_
      repeat (refine Below.setCell ?_ (by simp <;> omega) _)
      exact HB.out
  | true =>
    have hfb : fitsB K r = false := by
      unfold goB at hg
      rw [hrb] at hg
      simpa using hg
    clear hg
    go_enter Try.func42, Try.ntmps42
    go_wp2_with fail
    obtain ⟨W, hW, bW, zW, c1, f1, c2, f2, c3, f3⟩ := boxed3 w #[.int .i64 K.t, .int .i64 K.v, .int .i64 K.si, .int .i64 K.st, .string K.sd, .slice a K.e.length cap] #[.int .i64 r.k, .int .i64 r.t, .int .i64 r.i, .int .i64 r.v, .string r.d] #[.int .i64 0, .int .i64 0, .int .i64 0, .int .i64 0, .string ⟨#[]⟩, .slice none 0 0] 28 43 28
    simp only [hW]
    refine (specRecOk_any r _).mono ?_
    rintro e w1 ⟨rfl, b1⟩
    replace c1 := keepC b1 (by omega) c1
    replace c2 := keepC b1 (by omega) c2
    replace c3 := keepC b1 (by omega) c3
    replace f3 := keepF b1 (by omega) f3
    have z1 := b1.size
    have B1 := bW.trans (b1.mono (by omega))
    have hz1 : w.heap.size + 1 + 1 < w1.heap.size := by omega
    clear hW bW zW b1 f1 f2 z1
    go_wp2_with fail
    refine (l3Fits_any K _ w1.heap.size r w1 (Nat.le_refl _) (HO.out.kept B1).rowAll HS.out).mono ?_
    rintro e w2 ⟨rfl, b2⟩
    replace c1 := keepC b2 (by omega) c1
    replace c3 := keepC b2 (by omega) c3
    replace f3 := keepF b2 (by omega) f3
    have z2 := b2.size
    have HB := Hid.intro (B1.trans (b2.mono (by omega)))
    have hz2 : w.heap.size + 1 + 1 < w2.heap.size := by omega
    clear b2 c2 z2 B1 hz1
    go_wp2
    refine bodyPost_ret (v := .tuple #[kpV K (.slice a K.e.length cap), .bool false]) (by simp [results, Try.results42, go_sem, c3]) rfl ⟨_, rfl, ?_, Loc.same _ _, ?_⟩
    · refine OwnE.only (HO.out.kept HB.out) (S := fun k => w.heap.size ≤ k) ?_ (fun k hk h => by have := (HO.out.lt k hk).2; omega)
      repeat (refine Only.setCell ?_ (by simp <;> omega) _)
      exact Only.refl _ _
    · refine Below.any ?_
      repeat (refine Below.setCell ?_ (by simp <;> omega) _)
      exact HB.out

set_option maxRecDepth 100000 in
set_option maxHeartbeats 4000000 in
theorem l3Step_1 (K : Kp) (v : Value) (base : Nat) (t i vo : Int) (d : ByteArray) (w : World) (ho : OwnE w base v K.e) (hs : Sx K) (hg : goB K ⟨1, t, i, vo, d⟩ = true) :
    Calls Try.prog 42 #[kpV K v, rcV ⟨1, t, i, vo, d⟩] w fun e w' => SteppedP w base K v e (goB K ⟨1, t, i, vo, d⟩) (nextK K ⟨1, t, i, vo, d⟩) w' := by
  have hrb : recB ⟨1, t, i, vo, d⟩ = true := recB_yes (goB_out hg).1
  have hfb : fitsB K ⟨1, t, i, vo, d⟩ = true := fitsB_yes (goB_out hg).2
  rw [hg, nextK_yes hg]
  have HO := Hid.intro ho
  have HS := Hid.intro hs
  obtain ⟨a, cap, rfl⟩ := ho.slice
  clear ho hs hg
  go_enter Try.func42, Try.ntmps42
  go_wp2_with fail
  obtain ⟨W, hW, bW, zW, c1, f1, c2, f2, c3, f3⟩ := boxed3 w #[.int .i64 K.t, .int .i64 K.v, .int .i64 K.si, .int .i64 K.st, .string K.sd, .slice a K.e.length cap] #[.int .i64 1, .int .i64 t, .int .i64 i, .int .i64 vo, .string d] #[.int .i64 0, .int .i64 0, .int .i64 0, .int .i64 0, .string ⟨#[]⟩, .slice none 0 0] 28 43 28
  simp only [hW]
  refine (specRecOk_any ⟨1, t, i, vo, d⟩ _).mono ?_
  rintro e w1 ⟨rfl, b1⟩
  replace c1 := keepC b1 (by omega) c1
  replace f1 := keepF b1 (by omega) f1
  replace c2 := keepC b1 (by omega) c2
  replace c3 := keepC b1 (by omega) c3
  replace f3 := keepF b1 (by omega) f3
  have z1 := b1.size
  have B1 := bW.trans (b1.mono (by omega))
  have hz1 : w.heap.size + 1 + 1 < w1.heap.size := by omega
  clear hW bW zW b1 f2 z1
  go_wp2_with fail
  refine (l3Fits_any K _ w1.heap.size ⟨1, t, i, vo, d⟩ w1 (Nat.le_refl _) (HO.out.kept B1).rowAll HS.out).mono ?_
  rintro e w2 ⟨rfl, b2⟩
  replace c1 := keepC b2 (by omega) c1
  replace f1 := keepF b2 (by omega) f1
  replace c2 := keepC b2 (by omega) c2
  replace c3 := keepC b2 (by omega) c3
  replace f3 := keepF b2 (by omega) f3
  have z2 := b2.size
  have HB := Hid.intro (B1.trans (b2.mono (by omega)))
  have hz2 : w.heap.size + 1 + 1 < w2.heap.size := by omega
  clear b2 z2 B1 hz1
  go_wp2
  refine bodyPost_ret (v := .tuple #[kpV (stepK K ⟨1, t, i, vo, d⟩) (.slice a K.e.length cap), .bool true]) (by simp [results, Try.results42, go_sem, c3, stepK]) rfl ⟨_, rfl, ?_, Loc.same _ _, ?_⟩
  · refine OwnE.only (HO.out.kept HB.out) (S := fun k => w.heap.size ≤ k) ?_ (fun k hk h => by have := (HO.out.lt k hk).2; omega)
    repeat (refine Only.setCell ?_ (by simp <;> omega) _)
    exact Only.refl _ _
  · refine Below.any ?_
    repeat (refine Below.setCell ?_ (by simp <;> omega) _)
    exact HB.out
set_option maxRecDepth 100000 in
set_option maxHeartbeats 4000000 in
theorem l3Step_4 (K : Kp) (v : Value) (base : Nat) (t i vo : Int) (d : ByteArray) (w : World) (hb : base ≤ w.heap.size) (ho : OwnE w base v K.e) (hs : Sx K) (hg : goB K ⟨4, t, i, vo, d⟩ = true) :
    Calls Try.prog 42 #[kpV K v, rcV ⟨4, t, i, vo, d⟩] w fun e w' => SteppedP w base K v e (goB K ⟨4, t, i, vo, d⟩) (nextK K ⟨4, t, i, vo, d⟩) w' := by
  have hrb : recB ⟨4, t, i, vo, d⟩ = true := recB_yes (goB_out hg).1
  have hfb : fitsB K ⟨4, t, i, vo, d⟩ = true := fitsB_yes (goB_out hg).2
  have hi : -1000000 ≤ i ∧ i ≤ 1000000 := by have := (goB_out hg).1; unfold recP at this; dsimp only at this; omega
  have hsi : -1000 ≤ K.si ∧ K.si ≤ 1000000 := ⟨hs.1, hs.2.1⟩
  have hle : K.e.length ≤ 1000 := hs.2.2
  rw [hg, nextK_yes hg, stepK_4]
  have HO := Hid.intro ho
  have HS := Hid.intro hs
  obtain ⟨a, cap, rfl⟩ := ho.slice
  clear ho hs hg
  go_enter Try.func42, Try.ntmps42
  go_wp2_with fail
  obtain ⟨W, hW, bW, zW, c1, f1, c2, f2, c3, f3⟩ := boxed3 w #[.int .i64 K.t, .int .i64 K.v, .int .i64 K.si, .int .i64 K.st, .string K.sd, .slice a K.e.length cap] #[.int .i64 4, .int .i64 t, .int .i64 i, .int .i64 vo, .string d] #[.int .i64 0, .int .i64 0, .int .i64 0, .int .i64 0, .string ⟨#[]⟩, .slice none 0 0] 28 43 28
  simp only [hW]
  refine (specRecOk_any ⟨4, t, i, vo, d⟩ _).mono ?_
  rintro e w1 ⟨rfl, b1⟩
  replace c1 := keepC b1 (by omega) c1
  replace f1 := keepF b1 (by omega) f1
  replace c2 := keepC b1 (by omega) c2
  replace c3 := keepC b1 (by omega) c3
  replace f3 := keepF b1 (by omega) f3
  have z1 := b1.size
  have B1 := bW.trans (b1.mono (by omega))
  have hz1 : w.heap.size + 1 + 1 < w1.heap.size := by omega
  clear hW bW zW b1 f2 z1
  go_wp2_with fail
  refine (l3Fits_any K _ w1.heap.size ⟨4, t, i, vo, d⟩ w1 (Nat.le_refl _) (HO.out.kept B1).rowAll HS.out).mono ?_
  rintro e w2 ⟨rfl, b2⟩
  replace c1 := keepC b2 (by omega) c1
  replace f1 := keepF b2 (by omega) f1
  replace c2 := keepC b2 (by omega) c2
  replace c3 := keepC b2 (by omega) c3
  replace f3 := keepF b2 (by omega) f3
  have z2 := b2.size
  have B2 := B1.trans (b2.mono (by omega))
  have hz2 : w.heap.size + 1 + 1 < w2.heap.size := by omega
  clear b2 z2 B1 hz1
  go_wp2_with fail
  refine (l3Behind_any K _ w2.heap.size i t w2 (Nat.le_refl _) (HO.out.kept B2).rowAll hsi (by omega) hi).mono ?_
  rintro e w3 ⟨v3, rfl, o3, b3⟩
  obtain ⟨a3, cap3, rfl⟩ := o3.slice
  replace c1 := keepC b3 (by omega) c1
  replace f1 := keepF b3 (by omega) f1
  replace c2 := keepC b3 (by omega) c2
  replace c3 := keepC b3 (by omega) c3
  replace f3 := keepF b3 (by omega) f3
  have hz3 : w.heap.size + 1 + 1 < w3.heap.size := by have := b3.size; omega
  have HB := Hid.intro (B2.trans (b3.mono (by omega)))
  have H3 := Hid.intro o3
  have HZ2 := Hid.intro hz2
  clear b3 o3 B2 hz2
  go_wp2
  refine bodyPost_ret (v := .tuple #[.agg #[.int .i64 K.t, .int .i64 K.v, .int .i64 i, .int .i64 t, .string d, .slice a3 (behL K.e (i - K.si) t).length cap3], .bool true]) (by simp [results, Try.results42, go_sem, c3]) rfl ⟨_, rfl, ?_, ?_, ?_⟩
  · refine OwnE.lower (OwnE.only H3.out (S := fun k => k = w.heap.size ∨ k = w.heap.size + 1 + 1) ?_ (fun k hk h => by have := (H3.out.lt k hk).1; have := HZ2.out; omega)) (show base ≤ w2.heap.size by have := HZ2.out; omega)
    repeat (refine Only.setCell ?_ (by simp) _)
    exact Only.refl _ _
  · intro k hk
    have := (H3.out.lt k hk).1
    have := HZ2.out
    exact .inr (by omega)
  · refine Below.any ?_
    repeat (refine Below.setCell ?_ (by simp <;> omega) _)
    exact HB.out
end Go.Proofs.Ytkilepoimocoeaa
