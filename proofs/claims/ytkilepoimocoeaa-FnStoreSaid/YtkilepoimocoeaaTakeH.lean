/- takeHard. -/
import Derived.Test.YtkilepoimocoeaaRecIC
import Derived.Test.YtkilepoimocoeaaCopyS
namespace Go.Proofs.Ytkilepoimocoeaa
open Go.RowKit
set_option linter.unusedVariables false
/-- At block kb lies K, its entries in v. -/
structure KAt (w : World) (kb : Nat) (K : Kp) (v : Value) : Prop where
  lt : kb < w.heap.size
  c0 : w.cell? ⟨kb, 0, none⟩ = some (.int .i64 K.t)
  c1 : w.cell? ⟨kb, 1, none⟩ = some (.int .i64 K.v)
  c2 : w.cell? ⟨kb, 2, none⟩ = some (.int .i64 K.si)
  c3 : w.cell? ⟨kb, 3, none⟩ = some (.int .i64 K.st)
  c4 : w.cell? ⟨kb, 4, none⟩ = some (.string K.sd)
  c5 : w.cell? ⟨kb, 5, none⟩ = some v
  f : ∀ o, w.frozen? ⟨kb, o, none⟩ = false
/-- What take may turn: the six cells at kb, the row of v, what is new. -/
structure Took (kb : Nat) (v : Value) (w w' : World) : Prop where
  only : Only (fun k => k = kb ∨ some k = v.ownBlock) w w'
  rest : ∀ o, 6 ≤ o → w'.cell? ⟨kb, o, none⟩ = w.cell? ⟨kb, o, none⟩
/-- Where the row lies behind it. -/
def Loc (v v' : Value) (w : World) : Prop := ∀ k, v'.ownBlock = some k → v.ownBlock = some k ∨ w.heap.size ≤ k
theorem Took.of_below {kb : Nat} {v : Value} {w w' : World} (h : Below w.heap.size w w') (hk : kb < w.heap.size) : Took kb v w w' := ⟨Below.any h, fun o _ => h.cell (p := ⟨kb, o, none⟩) hk⟩
theorem KAt.below {kb B : Nat} {w w' : World} {K : Kp} {v : Value} (h : KAt w kb K v) (hb : Below B w w') (hk : kb < B) : KAt w' kb K v :=
  ⟨Nat.lt_of_lt_of_le h.lt hb.size, atCell hb h.c0 hk, atCell hb h.c1 hk, atCell hb h.c2 hk, atCell hb h.c3 hk, atCell hb h.c4 hk, atCell hb h.c5 hk, fun o => atFrozen hb (h.f o) hk⟩

theorem Only.drewN {S : Nat → Prop} {a w : World} (h : Only S a w) (n : Nat) : Only S a (w.drewN n) := ⟨h.os, h.tape, h.output, h.size, h.block⟩
theorem KAt.drewN {w : World} {kb : Nat} {K : Kp} {v : Value} (h : KAt w kb K v) (n : Nat) : KAt (w.drewN n) kb K v := ⟨h.lt, h.c0, h.c1, h.c2, h.c3, h.c4, h.c5, h.f⟩
theorem KAt.drew {w : World} {kb : Nat} {K : Kp} {v : Value} (h : KAt w kb K v) : KAt w.drew kb K v := ⟨h.lt, h.c0, h.c1, h.c2, h.c3, h.c4, h.c5, h.f⟩
theorem KAt.ents {w : World} {kb : Nat} {K : Kp} {v : Value} (h : KAt w kb K v) (L : List En) : KAt w kb { K with e := L } v := ⟨h.lt, h.c0, h.c1, h.c2, h.c3, h.c4, h.c5, h.f⟩
theorem set_same {w : World} {b o : Nat} {x y : Value} (h : w.cell? ⟨b, o, none⟩ = some x) : (w.setCell ⟨b, o, none⟩ y).cell? ⟨b, o, none⟩ = some y := World.cell?_setCell_same _ _ _ h
theorem set_other {w : World} {b o p : Nat} {x y : Value} (h : w.cell? ⟨b, o, none⟩ = some x) (hp : ¬ o = p) : (w.setCell ⟨b, p, none⟩ y).cell? ⟨b, o, none⟩ = some x := by
  rw [World.cell?_setCell_other _ _ _ _ (by intro e; cases e; exact hp rfl)]; exact h
theorem set_frozen {w : World} {b : Nat} {p : Addr} {y : Value} (h : ∀ o, w.frozen? ⟨b, o, none⟩ = false) : ∀ o, (w.setCell p y).frozen? ⟨b, o, none⟩ = false := fun o => by rw [World.frozen?_setCell]; exact h o
theorem KAt.set0 {w : World} {kb : Nat} {K : Kp} {v : Value} (h : KAt w kb K v) (x : Int) : KAt (w.setCell ⟨kb, 0, none⟩ (.int .i64 x)) kb { K with t := x } v :=
  ⟨by simpa using h.lt, set_same h.c0, set_other h.c1 (by omega), set_other h.c2 (by omega), set_other h.c3 (by omega), set_other h.c4 (by omega), set_other h.c5 (by omega), set_frozen h.f⟩
theorem KAt.set1 {w : World} {kb : Nat} {K : Kp} {v : Value} (h : KAt w kb K v) (x : Int) : KAt (w.setCell ⟨kb, 1, none⟩ (.int .i64 x)) kb { K with v := x } v :=
  ⟨by simpa using h.lt, set_other h.c0 (by omega), set_same h.c1, set_other h.c2 (by omega), set_other h.c3 (by omega), set_other h.c4 (by omega), set_other h.c5 (by omega), set_frozen h.f⟩
theorem KAt.set2 {w : World} {kb : Nat} {K : Kp} {v : Value} (h : KAt w kb K v) (x : Int) : KAt (w.setCell ⟨kb, 2, none⟩ (.int .i64 x)) kb { K with si := x } v :=
  ⟨by simpa using h.lt, set_other h.c0 (by omega), set_other h.c1 (by omega), set_same h.c2, set_other h.c3 (by omega), set_other h.c4 (by omega), set_other h.c5 (by omega), set_frozen h.f⟩
theorem KAt.set3 {w : World} {kb : Nat} {K : Kp} {v : Value} (h : KAt w kb K v) (x : Int) : KAt (w.setCell ⟨kb, 3, none⟩ (.int .i64 x)) kb { K with st := x } v :=
  ⟨by simpa using h.lt, set_other h.c0 (by omega), set_other h.c1 (by omega), set_other h.c2 (by omega), set_same h.c3, set_other h.c4 (by omega), set_other h.c5 (by omega), set_frozen h.f⟩
theorem KAt.set4 {w : World} {kb : Nat} {K : Kp} {v : Value} (h : KAt w kb K v) (x : ByteArray) : KAt (w.setCell ⟨kb, 4, none⟩ (.string x)) kb { K with sd := x } v :=
  ⟨by simpa using h.lt, set_other h.c0 (by omega), set_other h.c1 (by omega), set_other h.c2 (by omega), set_other h.c3 (by omega), set_same h.c4, set_other h.c5 (by omega), set_frozen h.f⟩
theorem KAt.set5 {w : World} {kb : Nat} {K : Kp} {v : Value} (h : KAt w kb K v) (v' : Value) : KAt (w.setCell ⟨kb, 5, none⟩ v') kb K v' :=
  ⟨by simpa using h.lt, set_other h.c0 (by omega), set_other h.c1 (by omega), set_other h.c2 (by omega), set_other h.c3 (by omega), set_other h.c4 (by omega), set_same h.c5, set_frozen h.f⟩
theorem Took.drewN {kb : Nat} {v : Value} {w w' : World} (h : Took kb v w w') (n : Nat) : Took kb v w (w'.drewN n) := ⟨⟨h.only.os, h.only.tape, h.only.output, h.only.size, h.only.block⟩, h.rest⟩
theorem Took.setCell {kb : Nat} {v : Value} {w w' : World} (h : Took kb v w w') {o : Nat} (ho : o < 6) (x : Value) : Took kb v w (w'.setCell ⟨kb, o, none⟩ x) :=
  ⟨h.only.setCell (.inl rfl) x, fun p hp => by rw [World.cell?_setCell_other _ _ _ _ (by intro e; cases e; omega)]; exact h.rest p hp⟩
theorem Took.below {kb : Nat} {v : Value} {w w1 w' : World} (h : Took kb v w w1) (hb : Below w1.heap.size w1 w') (hk : kb < w.heap.size) : Took kb v w w' :=
  ⟨h.only.trans (Below.any hb), fun o ho => (hb.cell (p := ⟨kb, o, none⟩) (Nat.lt_of_lt_of_le hk h.only.size)).trans (h.rest o ho)⟩

set_option maxRecDepth 100000 in
set_option maxHeartbeats 4000000 in
theorem takeHard_no (K : Kp) (v : Value) (kb : Nat) (t vo : Int) (w : World) (hk : KAt w kb K v) (h : ¬ (K.t < t ∨ (t = K.t ∧ (K.v = -1 ∨ vo = K.v)))) :
    Calls Try.prog 80 #[.pointer (some ⟨kb, 0, none⟩), .agg #[.int .i64 t, .int .i64 vo]] w fun e w' => e = .returned (.bool false) ∧ Below w.heap.size w w' := by
  obtain ⟨klt, k0, k1, k2, k3, k4, k5, kf⟩ := hk
  have hle : t ≤ K.t := by omega
  have hled : decide (t ≤ K.t) = true := decide_eq_true hle
  by_cases he : t = K.t
  · subst he
    have n1 : (K.v == -1) = false := by simp; omega
    have n2 : (K.v == vo) = false := by simp; omega
    go_enter Try.func80, Try.ntmps80
    go_wp2
    obtain ⟨W, hW, bW, zW, cW, fW⟩ := boxed w #[.int .i64 K.t, .int .i64 vo] 89
    simp only [hW]
    have j0 := atCell bW k0 klt
    have j1 := atCell bW k1 klt
    clear hW k0 k1 k2 k3 k4 k5 kf zW
    go_quiet (fail)
    all_goals
      go_wp2
      go_quiet (fail)
      all_goals
        go_wp2
        go_ret
        exact ⟨rfl, (bW.trans (drewN_below _ _ _)).trans (drewN_below _ _ _)⟩
  · have n1 : (t == K.t) = false := by simpa using he
    go_enter Try.func80, Try.ntmps80
    go_wp2
    obtain ⟨W, hW, bW, zW, cW, fW⟩ := boxed w #[.int .i64 t, .int .i64 vo] 89
    simp only [hW]
    have j0 := atCell bW k0 klt
    have j1 := atCell bW k1 klt
    clear hW k0 k1 k2 k3 k4 k5 kf zW
    go_quiet (fail)
    all_goals
      go_wp2
      go_quiet (fail)
      all_goals
        go_wp2
        go_ret
        exact ⟨rfl, (bW.trans (drewN_below _ _ _)).trans (drewN_below _ _ _)⟩
set_option maxRecDepth 100000 in
set_option maxHeartbeats 4000000 in
theorem takeHard_gt (K : Kp) (v : Value) (kb : Nat) (t vo : Int) (w : World) (hk : KAt w kb K v) (h : K.t < t) :
    Calls Try.prog 80 #[.pointer (some ⟨kb, 0, none⟩), .agg #[.int .i64 t, .int .i64 vo]] w fun e w' => e = .returned (.bool true) ∧ KAt w' kb { K with t := t, v := vo } v ∧ Took kb v w w' ∧ Only (fun k => k = kb) w w' := by
  have HK := Hid.intro hk
  obtain ⟨klt, k0, k1, k2, k3, k4, k5, kf⟩ := hk
  have hled : decide (t ≤ K.t) = false := decide_eq_false (by omega)
  have n1 : (t == K.t) = false := by simp; omega
  have hne : ¬ kb = w.heap.size := by omega
  go_enter Try.func80, Try.ntmps80
  go_wp2
  obtain ⟨W, hW, bW, zW, cW, fW⟩ := boxed w #[.int .i64 t, .int .i64 vo] 89
  simp only [hW]
  have j0 := atCell bW k0 klt
  have j1 := atCell bW k1 klt
  have j2 := atCell bW k2 klt
  have j3 := atCell bW k3 klt
  have j4 := atCell bW k4 klt
  have j5 := atCell bW k5 klt
  have jf := fun o => atFrozen bW (kf o) klt
  have hz : kb < W.heap.size := by omega
  clear hW k0 k1 k2 k3 k4 k5 kf zW
  go_quiet (fail)
  all_goals
    go_wp2
    go_quiet (fail)
    all_goals
      go_wp2
      go_region
      all_goals
        go_wp2
        go_ret
        exact ⟨rfl, (((KAt.below HK.out bW klt).drewN _).set0 t).set1 vo, (((Took.of_below bW klt).drewN _).setCell (by omega) _).setCell (by omega) _, by (repeat (refine Only.setCell ?_ (by simp) _)); exact Only.drewN (Below.any bW) _⟩
set_option maxRecDepth 100000 in
set_option maxHeartbeats 4000000 in
theorem takeHard_eq (K : Kp) (v : Value) (kb : Nat) (vo : Int) (w : World) (hk : KAt w kb K v) (h : K.v = -1 ∨ vo = K.v) :
    Calls Try.prog 80 #[.pointer (some ⟨kb, 0, none⟩), .agg #[.int .i64 K.t, .int .i64 vo]] w fun e w' => e = .returned (.bool true) ∧ KAt w' kb { K with t := K.t, v := vo } v ∧ Took kb v w w' ∧ Only (fun k => k = kb) w w' := by
  have HK := Hid.intro hk
  obtain ⟨klt, k0, k1, k2, k3, k4, k5, kf⟩ := hk
  have hne : ¬ kb = w.heap.size := by omega
  by_cases hv : K.v = -1
  · have n1 : (K.v == -1) = true := by simpa using hv
    go_enter Try.func80, Try.ntmps80
    go_wp2
    obtain ⟨W, hW, bW, zW, cW, fW⟩ := boxed w #[.int .i64 K.t, .int .i64 vo] 89
    simp only [hW]
    have j0 := atCell bW k0 klt
    have j1 := atCell bW k1 klt
    have jf := fun o => atFrozen bW (kf o) klt
    have hz : kb < W.heap.size := by omega
    clear hW k0 k1 k2 k3 k4 k5 kf zW
    go_quiet (fail)
    all_goals
      go_wp2
      go_quiet (fail)
      all_goals
        go_wp2
        go_region
        all_goals
          go_wp2
          go_ret
          exact ⟨rfl, (((KAt.below HK.out bW klt).drewN _).set0 K.t).set1 vo, (((Took.of_below bW klt).drewN _).setCell (by omega) _).setCell (by omega) _, by (repeat (refine Only.setCell ?_ (by simp) _)); exact Only.drewN (Below.any bW) _⟩
  · obtain rfl : vo = K.v := by omega
    have n1 : (K.v == -1) = false := by simpa using hv
    go_enter Try.func80, Try.ntmps80
    go_wp2
    obtain ⟨W, hW, bW, zW, cW, fW⟩ := boxed w #[.int .i64 K.t, .int .i64 K.v] 89
    simp only [hW]
    have j0 := atCell bW k0 klt
    have j1 := atCell bW k1 klt
    have jf := fun o => atFrozen bW (kf o) klt
    have hz : kb < W.heap.size := by omega
    clear hW k0 k1 k2 k3 k4 k5 kf zW
    go_quiet (fail)
    all_goals
      go_wp2
      go_quiet (fail)
      all_goals
        go_wp2
        go_region
        all_goals
          go_wp2
          go_ret
          exact ⟨rfl, (((KAt.below HK.out bW klt).drewN _).set0 K.t).set1 K.v, (((Took.of_below bW klt).drewN _).setCell (by omega) _).setCell (by omega) _, by (repeat (refine Only.setCell ?_ (by simp) _)); exact Only.drewN (Below.any bW) _⟩
end Go.Proofs.Ytkilepoimocoeaa
