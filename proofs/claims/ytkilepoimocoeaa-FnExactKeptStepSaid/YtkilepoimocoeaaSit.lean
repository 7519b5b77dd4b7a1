/- What stands while a law of a Kept and a Rec is walked. -/
import Derived.Test.YtkilepoimocoeaaLawKept
import Derived.Test.YtkilepoimocoeaaKStepT
import Derived.Test.YtkilepoimocoeaaLawRec
import Derived.Test.YtkilepoimocoeaaMark
namespace Go.Proofs.Ytkilepoimocoeaa
open Go.RowKit
set_option linter.unusedVariables false
theorem set_apart {w : World} {b o p : Nat} {y : Value} (hp : ¬ o = p) : (w.setCell ⟨b, p, none⟩ y).cell? ⟨b, o, none⟩ = w.cell? ⟨b, o, none⟩ := World.cell?_setCell_other _ _ _ _ (by intro e; cases e; exact hp rfl)
theorem set6a {w : World} {b : Nat} {x0 x1 x2 x3 x4 x5 y0 y1 y2 y3 y4 y5 : Value} (h : ∀ o, w.cell? ⟨b, o, none⟩ = #[y0, y1, y2, y3, y4, y5][o]?) :
    ∃ X, (((((w.setCell ⟨b, 0, none⟩ x0).setCell ⟨b, 1, none⟩ x1).setCell ⟨b, 2, none⟩ x2).setCell ⟨b, 3, none⟩ x3).setCell ⟨b, 4, none⟩ x4).setCell ⟨b, 5, none⟩ x5 = X ∧ (∀ o, X.cell? ⟨b, o, none⟩ = #[x0, x1, x2, x3, x4, x5][o]?) ∧ Only (fun k => k = b) w X ∧ X.heap.size = w.heap.size := by
  obtain ⟨X, hX, h0, h1, h2, h3, h4, h5, ho, hz⟩ := set6 (x0 := x0) (x1 := x1) (x2 := x2) (x3 := x3) (x4 := x4) (x5 := x5) h
  refine ⟨X, hX, fun o => ?_, ho, hz⟩
  match o with
  | 0 => exact h0
  | 1 => exact h1
  | 2 => exact h2
  | 3 => exact h3
  | 4 => exact h4
  | 5 => exact h5
  | n + 6 =>
    subst hX
    have e : w.cell? ⟨b, n + 6, none⟩ = none := by rw [h]; rfl
    rw [set_apart (by omega), set_apart (by omega), set_apart (by omega), set_apart (by omega), set_apart (by omega), set_apart (by omega), e]
    rfl
/-- What a call that answers a Kept leaves, in the variable at block b. -/
structure Res (w wc : World) (b : Nat) (K : Kp) (v : Value) : Prop where
  lo : w.heap.size ≤ b
  hi : b < wc.heap.size
  cell : ∀ o, wc.cell? ⟨b, o, none⟩ = #[.int .i64 K.t, .int .i64 K.v, .int .i64 K.si, .int .i64 K.st, .string K.sd, v][o]?
  own : OwnE wc w.heap.size v K.e
  ne : ∀ k, v.ownBlock = some k → ¬ k = b
  below : Below w.heap.size w wc
/-- A variable of type Kept at block b, its row from block base on. -/
structure KV (u : World) (b base : Nat) (K : Kp) (v : Value) : Prop where
  hi : b < u.heap.size
  cell : ∀ o, u.cell? ⟨b, o, none⟩ = #[.int .i64 K.t, .int .i64 K.v, .int .i64 K.si, .int .i64 K.st, .string K.sd, v][o]?
  own : OwnE u base v K.e
theorem KV.keptB {u u' : World} {b base B : Nat} {K : Kp} {v : Value} (h : KV u b base K v) (hb : Below B u u') (h1 : b < B) (h2 : ∀ k, v.ownBlock = some k → k < B) : KV u' b base K v :=
  ⟨Nat.lt_of_lt_of_le h.hi hb.size, keepC hb h1 h.cell, h.own.keptB hb h2⟩
theorem KV.kept {u u' : World} {b base : Nat} {K : Kp} {v : Value} (h : KV u b base K v) (hb : Below u.heap.size u u') : KV u' b base K v :=
  h.keptB hb h.hi (fun k hk => (h.own.lt k hk).2)
theorem KV.only {u u' : World} {b base : Nat} {K : Kp} {v : Value} {S : Nat → Prop} (h : KV u b base K v) (hb : Only S u u') (h1 : ¬ S b) (h2 : ∀ k, v.ownBlock = some k → ¬ S k) : KV u' b base K v :=
  ⟨Nat.lt_of_lt_of_le h.hi hb.size, fun o => (hb.cell h.hi h1).trans (h.cell o), h.own.only hb h2⟩
theorem Res.kv {w wc : World} {b : Nat} {K : Kp} {v : Value} (h : Res w wc b K v) : KV wc b w.heap.size K v := ⟨h.hi, h.cell, h.own⟩
/-- A law's own arguments: a Kept and a Rec, in the blocks just behind the caller's. -/
structure Base (w : World) (K : Kp) (v : Value) (r : Rc) (u : World) : Prop where
  a : ∀ o, u.cell? ⟨w.heap.size, o, none⟩ = #[.int .i64 K.t, .int .i64 K.v, .int .i64 K.si, .int .i64 K.st, .string K.sd, v][o]?
  b : ∀ o, u.cell? ⟨w.heap.size + 1, o, none⟩ = #[.int .i64 r.k, .int .i64 r.t, .int .i64 r.i, .int .i64 r.v, .string r.d][o]?
  row : RowE u w.heap.size v K.e
  sz : w.heap.size + 1 < u.heap.size
  bel : Below w.heap.size w u
theorem Base.kept {w u u' : World} {K : Kp} {v : Value} {r : Rc} {B : Nat} (h : Base w K v r u) (hb : Below B u u') (hB : w.heap.size + 1 < B) : Base w K v r u' :=
  ⟨keepC hb (by omega) h.a, keepC hb hB h.b, h.row.kept (hb.mono (by omega)), Nat.lt_of_lt_of_le h.sz hb.size, h.bel.trans (hb.mono (by omega))⟩
theorem Base.sk {w u : World} {K : Kp} {v : Value} {r : Rc} (h : Base w K v r u) : SK2 K v r w.heap.size u := by
  have d1 := h.a
  have d2 := h.b
  exact ⟨by rw [d1]; rfl, by rw [d1]; rfl, by rw [d1]; rfl, by rw [d1]; rfl, by rw [d1]; rfl, by rw [d1]; rfl, by rw [d2]; rfl, by rw [d2]; rfl, by rw [d2]; rfl, by rw [d2]; rfl, by rw [d2]; rfl⟩
/-- A Kept at block B and a Rec at block B', cell by cell. -/
def SK3 (K : Kp) (v : Value) (r : Rc) (B B' : Nat) (w' : World) : Prop := w'.cell? ⟨B, 0, none⟩ = some (.int .i64 K.t) ∧ w'.cell? ⟨B, 1, none⟩ = some (.int .i64 K.v) ∧ w'.cell? ⟨B, 2, none⟩ = some (.int .i64 K.si) ∧ w'.cell? ⟨B, 3, none⟩ = some (.int .i64 K.st) ∧ w'.cell? ⟨B, 4, none⟩ = some (.string K.sd) ∧ w'.cell? ⟨B, 5, none⟩ = some v ∧ w'.cell? ⟨B', 0, none⟩ = some (.int .i64 r.k) ∧ w'.cell? ⟨B', 1, none⟩ = some (.int .i64 r.t) ∧ w'.cell? ⟨B', 2, none⟩ = some (.int .i64 r.i) ∧ w'.cell? ⟨B', 3, none⟩ = some (.int .i64 r.v) ∧ w'.cell? ⟨B', 4, none⟩ = some (.string r.d)
theorem sk3_of {w u : World} {K K' : Kp} {v v' : Value} {r : Rc} {b base : Nat} (h : Base w K v r u) (h' : KV u b base K' v') : SK3 K' v' r b (w.heap.size + 1) u := by
  have d1 := h'.cell
  have d2 := h.b
  exact ⟨by rw [d1]; rfl, by rw [d1]; rfl, by rw [d1]; rfl, by rw [d1]; rfl, by rw [d1]; rfl, by rw [d1]; rfl, by rw [d2]; rfl, by rw [d2]; rfl, by rw [d2]; rfl, by rw [d2]; rfl, by rw [d2]; rfl⟩
theorem ksK_len (K : Kp) (r : Rc) : (ksK K r).e.length ≤ K.e.length + 1 := by
  unfold ksK
  split
  · unfold nextK
    split
    · unfold stepK
      split
      · simp
      · split
        · simp
        · split
          · simp; omega
          · have := behL_len K.e (r.i - K.si) r.t
            simp only; omega
    · omega
  · simp [kpZ]
end Go.Proofs.Ytkilepoimocoeaa
