/- What stands while a law of a store is walked. -/
import Derived.Test.YtkilepoimocoeabLawS
import Derived.Test.YtkilepoimocoeabStoreS
import Derived.Test.YtkilepoimocoeabStoreI
namespace Go.Proofs.Ytkilepoimocoeab
open Go.RowKit
set_option linter.unusedVariables false
/-- A variable of type Kept at block b, its row from block base on. -/
structure KW (y : World) (b base : Nat) (K : Kp) (v : Value) : Prop where
  hi : b < y.heap.size
  cell : ∀ o, y.cell? ⟨b, o, none⟩ = #[.int .i64 K.t, .int .i64 K.v, .int .i64 K.si, .int .i64 K.st, .string K.sd, v][o]?
  own : OwnE y base v K.e
theorem KW.keptB {y y' : World} {b base B : Nat} {K : Kp} {v : Value} (h : KW y b base K v) (hb : Below B y y') (h1 : b < B) (h2 : ∀ k, v.ownBlock = some k → k < B) : KW y' b base K v :=
  ⟨Nat.lt_of_lt_of_le h.hi hb.size, keepC hb h1 h.cell, h.own.keptB hb h2⟩
theorem KW.kept {y y' : World} {b base : Nat} {K : Kp} {v : Value} (h : KW y b base K v) (hb : Below y.heap.size y y') : KW y' b base K v :=
  h.keptB hb h.hi (fun k hk => (h.own.lt k hk).2)
theorem KW.only {y y' : World} {b base : Nat} {K : Kp} {v : Value} {S : Nat → Prop} (h : KW y b base K v) (hb : Only S y y') (h1 : ¬ S b) (h2 : ∀ k, v.ownBlock = some k → ¬ S k) : KW y' b base K v :=
  ⟨Nat.lt_of_lt_of_le h.hi hb.size, fun o => (hb.cell h.hi h1).trans (h.cell o), h.own.only hb h2⟩
/-- A variable of type Store at block b, its rows from block base on. -/
structure SV (y : World) (b base : Nat) (S : Sto) (v u : Value) : Prop where
  hi : b < y.heap.size
  cell : ∀ o, y.cell? ⟨b, o, none⟩ = #[.int .i64 S.k.t, .int .i64 S.k.v, .int .i64 S.k.si, .int .i64 S.k.st, .string S.k.sd, v, u][o]?
  e : OwnE y base v S.k.e
  r : OwnR y base u S.l
theorem SV.keptB {y y' : World} {b base B : Nat} {S : Sto} {v u : Value} (h : SV y b base S v u) (hb : Below B y y') (h1 : b < B) (h2 : ∀ k, v.ownBlock = some k → k < B) (h3 : ∀ k, u.ownBlock = some k → k < B) : SV y' b base S v u :=
  ⟨Nat.lt_of_lt_of_le h.hi hb.size, keepC hb h1 h.cell, h.e.keptB hb h2, h.r.keptB hb h3⟩
theorem SV.kept {y y' : World} {b base : Nat} {S : Sto} {v u : Value} (h : SV y b base S v u) (hb : Below y.heap.size y y') : SV y' b base S v u :=
  h.keptB hb h.hi (fun k hk => (h.e.lt k hk).2) (fun k hk => (h.r.lt k hk).2)
theorem SV.only {y y' : World} {b base : Nat} {S : Sto} {v u : Value} {T : Nat → Prop} (h : SV y b base S v u) (hb : Only T y y') (h1 : ¬ T b) (h2 : ∀ k, v.ownBlock = some k → ¬ T k) (h3 : ∀ k, u.ownBlock = some k → ¬ T k) : SV y' b base S v u :=
  ⟨Nat.lt_of_lt_of_le h.hi hb.size, fun o => (hb.cell h.hi h1).trans (h.cell o), h.e.only hb h2, h.r.only hb h3⟩
/-- A law's own argument: a store, in the block just behind the caller's. -/
structure BaseS (w : World) (S : Sto) (v u : Value) (y : World) : Prop where
  a : ∀ o, y.cell? ⟨w.heap.size, o, none⟩ = #[.int .i64 S.k.t, .int .i64 S.k.v, .int .i64 S.k.si, .int .i64 S.k.st, .string S.k.sd, v, u][o]?
  e : RowE y w.heap.size v S.k.e
  r : RowR y w.heap.size u S.l
  sz : w.heap.size < y.heap.size
  bel : Below w.heap.size w y
theorem BaseS.kept {w y y' : World} {S : Sto} {v u : Value} {B : Nat} (h : BaseS w S v u y) (hb : Below B y y') (hB : w.heap.size < B) : BaseS w S v u y' :=
  ⟨keepC hb hB h.a, h.e.kept (hb.mono (by omega)), h.r.kept (hb.mono (by omega)), Nat.lt_of_lt_of_le h.sz hb.size, h.bel.trans (hb.mono (by omega))⟩
theorem heldK_len (S : Sto) : (heldK S).e.length ≤ 60 := by
  cases h : storeB S with
  | false => rw [heldK_no h]; simp [kpZ]
  | true =>
    obtain ⟨hk, _, K, hf⟩ := storeB_out h
    rw [heldK_yes h hf]
    exact ((Sm.of hk).fold hf).2.2
end Go.Proofs.Ytkilepoimocoeab
