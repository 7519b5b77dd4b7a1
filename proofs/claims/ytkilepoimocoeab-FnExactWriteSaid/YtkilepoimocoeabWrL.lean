/- What stands in the loop of l3Write. -/
import Derived.Test.YtkilepoimocoeabWrM
namespace Go.Proofs.Ytkilepoimocoeab
open Go.RowKit
set_option linter.unusedVariables false
abbrev sA (S : Sto) (v u : Value) : Array Value := #[.int .i64 S.k.t, .int .i64 S.k.v, .int .i64 S.k.si, .int .i64 S.k.st, .string S.k.sd, v, u]
abbrev kA (K : Kp) (v : Value) : Array Value := #[.int .i64 K.t, .int .i64 K.v, .int .i64 K.si, .int .i64 K.st, .string K.sd, v]
abbrev zS : Array Value := #[.int .i64 0, .int .i64 0, .int .i64 0, .int .i64 0, .string ⟨#[]⟩, .slice none 0 0, .slice none 0 0]
structure LW (w y : World) (B kb : Nat) (S : Sto) (v u u0 : Value) (K : Kp) (vk : Value) : Prop where
  sz : w.heap.size + 1 < kb
  s : Blk y w.heap.size (sA S v u)
  r : Blk y (w.heap.size + 1) zS
  k : Blk y kb (kA K vk)
  ev : OwnE y B v S.k.e
  ru : OwnR y B u S.l
  ek : OwnE y (w.heap.size + 1 + 1) vk K.e
  hv : ∀ k, v.ownBlock = some k → k < w.heap.size
  hu : ∀ k, u.ownBlock = some k → (u0.ownBlock = some k ∧ k < w.heap.size) ∨ (w.heap.size + 1 < k ∧ k ≠ kb ∧ ¬ vk.ownBlock = some k)
  huv : ∀ k, v.ownBlock = some k → ¬ u.ownBlock = some k
  hk : ∀ k, vk.ownBlock = some k → k ≠ kb
  o : Only (fun k => some k = u0.ownBlock) w y
theorem LW.step {w y y' : World} {B kb : Nat} {S : Sto} {v u u0 : Value} {K K' : Kp} {vk vk' : Value} (h : LW w y B kb S v u u0 K vk) (ho : Only (fun k => some k = vk.ownBlock) y y') (he : OwnE y' (w.heap.size + 1 + 1) vk' K'.e)
    (hl : ∀ k, vk'.ownBlock = some k → k ≠ kb ∧ (vk.ownBlock = some k ∨ y.heap.size ≤ k)) : LW w (setC y' kb 0 (kA K' vk').toList) B kb S v u u0 K' vk' := by
  have hkl := h.ek.lt
  have hsz := h.sz
  have o2 := only_setC y' kb 0 (kA K' vk').toList
  have nk : ¬ some kb = vk.ownBlock := fun e => h.hk kb e.symm rfl
  refine ⟨h.sz, (h.s.only ho (fun e => by have := hkl _ e.symm; omega)).only o2 (by omega), (h.r.only ho (fun e => by have := hkl _ e.symm; omega)).only o2 (by omega), (h.k.only ho nk).all _ rfl,
    (h.ev.only ho (fun k hk e => by have := hkl _ e.symm; have := h.hv k hk; omega)).only o2 (fun k hk e => by have := h.hv k hk; omega), ?_, he.only o2 (fun k hk e => (hl k hk).1 e), h.hv, ?_, h.huv, fun k hk => (hl k hk).1, ?_⟩
  · refine (h.ru.only ho (fun k hk e => ?_)).only o2 (fun k hk e => ?_)
    · rcases h.hu k hk with ⟨_, h1⟩ | ⟨_, _, h1⟩
      · have := hkl _ e.symm; omega
      · exact h1 e.symm
    · rcases h.hu k hk with ⟨_, h1⟩ | ⟨_, h1, _⟩
      · omega
      · exact h1 e
  · intro k hk
    rcases h.hu k hk with h1 | ⟨h1, h2, h3⟩
    · exact .inl h1
    · refine .inr ⟨h1, h2, fun e => ?_⟩
      rcases (hl k e).2 with h4 | h4
      · exact h3 h4
      · have := (h.ru.lt k hk).2; omega
  · exact (h.o.then ho (fun k hk e => by have := hkl _ e.symm; omega)).then o2 (fun k hk e => by omega)
theorem LW.push {w y y' : World} {B kb : Nat} {S : Sto} {v u u0 : Value} {K : Kp} {vk : Value} {g n cap : Nat} {l : List Rc} (h : LW w y B kb S v u u0 K vk) (ho : Only (fun k => some k = u.ownBlock) y y') (hr : OwnR y' B (.slice (some ⟨g, 0, none⟩) n cap) l)
    (hg : u.ownBlock = some g ∨ y.heap.size ≤ g) : LW w (y'.setCell ⟨w.heap.size, 6, none⟩ (.slice (some ⟨g, 0, none⟩) n cap)) B kb ⟨S.k, l⟩ v (.slice (some ⟨g, 0, none⟩) n cap) u0 K vk := by
  have hkl := h.ek.lt
  have hsz := h.sz
  have hky := h.k.hi
  have o2 : Only (fun k => k = w.heap.size) y' (y'.setCell ⟨w.heap.size, 6, none⟩ (.slice (some ⟨g, 0, none⟩) n cap)) := only_setC y' w.heap.size 6 [.slice (some ⟨g, 0, none⟩) n cap]
  have hg2 : (u0.ownBlock = some g ∧ g < w.heap.size) ∨ (w.heap.size + 1 < g ∧ g ≠ kb ∧ ¬ vk.ownBlock = some g) := by
    rcases hg with h1 | h1
    · exact h.hu g h1
    · exact .inr ⟨by omega, by omega, fun e => by have := (hkl g e).2; omega⟩
  have hgs : g ≠ w.heap.size := by rcases hg2 with h1 | h1 <;> omega
  refine ⟨h.sz, (h.s.only ho (fun e => ?_)).set 6 (by simp) _, (h.r.only ho (fun e => ?_)).only o2 (by omega), (h.k.only ho (fun e => ?_)).only o2 (by omega), (h.ev.only ho (fun k hk e => h.huv k hk e.symm)).only o2 (fun k hk e => by have := h.hv k hk; omega),
    hr.only o2 (fun k hk e => by simp only [Value.ownBlock, Option.some.injEq] at hk; omega), (h.ek.only ho (fun k hk e => ?_)).only o2 (fun k hk e => by have := hkl k hk; omega), h.hv, ?_, ?_, h.hk, ?_⟩
  · rcases h.hu _ e.symm with h1 | h1 <;> omega
  · rcases h.hu _ e.symm with h1 | h1 <;> omega
  · rcases h.hu _ e.symm with h1 | h1 <;> omega
  · rcases h.hu _ e.symm with ⟨_, h1⟩ | ⟨_, _, h1⟩
    · have := hkl k hk; omega
    · exact h1 hk
  · intro k hk
    simp only [Value.ownBlock, Option.some.injEq] at hk
    subst hk
    exact hg2
  · intro k hk e
    simp only [Value.ownBlock, Option.some.injEq] at e
    subst e
    rcases hg with h1 | h1
    · exact h.huv g hk h1
    · have := h.hv g hk; have := h.s.hi; omega
  · refine (h.o.then ho (fun k hk e => ?_)).then o2 (fun k hk e => by omega)
    rcases h.hu k e.symm with ⟨h1, _⟩ | h1
    · exact h1.symm
    · omega
/-- What l3Write leaves. -/
structure LWP (w w' : World) (B : Nat) (S : Sto) (v u u0 : Value) : Prop where
  ev : OwnE w' B v S.k.e
  ru : OwnR w' B u S.l
  dis : ∀ k, v.ownBlock = some k → ¬ u.ownBlock = some k
  o : Only (fun k => some k = u0.ownBlock) w w'
/-- The same, without the Kept. -/
structure LS (w y : World) (B : Nat) (S : Sto) (v u u0 : Value) : Prop where
  s : Blk y w.heap.size (sA S v u)
  r : Blk y (w.heap.size + 1) zS
  ev : OwnE y B v S.k.e
  ru : OwnR y B u S.l
  hv : ∀ k, v.ownBlock = some k → k < w.heap.size
  hu : ∀ k, u.ownBlock = some k → k ≠ w.heap.size + 1
  huv : ∀ k, v.ownBlock = some k → ¬ u.ownBlock = some k
  o : Only (fun k => some k = u0.ownBlock) w y
theorem LW.weakO {w y y' : World} {B kb : Nat} {S : Sto} {v u u0 : Value} {K : Kp} {vk : Value} (h : LW w y B kb S v u u0 K vk) (ho : Only (fun k => some k = vk.ownBlock) y y') : LS w y' B S v u u0 := by
  have hkl := h.ek.lt
  have hsz := h.sz
  refine ⟨h.s.only ho (fun e => by have := hkl _ e.symm; omega), h.r.only ho (fun e => by have := hkl _ e.symm; omega), h.ev.only ho (fun k hk e => by have := hkl _ e.symm; have := h.hv k hk; omega), h.ru.only ho (fun k hk e => ?_), h.hv, fun k hk => ?_, h.huv, h.o.then ho (fun k hk e => by have := hkl _ e.symm; omega)⟩
  · rcases h.hu k hk with ⟨_, h1⟩ | ⟨_, _, h1⟩
    · have := hkl _ e.symm; omega
    · exact h1 e.symm
  · rcases h.hu k hk with h1 | h1 <;> omega
theorem LW.weak {w y : World} {B kb : Nat} {S : Sto} {v u u0 : Value} {K : Kp} {vk : Value} (h : LW w y B kb S v u u0 K vk) : LS w y B S v u u0 := h.weakO (Only.refl _ _)
theorem LS.fin {w y : World} {B : Nat} {S : Sto} {v u u0 : Value} (h : LS w y B S v u u0) : LWP w (setC y (w.heap.size + 1) 0 (sA S v u).toList) B S v u u0 := by
  have o2 := only_setC y (w.heap.size + 1) 0 (sA S v u).toList
  exact ⟨h.ev.only o2 (fun k hk e => by have := h.hv k hk; omega), h.ru.only o2 (fun k hk e => h.hu k hk e), h.huv, h.o.then o2 (fun k hk e => by omega)⟩
end Go.Proofs.Ytkilepoimocoeab
