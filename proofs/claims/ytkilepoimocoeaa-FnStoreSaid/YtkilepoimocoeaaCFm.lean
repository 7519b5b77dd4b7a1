/- Several texts in one, for a claim of few files. -/
import Derived.Test.YtkilepoimocoeaaCRec
import Derived.Test.YtkilepoimocoeaaHeldI
import Derived.Test.YtkilepoimocoeaaMarkR
import Derived.Test.YtkilepoimocoeaaBlk
import Derived.Test.YtkilepoimocoeaaStepT
import Derived.Test.YtkilepoimocoeaaSet6
import Derived.Deep.RegionHeld3
import Derived.Test.YtkilepoimocoeaaKeptS
import Derived.Test.YtkilepoimocoeaaTake2
import Derived.Deep.AppendLies
import Derived.Test.YtkilepoimocoeaaAfter
import Derived.Test.YtkilepoimocoeaaCAny
import Derived.Test.YtkilepoimocoeaaCDrawCh
import Derived.Deep.QuietTactic
import Derived.BigQuiet
import Derived.Deep.Cut
import Derived.Deep.CutRange
import Derived.Deep.RegionLaw
namespace Go.Proofs.Ytkilepoimocoeaa
open Go.RowKit
set_option linter.unusedVariables false
section
variable {N : Nat} {a : Option Addr} {len cap : Nat} {zs : List Int} {B : Nat}
/-- A drawn store. -/
def DrawSt (N : Nat) (a : Option Addr) (len cap : Nat) (zs : List Int) (B : Nat) (w : World) (e : Ending) (w' : World) : Prop :=
  ∃ (S : Sto) (v u : Value), e = .returned (stV S v u) ∧ OwnX w' w.heap.size v S.k.e ∧ OwnR w' w.heap.size u S.l ∧ Bd 101 S.k ∧ S.l.length ≤ 5 ∧ (∀ r ∈ S.l, r.d.size ≤ 1700) ∧ Cur N a len cap zs B w' ∧ w.grownBy w' (some B)
/-- The answer's block, the store's (b3), the Kept's (b4), their rows, the cursor. -/
structure DS (N : Nat) (a : Option Addr) (len cap : Nat) (zs : List Int) (B : Nat) (w u : World) (b3 b4 : Nat) (S : Sto) (v ul : Value) (K : Kp) (vk : Value) : Prop where
  hB : B < w.heap.size
  z : Blk u w.heap.size #[.int .i64 0, .int .i64 0, .int .i64 0, .int .i64 0, .string ⟨#[]⟩, .slice none 0 0, .slice none 0 0]
  s : Blk u b3 #[.int .i64 S.k.t, .int .i64 S.k.v, .int .i64 S.k.si, .int .i64 S.k.st, .string S.k.sd, v, ul]
  k : Blk u b4 #[.int .i64 K.t, .int .i64 K.v, .int .i64 K.si, .int .i64 K.st, .string K.sd, vk]
  h3 : w.heap.size < b3
  h4 : b3 < b4
  ov : OwnX u w.heap.size v S.k.e
  ok : OwnX u w.heap.size vk K.e
  ol : OwnR u w.heap.size ul S.l
  nv : ∀ k, v.ownBlock = some k → k ≠ w.heap.size ∧ k ≠ b3 ∧ k ≠ b4
  nk : ∀ k, vk.ownBlock = some k → k ≠ w.heap.size ∧ k ≠ b3 ∧ k ≠ b4
  nl : ∀ k, ul.ownBlock = some k → k ≠ w.heap.size ∧ k ≠ b3 ∧ k ≠ b4 ∧ ¬ v.ownBlock = some k ∧ ¬ vk.ownBlock = some k
  cur : Cur N a len cap zs B u
  o : Only (fun k => k = B ∨ w.heap.size ≤ k) w u
variable {w u u' : World} {b3 b4 : Nat} {S : Sto} {v ul : Value} {K : Kp} {vk : Value}
theorem DS.step (h : DS N a len cap zs B w u b3 b4 S v ul K vk) (g : u.grownBy u' (some B)) (c' : Cur N a len cap zs B u') : DS N a len cap zs B w u' b3 b4 S v ul K vk :=
  ⟨h.hB, h.z.only (grown_only g) (by have := h.hB; simp; omega), h.s.only (grown_only g) (by have := h.hB; have := h.h3; simp; omega), h.k.only (grown_only g) (by have := h.hB; have := h.h3; have := h.h4; simp; omega), h.h3, h.h4, h.ov.step g h.hB, h.ok.step g h.hB, h.ol.only (grown_only g) (fun k hk e => by have := (h.ol.lt k hk).1; have := h.hB; simp at e; omega), h.nv, h.nk, h.nl, c', Only.then h.o (grown_only g) (by intro k hk e; left; simpa using e)⟩
theorem DS.kept (h : DS N a len cap zs B w u b3 b4 S v ul K vk) (g : Below u.heap.size u u') : DS N a len cap zs B w u' b3 b4 S v ul K vk :=
  ⟨h.hB, h.z.kept g, h.s.kept g, h.k.kept g, h.h3, h.h4, h.ov.kept g, h.ok.kept g, h.ol.kept g, h.nv, h.nk, h.nl, h.cur.kept (grown_below g), h.o.trans (Below.any g)⟩
/-- The Kept's block is written. -/
theorem DS.setK {K' : Kp} {vk' : Value} (h : DS N a len cap zs B w u b3 b4 S v ul K vk) (ho : Only (fun k => k = b4) u u') (hx : Blk u' b4 #[.int .i64 K'.t, .int .i64 K'.v, .int .i64 K'.si, .int .i64 K'.st, .string K'.sd, vk']) (own : OwnX u w.heap.size vk' K'.e) (ne : ∀ k, vk'.ownBlock = some k → k ≠ w.heap.size ∧ k ≠ b3 ∧ k ≠ b4) (nl : ∀ k, ul.ownBlock = some k → ¬ vk'.ownBlock = some k) : DS N a len cap zs B w u' b3 b4 S v ul K' vk' :=
  ⟨h.hB, h.z.only ho (by have := h.h3; have := h.h4; omega), h.s.only ho (by have := h.h4; omega), hx, h.h3, h.h4, h.ov.only ho (fun k hk e => (h.nv k hk).2.2 e), own.only ho (fun k hk e => (ne k hk).2.2 e), h.ol.only ho (fun k hk e => (h.nl k hk).2.2.1 e), h.nv, ne, fun k hk => ⟨(h.nl k hk).1, (h.nl k hk).2.1, (h.nl k hk).2.2.1, (h.nl k hk).2.2.2.1, nl k hk⟩, h.cur.only ho (by have := h.hB; have := h.h3; have := h.h4; intro k hk; omega), Only.then h.o ho (by have := h.h3; have := h.h4; intro k hk e; omega)⟩
/-- A record is appended to the store's row. -/
theorem DS.app {ul' : Value} {l : List Rc} (h : DS N a len cap zs B w u b3 b4 S v ul K vk) (ho : Only (fun k => some k = ul.ownBlock) u u') (own : OwnR u' w.heap.size ul' l) (loc : ul'.ownBlock = ul.ownBlock ∨ ul'.ownBlock = some u.heap.size) : DS N a len cap zs B w (u'.setCell ⟨b3, 6, none⟩ ul') b3 b4 ⟨S.k, l⟩ v ul' K vk := by
  have hz := h.z.hi
  have hs := h.s.hi
  have hk := h.k.hi
  have ne' : ∀ k, ul'.ownBlock = some k → k ≠ w.heap.size ∧ k ≠ b3 ∧ k ≠ b4 ∧ ¬ v.ownBlock = some k ∧ ¬ vk.ownBlock = some k := by
    intro k hk
    rcases loc with e | e
    · exact h.nl k (e ▸ hk)
    · rw [e] at hk
      cases hk
      exact ⟨by omega, by omega, by omega, fun e => by have := (h.ov.lt _ e).2; omega, fun e => by have := (h.ok.lt _ e).2; omega⟩
  have hx : Blk u' b3 #[.int .i64 S.k.t, .int .i64 S.k.v, .int .i64 S.k.si, .int .i64 S.k.st, .string S.k.sd, v, ul] := h.s.only ho (fun e => (h.nl b3 e.symm).2.1 rfl)
  have ho2 : Only (fun k => k = b3) u' (u'.setCell ⟨b3, 6, none⟩ ul') := only_set _ _ _ _
  have hB := h.hB
  have h3 := h.h3
  have h4 := h.h4
  refine ⟨h.hB, (h.z.only ho (fun e => (h.nl _ e.symm).1 rfl)).only ho2 (by omega), by simpa using hx.set 6 (by simp) ul', (h.k.only ho (fun e => (h.nl _ e.symm).2.2.1 rfl)).only ho2 (by omega), h.h3, h.h4, (h.ov.only ho (fun k hk e => (h.nl k e.symm).2.2.2.1 hk)).only ho2 (fun k hk e => (h.nv k hk).2.1 e), (h.ok.only ho (fun k hk e => (h.nl k e.symm).2.2.2.2 hk)).only ho2 (fun k hk e => (h.nk k hk).2.1 e), own.only ho2 (fun k hk e => (ne' k hk).2.1 e), h.nv, h.nk, ne', ?_, Only.then (Only.then h.o ho (by intro k hk e; right; exact (h.ol.lt k e.symm).1)) ho2 (by intro k hk e; omega)⟩
  exact (h.cur.only ho (fun k e => by have := (h.ol.lt k e.symm).1; omega)).only ho2 (by intro k hk; omega)
/-- Behind the last store, into the answer. -/
theorem DS.end (h : DS N a len cap zs B w u b3 b4 S v ul K vk) (hd : Bd 101 S.k) (hl : S.l.length ≤ 5) (hr : ∀ r ∈ S.l, r.d.size ≤ 1700) : DrawSt N a len cap zs B w (.returned (stV S v ul)) (((((((u.setCell ⟨w.heap.size, 0, none⟩ (.int .i64 S.k.t)).setCell ⟨w.heap.size, 1, none⟩ (.int .i64 S.k.v)).setCell ⟨w.heap.size, 2, none⟩ (.int .i64 S.k.si)).setCell ⟨w.heap.size, 3, none⟩ (.int .i64 S.k.st)).setCell ⟨w.heap.size, 4, none⟩ (.string S.k.sd)).setCell ⟨w.heap.size, 5, none⟩ v).setCell ⟨w.heap.size, 6, none⟩ ul) := by
  have ho : Only (fun k => k = w.heap.size) u (((((((u.setCell ⟨w.heap.size, 0, none⟩ (.int .i64 S.k.t)).setCell ⟨w.heap.size, 1, none⟩ (.int .i64 S.k.v)).setCell ⟨w.heap.size, 2, none⟩ (.int .i64 S.k.si)).setCell ⟨w.heap.size, 3, none⟩ (.int .i64 S.k.st)).setCell ⟨w.heap.size, 4, none⟩ (.string S.k.sd)).setCell ⟨w.heap.size, 5, none⟩ v).setCell ⟨w.heap.size, 6, none⟩ ul) := by
    repeat (refine Only.setCell ?_ (by simp) _)
    exact Only.refl _ _
  exact ⟨S, v, ul, rfl, h.ov.only ho (fun k hk e => (h.nv k hk).1 e), h.ol.only ho (fun k hk e => (h.nl k hk).1 e), hd, hl, hr, h.cur.only ho (by have := h.hB; intro k hk; omega), grown_of (Only.then h.o ho (by intro k hk e; omega))⟩
end
end Go.Proofs.Ytkilepoimocoeaa
namespace Go.Proofs.Ytkilepoimocoeaa
open Go.RowKit
set_option linter.unusedVariables false
/-- A store that was just made. -/
structure NewS (w w' : World) (v u : Value) (S : Sto) : Prop where
  e : OwnE w' w.heap.size v S.k.e
  r : OwnR w' w.heap.size u S.l
  dis : ∀ k, v.ownBlock = some k → ¬ u.ownBlock = some k
  bel : Below w.heap.size w w'
end Go.Proofs.Ytkilepoimocoeaa
namespace Go.Proofs.Ytkilepoimocoeaa
open Go.RowKit
set_option linter.unusedVariables false
set_option maxRecDepth 100000 in
set_option maxHeartbeats 4000000 in
theorem implStoreOk_any (S : Sto) (v u : Value) (N : Nat) (w : World) (hN : N ≤ w.heap.size) (hr : RowE w N v S.k.e) (hu : RowR w N u S.l) :
    Calls Try.prog 51 #[stV S v u] w fun e w' => e = .returned (.bool (storeB S)) ∧ Below w.heap.size w w' := by
  have HR := Hid.intro hr
  have HU := Hid.intro hu
  clear hr hu
  go_enter Try.func51, Try.ntmps51
  go_wp2_with fail
  obtain ⟨W, hW, bW, zW, c1, f1⟩ := boxed w #[.int .i64 S.k.t, .int .i64 S.k.v, .int .i64 S.k.si, .int .i64 S.k.st, .string S.k.sd, v, u] 31
  simp only [hW]
  refine (held_any S v u N W (by omega) (HR.out.kept (bW.mono hN)) (HU.out.kept (bW.mono hN))).mono ?_
  rintro e w1 ⟨v1, rfl, o1, b1⟩
  obtain ⟨a1, cap1, rfl⟩ := o1.slice
  have z1 := b1.size
  have HB := Hid.intro (bW.trans (b1.mono (by omega)))
  have hz1 : w.heap.size < w1.heap.size := by omega
  clear hW bW zW c1 f1 b1 o1 z1
  go_wp2
  go_ret
  exact ⟨rfl, HB.out.alloc (by omega) _⟩
set_option maxRecDepth 100000 in
set_option maxHeartbeats 4000000 in
theorem implHeld_any (S : Sto) (v u : Value) (N : Nat) (w : World) (hN : N ≤ w.heap.size) (hr : RowE w N v S.k.e) (hu : RowR w N u S.l) :
    Calls Try.prog 19 #[stV S v u] w fun e w' => ∃ v', e = .returned (kpV (heldK S) v') ∧ NewE w w' v' (heldK S).e := by
  have HR := Hid.intro hr
  have HU := Hid.intro hu
  clear hr hu
  go_enter Try.func19, Try.ntmps19
  go_wp2_with fail
  obtain ⟨W, hW, bW, zW, c1, f1, c2, f2⟩ := boxed2 w #[.int .i64 S.k.t, .int .i64 S.k.v, .int .i64 S.k.si, .int .i64 S.k.st, .string S.k.sd, v, u] #[.int .i64 0, .int .i64 0, .int .i64 0, .int .i64 0, .string ⟨#[]⟩, .slice none 0 0] 31 28
  simp only [hW]
  refine (held_any S v u N W (by omega) (HR.out.kept (bW.mono hN)) (HU.out.kept (bW.mono hN))).mono ?_
  rintro e w1 ⟨v1, rfl, o1, b1⟩
  obtain ⟨a1, cap1, rfl⟩ := o1.slice
  replace c2 := keepC b1 (by omega) c2
  replace f2 := keepF b1 (by omega) f2
  have z1 := b1.size
  have B1 := bW.trans (b1.mono (by omega))
  have hz1 : w.heap.size + 1 < w1.heap.size := by omega
  have HO : Hid (OwnE w1 (w.heap.size + 1 + 1) (.slice a1 (heldK S).e.length cap1) (heldK S).e) := by
    have := o1
    rw [zW] at this
    exact this
  clear hW bW zW c1 f1 b1 o1 z1
  go_wp2
  refine bodyPost_ret (v := kpV (heldK S) (.slice a1 (heldK S).e.length cap1)) (by simp [results, Try.results19, go_sem, c2, hz1]) rfl ⟨_, rfl, ?_, ?_⟩
  · refine OwnE.lower (OwnE.only HO.out (S := fun k => k = w.heap.size + 1) (Only.alloc ?_ _) (fun k hk h => by have := (HO.out.lt k hk).1; omega)) (show w.heap.size ≤ w.heap.size + 1 + 1 by omega)
    repeat (refine Only.setCell ?_ (by simp) _)
    exact Only.refl _ _
  · refine Below.alloc ?_ (by simp; omega) _
    repeat (refine Below.setCell ?_ (by simp <;> omega) _)
    exact B1
end Go.Proofs.Ytkilepoimocoeaa
namespace Go.Proofs.Ytkilepoimocoeaa
open Go.RowKit
set_option linter.unusedVariables false
theorem take1s {P : Program} {md : Region.Mode} {ops : Array Oper} {Q : Exit → Act → World → Prop} {S : World → Prop} {i : Nat} {oi : Oper} {d : Option Nat} {v : Value} {fuel : Nat} {listed : Array Bool} {a : Act} {w : World} (hi : ops[i]? = some oi) (hd : oi.dst = d)
    (hs : Region.noSelect ops = true) (hf : Region.free md ops listed i = true) (hr : (Region.ready md ops listed).contains i = true)
    (hQ : ∀ c a w, Q (.panic c) (a.put oi.dst v) w → Q (.panic c) a w) (hy : YieldsIf P ops S oi v a) (hS : S w)
    (h : wpAnyH P md ops Q S fuel (listed.setIfInBounds i true) (a.put d v) w) : wpAnyH P md ops Q S (fuel + 1) listed a w := by
  subst hd
  exact wpAnyH_take hi hs hf hr hQ hy hS h
/-- The variable k of the fold. -/
structure FV (u : World) (b base : Nat) (K : Kp) (v : Value) : Prop where
  hi : b < u.heap.size
  cell : ∀ o, u.cell? ⟨b, o, none⟩ = #[.int .i64 K.t, .int .i64 K.v, .int .i64 K.si, .int .i64 K.st, .string K.sd, v][o]?
  fro : ∀ o, u.frozen? ⟨b, o, none⟩ = false
  own : OwnE u base v K.e
  ne : ∀ k, v.ownBlock = some k → ¬ k = b
def SFo (K : Kp) (v : Value) (kb sb : Nat) (u : Value) (b o : Nat) (r : Rc) (w' : World) : Prop := w'.cell? ⟨kb, 0, none⟩ = some (.int .i64 K.t) ∧ w'.cell? ⟨kb, 1, none⟩ = some (.int .i64 K.v) ∧ w'.cell? ⟨kb, 2, none⟩ = some (.int .i64 K.si) ∧ w'.cell? ⟨kb, 3, none⟩ = some (.int .i64 K.st) ∧ w'.cell? ⟨kb, 4, none⟩ = some (.string K.sd) ∧ w'.cell? ⟨kb, 5, none⟩ = some v ∧ w'.cell? ⟨sb, 6, none⟩ = some u ∧ w'.cell? ⟨b, o, none⟩ = some (.int .i64 r.k) ∧ w'.cell? ⟨b, o + 1, none⟩ = some (.int .i64 r.t) ∧ w'.cell? ⟨b, o + 2, none⟩ = some (.int .i64 r.i) ∧ w'.cell? ⟨b, o + 3, none⟩ = some (.int .i64 r.v) ∧ w'.cell? ⟨b, o + 4, none⟩ = some (.string r.d)
theorem foldK_first {K K' : Kp} {l : List Rc} {j : Nat} {n : Int} (h : j < l.length) (hn : (j : Int) < n) (hf : foldK K (l.take j) = some K') (hg : goB K' l[j] = false) : foldK K (firstN n l) = none := by
  have hj : j < (firstN n l).length := by simp [firstN]; omega
  have e : (firstN n l).take j = l.take j := by simp only [firstN, List.take_take]; congr 1; omega
  refine foldK_stop (l := firstN n l) (j := j) (K' := K') hj (by rw [e]; exact hf) ?_
  simpa [firstN] using hg
theorem firstN_all {l : List Rc} {j : Nat} {n : Int} (hj : j ≤ l.length) (hn : (j : Int) ≤ max n 0) (h : ¬ (j : Int) < n ∨ j = l.length) : firstN n l = l.take j := by
  unfold firstN
  rcases h with h | h
  · congr 1; omega
  · subst h
    rw [List.take_of_length_le (by omega), List.take_of_length_le (by omega)]
/-- What l3Fold leaves. -/
def FoldP (S : Sto) (n : Int) (w : World) (e : Ending) (w' : World) : Prop := (∃ K1 v', foldK S.k (firstN n S.l) = some K1 ∧ e = .returned (.tuple #[kpV K1 v', .bool true]) ∧ NewE w w' v' K1.e) ∨ (foldK S.k (firstN n S.l) = none ∧ ∃ K1 a m cap, e = .returned (.tuple #[kpV K1 (.slice a m cap), .bool false]) ∧ Below w.heap.size w w')
theorem FoldP.no {S : Sto} {n : Int} {w w' : World} {K1 : Kp} {a : Option Addr} {m cap : Nat} (h : foldK S.k (firstN n S.l) = none) (hb : Below w.heap.size w w') : FoldP S n w (.returned (.tuple #[kpV K1 (.slice a m cap), .bool false])) w' := Or.inr ⟨h, K1, a, m, cap, rfl, hb⟩
theorem FoldP.yes {S : Sto} {n : Int} {w w' : World} {K1 : Kp} {v' : Value} (h : foldK S.k (firstN n S.l) = some K1) (ho : OwnE w' w.heap.size v' K1.e) (hb : Below w.heap.size w w') : FoldP S n w (.returned (.tuple #[kpV K1 v', .bool true])) w' := Or.inl ⟨K1, v', h, rfl, ho, hb⟩
set_option maxRecDepth 100000 in
set_option maxHeartbeats 8000000 in
theorem l3Fold_any (S : Sto) (v u : Value) (N : Nat) (n : Int) (w : World) (hN : N ≤ w.heap.size) (hr : RowE w N v S.k.e) (hu : RowR w N u S.l) (hs : Sm S.k) (hl : S.l.length ≤ 1048576) :
    Calls Try.prog 50 #[stV S v u, .int .i64 n] w fun e w' => FoldP S n w e w' := by
  have HR := Hid.intro hr
  have hle : S.k.e.length ≤ 60 := hs.2.2
  have HS := Hid.intro hs
  obtain ⟨a, cap, rfl, lc, hm, hcells⟩ := hu
  have HU := Hid.intro hcells
  clear hr hs hcells
  go_enter Try.func50, Try.ntmps50
  go_wp2_with fail
  obtain ⟨W, hW, bW, zW, c1, f1, c2, f2⟩ := boxed2 w #[.int .i64 S.k.t, .int .i64 S.k.v, .int .i64 S.k.si, .int .i64 S.k.st, .string S.k.sd, v, .slice a S.l.length cap] #[.int .i64 0, .int .i64 0, .int .i64 0, .int .i64 0, .string ⟨#[]⟩, .slice none 0 0] 31 28
  simp only [hW]
  refine (l3Copy_any S.k v N W (by omega) (HR.out.kept (bW.mono hN)) (by omega)).mono ?_
  rintro e w1 ⟨v1, rfl, o1, b1⟩
  obtain ⟨a1, cap1, rfl⟩ := o1.slice
  replace c1 := keepC b1 (by omega) c1
  replace c2 := keepC b1 (by omega) c2
  replace f2 := keepF b1 (by omega) f2
  have z1 := b1.size
  have B1 := bW.trans (b1.mono (by omega))
  have hz1 : w.heap.size + 1 < w1.heap.size := by omega
  have HO1 : Hid (OwnE w1 (w.heap.size + 1 + 1) (.slice a1 S.k.e.length cap1) S.k.e) := by
    have := o1
    rw [zW] at this
    exact this
  clear hW bW zW f1 b1 z1 o1
  go_wp2
  obtain ⟨X0, hX, bX, zX, cX, fX⟩ := boxed w1 #[.int .i64 S.k.t, .int .i64 S.k.v, .int .i64 S.k.si, .int .i64 S.k.st, .string S.k.sd, .slice a1 S.k.e.length cap1] 28
  simp only [hX]
  have HKX : Hid (FV X0 w1.heap.size (w.heap.size + 1 + 1) S.k (.slice a1 S.k.e.length cap1)) := ⟨by omega, cX, fX, HO1.out.kept bX, fun k hk e => by have := (HO1.out.lt k hk).2; omega⟩
  replace c1 := keepC bX (by omega) c1
  replace c2 := keepC bX hz1 c2
  replace f2 := keepF bX hz1 f2
  have BX := B1.trans (bX.mono (by omega))
  have hzX : w.heap.size + 1 + 1 ≤ w1.heap.size := by omega
  have hkX : w1.heap.size < X0.heap.size := by omega
  have f1 : True := trivial
  clear hX bX zX cX fX HO1 B1 hz1
  go_loopw [7] (fun i wr => ∃ (j : Nat) (K' : Kp) (v' : Value), i = .int .i64 j ∧ j ≤ S.l.length ∧ (j : Int) ≤ max n 0 ∧ Hid (foldK S.k (S.l.take j) = some K') ∧ Hid (FV wr w1.heap.size (w.heap.size + 1 + 1) K' v') ∧ Below (w.heap.size + 1 + 1) X0 wr) (fun i _ => S.l.length - (intOf i).toNat)
  case atStart => exact ⟨0, S.k, _, rfl, Nat.zero_le _, by omega, by unfold Hid; simp [foldK], HKX, Below.refl _ _⟩
  case round =>
    obtain ⟨j, K', v', rfl, hj, hjn, HF, HK, hbel⟩ := hrel
    have hs2 := hbel.size
    have ds := keepC hbel (by omega) c1
    by_cases hn : (j : Int) < n
    · by_cases hlt : j < S.l.length
      · obtain ⟨b, off, rfl, hbN, hcc⟩ := HU.out (by intro h; rw [h] at hlt; simp at hlt)
        obtain ⟨p0, p1, p2, p3, p4⟩ := hcc j hlt
        have hat := @foldK_at S.k K' S.l j hlt HF.out
        have hst := @foldK_first S.k K' S.l j n hlt hn HF.out
        generalize S.l[j] = r at p0 p1 p2 p3 p4 hat hst
        have HAT := Hid.intro hat
        have HST := Hid.intro hst
        have HBW : Hid (Below w.heap.size w wr) := BX.trans (hbel.mono (by omega))
        have HV : Hid (w1.heap.size < wr.heap.size) := HK.out.hi
        have HVL : Hid (∀ k, v'.ownBlock = some k → w.heap.size + 1 + 1 ≤ k ∧ k < wr.heap.size) := HK.out.own.lt
        have HNE := Hid.intro HK.out.ne
        have HSM : Hid (Sm K') := HS.out.fold HF.out
        have HCF : Hid (∀ w', Only (fun k => some k = v'.ownBlock) wr w' → (∀ o, w'.cell? ⟨w1.heap.size, o, none⟩ = #[.int .i64 K'.t, .int .i64 K'.v, .int .i64 K'.si, .int .i64 K'.st, .string K'.sd, v'][o]?) ∧ (∀ o, w'.frozen? ⟨w1.heap.size, o, none⟩ = false) ∧ (∀ o, w'.cell? ⟨w.heap.size, o, none⟩ = #[.int .i64 S.k.t, .int .i64 S.k.v, .int .i64 S.k.si, .int .i64 S.k.st, .string S.k.sd, v, .slice (some ⟨b, off, none⟩) S.l.length cap][o]?) ∧ (∀ o, w'.cell? ⟨w.heap.size + 1, o, none⟩ = #[.int .i64 0, .int .i64 0, .int .i64 0, .int .i64 0, .string ⟨#[]⟩, .slice none 0 0][o]?) ∧ (∀ o, w'.frozen? ⟨w.heap.size + 1, o, none⟩ = false) ∧ w1.heap.size < w'.heap.size) := fun w' ho =>
          ⟨fun o => (ho.cell HV.out (fun h => HNE.out _ h.symm rfl)).trans (HK.out.cell o), fun o => (ho.frozen HV.out (fun h => HNE.out _ h.symm rfl)).trans (HK.out.fro o), fun o => (ho.cell (by omega) (fun h => by have := (HVL.out _ h.symm).1; omega)).trans (ds o), fun o => (ho.cell (by omega) (fun h => by have := (HVL.out _ h.symm).1; omega)).trans (keepC hbel (by omega) c2 o), fun o => (ho.frozen (by omega) (fun h => by have := (HVL.out _ h.symm).1; omega)).trans (keepF hbel (by omega) f2 o), Nat.lt_of_lt_of_le HV.out ho.size⟩
        have HSF : Hid (∀ w', Only (fun k => some k = v'.ownBlock) wr w' → SFo K' v' w1.heap.size w.heap.size (.slice (some ⟨b, off, none⟩) S.l.length cap) b (off + j * 5) r w') := fun w' ho => by
          obtain ⟨d1, _, d2, _⟩ := HCF.out w' ho
          have hx : ∀ o x, w.cell? ⟨b, o, none⟩ = some x → w'.cell? ⟨b, o, none⟩ = some x := fun o x hx => (ho.cell (by omega) (fun h => by have := (HVL.out _ h.symm).1; omega)).trans (atCell HBW.out hx (by omega))
          exact ⟨by rw [d1]; rfl, by rw [d1]; rfl, by rw [d1]; rfl, by rw [d1]; rfl, by rw [d1]; rfl, by rw [d1]; rfl, by rw [d2]; rfl, hx _ _ p0, hx _ _ p1, hx _ _ p2, hx _ _ p3, hx _ _ p4⟩
        have hjl : (j : Int) < (S.l.length : Int) := by omega
        have i1 : (0 : Int) ≤ (j : Int) ∧ (j : Int) < (S.l.length : Int) := by omega
        clear hcc p0 p1 p2 p3 p4 hat hst
        go_wp2_with fail
        clear ds
        refine wp_region_held_drew (S := SFo K' v' w1.heap.size w.heap.size (.slice (some ⟨b, off, none⟩) S.l.length cap) b (off + j * 5) r) (by kernel_rfl) (HSF.out _ (Only.refl _ _).drew) (fun hHeld => ?_)
        have BWD : Only (fun k => some k = v'.ownBlock) wr wr.drew := (Only.refl _ _).drew
        have HKD : Hid (OwnE wr.drew (w.heap.size + 1 + 1) v' K'.e) := HK.out.own.kept (Below.refl _ _).drew
        generalize wr.drew = D at BWD HKD hHeld ⊢
        refine take1s (i := 0) (d := some 26) (v := ?_) rfl rfl (by kernel_rfl) (by kernel_rfl) (by kernel_rfl) (fun _ _ _ h => h) (Or.inl ⟨by rfl, ?_⟩) (by assumption) ?_
        rotate_left 1
        · intro w hSw
          obtain ⟨q0, q1, q2, q3, q4, q5, q6, q7, q8, q9, q10, q11⟩ := hSw
          go_simp <;> with_reducible rfl
        simp only [Act.put, List.setIfInBounds_toArray]
        try simp only [List.set_cons_succ]
        try simp only [List.set_cons_zero]
        refine take1s (i := 1) (d := some 27) (v := ?_) rfl rfl (by kernel_rfl) (by kernel_rfl) (by kernel_rfl) (fun _ _ _ h => h) (Or.inl ⟨by rfl, ?_⟩) (by assumption) ?_
        rotate_left 1
        · intro w hSw
          obtain ⟨q0, q1, q2, q3, q4, q5, q6, q7, q8, q9, q10, q11⟩ := hSw
          go_simp <;> with_reducible rfl
        simp only [Act.put, List.setIfInBounds_toArray]
        try simp only [List.set_cons_succ]
        try simp only [List.set_cons_zero]
        refine take1s (i := 2) (d := some 28) (v := ?_) rfl rfl (by kernel_rfl) (by kernel_rfl) (by kernel_rfl) (fun _ _ _ h => h) (Or.inl ⟨by rfl, ?_⟩) (by assumption) ?_
        rotate_left 1
        · intro w hSw
          obtain ⟨q0, q1, q2, q3, q4, q5, q6, q7, q8, q9, q10, q11⟩ := hSw
          go_simp <;> with_reducible rfl
        simp only [Act.put, List.setIfInBounds_toArray]
        try simp only [List.set_cons_succ]
        try simp only [List.set_cons_zero]
        refine take1s (i := 3) (d := some 29) (v := ?_) rfl rfl (by kernel_rfl) (by kernel_rfl) (by kernel_rfl) (fun _ _ _ h => h) (Or.inl ⟨by rfl, ?_⟩) (by assumption) ?_
        rotate_left 1
        · intro w hSw
          obtain ⟨q0, q1, q2, q3, q4, q5, q6, q7, q8, q9, q10, q11⟩ := hSw
          go_simp <;> with_reducible rfl
        simp only [Act.put, List.setIfInBounds_toArray]
        try simp only [List.set_cons_succ]
        try simp only [List.set_cons_zero]
        refine take1s (i := 4) (d := some 30) (v := ?_) rfl rfl (by kernel_rfl) (by kernel_rfl) (by kernel_rfl) (fun _ _ _ h => h) (Or.inl ⟨by rfl, ?_⟩) (by assumption) ?_
        rotate_left 1
        · intro w hSw
          obtain ⟨q0, q1, q2, q3, q4, q5, q6, q7, q8, q9, q10, q11⟩ := hSw
          go_simp <;> with_reducible rfl
        simp only [Act.put, List.setIfInBounds_toArray]
        try simp only [List.set_cons_succ]
        try simp only [List.set_cons_zero]
        refine take1s (i := 5) (d := some 31) (v := ?_) rfl rfl (by kernel_rfl) (by kernel_rfl) (by kernel_rfl) (fun _ _ _ h => h) (Or.inl ⟨by rfl, ?_⟩) (by assumption) ?_
        rotate_left 1
        · intro w hSw
          obtain ⟨q0, q1, q2, q3, q4, q5, q6, q7, q8, q9, q10, q11⟩ := hSw
          go_simp <;> with_reducible rfl
        simp only [Act.put, List.setIfInBounds_toArray]
        try simp only [List.set_cons_succ]
        try simp only [List.set_cons_zero]
        refine wpAnyH_ready (rs := [6, 10]) (by kernel_rfl) (by simp) ?_
        refine AllReadyH.cons rfl (fun KK hKK => ?_) (AllReadyH.cons rfl (fun KK hKK => ?_) AllReadyH.nil)
        · skip
          go_simp
          refine (l3Step_any K' v' (w.heap.size + 1 + 1) r D (by have := BWD.size; omega) (HKD.out) HSM.out).mono ?_
          rintro e w3 ⟨v3, rfl, o3, l3, q3⟩
          obtain ⟨a3, cap3, rfl⟩ := o3.slice
          have BWw3 : Only (fun k => some k = v'.ownBlock) wr w3 := BWD.trans q3
          have HO3 := Hid.intro o3
          have HLT : Hid (∀ k, (Value.slice a3 (nextK K' r).e.length cap3).ownBlock = some k → ¬ k = w1.heap.size ∧ ¬ k = w3.heap.size) := fun k hk => by
            have h3 := o3.lt k hk
            have h4 := l3 k hk
            have h5 := HV.out
            have h6 := BWD.size
            have h9 := BWD.size
            rcases h4 with h4 | h4
            · have h7 := HNE.out k h4
              have h8 := (HVL.out k h4).2
              refine ⟨h7, ?_⟩
              omega
            · refine ⟨by omega, ?_⟩
              omega
          clear o3 l3 q3
          go_simp
          refine hKK.out _ _ (HSF.out _ BWw3) (fun hHeld2 => ?_)
          clear hKK KK hHeld
          have hHeld := hHeld2
          clear hHeld2
          refine take1s (i := 7) (d := some 25) (v := ?_) rfl rfl (by kernel_rfl) (by kernel_rfl) (by kernel_rfl) (fun _ _ _ h => h) (Or.inl ⟨by rfl, ?_⟩) (by assumption) ?_
          rotate_left 1
          · intro w hSw
            obtain ⟨q0, q1, q2, q3, q4, q5, q6, q7, q8, q9, q10, q11⟩ := hSw
            go_simp <;> with_reducible rfl
          simp only [Act.put, List.setIfInBounds_toArray]
          try simp only [List.set_cons_succ]
          try simp only [List.set_cons_zero]
          refine take1s (i := 8) (d := some 33) (v := ?_) rfl rfl (by kernel_rfl) (by kernel_rfl) (by kernel_rfl) (fun _ _ _ h => h) (Or.inl ⟨by rfl, ?_⟩) (by assumption) ?_
          rotate_left 1
          · intro w hSw
            obtain ⟨q0, q1, q2, q3, q4, q5, q6, q7, q8, q9, q10, q11⟩ := hSw
            go_simp <;> with_reducible rfl
          simp only [Act.put, List.setIfInBounds_toArray]
          try simp only [List.set_cons_succ]
          try simp only [List.set_cons_zero]
          refine take1s (i := 9) (d := some 34) (v := ?_) rfl rfl (by kernel_rfl) (by kernel_rfl) (by kernel_rfl) (fun _ _ _ h => h) (Or.inl ⟨by rfl, ?_⟩) (by assumption) ?_
          rotate_left 1
          · intro w hSw
            obtain ⟨q0, q1, q2, q3, q4, q5, q6, q7, q8, q9, q10, q11⟩ := hSw
            go_simp <;> with_reducible rfl
          simp only [Act.put, List.setIfInBounds_toArray]
          try simp only [List.set_cons_succ]
          try simp only [List.set_cons_zero]
          refine wpAnyH_ready (rs := [10]) (by kernel_rfl) (by simp) ?_
          refine AllReadyH.cons rfl (fun KK hKK => ?_) AllReadyH.nil
          go_simp
          have bX := (Below.refl w3.heap.size w3).alloc (Nat.le_refl _) (.cells #[.int .i64 0, .int .i64 0, .int .i64 0, .int .i64 0, .string ⟨#[]⟩, .slice none 0 0] 28)
          have zk6 : w3.heap.size < (w3.alloc (.cells #[.int .i64 0, .int .i64 0, .int .i64 0, .int .i64 0, .string ⟨#[]⟩, .slice none 0 0] 28)).heap.size := by simp
          have k6 : ∀ o, (w3.alloc (.cells #[.int .i64 0, .int .i64 0, .int .i64 0, .int .i64 0, .string ⟨#[]⟩, .slice none 0 0] 28)).cell? ⟨w3.heap.size, o, none⟩ = #[.int .i64 0, .int .i64 0, .int .i64 0, .int .i64 0, .string ⟨#[]⟩, .slice none 0 0][o]? := fun o => World.cell?_alloc_at _ _ _ _ rfl
          have g6 : ∀ o, (w3.alloc (.cells #[.int .i64 0, .int .i64 0, .int .i64 0, .int .i64 0, .string ⟨#[]⟩, .slice none 0 0] 28)).frozen? ⟨w3.heap.size, o, none⟩ = false := fun o => World.frozen?_alloc_at _ _ _ _ rfl
          generalize w3.alloc (.cells #[.int .i64 0, .int .i64 0, .int .i64 0, .int .i64 0, .string ⟨#[]⟩, .slice none 0 0] 28) = X at bX zk6 k6 g6 ⊢
          have BWX : Only (fun k => some k = v'.ownBlock) wr X := BWw3.trans (Below.any bX)
          refine hKK.out _ _ (HSF.out _ BWX) (fun hHeld2 => ?_)
          clear hKK KK hHeld
          have hHeld := hHeld2
          clear hHeld2
          replace HO3 := Hid.intro (HO3.out.kept bX)
          refine wpAnyH_ready (rs := [11]) (by kernel_rfl) (by simp) ?_
          refine AllReadyH.cons rfl (fun KK hKK => ?_) AllReadyH.nil
          go_simp
          obtain ⟨Y, hY, cY, oY, zY, _⟩ := put6 (x0 := .int .i64 (nextK K' r).t) (x1 := .int .i64 (nextK K' r).v) (x2 := .int .i64 (nextK K' r).si) (x3 := .int .i64 (nextK K' r).st) (x4 := .string (nextK K' r).sd) (x5 := .slice a3 (nextK K' r).e.length cap3) k6
          simp only [hY]
          have BWY : Only (fun k => some k = v'.ownBlock) wr Y := BWX.then oY (fun k hk h => by have := BWw3.size; omega)
          refine hKK.out _ _ (HSF.out _ BWY) (fun hHeld2 => ?_)
          clear hKK KK hHeld
          have hHeld := hHeld2
          clear hHeld2
          refine take1s (i := 12) (d := some 9) (v := ?_) rfl rfl (by kernel_rfl) (by kernel_rfl) (by kernel_rfl) (fun _ _ _ h => h) (Or.inl ⟨by rfl, ?_⟩) (by assumption) ?_
          rotate_left 1
          · intro w hSw
            obtain ⟨q0, q1, q2, q3, q4, q5, q6, q7, q8, q9, q10, q11⟩ := hSw
            go_simp <;> with_reducible rfl
          simp only [Act.put, List.setIfInBounds_toArray]
          try simp only [List.set_cons_succ]
          try simp only [List.set_cons_zero]
          refine wpAnyH_done (by kernel_rfl) ?_ _
          have HOY := Hid.intro (HO3.out.only oY (fun k hk h => (HLT.out k hk).2 h))
          have HNY : Hid (∀ k, (Value.slice a3 (nextK K' r).e.length cap3).ownBlock = some k → ¬ k = w1.heap.size) := fun k hk => (HLT.out k hk).1
          have hxk : ¬ w3.heap.size = w1.heap.size := by have := BWw3.size; have := HV.out; omega
          have zx : w3.heap.size < Y.heap.size := by omega
          obtain ⟨dk, fk, ds, dr, fr, zz⟩ := HCF.out Y BWY
          have HBY : Hid (Below (w.heap.size + 1 + 1) X0 Y) := hbel.trans (BWY.below (by omega) (fun k hk h => by have := (HVL.out k h.symm).1; omega))
          clear HCF HSF hHeld k6 g6 zk6 oY hY zY HO3 HLT c2 f2 c1 f1
          cases hgo : goB K' r with
          | true =>
            have HNX : Hid (nextK K' r = stepK K' r) := nextK_yes hgo
            go_wp2
            obtain ⟨Z, hZ, cZ, oZ, zZ, fZ⟩ := put6 (x0 := .int .i64 (nextK K' r).t) (x1 := .int .i64 (nextK K' r).v) (x2 := .int .i64 (nextK K' r).si) (x3 := .int .i64 (nextK K' r).st) (x4 := .string (nextK K' r).sd) (x5 := .slice a3 (nextK K' r).e.length cap3) dk
            simp only [hZ]
            have HKZ : Hid (FV Z w1.heap.size (w.heap.size + 1 + 1) (stepK K' r) (.slice a3 (nextK K' r).e.length cap3)) := by
              have h1 := HOY.out.only oZ (fun k hk h => HNY.out k hk h)
              have h2 := HNY.out
              rw [HNX.out] at cZ h1 h2 ⊢
              exact ⟨by omega, cZ, fZ fk, h1, h2⟩
            go_roundw
            case rel => exact ⟨j + 1, stepK K' r, _, by go_num, by omega, by omega, HAT.out hgo, HKZ, HBY.out.trans (oZ.below (by have := HBY.out.size; omega) (fun k hk h => by omega))⟩
            case measure => simp [intOf]; omega
          | false =>
            have HN := Hid.intro (HST.out hgo)
            obtain ⟨av, capv, hv'⟩ := HK.out.own.slice
            subst hv'
            go_wp2
            refine bodyPost_ret (v := .tuple #[kpV K' (.slice av K'.e.length capv), .bool false]) (by simp [results, Try.results50, go_sem, dr]) rfl (FoldP.no HN.out ?_)
            repeat (refine Below.setCell ?_ (by simp <;> omega) _)
            exact BX.trans (HBY.out.mono (by omega))
        · skip
          go_simp
          have bX := (Below.refl D.heap.size D).alloc (Nat.le_refl _) (.cells #[.int .i64 0, .int .i64 0, .int .i64 0, .int .i64 0, .string ⟨#[]⟩, .slice none 0 0] 28)
          have zk6 : D.heap.size < (D.alloc (.cells #[.int .i64 0, .int .i64 0, .int .i64 0, .int .i64 0, .string ⟨#[]⟩, .slice none 0 0] 28)).heap.size := by simp
          have k6 : ∀ o, (D.alloc (.cells #[.int .i64 0, .int .i64 0, .int .i64 0, .int .i64 0, .string ⟨#[]⟩, .slice none 0 0] 28)).cell? ⟨D.heap.size, o, none⟩ = #[.int .i64 0, .int .i64 0, .int .i64 0, .int .i64 0, .string ⟨#[]⟩, .slice none 0 0][o]? := fun o => World.cell?_alloc_at _ _ _ _ rfl
          have g6 : ∀ o, (D.alloc (.cells #[.int .i64 0, .int .i64 0, .int .i64 0, .int .i64 0, .string ⟨#[]⟩, .slice none 0 0] 28)).frozen? ⟨D.heap.size, o, none⟩ = false := fun o => World.frozen?_alloc_at _ _ _ _ rfl
          generalize D.alloc (.cells #[.int .i64 0, .int .i64 0, .int .i64 0, .int .i64 0, .string ⟨#[]⟩, .slice none 0 0] 28) = X at bX zk6 k6 g6 ⊢
          have BWX : Only (fun k => some k = v'.ownBlock) wr X := BWD.trans (Below.any bX)
          refine hKK.out _ _ (HSF.out _ BWX) (fun hHeld2 => ?_)
          clear hKK KK hHeld
          have hHeld := hHeld2
          clear hHeld2
          have HKX := Hid.intro (HKD.out.kept bX)
          refine wpAnyH_ready (rs := [6]) (by kernel_rfl) (by simp) ?_
          refine AllReadyH.cons rfl (fun KK hKK => ?_) AllReadyH.nil
          go_simp
          refine (l3Step_any K' v' (w.heap.size + 1 + 1) r X (by have := BWX.size; omega) (HKX.out) HSM.out).mono ?_
          rintro e w3 ⟨v3, rfl, o3, l3, q3⟩
          obtain ⟨a3, cap3, rfl⟩ := o3.slice
          have BWw3 : Only (fun k => some k = v'.ownBlock) wr w3 := BWX.trans q3
          have HO3 := Hid.intro o3
          have HLT : Hid (∀ k, (Value.slice a3 (nextK K' r).e.length cap3).ownBlock = some k → ¬ k = w1.heap.size ∧ ¬ k = D.heap.size) := fun k hk => by
            have h3 := o3.lt k hk
            have h4 := l3 k hk
            have h5 := HV.out
            have h6 := BWX.size
            have h9 := BWD.size
            rcases h4 with h4 | h4
            · have h7 := HNE.out k h4
              have h8 := (HVL.out k h4).2
              refine ⟨h7, ?_⟩
              omega
            · refine ⟨by omega, ?_⟩
              omega
          replace k6 : ∀ o, w3.cell? ⟨D.heap.size, o, none⟩ = #[.int .i64 0, .int .i64 0, .int .i64 0, .int .i64 0, .string ⟨#[]⟩, .slice none 0 0][o]? := fun o => (q3.cell zk6 (fun h => by have := (HVL.out _ h.symm).2; have := BWD.size; omega)).trans (k6 o)
          replace g6 : ∀ o, w3.frozen? ⟨D.heap.size, o, none⟩ = false := fun o => (q3.frozen zk6 (fun h => by have := (HVL.out _ h.symm).2; have := BWD.size; omega)).trans (g6 o)
          replace zk6 : D.heap.size < w3.heap.size := Nat.lt_of_lt_of_le zk6 q3.size
          clear o3 l3 q3
          go_simp
          refine hKK.out _ _ (HSF.out _ BWw3) (fun hHeld2 => ?_)
          clear hKK KK hHeld
          have hHeld := hHeld2
          clear hHeld2
          refine take1s (i := 7) (d := some 25) (v := ?_) rfl rfl (by kernel_rfl) (by kernel_rfl) (by kernel_rfl) (fun _ _ _ h => h) (Or.inl ⟨by rfl, ?_⟩) (by assumption) ?_
          rotate_left 1
          · intro w hSw
            obtain ⟨q0, q1, q2, q3, q4, q5, q6, q7, q8, q9, q10, q11⟩ := hSw
            go_simp <;> with_reducible rfl
          simp only [Act.put, List.setIfInBounds_toArray]
          try simp only [List.set_cons_succ]
          try simp only [List.set_cons_zero]
          refine take1s (i := 8) (d := some 33) (v := ?_) rfl rfl (by kernel_rfl) (by kernel_rfl) (by kernel_rfl) (fun _ _ _ h => h) (Or.inl ⟨by rfl, ?_⟩) (by assumption) ?_
          rotate_left 1
          · intro w hSw
            obtain ⟨q0, q1, q2, q3, q4, q5, q6, q7, q8, q9, q10, q11⟩ := hSw
            go_simp <;> with_reducible rfl
          simp only [Act.put, List.setIfInBounds_toArray]
          try simp only [List.set_cons_succ]
          try simp only [List.set_cons_zero]
          refine take1s (i := 9) (d := some 34) (v := ?_) rfl rfl (by kernel_rfl) (by kernel_rfl) (by kernel_rfl) (fun _ _ _ h => h) (Or.inl ⟨by rfl, ?_⟩) (by assumption) ?_
          rotate_left 1
          · intro w hSw
            obtain ⟨q0, q1, q2, q3, q4, q5, q6, q7, q8, q9, q10, q11⟩ := hSw
            go_simp <;> with_reducible rfl
          simp only [Act.put, List.setIfInBounds_toArray]
          try simp only [List.set_cons_succ]
          try simp only [List.set_cons_zero]
          refine wpAnyH_ready (rs := [11]) (by kernel_rfl) (by simp) ?_
          refine AllReadyH.cons rfl (fun KK hKK => ?_) AllReadyH.nil
          go_simp
          obtain ⟨Y, hY, cY, oY, zY, _⟩ := put6 (x0 := .int .i64 (nextK K' r).t) (x1 := .int .i64 (nextK K' r).v) (x2 := .int .i64 (nextK K' r).si) (x3 := .int .i64 (nextK K' r).st) (x4 := .string (nextK K' r).sd) (x5 := .slice a3 (nextK K' r).e.length cap3) k6
          simp only [hY]
          have BWY : Only (fun k => some k = v'.ownBlock) wr Y := BWw3.then oY (fun k hk h => by have := BWD.size; omega)
          refine hKK.out _ _ (HSF.out _ BWY) (fun hHeld2 => ?_)
          clear hKK KK hHeld
          have hHeld := hHeld2
          clear hHeld2
          refine take1s (i := 12) (d := some 9) (v := ?_) rfl rfl (by kernel_rfl) (by kernel_rfl) (by kernel_rfl) (fun _ _ _ h => h) (Or.inl ⟨by rfl, ?_⟩) (by assumption) ?_
          rotate_left 1
          · intro w hSw
            obtain ⟨q0, q1, q2, q3, q4, q5, q6, q7, q8, q9, q10, q11⟩ := hSw
            go_simp <;> with_reducible rfl
          simp only [Act.put, List.setIfInBounds_toArray]
          try simp only [List.set_cons_succ]
          try simp only [List.set_cons_zero]
          refine wpAnyH_done (by kernel_rfl) ?_ _
          have HOY := Hid.intro (HO3.out.only oY (fun k hk h => (HLT.out k hk).2 h))
          have HNY : Hid (∀ k, (Value.slice a3 (nextK K' r).e.length cap3).ownBlock = some k → ¬ k = w1.heap.size) := fun k hk => (HLT.out k hk).1
          have hxk : ¬ D.heap.size = w1.heap.size := by have := BWD.size; have := HV.out; omega
          have zx : D.heap.size < Y.heap.size := by omega
          obtain ⟨dk, fk, ds, dr, fr, zz⟩ := HCF.out Y BWY
          have HBY : Hid (Below (w.heap.size + 1 + 1) X0 Y) := hbel.trans (BWY.below (by omega) (fun k hk h => by have := (HVL.out k h.symm).1; omega))
          clear HCF HSF hHeld k6 g6 zk6 oY hY zY HO3 HLT c2 f2 c1 f1
          cases hgo : goB K' r with
          | true =>
            have HNX : Hid (nextK K' r = stepK K' r) := nextK_yes hgo
            go_wp2
            obtain ⟨Z, hZ, cZ, oZ, zZ, fZ⟩ := put6 (x0 := .int .i64 (nextK K' r).t) (x1 := .int .i64 (nextK K' r).v) (x2 := .int .i64 (nextK K' r).si) (x3 := .int .i64 (nextK K' r).st) (x4 := .string (nextK K' r).sd) (x5 := .slice a3 (nextK K' r).e.length cap3) dk
            simp only [hZ]
            have HKZ : Hid (FV Z w1.heap.size (w.heap.size + 1 + 1) (stepK K' r) (.slice a3 (nextK K' r).e.length cap3)) := by
              have h1 := HOY.out.only oZ (fun k hk h => HNY.out k hk h)
              have h2 := HNY.out
              rw [HNX.out] at cZ h1 h2 ⊢
              exact ⟨by omega, cZ, fZ fk, h1, h2⟩
            go_roundw
            case rel => exact ⟨j + 1, stepK K' r, _, by go_num, by omega, by omega, HAT.out hgo, HKZ, HBY.out.trans (oZ.below (by have := HBY.out.size; omega) (fun k hk h => by omega))⟩
            case measure => simp [intOf]; omega
          | false =>
            have HN := Hid.intro (HST.out hgo)
            obtain ⟨av, capv, hv'⟩ := HK.out.own.slice
            subst hv'
            go_wp2
            refine bodyPost_ret (v := .tuple #[kpV K' (.slice av K'.e.length capv), .bool false]) (by simp [results, Try.results50, go_sem, dr]) rfl (FoldP.no HN.out ?_)
            repeat (refine Below.setCell ?_ (by simp <;> omega) _)
            exact BX.trans (HBY.out.mono (by omega))
      · obtain rfl : j = S.l.length := by omega
        have HFL : Hid (foldK S.k (firstN n S.l) = some K') := by
          have := HF.out
          rw [← firstN_all (n := n) (Nat.le_refl _) hjn (.inr rfl)] at this
          exact this
        obtain ⟨a', cap', rfl⟩ := HK.out.own.slice
        have dk := HK.out.cell
        have dr := keepC hbel (by omega) c2
        have fr := keepF hbel (by omega) f2
        have hzr : w.heap.size + 1 < wr.heap.size := by omega
        have hzk := HK.out.hi
        have hnl : ((S.l.length : Nat) : Int) < n := by omega
        clear c2 f2
        go_wp2
        refine bodyPost_ret (v := .tuple #[kpV K' (.slice a' K'.e.length cap'), .bool true]) (by simp [results, Try.results50, go_sem, dr]) rfl (FoldP.yes HFL.out ?_ ?_)
        · refine OwnE.lower (OwnE.only HK.out.own (S := fun k => k = w.heap.size + 1) ?_ (fun k hk h => by have := (HK.out.own.lt k hk).1; omega)) (show w.heap.size ≤ w.heap.size + 1 + 1 by omega)
          repeat (refine Only.setCell ?_ (by simp) _)
          exact Only.refl _ _
        · repeat (refine Below.setCell ?_ (by simp <;> omega) _)
          exact BX.trans (hbel.mono (by omega))
    · have HFL : Hid (foldK S.k (firstN n S.l) = some K') := by
        have := HF.out
        rw [← firstN_all (n := n) hj hjn (.inl hn)] at this
        exact this
      obtain ⟨a', cap', rfl⟩ := HK.out.own.slice
      have dk := HK.out.cell
      have dr := keepC hbel (by omega) c2
      have fr := keepF hbel (by omega) f2
      have hzr : w.heap.size + 1 < wr.heap.size := by omega
      have hzk := HK.out.hi
      clear c2 f2
      go_wp2
      refine bodyPost_ret (v := .tuple #[kpV K' (.slice a' K'.e.length cap'), .bool true]) (by simp [results, Try.results50, go_sem, dr]) rfl (FoldP.yes HFL.out ?_ ?_)
      · refine OwnE.lower (OwnE.only HK.out.own (S := fun k => k = w.heap.size + 1) ?_ (fun k hk h => by have := (HK.out.own.lt k hk).1; omega)) (show w.heap.size ≤ w.heap.size + 1 + 1 by omega)
        repeat (refine Only.setCell ?_ (by simp) _)
        exact Only.refl _ _
      · repeat (refine Below.setCell ?_ (by simp <;> omega) _)
        exact BX.trans (hbel.mono (by omega))
end Go.Proofs.Ytkilepoimocoeaa
namespace Go.Proofs.Ytkilepoimocoeaa
open Go.RowKit
set_option linter.unusedVariables false
theorem firstN_len (l : List Rc) : firstN ((l.length : Nat) : Int) l = l := by
  unfold firstN
  rw [List.take_of_length_le (by omega)]
set_option maxRecDepth 100000 in
set_option maxHeartbeats 4000000 in
theorem specStoreOk_any (S : Sto) (v u : Value) (N : Nat) (w : World) (hN : N ≤ w.heap.size) (hr : RowE w N v S.k.e) (hu : RowR w N u S.l) :
    Calls Try.prog 12 #[stV S v u] w fun e w' => e = .returned (.bool (storeB S)) ∧ Below w.heap.size w w' := by
  have HR := Hid.intro hr
  have HU := Hid.intro hu
  obtain ⟨au, cu, rfl, lu, mu, _⟩ := hu
  clear hr
  cases hkb : keptB S.k with
  | false =>
    have HF := Hid.intro (storeB_no1 hkb)
    go_enter Try.func12, Try.ntmps12
    go_wp2_with fail
    obtain ⟨W, hW, bW, zW, c1, f1⟩ := boxed w #[.int .i64 S.k.t, .int .i64 S.k.v, .int .i64 S.k.si, .int .i64 S.k.st, .string S.k.sd, v, .slice au S.l.length cu] 31
    simp only [hW]
    refine (specKeptOk_any S.k v N W (by omega) (HR.out.kept (bW.mono hN))).mono ?_
    rintro e w1 ⟨rfl, b1⟩
    rw [hkb]
    have HB := Hid.intro (bW.trans (b1.mono (by omega)))
    clear hW bW zW c1 f1 b1
    go_wp2
    go_ret
    exact ⟨ret_bool HF.out.symm, HB.out⟩
  | true =>
    have HSM := Hid.intro (Sm.of hkb)
    have HKB := Hid.intro hkb
    go_enter Try.func12, Try.ntmps12
    go_wp2_with fail
    obtain ⟨W, hW, bW, zW, c1, f1⟩ := boxed w #[.int .i64 S.k.t, .int .i64 S.k.v, .int .i64 S.k.si, .int .i64 S.k.st, .string S.k.sd, v, .slice au S.l.length cu] 31
    simp only [hW]
    refine (specKeptOk_any S.k v N W (by omega) (HR.out.kept (bW.mono hN))).mono ?_
    rintro e w1 ⟨rfl, b1⟩
    rw [hkb]
    replace c1 := keepC b1 (by omega) c1
    have B1 := bW.trans (b1.mono (by omega))
    have hz1 : w.heap.size < w1.heap.size := by have := b1.size; omega
    have HB := Hid.intro B1
    clear hW bW zW f1 b1 hkb B1
    by_cases h80 : S.l.length ≤ 80
    · have h81 : ¬ (80 : Int) < ((S.l.length : Nat) : Int) := by omega
      go_wp2_with fail
      refine (l3Fold_any S v _ N ((S.l.length : Nat) : Int) w1 (Nat.le_trans hN (by omega)) (HR.out.kept (HB.out.mono hN)) (HU.out.kept (HB.out.mono hN)) HSM.out (by omega)).mono ?_
      rintro e w2 (⟨K1, v', hf, rfl, o2, b2⟩ | ⟨hf, K1, a2, m2, cap2, rfl, b2⟩)
      · obtain ⟨a2, cap2, rfl⟩ := o2.slice
        rw [firstN_len] at hf
        have HF := Hid.intro (storeB_mk HKB.out h80 hf)
        have HB2 := Hid.intro (HB.out.trans (b2.mono HB.out.size))
        clear hf o2 b2 c1
        go_wp2
        go_ret
        exact ⟨ret_bool HF.out.symm, HB2.out.alloc HB2.out.size _⟩
      · rw [firstN_len] at hf
        have HF := Hid.intro (storeB_no3 hf)
        have HB2 := Hid.intro (HB.out.trans (b2.mono HB.out.size))
        clear hf b2 c1
        go_wp2
        go_ret
        exact ⟨ret_bool HF.out.symm, HB2.out.alloc HB2.out.size _⟩
    · have h81 : (80 : Int) < ((S.l.length : Nat) : Int) := by omega
      have HF := Hid.intro (storeB_no2 h80)
      go_wp2
      go_ret
      exact ⟨ret_bool HF.out.symm, HB.out⟩
set_option maxRecDepth 100000 in
set_option maxHeartbeats 4000000 in
theorem specHeld_any (S : Sto) (v u : Value) (N : Nat) (w : World) (hN : N ≤ w.heap.size) (hr : RowE w N v S.k.e) (hu : RowR w N u S.l) :
    Calls Try.prog 15 #[stV S v u] w fun e w' => ∃ v', e = .returned (kpV (heldK S) v') ∧ NewE w w' v' (heldK S).e := by
  have HR := Hid.intro hr
  have HU := Hid.intro hu
  obtain ⟨au, cu, rfl, lu, mu, _⟩ := hu
  clear hr
  cases hsb : storeB S with
  | false =>
    rw [heldK_no hsb]
    go_enter Try.func15, Try.ntmps15
    go_wp2_with fail
    obtain ⟨W, hW, bW, zW, c1, f1, c2, f2⟩ := boxed2 w #[.int .i64 S.k.t, .int .i64 S.k.v, .int .i64 S.k.si, .int .i64 S.k.st, .string S.k.sd, v, .slice au S.l.length cu] #[.int .i64 0, .int .i64 0, .int .i64 0, .int .i64 0, .string ⟨#[]⟩, .slice none 0 0] 31 28
    simp only [hW]
    refine (specStoreOk_any S v _ N W (by omega) (HR.out.kept (bW.mono hN)) (HU.out.kept (bW.mono hN))).mono ?_
    rintro e w1 ⟨rfl, b1⟩
    rw [hsb]
    replace c2 := keepC b1 (by omega) c2
    replace f2 := keepF b1 (by omega) f2
    have hz1 : w.heap.size + 1 < w1.heap.size := by have := b1.size; omega
    have HB := Hid.intro (bW.trans (b1.mono (by omega)))
    clear hW bW zW c1 f1 b1
    go_wp2
    refine bodyPost_ret (v := kpV kpZ (.slice none 0 0)) (by simp [results, Try.results15, go_sem, c2, kpZ]) rfl ⟨_, rfl, OwnE.nil _ _, ?_⟩
    repeat (refine Below.setCell ?_ (by simp <;> omega) _)
    exact HB.out
  | true =>
    obtain ⟨hkb, h80, K1, hf⟩ := storeB_out hsb
    rw [heldK_yes hsb hf]
    have HSM := Hid.intro (Sm.of hkb)
    have HF := Hid.intro hf
    clear hf hkb
    go_enter Try.func15, Try.ntmps15
    go_wp2_with fail
    obtain ⟨W, hW, bW, zW, c1, f1, c2, f2⟩ := boxed2 w #[.int .i64 S.k.t, .int .i64 S.k.v, .int .i64 S.k.si, .int .i64 S.k.st, .string S.k.sd, v, .slice au S.l.length cu] #[.int .i64 0, .int .i64 0, .int .i64 0, .int .i64 0, .string ⟨#[]⟩, .slice none 0 0] 31 28
    simp only [hW]
    refine (specStoreOk_any S v _ N W (by omega) (HR.out.kept (bW.mono hN)) (HU.out.kept (bW.mono hN))).mono ?_
    rintro e w1 ⟨rfl, b1⟩
    rw [hsb]
    replace c1 := keepC b1 (by omega) c1
    replace c2 := keepC b1 (by omega) c2
    replace f2 := keepF b1 (by omega) f2
    have hz1 : w.heap.size + 1 < w1.heap.size := by have := b1.size; omega
    have HB := Hid.intro (bW.trans (b1.mono (by omega)))
    clear hW bW zW f1 b1 hsb
    go_wp2_with fail
    refine (l3Fold_any S v _ N ((S.l.length : Nat) : Int) w1 (Nat.le_trans hN (by omega)) (HR.out.kept (HB.out.mono hN)) (HU.out.kept (HB.out.mono hN)) HSM.out (by omega)).mono ?_
    rintro e w2 (⟨K2, v', hf, rfl, o2, b2⟩ | ⟨hf, K2, a2, m2, cap2, rfl, b2⟩)
    · obtain ⟨a2, cap2, rfl⟩ := o2.slice
      rw [firstN_len, HF.out] at hf
      cases hf
      replace c2 := keepC b2 hz1 c2
      replace f2 := keepF b2 hz1 f2
      have z2 : w1.heap.size ≤ w2.heap.size := b2.size
      have hz2 : w.heap.size + 1 < w2.heap.size := by omega
      have HO := Hid.intro o2
      have HB2 := Hid.intro (HB.out.trans (b2.mono HB.out.size))
      clear o2 b2 c1
      go_wp2
      refine bodyPost_ret (v := kpV K1 (.slice a2 K1.e.length cap2)) (by simp [results, Try.results15, go_sem, c2, hz2]) rfl ⟨_, rfl, ?_, ?_⟩
      · refine OwnE.lower (OwnE.only HO.out (S := fun k => k = w.heap.size + 1) ?_ (fun k hk h => by have := (HO.out.lt k hk).1; omega)) (show w.heap.size ≤ w1.heap.size by omega)
        refine Only.alloc ?_ _
        repeat (refine Only.setCell ?_ (by simp) _)
        exact Only.refl _ _
      · refine Below.alloc ?_ (by simp; omega) _
        repeat (refine Below.setCell ?_ (by simp <;> omega) _)
        exact HB2.out
    · rw [firstN_len, HF.out] at hf
      cases hf
end Go.Proofs.Ytkilepoimocoeaa
namespace Go.Proofs.Ytkilepoimocoeaa
open Go.RowKit
set_option linter.unusedVariables false
/-- A variable of type Kept at block b, its row from block base on. -/
structure KW (y : World) (b base : Nat) (K : Kp) (v : Value) : Prop where
  hi : b < y.heap.size
  cell : ∀ o, y.cell? ⟨b, o, none⟩ = #[.int .i64 K.t, .int .i64 K.v, .int .i64 K.si, .int .i64 K.st, .string K.sd, v][o]?
  own : OwnE y base v K.e
theorem KW.keptB {y y' : World} {b base B : Nat} {K : Kp} {v : Value} (h : KW y b base K v) (hb : Below B y y') (h1 : b < B) (h2 : ∀ k, v.ownBlock = some k → k < B) : KW y' b base K v :=
  ⟨Nat.lt_of_lt_of_le h.hi hb.size, keepC hb h1 h.cell, h.own.keptB hb h2⟩
theorem KW.kept {y y' : World} {b base : Nat} {K : Kp} {v : Value} (h : KW y b base K v) (hb : Below y.heap.size y y') : KW y' b base K v :=
  h.keptB hb h.hi (fun k hk => (h.own.lt k hk).2)
theorem KW.only {y y' : World} {b base : Nat} {K : Kp} {v : Value} {S : Nat → Prop} (h : KW y b base K v) (hb : Only S y y') (h1 : ¬ S b) (h2 : ∀ k, v.ownBlock = some k → ¬ S k) : KW y' b base K v :=
  ⟨Nat.lt_of_lt_of_le h.hi hb.size, fun o => (hb.cell h.hi h1).trans (h.cell o), h.own.only hb h2⟩
/-- A variable of type Store at block b, its rows from block base on. -/
structure SV (y : World) (b base : Nat) (S : Sto) (v u : Value) : Prop where
  hi : b < y.heap.size
  cell : ∀ o, y.cell? ⟨b, o, none⟩ = #[.int .i64 S.k.t, .int .i64 S.k.v, .int .i64 S.k.si, .int .i64 S.k.st, .string S.k.sd, v, u][o]?
  e : OwnE y base v S.k.e
  r : OwnR y base u S.l
theorem SV.keptB {y y' : World} {b base B : Nat} {S : Sto} {v u : Value} (h : SV y b base S v u) (hb : Below B y y') (h1 : b < B) (h2 : ∀ k, v.ownBlock = some k → k < B) (h3 : ∀ k, u.ownBlock = some k → k < B) : SV y' b base S v u :=
  ⟨Nat.lt_of_lt_of_le h.hi hb.size, keepC hb h1 h.cell, h.e.keptB hb h2, h.r.keptB hb h3⟩
theorem SV.kept {y y' : World} {b base : Nat} {S : Sto} {v u : Value} (h : SV y b base S v u) (hb : Below y.heap.size y y') : SV y' b base S v u :=
  h.keptB hb h.hi (fun k hk => (h.e.lt k hk).2) (fun k hk => (h.r.lt k hk).2)
theorem SV.only {y y' : World} {b base : Nat} {S : Sto} {v u : Value} {T : Nat → Prop} (h : SV y b base S v u) (hb : Only T y y') (h1 : ¬ T b) (h2 : ∀ k, v.ownBlock = some k → ¬ T k) (h3 : ∀ k, u.ownBlock = some k → ¬ T k) : SV y' b base S v u :=
  ⟨Nat.lt_of_lt_of_le h.hi hb.size, fun o => (hb.cell h.hi h1).trans (h.cell o), h.e.only hb h2, h.r.only hb h3⟩
/-- A law's own argument: a store, in the block just behind the caller's. -/
structure BaseS (w : World) (S : Sto) (v u : Value) (y : World) : Prop where
  a : ∀ o, y.cell? ⟨w.heap.size, o, none⟩ = #[.int .i64 S.k.t, .int .i64 S.k.v, .int .i64 S.k.si, .int .i64 S.k.st, .string S.k.sd, v, u][o]?
  e : RowE y w.heap.size v S.k.e
  r : RowR y w.heap.size u S.l
  sz : w.heap.size < y.heap.size
  bel : Below w.heap.size w y
theorem BaseS.kept {w y y' : World} {S : Sto} {v u : Value} {B : Nat} (h : BaseS w S v u y) (hb : Below B y y') (hB : w.heap.size < B) : BaseS w S v u y' :=
  ⟨keepC hb hB h.a, h.e.kept (hb.mono (by omega)), h.r.kept (hb.mono (by omega)), Nat.lt_of_lt_of_le h.sz hb.size, h.bel.trans (hb.mono (by omega))⟩
theorem heldK_len (S : Sto) : (heldK S).e.length ≤ 60 := by
  cases h : storeB S with
  | false => rw [heldK_no h]; simp [kpZ]
  | true =>
    obtain ⟨hk, _, K, hf⟩ := storeB_out h
    rw [heldK_yes h hf]
    exact ((Sm.of hk).fold hf).2.2
end Go.Proofs.Ytkilepoimocoeaa
namespace Go.Proofs.Ytkilepoimocoeaa
open Go.RowKit
set_option linter.unusedVariables false
def clampN (n : Int) (m : Nat) : Nat := (max 0 (min n (m : Int))).toNat
theorem clampN_le (n : Int) (m : Nat) : clampN n m ≤ m := by unfold clampN; omega
theorem firstN_clamp (n : Int) (l : List Rc) : firstN n l = l.take (clampN n l.length) := by
  unfold firstN clampN
  by_cases h : n.toNat ≤ l.length
  · congr 1; omega
  · rw [List.take_of_length_le (by omega), List.take_of_length_le (by omega)]
theorem clamp_any (n : Int) (m : Nat) (w : World) : Calls Try.prog 48 #[.int .i64 n, .int .i64 m] w fun e w' => e = .returned (.int .i64 ((clampN n m : Nat) : Int)) ∧ Below w.heap.size w w' := by
  go_enter Try.func48, Try.ntmps48
  go_wp2
  all_goals go_ret
  all_goals exact ⟨ret_int (by unfold clampN; omega), Below.refl _ _⟩
def loseS (S : Sto) (n : Int) : Sto := if storeB S = true then ⟨afterK S.k (firstN n S.l), []⟩ else ⟨kpZ, []⟩
theorem loseS_no {S : Sto} {n : Int} (h : storeB S = false) : loseS S n = ⟨kpZ, []⟩ := by simp [loseS, h]
theorem loseS_yes {S : Sto} {n : Int} (h : storeB S = true) : loseS S n = ⟨afterK S.k (firstN n S.l), []⟩ := by simp [loseS, h]
theorem loseS_l (S : Sto) (n : Int) : (loseS S n).l = [] := by unfold loseS; split <;> rfl
theorem loseS_len (S : Sto) (n : Int) : (loseS S n).k.e.length ≤ 60 := by
  cases h : storeB S with
  | false => rw [loseS_no h]; simp [kpZ]
  | true =>
    obtain ⟨hk, _, K, hf⟩ := storeB_out h
    obtain ⟨K1, h1⟩ := foldK_take hf n.toNat
    rw [loseS_yes h]
    have e : foldK S.k (firstN n S.l) = some K1 := h1
    simp only [afterK_some e]
    exact ((Sm.of hk).fold e).2.2
def syncS (S : Sto) : Sto := loseS S ((S.l.length : Nat) : Int)
theorem syncS_l (S : Sto) : (syncS S).l = [] := loseS_l _ _
theorem syncS_len (S : Sto) : (syncS S).k.e.length ≤ 60 := loseS_len _ _
def SLo (S : Sto) (v u : Value) (b : Nat) (w' : World) : Prop := w'.cell? ⟨b, 0, none⟩ = some (.int .i64 S.k.t) ∧ w'.cell? ⟨b, 1, none⟩ = some (.int .i64 S.k.v) ∧ w'.cell? ⟨b, 2, none⟩ = some (.int .i64 S.k.si) ∧ w'.cell? ⟨b, 3, none⟩ = some (.int .i64 S.k.st) ∧ w'.cell? ⟨b, 4, none⟩ = some (.string S.k.sd) ∧ w'.cell? ⟨b, 5, none⟩ = some v ∧ w'.cell? ⟨b, 6, none⟩ = some u
set_option maxRecDepth 100000 in
set_option maxHeartbeats 8000000 in
theorem implLose_any (S : Sto) (v u : Value) (N : Nat) (n : Int) (w : World) (hN : N ≤ w.heap.size) (hr : RowE w N v S.k.e) (hu : RowR w N u S.l) :
    Calls Try.prog 17 #[stV S v u, .int .i64 n] w fun e w' => ∃ v' u', e = .returned (stV (loseS S n) v' u') ∧ NewS w w' v' u' (loseS S n) := by
  have HR := Hid.intro hr
  have HU := Hid.intro hu
  obtain ⟨au, cu, rfl, lu, mu, _⟩ := hu
  clear hr
  cases hsb : storeB S with
  | false =>
    rw [loseS_no hsb]
    go_enter Try.func17, Try.ntmps17
    go_wp2_with fail
    obtain ⟨W, hW, bW, zW, c1, f1, c2, f2⟩ := boxed2 w #[.int .i64 S.k.t, .int .i64 S.k.v, .int .i64 S.k.si, .int .i64 S.k.st, .string S.k.sd, v, .slice au S.l.length cu] #[.int .i64 0, .int .i64 0, .int .i64 0, .int .i64 0, .string ⟨#[]⟩, .slice none 0 0, .slice none 0 0] 31 31
    simp only [hW]
    refine (implStoreOk_any S v _ N W (by omega) (HR.out.kept (bW.mono hN)) (HU.out.kept (bW.mono hN))).mono ?_
    rintro e w1 ⟨rfl, b1⟩
    rw [hsb]
    replace c2 := keepC b1 (by omega) c2
    replace f2 := keepF b1 (by omega) f2
    have hz1 : w.heap.size + 1 < w1.heap.size := by have := b1.size; omega
    have HB := Hid.intro (bW.trans (b1.mono (by omega)))
    clear hW bW zW b1 f1 c1
    go_wp2
    refine bodyPost_ret (v := stV ⟨kpZ, []⟩ (.slice none 0 0) (.slice none 0 0)) (by simp [results, Try.results17, go_sem, c2, kpZ]) rfl ⟨_, _, rfl, OwnE.nil _ _, OwnR.nil _ _, (fun k hk h => by cases h), ?_⟩
    repeat (refine Below.setCell ?_ (by simp <;> omega) _)
    exact HB.out
  | true =>
    obtain ⟨hkb, h80, K0, hf0⟩ := storeB_out hsb
    rw [loseS_yes hsb, firstN_clamp]
    have HSM := Hid.intro (Sm.of hkb)
    have hcl := clampN_le n S.l.length
    have hcc : clampN n S.l.length ≤ cu := by omega
    clear hkb hf0
    go_enter Try.func17, Try.ntmps17
    go_wp2_with fail
    obtain ⟨W, hW, bW, zW, c1, f1, c2, f2⟩ := boxed2 w #[.int .i64 S.k.t, .int .i64 S.k.v, .int .i64 S.k.si, .int .i64 S.k.st, .string S.k.sd, v, .slice au S.l.length cu] #[.int .i64 0, .int .i64 0, .int .i64 0, .int .i64 0, .string ⟨#[]⟩, .slice none 0 0, .slice none 0 0] 31 31
    simp only [hW]
    refine (implStoreOk_any S v _ N W (by omega) (HR.out.kept (bW.mono hN)) (HU.out.kept (bW.mono hN))).mono ?_
    rintro e w1 ⟨rfl, b1⟩
    rw [hsb]
    have hz1 : w.heap.size + 1 < w1.heap.size := by have := b1.size; omega
    have B1 := bW.trans (b1.mono (by omega))
    have HC : Hid (∀ w', Below w1.heap.size w1 w' → RowE w' N v S.k.e ∧ RowR w' N (.slice au S.l.length cu) S.l ∧ w.heap.size ≤ w'.heap.size ∧ (∀ o, w'.cell? ⟨w.heap.size + 1, o, none⟩ = #[.int .i64 0, .int .i64 0, .int .i64 0, .int .i64 0, .string ⟨#[]⟩, .slice none 0 0, .slice none 0 0][o]?) ∧ (∀ o, w'.frozen? ⟨w.heap.size + 1, o, none⟩ = false) ∧ w.heap.size + 1 < w'.heap.size) := fun w' hb =>
      ⟨HR.out.kept ((B1.trans (hb.mono (by omega))).mono hN), HU.out.kept ((B1.trans (hb.mono (by omega))).mono hN), by have := hb.size; omega, keepC hb hz1 (keepC b1 (by omega) c2), keepF hb hz1 (keepF b1 (by omega) f2), by have := hb.size; omega⟩
    replace c1 := keepC b1 (by omega) c1
    have HS : Hid (∀ w', Below w1.heap.size w1 w' → SLo S v (.slice au S.l.length cu) w.heap.size w') := fun w' hb => by
      have d1 := keepC hb (by omega) c1
      exact ⟨by rw [d1]; rfl, by rw [d1]; rfl, by rw [d1]; rfl, by rw [d1]; rfl, by rw [d1]; rfl, by rw [d1]; rfl, by rw [d1]; rfl⟩
    clear hW bW zW b1 f1 c1 c2 f2 hsb
    go_wp2_with fail
    refine wp_region_held_drew (S := SLo S v (.slice au S.l.length cu) w.heap.size) (by kernel_rfl) (HS.out _ (Below.refl _ _).drew) (fun hHeld => ?_)
    have BWD : Below w1.heap.size w1 w1.drew := (Below.refl _ _).drew
    generalize w1.drew = D at BWD hHeld ⊢
    refine take1s (i := 0) (d := some 12) (v := ?_) rfl rfl (by kernel_rfl) (by kernel_rfl) (by kernel_rfl) (fun _ _ _ h => h) (Or.inl ⟨by rfl, ?_⟩) (by assumption) ?_
    rotate_left 1
    · intro w hSw
      obtain ⟨q0, q1, q2, q3, q4, q5, q6⟩ := hSw
      go_simp <;> with_reducible rfl
    simp only [Act.put, List.setIfInBounds_toArray]
    try simp only [List.set_cons_succ]
    try simp only [List.set_cons_zero]
    refine take1s (i := 1) (d := some 13) (v := ?_) rfl rfl (by kernel_rfl) (by kernel_rfl) (by kernel_rfl) (fun _ _ _ h => h) (Or.inl ⟨by rfl, ?_⟩) (by assumption) ?_
    rotate_left 1
    · intro w hSw
      obtain ⟨q0, q1, q2, q3, q4, q5, q6⟩ := hSw
      go_simp <;> with_reducible rfl
    simp only [Act.put, List.setIfInBounds_toArray]
    try simp only [List.set_cons_succ]
    try simp only [List.set_cons_zero]
    refine take1s (i := 2) (d := some 14) (v := ?_) rfl rfl (by kernel_rfl) (by kernel_rfl) (by kernel_rfl) (fun _ _ _ h => h) (Or.inl ⟨by rfl, ?_⟩) (by assumption) ?_
    rotate_left 1
    · intro w hSw
      obtain ⟨q0, q1, q2, q3, q4, q5, q6⟩ := hSw
      go_simp <;> with_reducible rfl
    simp only [Act.put, List.setIfInBounds_toArray]
    try simp only [List.set_cons_succ]
    try simp only [List.set_cons_zero]
    refine take1s (i := 3) (d := some 15) (v := ?_) rfl rfl (by kernel_rfl) (by kernel_rfl) (by kernel_rfl) (fun _ _ _ h => h) (Or.inl ⟨by rfl, ?_⟩) (by assumption) ?_
    rotate_left 1
    · intro w hSw
      obtain ⟨q0, q1, q2, q3, q4, q5, q6⟩ := hSw
      go_simp <;> with_reducible rfl
    simp only [Act.put, List.setIfInBounds_toArray]
    try simp only [List.set_cons_succ]
    try simp only [List.set_cons_zero]
    refine take1s (i := 4) (d := some 16) (v := ?_) rfl rfl (by kernel_rfl) (by kernel_rfl) (by kernel_rfl) (fun _ _ _ h => h) (Or.inl ⟨by rfl, ?_⟩) (by assumption) ?_
    rotate_left 1
    · intro w hSw
      obtain ⟨q0, q1, q2, q3, q4, q5, q6⟩ := hSw
      go_simp <;> with_reducible rfl
    simp only [Act.put, List.setIfInBounds_toArray]
    try simp only [List.set_cons_succ]
    try simp only [List.set_cons_zero]
    refine take1s (i := 5) (d := some 17) (v := ?_) rfl rfl (by kernel_rfl) (by kernel_rfl) (by kernel_rfl) (fun _ _ _ h => h) (Or.inl ⟨by rfl, ?_⟩) (by assumption) ?_
    rotate_left 1
    · intro w hSw
      obtain ⟨q0, q1, q2, q3, q4, q5, q6⟩ := hSw
      go_simp <;> with_reducible rfl
    simp only [Act.put, List.setIfInBounds_toArray]
    try simp only [List.set_cons_succ]
    try simp only [List.set_cons_zero]
    refine take1s (i := 6) (d := some 18) (v := ?_) rfl rfl (by kernel_rfl) (by kernel_rfl) (by kernel_rfl) (fun _ _ _ h => h) (Or.inl ⟨by rfl, ?_⟩) (by assumption) ?_
    rotate_left 1
    · intro w hSw
      obtain ⟨q0, q1, q2, q3, q4, q5, q6⟩ := hSw
      go_simp <;> with_reducible rfl
    simp only [Act.put, List.setIfInBounds_toArray]
    try simp only [List.set_cons_succ]
    try simp only [List.set_cons_zero]
    refine take1s (i := 7) (d := some 19) (v := ?_) rfl rfl (by kernel_rfl) (by kernel_rfl) (by kernel_rfl) (fun _ _ _ h => h) (Or.inl ⟨by rfl, ?_⟩) (by assumption) ?_
    rotate_left 1
    · intro w hSw
      obtain ⟨q0, q1, q2, q3, q4, q5, q6⟩ := hSw
      go_simp <;> with_reducible rfl
    simp only [Act.put, List.setIfInBounds_toArray]
    try simp only [List.set_cons_succ]
    try simp only [List.set_cons_zero]
    refine wpAnyH_ready (rs := [8, 14]) (by kernel_rfl) (by simp) ?_
    refine AllReadyH.cons rfl (fun KK hKK => ?_) (AllReadyH.cons rfl (fun KK hKK => ?_) AllReadyH.nil)
    · skip
      go_simp
      refine (clamp_any n S.l.length _).mono ?_
      rintro e wA ⟨rfl, bwA⟩
      have BWwA : Below w1.heap.size w1 wA := BWD.trans (bwA.mono BWD.size)
      go_simp
      refine hKK.out _ _ (HS.out _ BWwA) (fun hHeld2 => ?_)
      clear hKK KK hHeld
      have hHeld := hHeld2
      clear hHeld2
      refine take1s (i := 9) (d := some 21) (v := ?_) rfl rfl (by kernel_rfl) (by kernel_rfl) (by kernel_rfl) (fun _ _ _ h => h) (Or.inl ⟨by rfl, ?_⟩) (by assumption) ?_
      rotate_left 1
      · intro w hSw
        obtain ⟨q0, q1, q2, q3, q4, q5, q6⟩ := hSw
        go_simp <;> with_reducible rfl
      simp only [Act.put, List.setIfInBounds_toArray]
      try simp only [List.set_cons_succ]
      try simp only [List.set_cons_zero]
      refine wpAnyH_ready (rs := [10, 14]) (by kernel_rfl) (by simp) ?_
      refine AllReadyH.cons rfl (fun KK hKK => ?_) (AllReadyH.cons rfl (fun KK hKK => ?_) AllReadyH.nil)
      · skip
        go_simp
        refine (after_any S.k v N (S.l.take (clampN n S.l.length)) _ wA (Nat.le_trans hN (HC.out _ BWwA).2.2.1) (HC.out _ BWwA).1 ((HC.out _ BWwA).2.1.take hcl) HSM.out (by simp; omega)).mono ?_
        rintro e wB ⟨vB, rfl, oB, bwB⟩
        obtain ⟨aB, capB, rfl⟩ := oB.slice
        have HN : Hid (∀ k, (Value.slice aB (afterK S.k (S.l.take (clampN n S.l.length))).e.length capB).ownBlock = some k → ¬ k = wB.heap.size ∧ w1.heap.size ≤ k) := fun k hk => ⟨fun h => by have := (oB.lt k hk).2; omega, Nat.le_trans BWwA.size (oB.lt k hk).1⟩
        have HOB := Hid.intro (OwnE.lower oB BWwA.size)
        clear oB
        have BWwB : Below w1.heap.size w1 wB := BWwA.trans (bwB.mono BWwA.size)
        go_simp
        refine hKK.out _ _ (HS.out _ BWwB) (fun hHeld2 => ?_)
        clear hKK KK hHeld
        have hHeld := hHeld2
        clear hHeld2
        refine take1s (i := 11) (d := some 11) (v := ?_) rfl rfl (by kernel_rfl) (by kernel_rfl) (by kernel_rfl) (fun _ _ _ h => h) (Or.inl ⟨by rfl, ?_⟩) (by assumption) ?_
        rotate_left 1
        · intro w hSw
          obtain ⟨q0, q1, q2, q3, q4, q5, q6⟩ := hSw
          go_simp <;> with_reducible rfl
        simp only [Act.put, List.setIfInBounds_toArray]
        try simp only [List.set_cons_succ]
        try simp only [List.set_cons_zero]
        refine take1s (i := 12) (d := some 23) (v := ?_) rfl rfl (by kernel_rfl) (by kernel_rfl) (by kernel_rfl) (fun _ _ _ h => h) (Or.inl ⟨by rfl, ?_⟩) (by assumption) ?_
        rotate_left 1
        · intro w hSw
          obtain ⟨q0, q1, q2, q3, q4, q5, q6⟩ := hSw
          go_simp <;> with_reducible rfl
        simp only [Act.put, List.setIfInBounds_toArray]
        try simp only [List.set_cons_succ]
        try simp only [List.set_cons_zero]
        refine take1s (i := 13) (d := some 24) (v := ?_) rfl rfl (by kernel_rfl) (by kernel_rfl) (by kernel_rfl) (fun _ _ _ h => h) (Or.inl ⟨by rfl, ?_⟩) (by assumption) ?_
        rotate_left 1
        · intro w hSw
          obtain ⟨q0, q1, q2, q3, q4, q5, q6⟩ := hSw
          go_simp <;> with_reducible rfl
        simp only [Act.put, List.setIfInBounds_toArray]
        try simp only [List.set_cons_succ]
        try simp only [List.set_cons_zero]
        refine wpAnyH_ready (rs := [14]) (by kernel_rfl) (by simp) ?_
        refine AllReadyH.cons rfl (fun KK hKK => ?_) AllReadyH.nil
        go_simp
        have bX := (Below.refl wB.heap.size wB).alloc (Nat.le_refl _) (.cells #[.int .i64 0, .int .i64 0, .int .i64 0, .int .i64 0, .string ⟨#[]⟩, .slice none 0 0] 28)
        have zk6 : wB.heap.size < (wB.alloc (.cells #[.int .i64 0, .int .i64 0, .int .i64 0, .int .i64 0, .string ⟨#[]⟩, .slice none 0 0] 28)).heap.size := by simp
        have k6 : ∀ o, (wB.alloc (.cells #[.int .i64 0, .int .i64 0, .int .i64 0, .int .i64 0, .string ⟨#[]⟩, .slice none 0 0] 28)).cell? ⟨wB.heap.size, o, none⟩ = #[.int .i64 0, .int .i64 0, .int .i64 0, .int .i64 0, .string ⟨#[]⟩, .slice none 0 0][o]? := fun o => World.cell?_alloc_at _ _ _ _ rfl
        have g6 : ∀ o, (wB.alloc (.cells #[.int .i64 0, .int .i64 0, .int .i64 0, .int .i64 0, .string ⟨#[]⟩, .slice none 0 0] 28)).frozen? ⟨wB.heap.size, o, none⟩ = false := fun o => World.frozen?_alloc_at _ _ _ _ rfl
        generalize wB.alloc (.cells #[.int .i64 0, .int .i64 0, .int .i64 0, .int .i64 0, .string ⟨#[]⟩, .slice none 0 0] 28) = X at bX zk6 k6 g6 ⊢
        have BWX : Below w1.heap.size w1 X := BWwB.trans (bX.mono BWwB.size)
        replace HOB := Hid.intro (HOB.out.kept bX)
        refine hKK.out _ _ (HS.out _ BWX) (fun hHeld2 => ?_)
        clear hKK KK hHeld
        have hHeld := hHeld2
        clear hHeld2
        refine wpAnyH_ready (rs := [15]) (by kernel_rfl) (by simp) ?_
        refine AllReadyH.cons rfl (fun KK hKK => ?_) AllReadyH.nil
        go_simp
        obtain ⟨Y, hY, cY, oY, zY, _⟩ := put6 (x0 := .int .i64 (afterK S.k (S.l.take (clampN n S.l.length))).t) (x1 := .int .i64 (afterK S.k (S.l.take (clampN n S.l.length))).v) (x2 := .int .i64 (afterK S.k (S.l.take (clampN n S.l.length))).si) (x3 := .int .i64 (afterK S.k (S.l.take (clampN n S.l.length))).st) (x4 := .string (afterK S.k (S.l.take (clampN n S.l.length))).sd) (x5 := .slice aB (afterK S.k (S.l.take (clampN n S.l.length))).e.length capB) k6
        simp only [hY]
        have BWY := BWX.trans (oY.below BWX.size (fun k hk h => by have := BWwB.size; omega))
        refine hKK.out _ _ (HS.out _ BWY) (fun hHeld2 => ?_)
        clear hKK KK hHeld
        have hHeld := hHeld2
        clear hHeld2
        refine take1s (i := 16) (d := some 6) (v := ?_) rfl rfl (by kernel_rfl) (by kernel_rfl) (by kernel_rfl) (fun _ _ _ h => h) (Or.inl ⟨by rfl, ?_⟩) (by assumption) ?_
        rotate_left 1
        · intro w hSw
          obtain ⟨q0, q1, q2, q3, q4, q5, q6⟩ := hSw
          go_simp <;> with_reducible rfl
        simp only [Act.put, List.setIfInBounds_toArray]
        try simp only [List.set_cons_succ]
        try simp only [List.set_cons_zero]
        refine wpAnyH_done (by kernel_rfl) ?_ _
        have HOY := Hid.intro (HOB.out.only oY (fun k hk h => (HN.out k hk).1 h))
        obtain ⟨_, _, _, c2, f2, hz⟩ := HC.out _ BWY
        have HB := Hid.intro (B1.trans (BWY.mono B1.size))
        have hkb : ¬ w.heap.size + 1 = wB.heap.size := by have := BWwB.size; omega
        have HZ := Hid.intro hz1
        have hi : wB.heap.size < Y.heap.size := by have := zk6; omega
        clear HC HS hHeld k6 g6 zk6 oY hY zY HOB
        go_wp2
        refine bodyPost_ret (v := stV ⟨(afterK S.k (S.l.take (clampN n S.l.length))), []⟩ (.slice aB (afterK S.k (S.l.take (clampN n S.l.length))).e.length capB) (.slice none 0 0)) (by simp [results, Try.results17, go_sem, c2]) rfl ⟨_, _, rfl, ?_, OwnR.nil _ _, (fun k hk h => by cases h), ?_⟩
        · refine OwnE.lower (OwnE.only HOY.out (S := fun k => k = w.heap.size + 1) ?_ (fun k hk h => by have := (HN.out k hk).2; have := HZ.out; omega)) (show w.heap.size ≤ w1.heap.size by omega)
          repeat (refine Only.setCell ?_ (by simp) _)
          exact Only.refl _ _
        · repeat (refine Below.setCell ?_ (by simp <;> omega) _)
          exact HB.out
      · skip
        go_simp
        have bX := (Below.refl wA.heap.size wA).alloc (Nat.le_refl _) (.cells #[.int .i64 0, .int .i64 0, .int .i64 0, .int .i64 0, .string ⟨#[]⟩, .slice none 0 0] 28)
        have zk6 : wA.heap.size < (wA.alloc (.cells #[.int .i64 0, .int .i64 0, .int .i64 0, .int .i64 0, .string ⟨#[]⟩, .slice none 0 0] 28)).heap.size := by simp
        have k6 : ∀ o, (wA.alloc (.cells #[.int .i64 0, .int .i64 0, .int .i64 0, .int .i64 0, .string ⟨#[]⟩, .slice none 0 0] 28)).cell? ⟨wA.heap.size, o, none⟩ = #[.int .i64 0, .int .i64 0, .int .i64 0, .int .i64 0, .string ⟨#[]⟩, .slice none 0 0][o]? := fun o => World.cell?_alloc_at _ _ _ _ rfl
        have g6 : ∀ o, (wA.alloc (.cells #[.int .i64 0, .int .i64 0, .int .i64 0, .int .i64 0, .string ⟨#[]⟩, .slice none 0 0] 28)).frozen? ⟨wA.heap.size, o, none⟩ = false := fun o => World.frozen?_alloc_at _ _ _ _ rfl
        generalize wA.alloc (.cells #[.int .i64 0, .int .i64 0, .int .i64 0, .int .i64 0, .string ⟨#[]⟩, .slice none 0 0] 28) = X at bX zk6 k6 g6 ⊢
        have BWX : Below w1.heap.size w1 X := BWwA.trans (bX.mono BWwA.size)
        refine hKK.out _ _ (HS.out _ BWX) (fun hHeld2 => ?_)
        clear hKK KK hHeld
        have hHeld := hHeld2
        clear hHeld2
        refine wpAnyH_ready (rs := [10]) (by kernel_rfl) (by simp) ?_
        refine AllReadyH.cons rfl (fun KK hKK => ?_) AllReadyH.nil
        go_simp
        refine (after_any S.k v N (S.l.take (clampN n S.l.length)) _ X (Nat.le_trans hN (HC.out _ BWX).2.2.1) (HC.out _ BWX).1 ((HC.out _ BWX).2.1.take hcl) HSM.out (by simp; omega)).mono ?_
        rintro e wB ⟨vB, rfl, oB, bwB⟩
        obtain ⟨aB, capB, rfl⟩ := oB.slice
        have HN : Hid (∀ k, (Value.slice aB (afterK S.k (S.l.take (clampN n S.l.length))).e.length capB).ownBlock = some k → ¬ k = wA.heap.size ∧ w1.heap.size ≤ k) := fun k hk => ⟨fun h => by have := (oB.lt k hk).1; omega, Nat.le_trans BWX.size (oB.lt k hk).1⟩
        have HOB := Hid.intro (OwnE.lower oB BWX.size)
        clear oB
        have BWwB : Below w1.heap.size w1 wB := BWX.trans (bwB.mono BWX.size)
        replace k6 := keepC bwB zk6 k6
        replace g6 := keepF bwB zk6 g6
        replace zk6 : wA.heap.size < wB.heap.size := Nat.lt_of_lt_of_le zk6 bwB.size
        go_simp
        refine hKK.out _ _ (HS.out _ BWwB) (fun hHeld2 => ?_)
        clear hKK KK hHeld
        have hHeld := hHeld2
        clear hHeld2
        refine take1s (i := 11) (d := some 11) (v := ?_) rfl rfl (by kernel_rfl) (by kernel_rfl) (by kernel_rfl) (fun _ _ _ h => h) (Or.inl ⟨by rfl, ?_⟩) (by assumption) ?_
        rotate_left 1
        · intro w hSw
          obtain ⟨q0, q1, q2, q3, q4, q5, q6⟩ := hSw
          go_simp <;> with_reducible rfl
        simp only [Act.put, List.setIfInBounds_toArray]
        try simp only [List.set_cons_succ]
        try simp only [List.set_cons_zero]
        refine take1s (i := 12) (d := some 23) (v := ?_) rfl rfl (by kernel_rfl) (by kernel_rfl) (by kernel_rfl) (fun _ _ _ h => h) (Or.inl ⟨by rfl, ?_⟩) (by assumption) ?_
        rotate_left 1
        · intro w hSw
          obtain ⟨q0, q1, q2, q3, q4, q5, q6⟩ := hSw
          go_simp <;> with_reducible rfl
        simp only [Act.put, List.setIfInBounds_toArray]
        try simp only [List.set_cons_succ]
        try simp only [List.set_cons_zero]
        refine take1s (i := 13) (d := some 24) (v := ?_) rfl rfl (by kernel_rfl) (by kernel_rfl) (by kernel_rfl) (fun _ _ _ h => h) (Or.inl ⟨by rfl, ?_⟩) (by assumption) ?_
        rotate_left 1
        · intro w hSw
          obtain ⟨q0, q1, q2, q3, q4, q5, q6⟩ := hSw
          go_simp <;> with_reducible rfl
        simp only [Act.put, List.setIfInBounds_toArray]
        try simp only [List.set_cons_succ]
        try simp only [List.set_cons_zero]
        refine wpAnyH_ready (rs := [15]) (by kernel_rfl) (by simp) ?_
        refine AllReadyH.cons rfl (fun KK hKK => ?_) AllReadyH.nil
        go_simp
        obtain ⟨Y, hY, cY, oY, zY, _⟩ := put6 (x0 := .int .i64 (afterK S.k (S.l.take (clampN n S.l.length))).t) (x1 := .int .i64 (afterK S.k (S.l.take (clampN n S.l.length))).v) (x2 := .int .i64 (afterK S.k (S.l.take (clampN n S.l.length))).si) (x3 := .int .i64 (afterK S.k (S.l.take (clampN n S.l.length))).st) (x4 := .string (afterK S.k (S.l.take (clampN n S.l.length))).sd) (x5 := .slice aB (afterK S.k (S.l.take (clampN n S.l.length))).e.length capB) k6
        simp only [hY]
        have BWY := BWwB.trans (oY.below BWwB.size (fun k hk h => by have := BWwA.size; omega))
        refine hKK.out _ _ (HS.out _ BWY) (fun hHeld2 => ?_)
        clear hKK KK hHeld
        have hHeld := hHeld2
        clear hHeld2
        refine take1s (i := 16) (d := some 6) (v := ?_) rfl rfl (by kernel_rfl) (by kernel_rfl) (by kernel_rfl) (fun _ _ _ h => h) (Or.inl ⟨by rfl, ?_⟩) (by assumption) ?_
        rotate_left 1
        · intro w hSw
          obtain ⟨q0, q1, q2, q3, q4, q5, q6⟩ := hSw
          go_simp <;> with_reducible rfl
        simp only [Act.put, List.setIfInBounds_toArray]
        try simp only [List.set_cons_succ]
        try simp only [List.set_cons_zero]
        refine wpAnyH_done (by kernel_rfl) ?_ _
        have HOY := Hid.intro (HOB.out.only oY (fun k hk h => (HN.out k hk).1 h))
        obtain ⟨_, _, _, c2, f2, hz⟩ := HC.out _ BWY
        have HB := Hid.intro (B1.trans (BWY.mono B1.size))
        have hkb : ¬ w.heap.size + 1 = wA.heap.size := by have := BWwA.size; omega
        have HZ := Hid.intro hz1
        have hi : wA.heap.size < Y.heap.size := by have := zk6; omega
        clear HC HS hHeld k6 g6 zk6 oY hY zY HOB
        go_wp2
        refine bodyPost_ret (v := stV ⟨(afterK S.k (S.l.take (clampN n S.l.length))), []⟩ (.slice aB (afterK S.k (S.l.take (clampN n S.l.length))).e.length capB) (.slice none 0 0)) (by simp [results, Try.results17, go_sem, c2]) rfl ⟨_, _, rfl, ?_, OwnR.nil _ _, (fun k hk h => by cases h), ?_⟩
        · refine OwnE.lower (OwnE.only HOY.out (S := fun k => k = w.heap.size + 1) ?_ (fun k hk h => by have := (HN.out k hk).2; have := HZ.out; omega)) (show w.heap.size ≤ w1.heap.size by omega)
          repeat (refine Only.setCell ?_ (by simp) _)
          exact Only.refl _ _
        · repeat (refine Below.setCell ?_ (by simp <;> omega) _)
          exact HB.out
    · skip
      go_simp
      have bX := (Below.refl D.heap.size D).alloc (Nat.le_refl _) (.cells #[.int .i64 0, .int .i64 0, .int .i64 0, .int .i64 0, .string ⟨#[]⟩, .slice none 0 0] 28)
      have zk6 : D.heap.size < (D.alloc (.cells #[.int .i64 0, .int .i64 0, .int .i64 0, .int .i64 0, .string ⟨#[]⟩, .slice none 0 0] 28)).heap.size := by simp
      have k6 : ∀ o, (D.alloc (.cells #[.int .i64 0, .int .i64 0, .int .i64 0, .int .i64 0, .string ⟨#[]⟩, .slice none 0 0] 28)).cell? ⟨D.heap.size, o, none⟩ = #[.int .i64 0, .int .i64 0, .int .i64 0, .int .i64 0, .string ⟨#[]⟩, .slice none 0 0][o]? := fun o => World.cell?_alloc_at _ _ _ _ rfl
      have g6 : ∀ o, (D.alloc (.cells #[.int .i64 0, .int .i64 0, .int .i64 0, .int .i64 0, .string ⟨#[]⟩, .slice none 0 0] 28)).frozen? ⟨D.heap.size, o, none⟩ = false := fun o => World.frozen?_alloc_at _ _ _ _ rfl
      generalize D.alloc (.cells #[.int .i64 0, .int .i64 0, .int .i64 0, .int .i64 0, .string ⟨#[]⟩, .slice none 0 0] 28) = X at bX zk6 k6 g6 ⊢
      have BWX : Below w1.heap.size w1 X := BWD.trans (bX.mono BWD.size)
      refine hKK.out _ _ (HS.out _ BWX) (fun hHeld2 => ?_)
      clear hKK KK hHeld
      have hHeld := hHeld2
      clear hHeld2
      refine wpAnyH_ready (rs := [8]) (by kernel_rfl) (by simp) ?_
      refine AllReadyH.cons rfl (fun KK hKK => ?_) AllReadyH.nil
      go_simp
      refine (clamp_any n S.l.length _).mono ?_
      rintro e wA ⟨rfl, bwA⟩
      have BWwA : Below w1.heap.size w1 wA := BWX.trans (bwA.mono BWX.size)
      replace k6 := keepC bwA zk6 k6
      replace g6 := keepF bwA zk6 g6
      replace zk6 : D.heap.size < wA.heap.size := Nat.lt_of_lt_of_le zk6 bwA.size
      go_simp
      refine hKK.out _ _ (HS.out _ BWwA) (fun hHeld2 => ?_)
      clear hKK KK hHeld
      have hHeld := hHeld2
      clear hHeld2
      refine take1s (i := 9) (d := some 21) (v := ?_) rfl rfl (by kernel_rfl) (by kernel_rfl) (by kernel_rfl) (fun _ _ _ h => h) (Or.inl ⟨by rfl, ?_⟩) (by assumption) ?_
      rotate_left 1
      · intro w hSw
        obtain ⟨q0, q1, q2, q3, q4, q5, q6⟩ := hSw
        go_simp <;> with_reducible rfl
      simp only [Act.put, List.setIfInBounds_toArray]
      try simp only [List.set_cons_succ]
      try simp only [List.set_cons_zero]
      refine wpAnyH_ready (rs := [10]) (by kernel_rfl) (by simp) ?_
      refine AllReadyH.cons rfl (fun KK hKK => ?_) AllReadyH.nil
      go_simp
      refine (after_any S.k v N (S.l.take (clampN n S.l.length)) _ wA (Nat.le_trans hN (HC.out _ BWwA).2.2.1) (HC.out _ BWwA).1 ((HC.out _ BWwA).2.1.take hcl) HSM.out (by simp; omega)).mono ?_
      rintro e wB ⟨vB, rfl, oB, bwB⟩
      obtain ⟨aB, capB, rfl⟩ := oB.slice
      have HN : Hid (∀ k, (Value.slice aB (afterK S.k (S.l.take (clampN n S.l.length))).e.length capB).ownBlock = some k → ¬ k = D.heap.size ∧ w1.heap.size ≤ k) := fun k hk => ⟨fun h => by have := (oB.lt k hk).1; omega, Nat.le_trans BWwA.size (oB.lt k hk).1⟩
      have HOB := Hid.intro (OwnE.lower oB BWwA.size)
      clear oB
      have BWwB : Below w1.heap.size w1 wB := BWwA.trans (bwB.mono BWwA.size)
      replace k6 := keepC bwB zk6 k6
      replace g6 := keepF bwB zk6 g6
      replace zk6 : D.heap.size < wB.heap.size := Nat.lt_of_lt_of_le zk6 bwB.size
      go_simp
      refine hKK.out _ _ (HS.out _ BWwB) (fun hHeld2 => ?_)
      clear hKK KK hHeld
      have hHeld := hHeld2
      clear hHeld2
      refine take1s (i := 11) (d := some 11) (v := ?_) rfl rfl (by kernel_rfl) (by kernel_rfl) (by kernel_rfl) (fun _ _ _ h => h) (Or.inl ⟨by rfl, ?_⟩) (by assumption) ?_
      rotate_left 1
      · intro w hSw
        obtain ⟨q0, q1, q2, q3, q4, q5, q6⟩ := hSw
        go_simp <;> with_reducible rfl
      simp only [Act.put, List.setIfInBounds_toArray]
      try simp only [List.set_cons_succ]
      try simp only [List.set_cons_zero]
      refine take1s (i := 12) (d := some 23) (v := ?_) rfl rfl (by kernel_rfl) (by kernel_rfl) (by kernel_rfl) (fun _ _ _ h => h) (Or.inl ⟨by rfl, ?_⟩) (by assumption) ?_
      rotate_left 1
      · intro w hSw
        obtain ⟨q0, q1, q2, q3, q4, q5, q6⟩ := hSw
        go_simp <;> with_reducible rfl
      simp only [Act.put, List.setIfInBounds_toArray]
      try simp only [List.set_cons_succ]
      try simp only [List.set_cons_zero]
      refine take1s (i := 13) (d := some 24) (v := ?_) rfl rfl (by kernel_rfl) (by kernel_rfl) (by kernel_rfl) (fun _ _ _ h => h) (Or.inl ⟨by rfl, ?_⟩) (by assumption) ?_
      rotate_left 1
      · intro w hSw
        obtain ⟨q0, q1, q2, q3, q4, q5, q6⟩ := hSw
        go_simp <;> with_reducible rfl
      simp only [Act.put, List.setIfInBounds_toArray]
      try simp only [List.set_cons_succ]
      try simp only [List.set_cons_zero]
      refine wpAnyH_ready (rs := [15]) (by kernel_rfl) (by simp) ?_
      refine AllReadyH.cons rfl (fun KK hKK => ?_) AllReadyH.nil
      go_simp
      obtain ⟨Y, hY, cY, oY, zY, _⟩ := put6 (x0 := .int .i64 (afterK S.k (S.l.take (clampN n S.l.length))).t) (x1 := .int .i64 (afterK S.k (S.l.take (clampN n S.l.length))).v) (x2 := .int .i64 (afterK S.k (S.l.take (clampN n S.l.length))).si) (x3 := .int .i64 (afterK S.k (S.l.take (clampN n S.l.length))).st) (x4 := .string (afterK S.k (S.l.take (clampN n S.l.length))).sd) (x5 := .slice aB (afterK S.k (S.l.take (clampN n S.l.length))).e.length capB) k6
      simp only [hY]
      have BWY := BWwB.trans (oY.below BWwB.size (fun k hk h => by have := BWD.size; omega))
      refine hKK.out _ _ (HS.out _ BWY) (fun hHeld2 => ?_)
      clear hKK KK hHeld
      have hHeld := hHeld2
      clear hHeld2
      refine take1s (i := 16) (d := some 6) (v := ?_) rfl rfl (by kernel_rfl) (by kernel_rfl) (by kernel_rfl) (fun _ _ _ h => h) (Or.inl ⟨by rfl, ?_⟩) (by assumption) ?_
      rotate_left 1
      · intro w hSw
        obtain ⟨q0, q1, q2, q3, q4, q5, q6⟩ := hSw
        go_simp <;> with_reducible rfl
      simp only [Act.put, List.setIfInBounds_toArray]
      try simp only [List.set_cons_succ]
      try simp only [List.set_cons_zero]
      refine wpAnyH_done (by kernel_rfl) ?_ _
      have HOY := Hid.intro (HOB.out.only oY (fun k hk h => (HN.out k hk).1 h))
      obtain ⟨_, _, _, c2, f2, hz⟩ := HC.out _ BWY
      have HB := Hid.intro (B1.trans (BWY.mono B1.size))
      have hkb : ¬ w.heap.size + 1 = D.heap.size := by have := BWD.size; omega
      have HZ := Hid.intro hz1
      have hi : D.heap.size < Y.heap.size := by have := zk6; omega
      clear HC HS hHeld k6 g6 zk6 oY hY zY HOB
      go_wp2
      refine bodyPost_ret (v := stV ⟨(afterK S.k (S.l.take (clampN n S.l.length))), []⟩ (.slice aB (afterK S.k (S.l.take (clampN n S.l.length))).e.length capB) (.slice none 0 0)) (by simp [results, Try.results17, go_sem, c2]) rfl ⟨_, _, rfl, ?_, OwnR.nil _ _, (fun k hk h => by cases h), ?_⟩
      · refine OwnE.lower (OwnE.only HOY.out (S := fun k => k = w.heap.size + 1) ?_ (fun k hk h => by have := (HN.out k hk).2; have := HZ.out; omega)) (show w.heap.size ≤ w1.heap.size by omega)
        repeat (refine Only.setCell ?_ (by simp) _)
        exact Only.refl _ _
      · repeat (refine Below.setCell ?_ (by simp <;> omega) _)
        exact HB.out
set_option maxRecDepth 100000 in
set_option maxHeartbeats 4000000 in
theorem implSync_any (S : Sto) (v u : Value) (N : Nat) (w : World) (hN : N ≤ w.heap.size) (hr : RowE w N v S.k.e) (hu : RowR w N u S.l) :
    Calls Try.prog 13 #[stV S v u] w fun e w' => ∃ v' u', e = .returned (stV (syncS S) v' u') ∧ NewS w w' v' u' (syncS S) := by
  have HR := Hid.intro hr
  have HU := Hid.intro hu
  obtain ⟨au, cu, rfl, lu, mu, _⟩ := hu
  clear hr
  go_enter Try.func13, Try.ntmps13
  go_wp2_with fail
  obtain ⟨W, hW, bW, zW, c1, f1, c2, f2⟩ := boxed2 w #[.int .i64 S.k.t, .int .i64 S.k.v, .int .i64 S.k.si, .int .i64 S.k.st, .string S.k.sd, v, .slice au S.l.length cu] #[.int .i64 0, .int .i64 0, .int .i64 0, .int .i64 0, .string ⟨#[]⟩, .slice none 0 0, .slice none 0 0] 31 31
  simp only [hW]
  refine (implLose_any S v _ N ((S.l.length : Nat) : Int) W (by omega) (HR.out.kept (bW.mono hN)) (HU.out.kept (bW.mono hN))).mono ?_
  rintro e w1 ⟨v1, u1, rfl, n1⟩
  obtain ⟨a1, cap1, rfl⟩ := n1.e.slice
  obtain ⟨au1, cu1, rfl⟩ := n1.r.slice
  replace c2 := keepC n1.bel (by omega) c2
  replace f2 := keepF n1.bel (by omega) f2
  have hz1 : w.heap.size + 1 < w1.heap.size := by have := n1.bel.size; omega
  have HB := Hid.intro (bW.trans (n1.bel.mono (by omega)))
  have HN := Hid.intro n1
  have HZ : Hid (W.heap.size = w.heap.size + 1 + 1) := zW
  clear hW bW zW c1 f1 n1
  go_wp2
  refine bodyPost_ret (v := stV (syncS S) (.slice a1 (syncS S).k.e.length cap1) (.slice au1 (syncS S).l.length cu1)) (by simp [results, Try.results13, go_sem, c2, syncS]) rfl ⟨_, _, rfl, ?_, ?_, HN.out.dis, ?_⟩
  · refine OwnE.lower (OwnE.only HN.out.e (S := fun k => k = w.heap.size + 1) ?_ (fun k hk h => by have := (HN.out.e.lt k hk).1; have := HZ.out; omega)) (show w.heap.size ≤ W.heap.size by have := HZ.out; omega)
    repeat (refine Only.setCell ?_ (by simp) _)
    exact Only.refl _ _
  · refine OwnR.lower (OwnR.only HN.out.r (S := fun k => k = w.heap.size + 1) ?_ (fun k hk h => by have := (HN.out.r.lt k hk).1; have := HZ.out; omega)) (show w.heap.size ≤ W.heap.size by have := HZ.out; omega)
    repeat (refine Only.setCell ?_ (by simp) _)
    exact Only.refl _ _
  · repeat (refine Below.setCell ?_ (by simp <;> omega) _)
    exact HB.out
end Go.Proofs.Ytkilepoimocoeaa
namespace Go.Proofs.Ytkilepoimocoeaa
open Go.RowKit
set_option linter.unusedVariables false
def setC (w : World) (g o : Nat) : List Value → World
  | [] => w
  | u :: us => setC (w.setCell ⟨g, o, none⟩ u) g (o + 1) us
theorem setC_out (g : Nat) (us : List Value) : ∀ (u : World) (o q : Nat), (q < o ∨ o + us.length ≤ q) → (setC u g o us).cell? ⟨g, q, none⟩ = u.cell? ⟨g, q, none⟩ := by
  induction us with
  | nil => intro u o q _; rfl
  | cons x us ih =>
    intro u o q h
    simp only [List.length_cons] at h
    rw [setC, ih _ _ _ (by omega)]
    exact World.cell?_setCell_other _ _ _ _ (by intro e; simp at e <;> omega)
theorem setC_in (g : Nat) (us : List Value) : ∀ (u : World) (o q : Nat), o ≤ q → q < o + us.length → (u.cell? ⟨g, q, none⟩).isSome = true → (setC u g o us).cell? ⟨g, q, none⟩ = us[q - o]? := by
  induction us with
  | nil => intro u o q h1 h2; simp at h2; omega
  | cons x us ih =>
    intro u o q h1 h2 h3
    simp only [List.length_cons] at h2
    rw [setC]
    by_cases hq : q = o
    · subst hq
      rw [setC_out g us _ _ _ (by omega)]
      obtain ⟨y, hy⟩ := Option.isSome_iff_exists.1 h3
      simp [go_sem, hy]
    · have e : (u.setCell ⟨g, o, none⟩ x).cell? ⟨g, q, none⟩ = u.cell? ⟨g, q, none⟩ := World.cell?_setCell_other _ _ _ _ (by intro e; simp at e <;> omega)
      rw [ih _ _ _ (by omega) (by omega) (by rw [e]; exact h3)]
      obtain ⟨d, hd⟩ : ∃ d, q - o = d + 1 := ⟨q - o - 1, by omega⟩
      rw [hd, List.getElem?_cons_succ]
      congr 1; omega
theorem setC_frozen (g : Nat) (us : List Value) : ∀ (u : World) (o q : Nat), (setC u g o us).frozen? ⟨g, q, none⟩ = u.frozen? ⟨g, q, none⟩ := by
  induction us with
  | nil => intro u o q; rfl
  | cons x us ih => intro u o q; rw [setC, ih]; simp
theorem setC_size (g : Nat) (us : List Value) : ∀ (u : World) (o : Nat), (setC u g o us).heap.size = u.heap.size := by
  induction us with
  | nil => intro u o; rfl
  | cons x us ih => intro u o; rw [setC, ih]; simp
theorem Blk.all {u : World} {g : Nat} {A : Array Value} (h : Blk u g A) (xs : List Value) (hx : xs.length = A.size) : Blk (setC u g 0 xs) g xs.toArray := by
  refine ⟨by rw [setC_size]; exact h.hi, fun q => ?_, fun q => by rw [setC_frozen]; exact h.fro q⟩
  by_cases hq : q < A.size
  · rw [setC_in _ _ _ _ _ (by omega) (by omega) (by rw [h.cell]; simp [hq])]; simp
  · rw [setC_out _ _ _ _ _ (by omega), h.cell, Array.getElem?_eq_none (by omega), Array.getElem?_eq_none (by simp; omega)]
theorem Only.setC {S : Nat → Prop} {g : Nat} (hg : S g) (us : List Value) : ∀ {a w : World} (o : Nat), Only S a w → Only S a (setC w g o us) := by
  induction us with
  | nil => intro a w o h; exact h
  | cons u us ih => intro a w o h; exact ih (o + 1) (h.setCell hg u)
theorem only_setC (u : World) (g o : Nat) (us : List Value) : Only (fun k => k = g) u (setC u g o us) := by
  refine Only.setC ?_ us o ?_
  · rfl
  · exact Only.refl _ _
def wrN (S : Sto) (l : List Rc) (n : Int) : Nat := if storeB S = true then came (heldK S) (80 - S.l.length) (firstN n l) else 0
def wrS (S : Sto) (l : List Rc) (n : Int) : Sto := if storeB S = true then ⟨S.k, S.l ++ l.take (wrN S l n)⟩ else ⟨kpZ, []⟩
theorem wrN_no {S : Sto} {l : List Rc} {n : Int} (h : storeB S = false) : wrN S l n = 0 := by simp [wrN, h]
theorem wrS_no {S : Sto} {l : List Rc} {n : Int} (h : storeB S = false) : wrS S l n = ⟨kpZ, []⟩ := by simp [wrS, h]
theorem wrN_yes {S : Sto} {l : List Rc} {n : Int} (h : storeB S = true) : wrN S l n = came (heldK S) (80 - S.l.length) (firstN n l) := by simp [wrN, h]
theorem wrS_yes {S : Sto} {l : List Rc} {n : Int} (h : storeB S = true) : wrS S l n = ⟨S.k, S.l ++ l.take (wrN S l n)⟩ := by simp [wrS, h]
theorem came_le (K : Kp) (room : Nat) (l : List Rc) : came K room l ≤ l.length ∧ came K room l ≤ room := by
  induction l generalizing K room with
  | nil => simp [came]
  | cons r l ih =>
    cases room with
    | zero => simp [came]
    | succ m =>
      simp only [came]
      split
      · have := ih (stepK K r) m
        simp only [List.length_cons]
        omega
      · omega
/-- Where the loop of Write stands: j records were taken, K is what stands. -/
structure CameI (K0 : Kp) (room : Nat) (L : List Rc) (j : Nat) (K : Kp) : Prop where
  eq : came K0 room L = j + came K (room - j) (L.drop j)
  jr : j ≤ room
  jl : j ≤ L.length
  sm : Sm K
theorem CameI.zero {K0 : Kp} {room : Nat} {L : List Rc} (h : Sm K0) : CameI K0 room L 0 K0 := ⟨by simp, Nat.zero_le _, Nat.zero_le _, h⟩
theorem CameI.step {K0 K : Kp} {room j : Nat} {L : List Rc} (h : CameI K0 room L j K) (h1 : j < L.length) (h2 : j < room) (hg : goB K L[j] = true) : CameI K0 room L (j + 1) (stepK K L[j]) := by
  refine ⟨?_, by omega, by omega, h.sm.step (goB_out hg).1 (goB_out hg).2⟩
  rw [h.eq, List.drop_eq_getElem_cons h1, show room - j = (room - (j + 1)) + 1 by omega]
  simp only [came, hg, if_true]
  omega
theorem CameI.out {K0 K : Kp} {room : Nat} {L : List Rc} (h : CameI K0 room L L.length K) : came K0 room L = L.length := by
  rw [h.eq, List.drop_length]
  simp [came]
theorem CameI.full {K0 K : Kp} {room : Nat} {L : List Rc} (h : CameI K0 room L room K) : came K0 room L = room := by
  rw [h.eq, Nat.sub_self]
  cases L.drop room <;> simp [came]
theorem CameI.stop {K0 K : Kp} {room j : Nat} {L : List Rc} (h : CameI K0 room L j K) (h1 : j < L.length) (hg : goB K L[j] = false) : came K0 room L = j := by
  rw [h.eq, List.drop_eq_getElem_cons h1]
  cases room - j with
  | zero => simp [came]
  | succ m => simp [came, hg]
/-- append of records onto a row of the call's own, inside a region that draws its order. -/
theorem step_R {w : World} {ops : Array Oper} {o : Oper} {a : Act} {KK : Act → World → Prop} {Q : Exit → Act → World → Prop} {E : Prop} (hgd : o.guard = none) (s x : Operand)
    (ho : o.op = .call { callee := .builtin .append, args := #[s, x], argTypes := #[29, 29] })
    (base : Nat) (v : Value) (L M : List Rc) (hs : a.eval s = v) (hown : OwnR w base v L) (ad : Addr) (m c : Nat) (hx : a.eval x = .slice (some ad) m c) (hm : m = M.length)
    (hnews : ∀ j u, (rcF M)[j]? = some u → w.cell? (ad.add j) = some u) (hlen : L.length + M.length ≤ 2000000) (hbase : base ≤ w.heap.size) (hne : 0 < M.length)
    (h : ∀ g cap' w', OwnR w' base (.slice (some ⟨g, 0, none⟩) (L.length + m) cap') (L ++ M) → Only (fun k => some k = v.ownBlock) w w' → (v.ownBlock = some g ∨ g = w.heap.size) → g < w'.heap.size →
      KK (a.put o.dst (.slice (some ⟨g, 0, none⟩) (L.length + m) cap')) w') : if Region.wanted o (yielded ops a.tmps) = true then Oper.wp Try.prog o a w KK Q else E := by
  obtain ⟨i0, hi, hz0, hz1, hz2⟩ := info_parts Try.infoR
  subst hm
  refine step_append_lies w hgd s x 29 ho base 43 i0 (.agg #[.int .i64 0, .int .i64 0, .int .i64 0, .int .i64 0, .string ⟨#[]⟩]) 5 48 Try.underlying29 hi hz0 hz1 hz2 rfl (by decide) v L.length (rcF L) hs hown ad M.length c (rcF M) hx (rcF_len M) hnews rcF_one hne (by unfold maxLen; omega) (by omega) hbase w.heap.size rfl ?_
  intro g cap' w' hown' hgrow hloc hg
  exact h g cap' w' (OwnR.mk hown' (by simp) (by rw [rcF_append])) (grown_only hgrow) hloc hg
end Go.Proofs.Ytkilepoimocoeaa
namespace Go.Proofs.Ytkilepoimocoeaa
open Go.RowKit
set_option linter.unusedVariables false
def eqE (a b : En) : Bool := a.t == b.t && decide (a.d = b.d)
theorem eqE_yes {a b : En} (h : eqE a b = true) : a = b := by
  obtain ⟨t, d⟩ := a
  obtain ⟨t', d'⟩ := b
  simp only [eqE, Bool.and_eq_true, beq_iff_eq, decide_eq_true_eq] at h
  rw [h.1, h.2]
/-- How many entries both begin with. -/
def alikeN : List En → List En → Nat
  | a :: A, b :: B => if eqE a b = true then alikeN A B + 1 else 0
  | _, _ => 0
theorem alikeN_le (A B : List En) : alikeN A B ≤ A.length ∧ alikeN A B ≤ B.length := by
  induction A generalizing B with
  | nil => cases B <;> simp [alikeN]
  | cons a A ih =>
    cases B with
    | nil => simp [alikeN]
    | cons b B =>
      simp only [alikeN]
      split
      · have := ih B; simp only [List.length_cons]; omega
      · omega
theorem alikeN_at (A B : List En) (j : Nat) (h1 : j < A.length) (h2 : j < B.length) : alikeN (A.drop j) (B.drop j) = if eqE A[j] B[j] = true then alikeN (A.drop (j + 1)) (B.drop (j + 1)) + 1 else 0 := by
  rw [List.drop_eq_getElem_cons h1, List.drop_eq_getElem_cons h2, alikeN]
theorem alikeN_end (A B : List En) (j : Nat) (h : ¬ (j < A.length ∧ j < B.length)) : alikeN (A.drop j) (B.drop j) = 0 := by
  by_cases h1 : j < A.length
  · have : B.drop j = [] := List.drop_eq_nil_of_le (by omega)
    rw [this]
    cases A.drop j <;> rfl
  · have : A.drop j = [] := List.drop_eq_nil_of_le (by omega)
    rw [this]
    cases B.drop j <;> rfl
def hardD (A B : Kp) : Bool := A.t != B.t || A.v != B.v
def snapD (A B : Kp) : Bool := !(A.si == B.si && A.st == B.st && decide (A.sd = B.sd))
def hardR (B : Kp) : Rc := ⟨1, B.t, 0, B.v, ⟨#[]⟩⟩
def snapR (B : Kp) : Rc := ⟨4, B.st, B.si, 0, B.sd⟩
def cutR (B : Kp) (k : Nat) : Rc := ⟨3, 0, B.si + k + 1, 0, ⟨#[]⟩⟩
def entR (B : Kp) (k : Nat) (e : En) : Rc := ⟨2, e.t, B.si + k + 1, 0, e.d⟩
def hardL (A B : Kp) : List Rc := if hardD A B = true then [hardR B] else []
def snapL (A B : Kp) : List Rc := if snapD A B = true then [snapR B] else []
def haveE (A B : Kp) : List En := if snapD A B = true then behL A.e (B.si - A.si) B.st else A.e
def cutL (B : Kp) (E : List En) : List Rc := if alikeN E B.e < E.length then [cutR B (alikeN E B.e)] else []
/-- The records of the entries from k on, n of them. -/
def entsL (B : Kp) (k : Nat) : Nat → List Rc
  | 0 => []
  | n + 1 => entsL B k n ++ [entR B (k + n) (B.e.getD (k + n) ⟨0, ⟨#[]⟩⟩)]
theorem entsL_len (B : Kp) (k n : Nat) : (entsL B k n).length = n := by
  induction n with
  | zero => rfl
  | succ n ih => simp [entsL, ih]
def headL (A B : Kp) : List Rc := hardL A B ++ snapL A B
def tailL (B : Kp) (E : List En) : List Rc := cutL B E ++ entsL B (alikeN E B.e) (B.e.length - alikeN E B.e)
def chL (A B : Kp) : List Rc := headL A B ++ tailL B (haveE A B)
def chB (A B : Kp) : Bool := keptB A && keptB B && (foldK A (chL A B)).isSome
def chR (A B : Kp) : List Rc := if chB A B = true then chL A B else []
/-- Where a way by records stands: those so far, whether each fitted, where they led. -/
structure Tr (A : Kp) (l : List Rc) (K : Kp) (f : Bool) : Prop where
  is : f = (foldK A l).isSome
  at_ : f = true → foldK A l = some K
  sm : Sm K
theorem Tr.zero {A : Kp} (h : Sm A) : Tr A [] A true := ⟨rfl, fun _ => rfl, h⟩
def trK (K : Kp) (f : Bool) (r : Rc) : Kp := if f = true then nextK K r else K
theorem Tr.add {A K : Kp} {l : List Rc} {f : Bool} (h : Tr A l K f) (r : Rc) : Tr A (l ++ [r]) (trK K f r) (f && goB K r) := by
  have hs := foldK_snoc A l r
  cases hf : f with
  | false =>
    have h1 := h.is
    rw [hf] at h1
    have h2 : foldK A l = none := by
      cases h3 : foldK A l with
      | none => rfl
      | some x => rw [h3] at h1; cases h1
    rw [h2] at hs
    refine ⟨?_, fun e => ?_, ?_⟩
    · rw [hs]; rfl
    · simp at e
    · simpa [trK] using h.sm
  | true =>
    have h2 := h.at_ hf
    rw [h2] at hs
    simp only [Option.bind_some] at hs
    cases hg : goB K r with
    | false =>
      rw [hg] at hs
      refine ⟨by rw [hs]; rfl, fun e => by simp at e, ?_⟩
      simp only [trK, if_true]
      exact h.sm.next
    | true =>
      rw [hg] at hs
      simp only [if_true] at hs
      refine ⟨by rw [hs]; rfl, fun _ => ?_, ?_⟩
      · rw [hs]; simp [trK, nextK, hg]
      · simp only [trK, if_true]; exact h.sm.next
/-- Behind the first records what is there is what the model looks at. -/
theorem foldK_one (A : Kp) (r : Rc) : foldK A [r] = if goB A r = true then some (stepK A r) else none := rfl
theorem foldK_two (A : Kp) (r s : Rc) : foldK A [r, s] = if goB A r = true then (if goB (stepK A r) s = true then some (stepK (stepK A r) s) else none) else none := rfl
theorem head_e {A B K : Kp} (h : foldK A (headL A B) = some K) : K.e = haveE A B := by
  unfold headL hardL snapL at h
  unfold haveE
  cases h1 : hardD A B with
  | true =>
    cases h2 : snapD A B with
    | true =>
      rw [h1, h2, if_pos rfl, if_pos rfl, List.singleton_append, foldK_two] at h
      rw [if_pos rfl]
      split at h
      · split at h
        · simp only [Option.some.injEq] at h
          subst h
          simp [stepK, snapR, hardR]
        · cases h
      · cases h
    | false =>
      rw [h1, h2, if_pos rfl, if_neg (by simp), List.append_nil, foldK_one] at h
      rw [if_neg (by simp)]
      split at h
      · simp only [Option.some.injEq] at h
        subst h
        simp [stepK, hardR]
      · cases h
  | false =>
    cases h2 : snapD A B with
    | true =>
      rw [h1, h2, if_neg (by simp), if_pos rfl, List.nil_append, foldK_one] at h
      rw [if_pos rfl]
      split at h
      · simp only [Option.some.injEq] at h
        subst h
        simp [stepK, snapR]
      · cases h
    | false =>
      rw [if_neg (by simp)]
      have h' : foldK A [] = some K := by rw [← h, h1, h2]; rfl
      simp only [foldK, Option.some.injEq] at h'
      rw [h']
theorem ch_same {A B K : Kp} {f : Bool} (h : Tr A (headL A B) K f) : (foldK A (headL A B ++ tailL B K.e)).isSome = (foldK A (chL A B)).isSome ∧ ((foldK A (headL A B ++ tailL B K.e)).isSome = true → headL A B ++ tailL B K.e = chL A B) := by
  unfold chL
  cases hf : f with
  | true =>
    have := head_e (h.at_ hf)
    rw [this]
    exact ⟨rfl, fun _ => rfl⟩
  | false =>
    have h1 := h.is
    rw [hf] at h1
    have h2 : foldK A (headL A B) = none := by
      cases h3 : foldK A (headL A B) with
      | none => rfl
      | some x => rw [h3] at h1; cases h1
    rw [foldK_append, foldK_append, h2]
    exact ⟨rfl, fun e => by simp at e⟩
theorem headL_len (A B : Kp) : (headL A B).length ≤ 2 := by
  unfold headL hardL snapL
  split <;> split <;> simp
theorem tailL_len (B : Kp) (E : List En) (h : B.e.length ≤ 60) : (tailL B E).length ≤ 61 := by
  unfold tailL cutL
  have := (alikeN_le E B.e).2
  split <;> simp [entsL_len] <;> omega
end Go.Proofs.Ytkilepoimocoeaa
namespace Go.Proofs.Ytkilepoimocoeaa
set_option linter.unusedVariables false
theorem eqE_out {a b : En} (h : eqE a b = true) : a = b := by
  obtain ⟨t, d⟩ := a
  obtain ⟨t2, d2⟩ := b
  simp only [eqE, Bool.and_eq_true, decide_eq_true_eq, beq_iff_eq] at h
  rw [h.1, h.2]
theorem eqE_self (a : En) : eqE a a = true := by simp [eqE]
theorem alikeN_take : ∀ (A B : List En), A.take (alikeN A B) = B.take (alikeN A B)
  | [], B => by cases B <;> simp [alikeN]
  | a :: A, [] => by simp [alikeN]
  | a :: A, b :: B => by
    unfold alikeN
    split
    · rename_i h
      rw [List.take_succ_cons, List.take_succ_cons, eqE_out h, alikeN_take A B]
    · simp
theorem alikeN_self : ∀ (A : List En), alikeN A A = A.length
  | [] => by simp [alikeN]
  | a :: A => by
    unfold alikeN
    rw [if_pos (eqE_self a), alikeN_self A]
    simp
theorem chL_self (B : Kp) : chL B B = [] := by
  have h1 : hardD B B = false := by simp [hardD]
  have h2 : snapD B B = false := by simp [snapD]
  unfold chL headL hardL snapL haveE tailL cutL
  rw [h1, h2]
  simp [alikeN_self, entsL]
theorem chB_self (B : Kp) : chB B B = keptB B := by
  unfold chB
  rw [chL_self]
  simp [foldK]
/-- Behind the first two records all but the entries is as in B. -/
theorem head_all {A B K : Kp} (h : foldK A (headL A B) = some K) : K = ⟨B.t, B.v, B.si, B.st, B.sd, haveE A B⟩ := by
  have he := head_e h
  have key : K.t = B.t ∧ K.v = B.v ∧ K.si = B.si ∧ K.st = B.st ∧ K.sd = B.sd := by
    unfold headL hardL snapL at h
    cases h1 : hardD A B with
    | true =>
      cases h2 : snapD A B with
      | true =>
        rw [h1, h2, if_pos rfl, if_pos rfl, List.singleton_append, foldK_two] at h
        split at h
        · split at h
          · simp only [Option.some.injEq] at h
            subst h
            simp [stepK, snapR, hardR]
          · cases h
        · cases h
      | false =>
        rw [h1, h2, if_pos rfl, if_neg (by simp), List.append_nil, foldK_one] at h
        simp only [snapD, Bool.not_eq_false', Bool.and_eq_true, beq_iff_eq, decide_eq_true_eq] at h2
        split at h
        · simp only [Option.some.injEq] at h
          subst h
          simp [stepK, hardR, h2.1.1, h2.1.2, h2.2]
        · cases h
    | false =>
      simp only [hardD, Bool.or_eq_false_iff, bne_eq_false_iff_eq] at h1
      cases h2 : snapD A B with
      | true =>
        have hh : hardD A B = false := by simp [hardD, h1.1, h1.2]
        rw [hh, h2, if_neg (by simp), if_pos rfl, List.nil_append, foldK_one] at h
        split at h
        · simp only [Option.some.injEq] at h
          subst h
          simp [stepK, snapR, h1.1, h1.2]
        · cases h
      | false =>
        have hh : hardD A B = false := by simp [hardD, h1.1, h1.2]
        have h' : foldK A [] = some K := by rw [← h, hh, h2]; rfl
        simp only [snapD, Bool.not_eq_false', Bool.and_eq_true, beq_iff_eq, decide_eq_true_eq] at h2
        simp only [foldK, Option.some.injEq] at h'
        subst h'
        exact ⟨h1.1, h1.2, h2.1.1, h2.1.2, h2.2⟩
  obtain ⟨t, v, si, st, sd, e⟩ := K
  obtain ⟨k1, k2, k3, k4, k5⟩ := key
  simp only at k1 k2 k3 k4 k5 he
  subst k1 k2 k3 k4 k5 he
  rfl
theorem ents_end {B K : Kp} {k : Nat} : ∀ {n : Nat} {K2 : Kp}, K.e.length = k → K.si = B.si → foldK K (entsL B k n) = some K2 → K2 = { K with e := K.e ++ (List.range n).map fun i => B.e.getD (k + i) ⟨0, ⟨#[]⟩⟩ } := by
  intro n
  induction n with
  | zero => intro K2 _ _ h; simp only [entsL, foldK, Option.some.injEq] at h; subst h; simp
  | succ n ih =>
    intro K2 hk hs h
    rw [entsL, foldK_snoc] at h
    cases h1 : foldK K (entsL B k n) with
    | none => rw [h1] at h; cases h
    | some K1 =>
      rw [h1, Option.bind_some] at h
      have h2 := ih hk hs h1
      split at h
      · simp only [Option.some.injEq] at h
        subst h
        rw [h2]
        simp [stepK, entR, List.range_succ]
      · cases h
/-- The records lead to B. -/
theorem ch_end {A B K : Kp} (h : foldK A (chL A B) = some K) : K = B := by
  unfold chL at h
  rw [foldK_append] at h
  cases h1 : foldK A (headL A B) with
  | none => rw [h1] at h; cases h
  | some K1 =>
    rw [h1, Option.bind_some] at h
    have hK1 := head_all h1
    generalize haveE A B = E at h hK1
    have hle := alikeN_le E B.e
    have htk := alikeN_take E B.e
    unfold tailL cutL at h
    generalize alikeN E B.e = k at h hle htk
    have key : ∃ K2 : Kp, K2 = ⟨B.t, B.v, B.si, B.st, B.sd, B.e.take k⟩ ∧ foldK K2 (entsL B k (B.e.length - k)) = some K := by
      by_cases hc : k < E.length
      · rw [if_pos hc, foldK_append, foldK_one] at h
        split at h
        · rw [Option.bind_some] at h
          refine ⟨_, ?_, h⟩
          rw [hK1]
          have e1 : (B.si + (k : Int) + 1 - B.si - 1).toNat = k := by omega
          simp [stepK, cutR, e1, htk]
        · cases h
      · rw [if_neg hc, List.nil_append] at h
        refine ⟨K1, ?_, h⟩
        rw [hK1, ← htk, List.take_of_length_le (by omega)]
    obtain ⟨K2, hK2, h2⟩ := key
    have hl : K2.e.length = k := by rw [hK2]; simp; omega
    have h3 := ents_end hl (by rw [hK2]) h2
    rw [h3, hK2]
    obtain ⟨t, v, si, st, sd, e⟩ := B
    simp only at hle ⊢
    congr 1
    apply List.ext_getElem?
    intro i
    rw [List.getElem?_append]
    by_cases hi : i < k
    · have : i < (e.take k).length := by simp; omega
      rw [if_pos this, List.getElem?_take_of_lt hi]
    · have : ¬ i < (e.take k).length := by simp; omega
      have hlk : (e.take k).length = k := by simp; omega
      rw [if_neg this, hlk, List.getElem?_map]
      by_cases hi2 : i < e.length
      · rw [List.getElem?_range (by omega), Option.map_some, List.getElem?_eq_getElem hi2, List.getD_eq_getElem?_getD, show k + (i - k) = i by omega, List.getElem?_eq_getElem hi2]
        rfl
      · rw [List.getElem?_eq_none (by simp; omega), List.getElem?_eq_none (by omega)]
        rfl
/-- Each record of a way that leads somewhere is right. -/
theorem fold_rec {K K2 : Kp} {l : List Rc} (h : foldK K l = some K2) : ∀ r ∈ l, recB r = true := by
  induction l generalizing K with
  | nil => intro r hr; cases hr
  | cons a l ih =>
    intro r hr
    unfold foldK at h
    split at h
    · rename_i hg
      rcases List.mem_cons.1 hr with rfl | hr
      · simp only [goB, Bool.and_eq_true] at hg
        exact hg.1
      · exact ih h r hr
    · cases h
end Go.Proofs.Ytkilepoimocoeaa
namespace Go.Proofs.Ytkilepoimocoeaa
open Go.RowKit
set_option linter.unusedVariables false
/-- What KeptStep answers. -/
def ksK (K : Kp) (r : Rc) : Kp := if keptB K = true then nextK K r else kpZ
def ksB (K : Kp) (r : Rc) : Bool := if keptB K = true then goB K r else false
theorem ksK_no {K : Kp} {r : Rc} (h : keptB K = false) : ksK K r = kpZ := by simp [ksK, h]
theorem ksK_yes {K : Kp} {r : Rc} (h : keptB K = true) : ksK K r = nextK K r := by simp [ksK, h]
theorem ksB_no {K : Kp} {r : Rc} (h : keptB K = false) : ksB K r = false := by simp [ksB, h]
theorem ksB_yes {K : Kp} {r : Rc} (h : keptB K = true) : ksB K r = goB K r := by simp [ksB, h]
set_option maxRecDepth 100000 in
set_option maxHeartbeats 4000000 in
theorem implKeptStep_any (K : Kp) (v : Value) (N : Nat) (r : Rc) (w : World) (hN : N ≤ w.heap.size) (hr : RowE w N v K.e) :
    Calls Try.prog 23 #[kpV K v, rcV r] w fun e w' => ∃ v', e = .returned (.tuple #[kpV (ksK K r) v', .bool (ksB K r)]) ∧ NewE w w' v' (ksK K r).e := by
  have HR := Hid.intro hr
  clear hr
  cases hkb : keptB K with
  | false =>
    rw [ksK_no hkb, ksB_no hkb]
    go_enter Try.func23, Try.ntmps23
    go_wp2_with fail
    obtain ⟨W, hW, bW, zW, c1, f1, c2, f2, c3, f3⟩ := boxed3 w #[.int .i64 K.t, .int .i64 K.v, .int .i64 K.si, .int .i64 K.st, .string K.sd, v] #[.int .i64 r.k, .int .i64 r.t, .int .i64 r.i, .int .i64 r.v, .string r.d] #[.int .i64 0, .int .i64 0, .int .i64 0, .int .i64 0, .string ⟨#[]⟩, .slice none 0 0] 28 43 28
    simp only [hW]
    refine (keptOk_any K v N W (by omega) (HR.out.kept (bW.mono hN))).mono ?_
    rintro e w1 ⟨rfl, b1⟩
    replace c3 := keepC b1 (by omega) c3
    replace f3 := keepF b1 (by omega) f3
    have z1 := b1.size
    have HB := Hid.intro (bW.trans (b1.mono (by omega)))
    have hz1 : w.heap.size + 1 + 1 < w1.heap.size := by omega
    clear hW bW zW b1 f1 f2 c1 c2 z1
    go_wp2
    refine bodyPost_ret (v := .tuple #[kpV kpZ (.slice none 0 0), .bool false]) (by simp [results, Try.results23, go_sem, c3, kpZ]) rfl ⟨_, rfl, OwnE.nil _ _, ?_⟩
    repeat (refine Below.setCell ?_ (by simp <;> omega) _)
    exact HB.out
  | true =>
    have hs := Sm.of hkb
    have hle : K.e.length ≤ 60 := hs.2.2
    have HS := Hid.intro hs
    rw [ksK_yes hkb, ksB_yes hkb]
    clear hs
    go_enter Try.func23, Try.ntmps23
    go_wp2_with fail
    obtain ⟨W, hW, bW, zW, c1, f1, c2, f2, c3, f3⟩ := boxed3 w #[.int .i64 K.t, .int .i64 K.v, .int .i64 K.si, .int .i64 K.st, .string K.sd, v] #[.int .i64 r.k, .int .i64 r.t, .int .i64 r.i, .int .i64 r.v, .string r.d] #[.int .i64 0, .int .i64 0, .int .i64 0, .int .i64 0, .string ⟨#[]⟩, .slice none 0 0] 28 43 28
    simp only [hW]
    refine (keptOk_any K v N W (by omega) (HR.out.kept (bW.mono hN))).mono ?_
    rintro e w1 ⟨rfl, b1⟩
    replace c1 := keepC b1 (by omega) c1
    replace c2 := keepC b1 (by omega) c2
    replace c3 := keepC b1 (by omega) c3
    replace f3 := keepF b1 (by omega) f3
    have z1 := b1.size
    have B1 := bW.trans (b1.mono (by omega))
    have hz1 : w.heap.size + 1 + 1 < w1.heap.size := by omega
    clear hW bW zW b1 f1 f2 z1
    go_wp2_with fail
    refine (copied_any K v N w1 (by omega) (HR.out.kept (B1.mono hN)) (by omega)).mono ?_
    rintro e w2 ⟨v2, rfl, o2, b2⟩
    obtain ⟨a2, cap2, rfl⟩ := o2.slice
    replace c2 := keepC b2 (by omega) c2
    replace c3 := keepC b2 (by omega) c3
    replace f3 := keepF b2 (by omega) f3
    have z2 := b2.size
    have B2 := B1.trans (b2.mono (by omega))
    have hz2 : w.heap.size + 1 + 1 < w2.heap.size := by omega
    have HO2 := Hid.intro o2
    have HZ1 := Hid.intro hz1
    have hz2b : w.heap.size + 1 < w2.heap.size := by omega
    clear c1 b2 B1 o2 hz1
    go_wp2_with fail
    obtain ⟨X, hX, bX, zX, cX, fX⟩ := boxed w2 #[.int .i64 K.t, .int .i64 K.v, .int .i64 K.si, .int .i64 K.st, .string K.sd, .slice a2 K.e.length cap2] 28
    simp only [hX]
    replace c3 := keepC bX (by omega) c3
    replace f3 := keepF bX (by omega) f3
    have HKO : Hid (KOwn X w2.heap.size w1.heap.size K (.slice a2 K.e.length cap2)) :=
      ⟨⟨by omega, by rw [cX]; rfl, by rw [cX]; rfl, by rw [cX]; rfl, by rw [cX]; rfl, by rw [cX]; rfl, by rw [cX]; rfl, fX⟩, HO2.out.kept bX, fun k hk e => by have := (HO2.out.lt k hk).2; omega⟩
    have BX := B2.trans (bX.mono (by omega))
    have hzX : w.heap.size + 1 + 1 < X.heap.size := by omega
    have HV : Hid (∀ k, (Value.slice a2 K.e.length cap2).ownBlock = some k → w1.heap.size ≤ k) := fun k hk => (HO2.out.lt k hk).1
    have HZ2 := Hid.intro hz2
    have hw12 : Hid (w1.heap.size ≤ X.heap.size) := by unfold Hid; omega
    have hkX : Hid (w2.heap.size < X.heap.size ∧ w.heap.size + 1 + 1 < w2.heap.size ∧ w.heap.size + 1 + 1 < w1.heap.size) := ⟨by omega, hz2, HZ1.out⟩
    clear hX bX zX cX fX HO2 B2 hz2
    refine (take_any K _ w2.heap.size w1.heap.size r X hw12.out HKO.out HS.out).mono ?_
    rintro e w4 ⟨rfl, v4, hk4, hl4, ht4⟩
    obtain ⟨a4, cap4, rfl⟩ := hk4.2.1.slice
    have hS : ¬ (w.heap.size + 1 + 1 = w2.heap.size ∨ some (w.heap.size + 1 + 1) = (Value.slice a2 K.e.length cap2).ownBlock) := by
      rintro (h | h)
      · have := hkX.out; omega
      · have := HV.out _ h.symm; have := hkX.out; omega
    have d3 : ∀ o, w4.cell? ⟨w.heap.size + 1 + 1, o, none⟩ = #[.int .i64 0, .int .i64 0, .int .i64 0, .int .i64 0, .string ⟨#[]⟩, .slice none 0 0][o]? := fun o => (ht4.only.cell hzX hS).trans (c3 o)
    have g3 : ∀ o, w4.frozen? ⟨w.heap.size + 1 + 1, o, none⟩ = false := fun o => (ht4.only.frozen hzX hS).trans (f3 o)
    have hz4 : w.heap.size + 1 + 1 < w4.heap.size := Nat.lt_of_lt_of_le hzX ht4.only.size
    have HO4 := Hid.intro hk4.2.1
    have HK4 := Hid.intro hk4.1
    have HB4 : Hid (Below w.heap.size w w4) := BX.trans (ht4.only.below (by omega) (fun k hk h => by
      rcases h with h | h
      · have := hkX.out; omega
      · have := HV.out _ h.symm; have := hkX.out; omega))
    obtain ⟨x9, y0, y1, y2, y3, y4, y5, yf⟩ := hk4.1
    clear c2 c3 f3 BX hzX hk4 hl4 ht4 hS HKO
    go_wp2
    refine bodyPost_ret (v := .tuple #[kpV (nextK K r) (.slice a4 (nextK K r).e.length cap4), .bool (goB K r)]) (by simp [results, Try.results23, go_sem, d3]) rfl ⟨_, rfl, ?_, ?_⟩
    · refine OwnE.lower (OwnE.only HO4.out (S := fun k => k = w.heap.size + 1 + 1) ?_ (fun k hk h => by have := (HO4.out.lt k hk).1; have := hkX.out; omega)) (show w.heap.size ≤ w1.heap.size by have := hkX.out; omega)
      repeat (refine Only.setCell ?_ (by simp) _)
      exact Only.refl _ _
    · repeat (refine Below.setCell ?_ (by simp <;> omega) _)
      exact HB4.out
end Go.Proofs.Ytkilepoimocoeaa
namespace Go.Proofs.Ytkilepoimocoeaa
open Go.RowKit
set_option linter.unusedVariables false
theorem entsB_cons {lo top : Int} {e : En} {r : List En} : entsB lo top (e :: r) = true ↔ (lo ≤ e.t ∧ e.t ≤ top ∧ e.d.size ≤ 1600) ∧ entsB e.t top r = true := by
  simp only [entsB, Bool.and_eq_true, decide_eq_true_eq]
theorem entsB_top {top top' : Int} (ht : top ≤ top') : ∀ (L : List En) (lo : Int), entsB lo top L = true → entsB lo top' L = true
  | [], lo, h => rfl
  | e :: r, lo, h => by
    rw [entsB_cons] at h ⊢
    exact ⟨⟨h.1.1, by omega, h.1.2.2⟩, entsB_top ht r e.t h.2⟩
theorem entsB_take {top : Int} : ∀ (L : List En) (lo : Int) (n : Nat), entsB lo top L = true → entsB lo top (L.take n) = true
  | [], lo, n, h => by simp [entsB]
  | e :: r, lo, 0, h => rfl
  | e :: r, lo, n + 1, h => by
    rw [List.take_succ_cons]
    rw [entsB_cons] at h ⊢
    exact ⟨h.1, entsB_take r e.t n h.2⟩
theorem entsB_drop {top : Int} : ∀ (L : List En) (lo : Int) (n : Nat) (hn : n < L.length), entsB lo top L = true → entsB L[n].t top (L.drop (n + 1)) = true
  | [], lo, n, hn, h => by simp at hn
  | e :: r, lo, 0, hn, h => by
    rw [entsB_cons] at h
    exact h.2
  | e :: r, lo, n + 1, hn, h => by
    rw [entsB_cons] at h
    have := entsB_drop r e.t n (by simpa using hn) h.2
    simpa using this
def lastLo (lo : Int) (L : List En) : Int := match L.getLast? with | none => lo | some e => e.t
theorem lastLo_cons (lo : Int) (a : En) (L : List En) : lastLo lo (a :: L) = lastLo a.t L := by
  cases L with
  | nil => rfl
  | cons b r =>
    unfold lastLo
    rw [List.getLast?_cons_cons]
    cases h : (b :: r).getLast? with
    | none => simp at h
    | some x => rfl
theorem entsB_app {top : Int} (x : En) (hx : x.t ≤ top) (hs : x.d.size ≤ 1600) : ∀ (L : List En) (lo : Int), entsB lo top L = true → lastLo lo L ≤ x.t → entsB lo top (L ++ [x]) = true
  | [], lo, h, hl => by
    rw [List.nil_append, entsB_cons]
    exact ⟨⟨hl, hx, hs⟩, rfl⟩
  | e :: r, lo, h, hl => by
    rw [lastLo_cons] at hl
    rw [entsB_cons] at h
    rw [List.cons_append, entsB_cons]
    exact ⟨h.1, entsB_app x hx hs r e.t h.2 hl⟩
theorem kept_step {K : Kp} {r : Rc} (hk : keptB K = true) (hg : goB K r = true) : keptB (stepK K r) = true := by
  have hh := keptB_head hk
  have he := keptB_ents hk
  obtain ⟨hr, hf⟩ := goB_out hg
  clear hk hg
  obtain ⟨t, v, si, st, sd, e⟩ := K
  obtain ⟨k, rt, ri, rv, rd⟩ := r
  unfold headP at hh
  unfold recP at hr
  unfold fitsP at hf
  dsimp only at hh he hr hf
  have hk4 : k = 1 ∨ k = 2 ∨ k = 3 ∨ k = 4 := by omega
  rcases hk4 with rfl | rfl | rfl | rfl
  · refine keptB_mk ?_ ?_
    · show headP ⟨rt, rv, si, st, sd, e⟩
      unfold headP
      dsimp only
      omega
    · show entsB (max st 1) rt e = true
      exact entsB_top (by omega) e _ he
  · refine keptB_mk ?_ ?_
    · show headP ⟨t, v, si, st, sd, e ++ [⟨rt, rd⟩]⟩
      unfold headP
      dsimp only
      rw [List.length_append, List.length_singleton]
      omega
    · show entsB (max st 1) t (e ++ [⟨rt, rd⟩]) = true
      have hl : lastT ⟨t, v, si, st, sd, e⟩ ≤ rt := by omega
      refine entsB_app ⟨rt, rd⟩ (by show rt ≤ t; omega) (by show rd.size ≤ 1600; omega) e _ he ?_
      show lastLo (max st 1) e ≤ rt
      unfold lastT at hl
      unfold lastLo
      dsimp only at hl
      cases hg : e.getLast? with
      | none =>
        rw [hg] at hl
        dsimp only at hl ⊢
        omega
      | some x =>
        rw [hg] at hl
        exact hl
  · refine keptB_mk ?_ ?_
    · show headP ⟨t, v, si, st, sd, e.take (ri - si - 1).toNat⟩
      unfold headP
      dsimp only
      have := List.length_take_le (ri - si - 1).toNat e
      have h2 : (e.take (ri - si - 1).toNat).length ≤ e.length := by simp [List.length_take]; omega
      omega
    · show entsB (max st 1) t (e.take (ri - si - 1).toNat) = true
      exact entsB_take e _ _ he
  · refine keptB_mk ?_ ?_
    · show headP ⟨t, v, ri, rt, rd, behL e (ri - si) rt⟩
      unfold headP
      dsimp only
      have h1 := behL_len e (ri - si) rt
      have h2 : ri + ((behL e (ri - si) rt).length : Int) ≤ 100000 := by
        unfold behL
        split
        · rename_i h
          rw [List.length_drop]
          omega
        · simp; omega
      omega
    · show entsB (max rt 1) t (behL e (ri - si) rt) = true
      unfold behL
      split
      · rename_i h
        obtain ⟨h1, h2, h3⟩ := h
        have hn : (ri - si - 1).toNat < e.length := by omega
        have h4 := entsB_drop e _ _ hn he
        have h5 : e[(ri - si - 1).toNat].t = rt := by
          rw [List.getD_eq_getElem?_getD, List.getElem?_eq_getElem hn] at h3
          exact h3
        rw [h5] at h4
        have h6 : (ri - si - 1).toNat + 1 = (ri - si).toNat := by omega
        rw [h6] at h4
        have h7 : max rt 1 = rt := by omega
        rw [h7]
        exact h4
      · rfl
/-- One step of a way that leads on. -/
theorem fold_at {A B K : Kp} {R : List Rc} {j : Nat} (hj : j < R.length) (hk : keptB K = true) (h : foldK A R = some B) (hK : foldK A (R.take j) = some K) :
    ksB K R[j] = true ∧ recB R[j] = true ∧ foldK A (R.take (j + 1)) = some (ksK K R[j]) ∧ keptB (ksK K R[j]) = true := by
  cases hg : goB K R[j] with
  | false =>
    rw [foldK_stop hj hK hg] at h
    cases h
  | true =>
    have h1 := foldK_at hj hK hg
    have e : ksK K R[j] = stepK K R[j] := by rw [ksK_yes hk]; simp [nextK, hg]
    rw [e]
    exact ⟨by rw [ksB_yes hk, hg], (by simp only [goB, Bool.and_eq_true] at hg; exact hg.1), h1, kept_step hk hg⟩
end Go.Proofs.Ytkilepoimocoeaa
namespace Go.Proofs.Ytkilepoimocoeaa
open Go.RowKit
set_option linter.unusedVariables false
theorem keptB_fold {K K' : Kp} {l : List Rc} (hk : keptB K = true) (hf : foldK K l = some K') : keptB K' = true := by
  induction l generalizing K with
  | nil => simp only [foldK, Option.some.injEq] at hf; subst hf; exact hk
  | cons a l ih =>
    simp only [foldK] at hf
    split at hf
    · rename_i hg
      exact ih (kept_step hk hg) hf
    · cases hf
theorem came_fold (K : Kp) (room : Nat) (l : List Rc) : ∃ K', foldK K (l.take (came K room l)) = some K' := by
  induction l generalizing K room with
  | nil => exact ⟨K, by simp [foldK]⟩
  | cons r l ih =>
    cases room with
    | zero => exact ⟨K, by simp [came, foldK]⟩
    | succ m =>
      simp only [came]
      split
      · rename_i hg
        obtain ⟨K', h⟩ := ih (stepK K r) m
        exact ⟨K', by rw [List.take_succ_cons, foldK, if_pos hg]; exact h⟩
      · exact ⟨K, by simp [foldK]⟩
theorem after_of {K K' : Kp} {l : List Rc} (hk : keptB K = true) (hl : l.length ≤ 80) (h : foldK K l = some K') : afterK K l = K' := by
  have hs := storeB_mk (S := ⟨K, l⟩) hk hl h
  rw [← heldK_after (S := ⟨K, l⟩) hk hl, heldK_yes hs h]
theorem firstN_whole9 (l : List Rc) : firstN ((l.length : Nat) : Int) l = l := by
  unfold firstN
  simp
/-- What stands where the store is right. -/
structure StF (S : Sto) (L : List Rc) (n : Int) (m : Nat) (Kz : Kp) : Prop where
  kh : keptB (heldK S) = true
  sy : syncS S = ⟨heldK S, []⟩
  yo : storeB ⟨heldK S, []⟩ = true
  yh : heldK ⟨heldK S, []⟩ = heldK S
  mw : wrN ⟨heldK S, []⟩ L n = m
  zw : wrS ⟨heldK S, []⟩ L n = ⟨heldK S, L.take m⟩
  ml : m ≤ L.length
  m8 : m ≤ 80
  zf : foldK (heldK S) (L.take m) = some Kz
  zo : storeB ⟨heldK S, L.take m⟩ = true
  zh : heldK ⟨heldK S, L.take m⟩ = Kz
  zy : syncS ⟨heldK S, L.take m⟩ = ⟨Kz, []⟩
  xo : storeB (wrS S L n) = true
  xl : (wrS S L n).l.length = S.l.length + wrN S L n
  xk : wrN S L n ≤ L.length
theorem sync_of {S : Sto} (h : storeB S = true) : syncS S = ⟨heldK S, []⟩ := by
  obtain ⟨h1, h2, K, hf⟩ := storeB_out h
  unfold syncS
  rw [loseS_yes h, firstN_whole9, ← heldK_after h1 h2]
theorem came_take (K : Kp) (room : Nat) (L : List Rc) (n : Int) : (firstN n L).take (came K room (firstN n L)) = L.take (came K room (firstN n L)) := by
  have h := (came_le K room (firstN n L)).1
  unfold firstN at h ⊢
  rw [List.take_take]
  congr 1
  simp only [List.length_take] at h
  omega
theorem st_facts {S : Sto} (h : storeB S = true) (L : List Rc) (n : Int) : ∃ m Kz, StF S L n m Kz := by
  obtain ⟨h1, h2, K, hf⟩ := storeB_out h
  have hK := heldK_yes h hf
  have kk : keptB K = true := keptB_fold h1 hf
  have yo : storeB ⟨K, []⟩ = true := storeB_mk (S := ⟨K, []⟩) (K := K) kk (by simp) rfl
  have yh : heldK ⟨K, []⟩ = K := heldK_yes (S := ⟨K, []⟩) yo rfl
  have hmw : wrN ⟨K, []⟩ L n = came K 80 (firstN n L) := by rw [wrN_yes yo, yh]; rfl
  have hle := came_le K 80 (firstN n L)
  have hlf : (firstN n L).length ≤ L.length := by unfold firstN; simp; omega
  obtain ⟨Kz, hz⟩ := came_fold K 80 (firstN n L)
  rw [came_take] at hz
  have zo : storeB ⟨K, L.take (came K 80 (firstN n L))⟩ = true := storeB_mk (S := ⟨K, L.take (came K 80 (firstN n L))⟩) kk (by simp; omega) hz
  have zh : heldK ⟨K, L.take (came K 80 (firstN n L))⟩ = Kz := heldK_yes (S := ⟨K, L.take (came K 80 (firstN n L))⟩) zo hz
  have hxw : wrN S L n = came K (80 - S.l.length) (firstN n L) := by rw [wrN_yes h, hK]
  have hxe := came_le K (80 - S.l.length) (firstN n L)
  obtain ⟨Kx, hx⟩ := came_fold K (80 - S.l.length) (firstN n L)
  rw [came_take] at hx
  have hxs : wrS S L n = ⟨S.k, S.l ++ L.take (came K (80 - S.l.length) (firstN n L))⟩ := by rw [wrS_yes h, hxw]
  refine ⟨came K 80 (firstN n L), Kz, ?_⟩
  refine ⟨by rw [hK]; exact kk, sync_of h, by rw [hK]; exact yo, by rw [hK]; exact yh, by rw [hK]; exact hmw, ?_, by omega, hle.2, by rw [hK]; exact hz, by rw [hK]; exact zo, by rw [hK]; exact zh, ?_, ?_, ?_, by rw [hxw]; omega⟩
  · rw [hK, wrS_yes yo, hmw]
    rfl
  · rw [hK, sync_of zo, zh]
  · rw [hxs]
    exact storeB_mk (S := ⟨S.k, S.l ++ L.take (came K (80 - S.l.length) (firstN n L))⟩) h1 (by simp; omega) (by rw [foldK_append, hf]; exact hx)
  · rw [hxs, hxw]
    simp
    omega
/-- One more of those that were taken up. -/
theorem StF.step {S : Sto} {L : List Rc} {n : Int} {m : Nat} {Kz : Kp} (h : StF S L n m Kz) {i : Nat} (hi : i < m) {K : Kp} (hk : foldK (heldK S) (L.take i) = some K) : ksB K (L[i]'(by have := h.ml; omega)) = true ∧ foldK (heldK S) (L.take (i + 1)) = some (ksK K (L[i]'(by have := h.ml; omega))) := by
  have hml := h.ml
  have e : ∀ j, j ≤ m → (L.take m).take j = L.take j := fun j hj => by rw [List.take_take]; congr 1; omega
  have h1 := fold_at (A := heldK S) (B := Kz) (K := K) (R := L.take m) (j := i) (by simp; omega) (keptB_fold h.kh hk) h.zf (by rw [e i (by omega)]; exact hk)
  simp only [List.getElem_take] at h1
  rw [e (i + 1) (by omega)] at h1
  exact ⟨h1.1, h1.2.2.1⟩
/-- What power leaves. -/
theorem StF.lose {S : Sto} {L : List Rc} {n : Int} {m : Nat} {Kz : Kp} (h : StF S L n m Kz) {i keep : Nat} (hi : i = min m keep) {K : Kp} (hk : foldK (heldK S) (L.take i) = some K) : loseS ⟨heldK S, L.take m⟩ (keep : Nat) = ⟨K, []⟩ := by
  rw [loseS_yes h.zo]
  have e : firstN ((keep : Nat) : Int) (L.take m) = L.take i := by
    unfold firstN
    rw [Int.toNat_natCast, List.take_take]
    congr 1
    omega
  simp only
  rw [e, after_of h.kh (by simp; have := h.m8; omega) hk]
end Go.Proofs.Ytkilepoimocoeaa
namespace Go.Proofs.Ytkilepoimocoeaa
open Go.RowKit
set_option linter.unusedVariables false
section
variable {N : Nat} {a : Option Addr} {len cap : Nat} {zs : List Int} {B : Nat}
/-- The answer's block (bz), the cursor's (B), the store's (b3), the Kept's (b4), their rows, the row of records. -/
structure DW (N : Nat) (a : Option Addr) (len cap : Nat) (zs : List Int) (B : Nat) (w u : World) (bz b0 b3 b4 : Nat) (S : Sto) (v ul : Value) (K : Kp) (vk : Value) (L : List Rc) (lv : Value) : Prop where
  hw : w.heap.size ≤ bz
  hz : bz < B
  hB : B < b0
  h03 : b0 ≤ b3
  h34 : b3 < b4
  z : Blk u bz #[.int .i64 0, .int .i64 0, .int .i64 0, .int .i64 0, .string ⟨#[]⟩, .slice none 0 0, .slice none 0 0]
  s : Blk u b3 #[.int .i64 S.k.t, .int .i64 S.k.v, .int .i64 S.k.si, .int .i64 S.k.st, .string S.k.sd, v, ul]
  k : Blk u b4 #[.int .i64 K.t, .int .i64 K.v, .int .i64 K.si, .int .i64 K.st, .string K.sd, vk]
  ov : OwnX u b0 v S.k.e
  ou : OwnR u b0 ul S.l
  ok : OwnX u b0 vk K.e
  ol : OwnR u b4 lv L
  nv : ∀ k, v.ownBlock = some k → k < b3
  nu : ∀ k, ul.ownBlock = some k → k < b3
  nk : ∀ k, vk.ownBlock = some k → k ≠ b3 ∧ k ≠ b4
  nl : ∀ k, lv.ownBlock = some k → b4 < k ∧ ¬ vk.ownBlock = some k
  cur : Cur N a len cap zs B u
  o : Below w.heap.size w u
variable {w u u' : World} {bz b0 b3 b4 : Nat} {S : Sto} {v ul : Value} {K : Kp} {vk : Value} {L : List Rc} {lv : Value}
/-- Blocks are turned that none of it lies in. -/
theorem DW.turn {T : Nat → Prop} (h : DW N a len cap zs B w u bz b0 b3 b4 S v ul K vk L lv) (ho : Only T u u') (hT : ∀ k, T k → k = B ∨ (b4 < k ∧ (∀ x, vk.ownBlock = some x → x ≠ k) ∧ (∀ x, lv.ownBlock = some x → x ≠ k))) (c' : Cur N a len cap zs B u') : DW N a len cap zs B w u' bz b0 b3 b4 S v ul K vk L lv := by
  have q1 := h.hw; have q2 := h.hz; have q3 := h.hB; have q4 := h.h03; have q5 := h.h34
  have nT : ∀ k, (k ≤ b4 ∧ k ≠ B) → ¬ T k := fun k hk ht => by rcases hT k ht with e | e <;> omega
  refine ⟨h.hw, h.hz, h.hB, h.h03, h.h34, h.z.only ho (nT _ (by omega)), h.s.only ho (nT _ (by omega)), h.k.only ho (nT _ (by omega)), h.ov.only ho (fun k hk => nT k ?_), h.ou.only ho (fun k hk => nT k ?_), h.ok.only ho (fun k hk ht => ?_), h.ol.only ho (fun k hk ht => ?_), h.nv, h.nu, h.nk, h.nl, c', h.o.trans (ho.below h.o.size (fun k hk ht => ?_))⟩
  · have := h.nv k hk; have := (h.ov.lt k hk).1; omega
  · have := h.nu k hk; have := (h.ou.lt k hk).1; omega
  · rcases hT k ht with e | e
    · have := (h.ok.lt k hk).1; omega
    · exact e.2.1 k hk rfl
  · rcases hT k ht with e | e
    · have := (h.ol.lt k hk).1; omega
    · exact e.2.2 k hk rfl
  · rcases hT k ht with e | e <;> omega
theorem DW.step (h : DW N a len cap zs B w u bz b0 b3 b4 S v ul K vk L lv) (g : u.grownBy u' (some B)) (c' : Cur N a len cap zs B u') : DW N a len cap zs B w u' bz b0 b3 b4 S v ul K vk L lv :=
  h.turn (grown_only g) (fun k hk => .inl (by simpa using hk)) c'
theorem DW.kept (h : DW N a len cap zs B w u bz b0 b3 b4 S v ul K vk L lv) (g : Below u.heap.size u u') : DW N a len cap zs B w u' bz b0 b3 b4 S v ul K vk L lv :=
  h.turn (T := fun _ => False) (Below.any g) (fun k hk => hk.elim) (h.cur.kept (grown_below g))
/-- The Kept's block is written. -/
theorem DW.setK {K' : Kp} {vk' : Value} (h : DW N a len cap zs B w u bz b0 b3 b4 S v ul K vk L lv) (ho : Only (fun k => k = b4) u u') (hx : Blk u' b4 #[.int .i64 K'.t, .int .i64 K'.v, .int .i64 K'.si, .int .i64 K'.st, .string K'.sd, vk']) (own : OwnX u b0 vk' K'.e) (ne : ∀ k, vk'.ownBlock = some k → k ≠ b3 ∧ k ≠ b4) (nl : ∀ k, lv.ownBlock = some k → ¬ vk'.ownBlock = some k) : DW N a len cap zs B w u' bz b0 b3 b4 S v ul K' vk' L lv := by
  have q1 := h.hw; have q2 := h.hz; have q3 := h.hB; have q4 := h.h03; have q5 := h.h34
  refine ⟨h.hw, h.hz, h.hB, h.h03, h.h34, h.z.only ho (by omega), h.s.only ho (by omega), hx, h.ov.only ho (fun k hk e => ?_), h.ou.only ho (fun k hk e => ?_), own.only ho (fun k hk e => (ne k hk).2 e), h.ol.only ho (fun k hk e => ?_), h.nv, h.nu, ne, fun k hk => ⟨(h.nl k hk).1, nl k hk⟩, h.cur.only ho (by intro k hk; omega), h.o.trans (ho.below h.o.size (fun k hk e => by omega))⟩
  · have := h.nv k hk; omega
  · have := h.nu k hk; omega
  · have := (h.nl k hk).1; omega
/-- A record is appended. -/
theorem DW.app {L' : List Rc} {lv' : Value} (h : DW N a len cap zs B w u bz b0 b3 b4 S v ul K vk L lv) (ho : Only (fun k => some k = lv.ownBlock) u u') (own : OwnR u' b4 lv' L') (loc : lv'.ownBlock = lv.ownBlock ∨ lv'.ownBlock = some u.heap.size) : DW N a len cap zs B w u' bz b0 b3 b4 S v ul K vk L' lv' := by
  have q1 := h.hw; have q2 := h.hz; have q3 := h.hB; have q4 := h.h03; have q5 := h.h34
  have hk := h.k.hi
  have nT : ∀ k, k ≤ b4 → ¬ some k = lv.ownBlock := fun k hk e => by have := (h.nl k e.symm).1; omega
  refine ⟨h.hw, h.hz, h.hB, h.h03, h.h34, h.z.only ho (nT _ (by omega)), h.s.only ho (nT _ (by omega)), h.k.only ho (nT _ (by omega)), h.ov.only ho (fun k hk => nT k (by have := h.nv k hk; omega)), h.ou.only ho (fun k hk => nT k (by have := h.nu k hk; omega)), h.ok.only ho (fun k hk e => (h.nl k e.symm).2 hk), own, h.nv, h.nu, h.nk, fun k hk2 => ?_, h.cur.only ho (fun k e => by have := (h.nl k e.symm).1; omega), h.o.trans (ho.below h.o.size (fun k hk e => by have := (h.nl k e.symm).1; omega))⟩
  rcases loc with e | e
  · rw [e] at hk2
    exact h.nl k hk2
  · rw [e] at hk2
    cases hk2
    exact ⟨hk, fun e2 => by have := (h.ok.lt _ e2).2; omega⟩
/-- The row of records begins anew. -/
theorem DW.anew {lv' : Value} (h : DW N a len cap zs B w u bz b0 b3 b4 S v ul K vk L lv) (g : Below u.heap.size u u') (own : OwnR u' b4 lv' []) (ne : ∀ k, lv'.ownBlock = some k → u.heap.size ≤ k) : DW N a len cap zs B w u' bz b0 b3 b4 S v ul K vk [] lv' := by
  have h2 := h.kept g
  have hk := h.k.hi
  exact ⟨h2.hw, h2.hz, h2.hB, h2.h03, h2.h34, h2.z, h2.s, h2.k, h2.ov, h2.ou, h2.ok, own, h2.nv, h2.nu, h2.nk, fun k hk2 => ⟨by have := ne k hk2; omega, fun e => by have := (h.ok.lt k e).2; have := ne k hk2; omega⟩, h2.cur, h2.o⟩
end
/-- Seven cells of seven are written. -/
theorem Blk.all7 {w : World} {g : Nat} {y0 y1 y2 y3 y4 y5 y6 : Value} (h : Blk w g #[y0, y1, y2, y3, y4, y5, y6]) (x0 x1 x2 x3 x4 x5 x6 : Value) :
    ∃ X, ((((((w.setCell ⟨g, 0, none⟩ x0).setCell ⟨g, 1, none⟩ x1).setCell ⟨g, 2, none⟩ x2).setCell ⟨g, 3, none⟩ x3).setCell ⟨g, 4, none⟩ x4).setCell ⟨g, 5, none⟩ x5).setCell ⟨g, 6, none⟩ x6 = X ∧ Blk X g #[x0, x1, x2, x3, x4, x5, x6] ∧ Only (fun k => k = g) w X := by
  refine ⟨_, rfl, ?_, ?_⟩
  · have := ((((((h.set 0 (by simp) x0).set 1 (by simp) x1).set 2 (by simp) x2).set 3 (by simp) x3).set 4 (by simp) x4).set 5 (by simp) x5).set 6 (by simp) x6
    simpa using this
  · repeat (refine Only.setCell ?_ (by simp) _)
    exact Only.refl _ _
/-- What DrawWrite comes to. -/
def DrawWP (w : World) (e : Ending) (w' : World) : Prop := ∃ (S : Sto) (v u : Value) (L : List Rc) (x : Value) (n : Int), e = .returned (.tuple #[stV S v u, x, .int .i64 n]) ∧ RowE w' w'.heap.size v S.k.e ∧ RowR w' w'.heap.size u S.l ∧ RowR w' w'.heap.size x L ∧ L.length ≤ 90 ∧ Below w.heap.size w w'
theorem held_bn (S : Sto) : Bn 101 (heldK S) := by
  cases h : storeB S with
  | false => rw [heldK_no h]; exact ⟨by simp [kpZ], by simp [kpZ], by simp [kpZ], by simp [kpZ], by simp [kpZ]⟩
  | true =>
    obtain ⟨h1, h2, K, hf⟩ := storeB_out h
    rw [heldK_yes h hf]
    have hk := keptB_head (keptB_fold h1 hf)
    unfold headP at hk
    exact ⟨by omega, by omega, by omega, by omega, by omega⟩
end Go.Proofs.Ytkilepoimocoeaa
namespace Go.Proofs.Ytkilepoimocoeaa
open Go.RowKit
set_option linter.unusedVariables false
theorem rc_news {w : World} (r : Rc) (T : TypeId) : ∀ j u, (rcF [r])[j]? = some u → (w.alloc (.cells #[.int .i64 r.k, .int .i64 r.t, .int .i64 r.i, .int .i64 r.v, .string r.d] T)).cell? ((⟨w.heap.size, 0, none⟩ : Addr).add j) = some u := by
  intro j u hu
  simp only [rcF, rcC, List.flatMap_cons, List.flatMap_nil, List.append_nil] at hu
  rcases j with _ | _ | _ | _ | _ | j <;> simp at hu <;> subst hu <;> simp [Addr.add, go_sem]
section
variable {N : Nat} {a : Option Addr} {len cap : Nat} {zs : List Int} {B : Nat}
set_option maxRecDepth 100000 in
set_option maxHeartbeats 8000000 in
theorem l3Store_any (w : World) (c : Cur N a len cap zs B w) :
    Calls Try.prog 39 #[.pointer (some ⟨B, 0, none⟩)] w fun e w' => DrawSt N a len cap zs B w e w' := by
  obtain ⟨W, hW, bW, zW, cW, fW⟩ := boxed w #[.int .i64 0, .int .i64 0, .int .i64 0, .int .i64 0, .string ⟨#[]⟩, .slice none 0 0, .slice none 0 0] 31
  have C := Hid.intro (c.kept (grown_below bW))
  have hBw := c.lt
  have HBW := Hid.intro bW
  clear c
  go_enter Try.func39, Try.ntmps39
  go_wp2_with fail
  try simp only [hW]
  clear hW bW
  refine (l3AnyKept_any W C.out).mono ?_
  rintro e w1 ⟨K0, v, rfl, o1, d1, c1, g1⟩
  obtain ⟨a0, c0, rfl⟩ := o1.slice
  have HO := Hid.intro o1
  have HBD := Hid.intro d1
  have C1 := Hid.intro c1
  have HG := Hid.intro g1
  have z1 := g1.size
  clear o1 d1 c1 g1 C
  go_upto_region 2 with fail
  obtain ⟨X, hX, bX, zX, dX, eX⟩ := boxed w1 #[.int .i64 K0.t, .int .i64 K0.v, .int .i64 K0.si, .int .i64 K0.st, .string K0.sd, .slice a0 K0.e.length c0, .slice none 0 0] 31
  try simp only [hX]
  go_upto_region 3 with fail
  obtain ⟨X4, hX4, bX4, zX4, dX4, eX4⟩ := boxed X #[.int .i64 K0.t, .int .i64 K0.v, .int .i64 K0.si, .int .i64 K0.st, .string K0.sd, .slice a0 K0.e.length c0] 28
  try simp only [hX4]
  rw [zX] at dX4 eX4
  have HD : Hid (DS N a len cap zs B w X4 w1.heap.size (w1.heap.size + 1) ⟨K0, []⟩ (.slice a0 K0.e.length c0) (.slice none 0 0) K0 (.slice a0 K0.e.length c0)) := by
    have r1 : Blk w1 w.heap.size #[.int .i64 0, .int .i64 0, .int .i64 0, .int .i64 0, .string ⟨#[]⟩, .slice none 0 0, .slice none 0 0] := (Blk.mk (by omega) cW fW : Blk W _ _).only (grown_only HG.out) (by simp; omega)
    have s1 : Blk X w1.heap.size #[.int .i64 K0.t, .int .i64 K0.v, .int .i64 K0.si, .int .i64 K0.st, .string K0.sd, .slice a0 K0.e.length c0, .slice none 0 0] := ⟨by omega, dX, eX⟩
    have hown := (HO.out.kept bX).kept bX4
    have hlt := HO.out.lt
    refine ⟨hBw, (r1.kept bX).kept bX4, s1.kept bX4, ⟨by omega, dX4, eX4⟩, by omega, by omega, hown.lower (by omega), hown.lower (by omega), OwnR.nil _ _, (fun k hk => by have := hlt k hk; omega), (fun k hk => by have := hlt k hk; omega), (fun k hk => by cases hk), (C1.out.kept (grown_below bX)).kept (grown_below bX4), ?_⟩
    exact ((Only.then (b := W) (T := fun k => some k = some B) (Below.any HBW.out) (grown_only HG.out) (by intro k hk h; left; simpa using h)).trans (Below.any bX)).trans (Below.any bX4)
  clear hX bX zX dX eX hX4 bX4 zX4 dX4 eX4 cW fW HBW HG C1 zW z1 HO
  generalize hb4 : w1.heap.size + 1 = b4 at *
  generalize w1.heap.size = b3 at *
  clear hb4
  go_wp2_with fail
  refine (belowC_any 6 X4 HD.out.cur (by omega) (by omega)).mono ?_
  rintro e w3 ⟨y, rfl, y0, y1, c3, g3⟩
  replace HD := Hid.intro (HD.out.step g3 c3)
  clear c3 g3
  obtain ⟨n0, rfl⟩ := Int.eq_ofNat_of_zero_le y0
  go_wp2_with fail
  go_loopw [5] (fun s wr => ∃ (n : Nat) (S : Sto) (ul : Value) (K : Kp) (vk : Value), s = .int .i64 n ∧ n ≤ 5 ∧ S.k = K0 ∧ S.l.length + n ≤ 5 ∧ (∀ r ∈ S.l, r.d.size ≤ 1700) ∧ Bn (101 + (5 - n)) K ∧ DS N a len cap zs B w wr b3 b4 S (.slice a0 K0.e.length c0) ul K vk) (fun s _ => (intOf s).toNat)
  case atStart => exact ⟨n0, ⟨K0, []⟩, _, K0, _, rfl, by omega, rfl, by simp; omega, (fun r hr => by cases hr), HBD.out.n.up (by omega), HD.out⟩
  case round =>
    obtain ⟨n', S, ul, K, vk, rfl, hn, hSk, hln, hls, hbn, hd⟩ := hrel
    have HLS := Hid.intro hls
    have HBN := Hid.intro hbn
    replace HD := Hid.intro hd
    obtain ⟨ak, ck, rfl⟩ := hd.ok.slice
    obtain ⟨au, cu, rfl⟩ := hd.ol.slice
    clear hls hbn hd
    rcases n' with _ | n
    · have fin : ∀ V, (((((((wr.setCell ⟨w.heap.size, 0, none⟩ (.int .i64 S.k.t)).setCell ⟨w.heap.size, 1, none⟩ (.int .i64 S.k.v)).setCell ⟨w.heap.size, 2, none⟩ (.int .i64 S.k.si)).setCell ⟨w.heap.size, 3, none⟩ (.int .i64 S.k.st)).setCell ⟨w.heap.size, 4, none⟩ (.string S.k.sd)).setCell ⟨w.heap.size, 5, none⟩ (.slice a0 K0.e.length c0)).setCell ⟨w.heap.size, 6, none⟩ (.slice au S.l.length cu)) = V → Hid (DrawSt N a len cap zs B w (.returned (stV S (.slice a0 K0.e.length c0) (.slice au S.l.length cu))) V) := fun V hV => Hid.intro (hV ▸ (HD.out.end (hSk ▸ HBD.out) (by omega) HLS.out))
      obtain ⟨V, hV, kV, oV⟩ := HD.out.z.all7 (.int .i64 S.k.t) (.int .i64 S.k.v) (.int .i64 S.k.si) (.int .i64 S.k.st) (.string S.k.sd) (.slice a0 K0.e.length c0) (.slice au S.l.length cu)
      replace fin := fin V hV
      have k0 : wr.cell? ⟨w.heap.size, 0, none⟩ = some (.int .i64 0) := HD.out.z.cell 0
      have f0 : wr.frozen? ⟨w.heap.size, 0, none⟩ = false := HD.out.z.fro 0
      have s0 : wr.cell? ⟨b3, 0, none⟩ = some (.int .i64 S.k.t) := HD.out.s.cell 0
      have k1 : wr.cell? ⟨w.heap.size, 1, none⟩ = some (.int .i64 0) := HD.out.z.cell 1
      have f1 : wr.frozen? ⟨w.heap.size, 1, none⟩ = false := HD.out.z.fro 1
      have s1 : wr.cell? ⟨b3, 1, none⟩ = some (.int .i64 S.k.v) := HD.out.s.cell 1
      have k2 : wr.cell? ⟨w.heap.size, 2, none⟩ = some (.int .i64 0) := HD.out.z.cell 2
      have f2 : wr.frozen? ⟨w.heap.size, 2, none⟩ = false := HD.out.z.fro 2
      have s2 : wr.cell? ⟨b3, 2, none⟩ = some (.int .i64 S.k.si) := HD.out.s.cell 2
      have k3 : wr.cell? ⟨w.heap.size, 3, none⟩ = some (.int .i64 0) := HD.out.z.cell 3
      have f3 : wr.frozen? ⟨w.heap.size, 3, none⟩ = false := HD.out.z.fro 3
      have s3 : wr.cell? ⟨b3, 3, none⟩ = some (.int .i64 S.k.st) := HD.out.s.cell 3
      have k4 : wr.cell? ⟨w.heap.size, 4, none⟩ = some (.string ⟨#[]⟩) := HD.out.z.cell 4
      have f4 : wr.frozen? ⟨w.heap.size, 4, none⟩ = false := HD.out.z.fro 4
      have s4 : wr.cell? ⟨b3, 4, none⟩ = some (.string S.k.sd) := HD.out.s.cell 4
      have k5 : wr.cell? ⟨w.heap.size, 5, none⟩ = some (.slice none 0 0) := HD.out.z.cell 5
      have f5 : wr.frozen? ⟨w.heap.size, 5, none⟩ = false := HD.out.z.fro 5
      have s5 : wr.cell? ⟨b3, 5, none⟩ = some (.slice a0 K0.e.length c0) := HD.out.s.cell 5
      have k6 : wr.cell? ⟨w.heap.size, 6, none⟩ = some (.slice none 0 0) := HD.out.z.cell 6
      have f6 : wr.frozen? ⟨w.heap.size, 6, none⟩ = false := HD.out.z.fro 6
      have s6 : wr.cell? ⟨b3, 6, none⟩ = some (.slice au S.l.length cu) := HD.out.s.cell 6
      have v0 := kV.cell 0
      have v1 := kV.cell 1
      have v2 := kV.cell 2
      have v3 := kV.cell 3
      have v4 := kV.cell 4
      have v5 := kV.cell 5
      have v6 := kV.cell 6
      clear HD HLS HBN HBD oV kV
      simp only [hSk] at hV v0 v1 v2 v3 v4
      go_wp2
      clear hV f0 f1 f2 f3 f4 f5 f6 k0 k1 k2 k3 k4 k5 k6 s0 s1 s2 s3 s4 s5 s6
      exact bodyPost_ret (v := stV S (.slice a0 K0.e.length c0) (.slice au S.l.length cu)) (by simp [results, Try.results39, go_sem, hSk, v0, v1, v2, v3, v4, v5, v6]) rfl fin.out
    · have kn : (0 : Int) < ((n + 1 : Nat) : Int) := by omega
      have k4 := HD.out.k.cell
      go_wp2_with fail
      refine (l3Rec_any K _ w.heap.size wr HD.out.cur HD.out.ok hBw (HBN.out.up (by omega))).mono ?_
      rintro e w2 ⟨r, rfl, hrd, c2, g2⟩
      replace HD := Hid.intro (HD.out.step g2 c2)
      clear c2 g2 k4
      have h36 : b3 < w2.heap.size ∧ b4 < w2.heap.size := ⟨HD.out.s.hi, HD.out.k.hi⟩
      have h03 : w.heap.size < b3 ∧ b3 < b4 := ⟨HD.out.h3, HD.out.h4⟩
      go_upto_region 7 with fail
      obtain ⟨Y, hY, bY, zY, dY, eY⟩ := boxed w2 #[.int .i64 r.k, .int .i64 r.t, .int .i64 r.i, .int .i64 r.v, .string r.d] 43
      try simp only [hY]
      have R6 : Hid (Blk Y w2.heap.size #[.int .i64 r.k, .int .i64 r.t, .int .i64 r.i, .int .i64 r.v, .string r.d]) := ⟨by omega, dY, eY⟩
      replace HD := Hid.intro (HD.out.kept bY)
      have RK := Hid.intro HD.out.ok.rowAll
      have HUL : Hid (∀ k, (Value.slice au S.l.length cu).ownBlock = some k → k < Y.heap.size) := fun k hk => (HD.out.ol.lt k hk).2
      have hYw : w.heap.size ≤ Y.heap.size := HD.out.o.size
      clear hY bY dY eY
      have HS : Hid (∀ u', Below Y.heap.size Y u' → (fun u => (∀ o, u.cell? ⟨b4, o, none⟩ = (#[.int .i64 K.t, .int .i64 K.v, .int .i64 K.si, .int .i64 K.st, .string K.sd, .slice ak K.e.length ck] : Array Value)[o]?) ∧ (∀ o, u.cell? ⟨w2.heap.size, o, none⟩ = (#[.int .i64 r.k, .int .i64 r.t, .int .i64 r.i, .int .i64 r.v, .string r.d] : Array Value)[o]?)) u') := fun u' hb => ⟨(HD.out.k.kept hb).cell, (R6.out.kept hb).cell⟩
      refine wp_region_held_drew (S := fun u => (∀ o, u.cell? ⟨b4, o, none⟩ = (#[.int .i64 K.t, .int .i64 K.v, .int .i64 K.si, .int .i64 K.st, .string K.sd, .slice ak K.e.length ck] : Array Value)[o]?) ∧ (∀ o, u.cell? ⟨w2.heap.size, o, none⟩ = (#[.int .i64 r.k, .int .i64 r.t, .int .i64 r.i, .int .i64 r.v, .string r.d] : Array Value)[o]?)) (by kernel_rfl) (HS.out _ (Below.refl _ _).drew) (fun hHeld => ?_)
      have BWD : Below Y.heap.size Y Y.drew := (Below.refl _ _).drew
      generalize Y.drew = D at BWD hHeld ⊢
      refine take1 (i := 0) (d := some 24) (v := ?_) rfl rfl (by kernel_rfl) (by kernel_rfl) (by kernel_rfl) (fun _ _ _ h => h) (Or.inl ⟨by rfl, ?_⟩) (by assumption) ?_
      rotate_left 1
      · intro w hSw
        obtain ⟨q0, q1⟩ := hSw
        go_simp <;> with_reducible rfl
      simp only [Act.put, List.setIfInBounds_toArray]
      try simp only [List.set_cons_succ]
      try simp only [List.set_cons_zero]
      refine take1 (i := 2) (d := some 26) (v := ?_) rfl rfl (by kernel_rfl) (by kernel_rfl) (by kernel_rfl) (fun _ _ _ h => h) (Or.inl ⟨by rfl, ?_⟩) (by assumption) ?_
      rotate_left 1
      · intro w hSw
        obtain ⟨q0, q1⟩ := hSw
        go_simp <;> with_reducible rfl
      simp only [Act.put, List.setIfInBounds_toArray]
      try simp only [List.set_cons_succ]
      try simp only [List.set_cons_zero]
      refine wpAnyH_ready (rs := [1, 7]) (by kernel_rfl) (by simp) ?_
      refine AllReadyH.cons rfl (fun KK hKK => ?_) (AllReadyH.cons rfl (fun KK hKK => ?_) AllReadyH.nil)
      · skip
        go_simp
        refine (l3Copy_any K (.slice ak K.e.length ck) Y.heap.size D BWD.size (RK.out.kept BWD) (by have := HBN.out.e; omega)).mono ?_
        rintro e wA ⟨vA, rfl, oA, bA⟩
        have BWwA : Below Y.heap.size Y wA := BWD.trans (bA.mono BWD.size)
        have HA := Hid.intro (oA.lower BWD.size)
        have lA := Hid.intro oA.lt
        clear bA oA
        go_simp
        refine hKK.out _ _ (HS.out _ BWwA) (fun hHeld2 => ?_)
        clear hKK KK hHeld
        have hHeld := hHeld2
        clear hHeld2
        refine wpAnyH_ready (rs := [3, 7]) (by kernel_rfl) (by simp) ?_
        refine AllReadyH.cons rfl (fun KK hKK => ?_) (AllReadyH.cons rfl (fun KK hKK => ?_) AllReadyH.nil)
        · skip
          go_simp
          refine (l3StepX_any K vA Y.heap.size r wA BWwA.size HA.out (by have := HBN.out; exact ⟨by have := this.i0; omega, by have := this.i1; omega, by have := this.e; omega⟩)).mono ?_
          rintro e w5 ⟨v5, rfl, o5, loc5, on5⟩
          obtain ⟨a5, c5, rfl⟩ := o5.slice
          have BWw5 : Below Y.heap.size Y w5 := BWwA.trans (on5.below BWwA.size (fun k hk e => by have := (HA.out.lt k e.symm).1; omega))
          have H5 := Hid.intro o5
          have N5 : Hid (∀ k, (Value.slice a5 (nextK K r).e.length c5).ownBlock = some k → k ≠ w5.heap.size) := fun k hk => by have := (o5.lt k hk).2; omega
          clear o5 on5 loc5
          go_simp
          refine hKK.out _ _ (HS.out _ BWw5) (fun hHeld2 => ?_)
          clear hKK KK hHeld
          have hHeld := hHeld2
          clear hHeld2
          refine take1 (i := 4) (d := some 23) (v := ?_) rfl rfl (by kernel_rfl) (by kernel_rfl) (by kernel_rfl) (fun _ _ _ h => h) (Or.inl ⟨by rfl, ?_⟩) (by assumption) ?_
          rotate_left 1
          · intro w hSw
            obtain ⟨q0, q1⟩ := hSw
            go_simp <;> with_reducible rfl
          simp only [Act.put, List.setIfInBounds_toArray]
          try simp only [List.set_cons_succ]
          try simp only [List.set_cons_zero]
          refine take1 (i := 5) (d := some 28) (v := ?_) rfl rfl (by kernel_rfl) (by kernel_rfl) (by kernel_rfl) (fun _ _ _ h => h) (Or.inl ⟨by rfl, ?_⟩) (by assumption) ?_
          rotate_left 1
          · intro w hSw
            obtain ⟨q0, q1⟩ := hSw
            go_simp <;> with_reducible rfl
          simp only [Act.put, List.setIfInBounds_toArray]
          try simp only [List.set_cons_succ]
          try simp only [List.set_cons_zero]
          refine take1 (i := 6) (d := some 29) (v := ?_) rfl rfl (by kernel_rfl) (by kernel_rfl) (by kernel_rfl) (fun _ _ _ h => h) (Or.inl ⟨by rfl, ?_⟩) (by assumption) ?_
          rotate_left 1
          · intro w hSw
            obtain ⟨q0, q1⟩ := hSw
            go_simp <;> with_reducible rfl
          simp only [Act.put, List.setIfInBounds_toArray]
          try simp only [List.set_cons_succ]
          try simp only [List.set_cons_zero]
          refine wpAnyH_ready (rs := [7]) (by kernel_rfl) (by simp) ?_
          refine AllReadyH.cons rfl (fun KK hKK => ?_) AllReadyH.nil
          go_simp
          obtain ⟨X7, hX7, bX7, zX7, dX7, eX7⟩ := boxed w5 #[.int .i64 0, .int .i64 0, .int .i64 0, .int .i64 0, .string ⟨#[]⟩, .slice none 0 0] 28
          simp only [hX7]
          have Y7 : Hid (Blk X7 w5.heap.size #[.int .i64 0, .int .i64 0, .int .i64 0, .int .i64 0, .string ⟨#[]⟩, .slice none 0 0]) := ⟨by omega, dX7, eX7⟩
          have hx7 : w5.heap.size < X7.heap.size := by omega
          have BWX7 : Below Y.heap.size Y X7 := BWw5.trans (bX7.mono BWw5.size)
          replace H5 := Hid.intro (H5.out.kept bX7)
          clear hX7 bX7 zX7 dX7 eX7
          refine hKK.out _ _ (HS.out _ BWX7) (fun hHeld2 => ?_)
          clear hKK KK hHeld
          have hHeld := hHeld2
          clear hHeld2
          refine wpAnyH_ready (rs := [8]) (by kernel_rfl) (by simp) ?_
          refine AllReadyH.cons rfl (fun KK hKK => ?_) AllReadyH.nil
          have k7 := Y7.out.cell
          have f7 := Y7.out.fro
          have hyb : Y.heap.size ≤ w5.heap.size := BWw5.size
          go_simp
          obtain ⟨V, hV, kV, oV⟩ := Y7.out.all6 (.int .i64 (nextK K r).t) (.int .i64 (nextK K r).v) (.int .i64 (nextK K r).si) (.int .i64 (nextK K r).st) (.string (nextK K r).sd) (.slice a5 (nextK K r).e.length c5)
          simp only [hV]
          have BWV : Below Y.heap.size Y V := BWX7.trans (oV.below BWX7.size (fun k hk e => by omega))
          have HX := Hid.intro (H5.out.only oV (fun k hk e => N5.out k hk e)).x
          refine hKK.out _ _ (HS.out _ BWV) (fun hHeld2 => ?_)
          clear hKK KK hHeld
          have hHeld := hHeld2
          clear hHeld2
          refine take1 (i := 9) (d := some 8) (v := ?_) rfl rfl (by kernel_rfl) (by kernel_rfl) (by kernel_rfl) (fun _ _ _ h => h) (Or.inl ⟨by rfl, ?_⟩) (by assumption) ?_
          rotate_left 1
          · intro w hSw
            obtain ⟨q0, q1⟩ := hSw
            go_simp <;> with_reducible rfl
          simp only [Act.put, List.setIfInBounds_toArray]
          try simp only [List.set_cons_succ]
          try simp only [List.set_cons_zero]
          refine wpAnyH_done (by kernel_rfl) ?_ _
          clear hHeld k7 f7 hV H5
          have KV := Hid.intro kV
          have HDV := Hid.intro (HD.out.kept BWV)
          have R6V := Hid.intro (R6.out.kept BWV)
          have hzV := BWV.size
          clear BWV oV kV
          cases hg : goB K r with
          | true =>
            go_upto_region 9 with fail
            have cs := HDV.out.s.cell
            have fs := HDV.out.s.fro
            have c6 := R6V.out.cell
            have hbw : w.heap.size ≤ V.heap.size := HDV.out.o.size
            have HDA := Hid.intro (HDV.out.kept ((Below.refl V.heap.size V).alloc (Nat.le_refl _) (.cells #[.int .i64 r.k, .int .i64 r.t, .int .i64 r.i, .int .i64 r.v, .string r.d] 43)))
            have KVA := Hid.intro (KV.out.kept ((Below.refl V.heap.size V).alloc (Nat.le_refl _) (.cells #[.int .i64 r.k, .int .i64 r.t, .int .i64 r.i, .int .i64 r.v, .string r.d] 43)))
            have HXA := Hid.intro (HX.out.kept ((Below.refl V.heap.size V).alloc (Nat.le_refl _) (.cells #[.int .i64 r.k, .int .i64 r.t, .int .i64 r.i, .int .i64 r.v, .string r.d] 43)))
            have hnw := rc_news (w := V) r 43
            go_upto_region 10 with (at_builtin; refine app_R rfl _ _ rfl w.heap.size (.slice au S.l.length cu) S.l [r] rfl HDA.out.ol ⟨V.heap.size, 0, none⟩ 1 rfl hnw (by simp; omega) (by simp; omega) (by simp) ?_; intro g8 cap8 w8 o8 hO8 hloc8; have HQ := Hid.intro (HDA.out.app hO8 o8 (hloc8.elim (fun e => .inl e) (fun e => .inr (by rw [e]; rfl)))); have HX8 := HDA.out.s.only hO8 (fun e => (HDA.out.nl _ e.symm).2.1 rfl); have KV8 := Hid.intro (KVA.out.only hO8 (fun e => by have := HUL.out _ e.symm; omega)); have HO8 := Hid.intro (HXA.out.only hO8 (fun k hk e => by have := HUL.out _ e.symm; have := (HXA.out.lt k hk).1; omega)); have HG8 : Hid (∀ k, (Value.slice (some ⟨g8, 0, none⟩) (S.l.length + 1) cap8).ownBlock = some k → ¬ (Value.slice a5 (nextK K r).e.length c5).ownBlock = some k) := (fun k hk e => by have h1 := HXA.out.lt k e; simp only [Value.ownBlock, Option.some.injEq] at hk; subst hk; exact hloc8.elim (fun e2 => by have := HUL.out _ e2.symm; omega) (fun e2 => by omega)); replace cs := HX8.cell; replace fs := HX8.fro; clear o8 hO8 hloc8 HX8)
            have KV9 := Hid.intro (KV8.out.only (only_set w8 b3 6 (.slice (some ⟨g8, 0, none⟩) (S.l.length + [r].length) cap8)) (by omega))
            have HO9 := Hid.intro (HO8.out.only (only_set w8 b3 6 (.slice (some ⟨g8, 0, none⟩) (S.l.length + [r].length) cap8)) (fun k hk e => by have := (HO8.out.lt k hk).1; omega))
            clear cs fs c6 hnw
            simp only [List.length_singleton] at HQ KV9 HO9
            generalize w8.setCell ⟨b3, 6, none⟩ (.slice (some ⟨g8, 0, none⟩) (S.l.length + 1) cap8) = U8 at HQ KV9 HO9 ⊢
            have ky := KV9.out.cell
            have k4 := HQ.out.k.cell
            have f4 := HQ.out.k.fro
            obtain ⟨V2, hV2, kV2, oV2⟩ := HQ.out.k.all6 (.int .i64 (nextK K r).t) (.int .i64 (nextK K r).v) (.int .i64 (nextK K r).si) (.int .i64 (nextK K r).st) (.string (nextK K r).sd) (.slice a5 (nextK K r).e.length c5)
            have HE := Hid.intro (HQ.out.setK oV2 kV2 (HO9.out.lower hYw) (fun k hk => by have := (HO9.out.lt k hk).1; omega) (fun k hk e => HG8.out k hk e))
            go_wp2_with fail
            try simp only [hV2]
            go_roundw
            case rel =>
              refine ⟨n, ⟨S.k, S.l ++ [r]⟩, _, nextK K r, _, by go_num, by omega, hSk, by simp; omega, ?_, (HBN.out.next r).up (by omega), HE.out⟩
              intro x hx
              simp only [List.mem_append, List.mem_singleton] at hx
              rcases hx with hx | rfl
              · exact HLS.out x hx
              · exact hrd
            case measure => simp [intOf]
          | false =>
            go_wp2_with fail
            refine (onceC_any 25 V HDV.out.cur (by omega) (by omega)).mono ?_
            rintro e w7 ⟨q7, rfl, c7, g7⟩
            replace HDV := Hid.intro (HDV.out.step g7 c7)
            replace R6V := Hid.intro (R6V.out.only (grown_only g7) (by simp; omega))
            replace KV := Hid.intro (KV.out.only (grown_only g7) (by simp; omega))
            replace HX := Hid.intro (HX.out.step g7 (by omega))
            replace hzV : Y.heap.size ≤ w7.heap.size := by have := g7.size; omega
            clear c7 g7
            cases q7 with
            | true =>
              go_upto_region 9 with fail
              have cs := HDV.out.s.cell
              have fs := HDV.out.s.fro
              have c6 := R6V.out.cell
              have hbw : w.heap.size ≤ w7.heap.size := HDV.out.o.size
              have HDA := Hid.intro (HDV.out.kept ((Below.refl w7.heap.size w7).alloc (Nat.le_refl _) (.cells #[.int .i64 r.k, .int .i64 r.t, .int .i64 r.i, .int .i64 r.v, .string r.d] 43)))
              have KVA := Hid.intro (KV.out.kept ((Below.refl w7.heap.size w7).alloc (Nat.le_refl _) (.cells #[.int .i64 r.k, .int .i64 r.t, .int .i64 r.i, .int .i64 r.v, .string r.d] 43)))
              have HXA := Hid.intro (HX.out.kept ((Below.refl w7.heap.size w7).alloc (Nat.le_refl _) (.cells #[.int .i64 r.k, .int .i64 r.t, .int .i64 r.i, .int .i64 r.v, .string r.d] 43)))
              have hnw := rc_news (w := w7) r 43
              go_upto_region 10 with (at_builtin; refine app_R rfl _ _ rfl w.heap.size (.slice au S.l.length cu) S.l [r] rfl HDA.out.ol ⟨w7.heap.size, 0, none⟩ 1 rfl hnw (by simp; omega) (by simp; omega) (by simp) ?_; intro g8 cap8 w8 o8 hO8 hloc8; have HQ := Hid.intro (HDA.out.app hO8 o8 (hloc8.elim (fun e => .inl e) (fun e => .inr (by rw [e]; rfl)))); have HX8 := HDA.out.s.only hO8 (fun e => (HDA.out.nl _ e.symm).2.1 rfl); have KV8 := Hid.intro (KVA.out.only hO8 (fun e => by have := HUL.out _ e.symm; omega)); have HO8 := Hid.intro (HXA.out.only hO8 (fun k hk e => by have := HUL.out _ e.symm; have := (HXA.out.lt k hk).1; omega)); have HG8 : Hid (∀ k, (Value.slice (some ⟨g8, 0, none⟩) (S.l.length + 1) cap8).ownBlock = some k → ¬ (Value.slice a5 (nextK K r).e.length c5).ownBlock = some k) := (fun k hk e => by have h1 := HXA.out.lt k e; simp only [Value.ownBlock, Option.some.injEq] at hk; subst hk; exact hloc8.elim (fun e2 => by have := HUL.out _ e2.symm; omega) (fun e2 => by omega)); replace cs := HX8.cell; replace fs := HX8.fro; clear o8 hO8 hloc8 HX8)
              have KV9 := Hid.intro (KV8.out.only (only_set w8 b3 6 (.slice (some ⟨g8, 0, none⟩) (S.l.length + [r].length) cap8)) (by omega))
              have HO9 := Hid.intro (HO8.out.only (only_set w8 b3 6 (.slice (some ⟨g8, 0, none⟩) (S.l.length + [r].length) cap8)) (fun k hk e => by have := (HO8.out.lt k hk).1; omega))
              clear cs fs c6 hnw
              simp only [List.length_singleton] at HQ KV9 HO9
              generalize w8.setCell ⟨b3, 6, none⟩ (.slice (some ⟨g8, 0, none⟩) (S.l.length + 1) cap8) = U8 at HQ KV9 HO9 ⊢
              have ky := KV9.out.cell
              have k4 := HQ.out.k.cell
              have f4 := HQ.out.k.fro
              obtain ⟨V2, hV2, kV2, oV2⟩ := HQ.out.k.all6 (.int .i64 (nextK K r).t) (.int .i64 (nextK K r).v) (.int .i64 (nextK K r).si) (.int .i64 (nextK K r).st) (.string (nextK K r).sd) (.slice a5 (nextK K r).e.length c5)
              have HE := Hid.intro (HQ.out.setK oV2 kV2 (HO9.out.lower hYw) (fun k hk => by have := (HO9.out.lt k hk).1; omega) (fun k hk e => HG8.out k hk e))
              go_wp2_with fail
              try simp only [hV2]
              go_roundw
              case rel =>
                refine ⟨n, ⟨S.k, S.l ++ [r]⟩, _, nextK K r, _, by go_num, by omega, hSk, by simp; omega, ?_, (HBN.out.next r).up (by omega), HE.out⟩
                intro x hx
                simp only [List.mem_append, List.mem_singleton] at hx
                rcases hx with hx | rfl
                · exact HLS.out x hx
                · exact hrd
              case measure => simp [intOf]
            | false =>
              go_wp2_with fail
              go_roundw
              case rel => exact ⟨n, S, _, K, _, by go_num, by omega, hSk, by omega, HLS.out, HBN.out.up (by omega), HDV.out⟩
              case measure => simp [intOf]
        · skip
          go_simp
          obtain ⟨X7, hX7, bX7, zX7, dX7, eX7⟩ := boxed wA #[.int .i64 0, .int .i64 0, .int .i64 0, .int .i64 0, .string ⟨#[]⟩, .slice none 0 0] 28
          simp only [hX7]
          have Y7 : Hid (Blk X7 wA.heap.size #[.int .i64 0, .int .i64 0, .int .i64 0, .int .i64 0, .string ⟨#[]⟩, .slice none 0 0]) := ⟨by omega, dX7, eX7⟩
          have hx7 : wA.heap.size < X7.heap.size := by omega
          have BWX7 : Below Y.heap.size Y X7 := BWwA.trans (bX7.mono BWwA.size)
          replace HA := Hid.intro (HA.out.kept bX7)
          have NA : Hid (∀ k, vA.ownBlock = some k → k ≠ wA.heap.size) := fun k hk => by have := (lA.out k hk).2; omega
          clear hX7 bX7 zX7 dX7 eX7
          refine hKK.out _ _ (HS.out _ BWX7) (fun hHeld2 => ?_)
          clear hKK KK hHeld
          have hHeld := hHeld2
          clear hHeld2
          refine wpAnyH_ready (rs := [3]) (by kernel_rfl) (by simp) ?_
          refine AllReadyH.cons rfl (fun KK hKK => ?_) AllReadyH.nil
          go_simp
          refine (l3StepX_any K vA Y.heap.size r X7 BWX7.size HA.out (by have := HBN.out; exact ⟨by have := this.i0; omega, by have := this.i1; omega, by have := this.e; omega⟩)).mono ?_
          rintro e w5 ⟨v5, rfl, o5, loc5, on5⟩
          obtain ⟨a5, c5, rfl⟩ := o5.slice
          have BWw5 : Below Y.heap.size Y w5 := BWX7.trans (on5.below BWX7.size (fun k hk e => by have := (HA.out.lt k e.symm).1; omega))
          have H5 := Hid.intro o5
          have N5 : Hid (∀ k, (Value.slice a5 (nextK K r).e.length c5).ownBlock = some k → k ≠ wA.heap.size) := fun k hk => by
            rcases loc5 k hk with e | e
            · exact NA.out k e
            · have := Y7.out.hi; omega
          replace Y7 := Hid.intro (Y7.out.only on5 (fun e => NA.out _ e.symm rfl))
          clear o5 on5 loc5
          go_simp
          refine hKK.out _ _ (HS.out _ BWw5) (fun hHeld2 => ?_)
          clear hKK KK hHeld
          have hHeld := hHeld2
          clear hHeld2
          refine take1 (i := 4) (d := some 23) (v := ?_) rfl rfl (by kernel_rfl) (by kernel_rfl) (by kernel_rfl) (fun _ _ _ h => h) (Or.inl ⟨by rfl, ?_⟩) (by assumption) ?_
          rotate_left 1
          · intro w hSw
            obtain ⟨q0, q1⟩ := hSw
            go_simp <;> with_reducible rfl
          simp only [Act.put, List.setIfInBounds_toArray]
          try simp only [List.set_cons_succ]
          try simp only [List.set_cons_zero]
          refine take1 (i := 5) (d := some 28) (v := ?_) rfl rfl (by kernel_rfl) (by kernel_rfl) (by kernel_rfl) (fun _ _ _ h => h) (Or.inl ⟨by rfl, ?_⟩) (by assumption) ?_
          rotate_left 1
          · intro w hSw
            obtain ⟨q0, q1⟩ := hSw
            go_simp <;> with_reducible rfl
          simp only [Act.put, List.setIfInBounds_toArray]
          try simp only [List.set_cons_succ]
          try simp only [List.set_cons_zero]
          refine take1 (i := 6) (d := some 29) (v := ?_) rfl rfl (by kernel_rfl) (by kernel_rfl) (by kernel_rfl) (fun _ _ _ h => h) (Or.inl ⟨by rfl, ?_⟩) (by assumption) ?_
          rotate_left 1
          · intro w hSw
            obtain ⟨q0, q1⟩ := hSw
            go_simp <;> with_reducible rfl
          simp only [Act.put, List.setIfInBounds_toArray]
          try simp only [List.set_cons_succ]
          try simp only [List.set_cons_zero]
          refine wpAnyH_ready (rs := [8]) (by kernel_rfl) (by simp) ?_
          refine AllReadyH.cons rfl (fun KK hKK => ?_) AllReadyH.nil
          have k7 := Y7.out.cell
          have f7 := Y7.out.fro
          have hyb : Y.heap.size ≤ wA.heap.size := BWwA.size
          go_simp
          obtain ⟨V, hV, kV, oV⟩ := Y7.out.all6 (.int .i64 (nextK K r).t) (.int .i64 (nextK K r).v) (.int .i64 (nextK K r).si) (.int .i64 (nextK K r).st) (.string (nextK K r).sd) (.slice a5 (nextK K r).e.length c5)
          simp only [hV]
          have BWV : Below Y.heap.size Y V := BWw5.trans (oV.below BWw5.size (fun k hk e => by omega))
          have HX := Hid.intro (H5.out.only oV (fun k hk e => N5.out k hk e)).x
          refine hKK.out _ _ (HS.out _ BWV) (fun hHeld2 => ?_)
          clear hKK KK hHeld
          have hHeld := hHeld2
          clear hHeld2
          refine take1 (i := 9) (d := some 8) (v := ?_) rfl rfl (by kernel_rfl) (by kernel_rfl) (by kernel_rfl) (fun _ _ _ h => h) (Or.inl ⟨by rfl, ?_⟩) (by assumption) ?_
          rotate_left 1
          · intro w hSw
            obtain ⟨q0, q1⟩ := hSw
            go_simp <;> with_reducible rfl
          simp only [Act.put, List.setIfInBounds_toArray]
          try simp only [List.set_cons_succ]
          try simp only [List.set_cons_zero]
          refine wpAnyH_done (by kernel_rfl) ?_ _
          clear hHeld k7 f7 hV H5
          have KV := Hid.intro kV
          have HDV := Hid.intro (HD.out.kept BWV)
          have R6V := Hid.intro (R6.out.kept BWV)
          have hzV := BWV.size
          clear BWV oV kV
          cases hg : goB K r with
          | true =>
            go_upto_region 9 with fail
            have cs := HDV.out.s.cell
            have fs := HDV.out.s.fro
            have c6 := R6V.out.cell
            have hbw : w.heap.size ≤ V.heap.size := HDV.out.o.size
            have HDA := Hid.intro (HDV.out.kept ((Below.refl V.heap.size V).alloc (Nat.le_refl _) (.cells #[.int .i64 r.k, .int .i64 r.t, .int .i64 r.i, .int .i64 r.v, .string r.d] 43)))
            have KVA := Hid.intro (KV.out.kept ((Below.refl V.heap.size V).alloc (Nat.le_refl _) (.cells #[.int .i64 r.k, .int .i64 r.t, .int .i64 r.i, .int .i64 r.v, .string r.d] 43)))
            have HXA := Hid.intro (HX.out.kept ((Below.refl V.heap.size V).alloc (Nat.le_refl _) (.cells #[.int .i64 r.k, .int .i64 r.t, .int .i64 r.i, .int .i64 r.v, .string r.d] 43)))
            have hnw := rc_news (w := V) r 43
            go_upto_region 10 with (at_builtin; refine app_R rfl _ _ rfl w.heap.size (.slice au S.l.length cu) S.l [r] rfl HDA.out.ol ⟨V.heap.size, 0, none⟩ 1 rfl hnw (by simp; omega) (by simp; omega) (by simp) ?_; intro g8 cap8 w8 o8 hO8 hloc8; have HQ := Hid.intro (HDA.out.app hO8 o8 (hloc8.elim (fun e => .inl e) (fun e => .inr (by rw [e]; rfl)))); have HX8 := HDA.out.s.only hO8 (fun e => (HDA.out.nl _ e.symm).2.1 rfl); have KV8 := Hid.intro (KVA.out.only hO8 (fun e => by have := HUL.out _ e.symm; omega)); have HO8 := Hid.intro (HXA.out.only hO8 (fun k hk e => by have := HUL.out _ e.symm; have := (HXA.out.lt k hk).1; omega)); have HG8 : Hid (∀ k, (Value.slice (some ⟨g8, 0, none⟩) (S.l.length + 1) cap8).ownBlock = some k → ¬ (Value.slice a5 (nextK K r).e.length c5).ownBlock = some k) := (fun k hk e => by have h1 := HXA.out.lt k e; simp only [Value.ownBlock, Option.some.injEq] at hk; subst hk; exact hloc8.elim (fun e2 => by have := HUL.out _ e2.symm; omega) (fun e2 => by omega)); replace cs := HX8.cell; replace fs := HX8.fro; clear o8 hO8 hloc8 HX8)
            have KV9 := Hid.intro (KV8.out.only (only_set w8 b3 6 (.slice (some ⟨g8, 0, none⟩) (S.l.length + [r].length) cap8)) (by omega))
            have HO9 := Hid.intro (HO8.out.only (only_set w8 b3 6 (.slice (some ⟨g8, 0, none⟩) (S.l.length + [r].length) cap8)) (fun k hk e => by have := (HO8.out.lt k hk).1; omega))
            clear cs fs c6 hnw
            simp only [List.length_singleton] at HQ KV9 HO9
            generalize w8.setCell ⟨b3, 6, none⟩ (.slice (some ⟨g8, 0, none⟩) (S.l.length + 1) cap8) = U8 at HQ KV9 HO9 ⊢
            have ky := KV9.out.cell
            have k4 := HQ.out.k.cell
            have f4 := HQ.out.k.fro
            obtain ⟨V2, hV2, kV2, oV2⟩ := HQ.out.k.all6 (.int .i64 (nextK K r).t) (.int .i64 (nextK K r).v) (.int .i64 (nextK K r).si) (.int .i64 (nextK K r).st) (.string (nextK K r).sd) (.slice a5 (nextK K r).e.length c5)
            have HE := Hid.intro (HQ.out.setK oV2 kV2 (HO9.out.lower hYw) (fun k hk => by have := (HO9.out.lt k hk).1; omega) (fun k hk e => HG8.out k hk e))
            go_wp2_with fail
            try simp only [hV2]
            go_roundw
            case rel =>
              refine ⟨n, ⟨S.k, S.l ++ [r]⟩, _, nextK K r, _, by go_num, by omega, hSk, by simp; omega, ?_, (HBN.out.next r).up (by omega), HE.out⟩
              intro x hx
              simp only [List.mem_append, List.mem_singleton] at hx
              rcases hx with hx | rfl
              · exact HLS.out x hx
              · exact hrd
            case measure => simp [intOf]
          | false =>
            go_wp2_with fail
            refine (onceC_any 25 V HDV.out.cur (by omega) (by omega)).mono ?_
            rintro e w7 ⟨q7, rfl, c7, g7⟩
            replace HDV := Hid.intro (HDV.out.step g7 c7)
            replace R6V := Hid.intro (R6V.out.only (grown_only g7) (by simp; omega))
            replace KV := Hid.intro (KV.out.only (grown_only g7) (by simp; omega))
            replace HX := Hid.intro (HX.out.step g7 (by omega))
            replace hzV : Y.heap.size ≤ w7.heap.size := by have := g7.size; omega
            clear c7 g7
            cases q7 with
            | true =>
              go_upto_region 9 with fail
              have cs := HDV.out.s.cell
              have fs := HDV.out.s.fro
              have c6 := R6V.out.cell
              have hbw : w.heap.size ≤ w7.heap.size := HDV.out.o.size
              have HDA := Hid.intro (HDV.out.kept ((Below.refl w7.heap.size w7).alloc (Nat.le_refl _) (.cells #[.int .i64 r.k, .int .i64 r.t, .int .i64 r.i, .int .i64 r.v, .string r.d] 43)))
              have KVA := Hid.intro (KV.out.kept ((Below.refl w7.heap.size w7).alloc (Nat.le_refl _) (.cells #[.int .i64 r.k, .int .i64 r.t, .int .i64 r.i, .int .i64 r.v, .string r.d] 43)))
              have HXA := Hid.intro (HX.out.kept ((Below.refl w7.heap.size w7).alloc (Nat.le_refl _) (.cells #[.int .i64 r.k, .int .i64 r.t, .int .i64 r.i, .int .i64 r.v, .string r.d] 43)))
              have hnw := rc_news (w := w7) r 43
              go_upto_region 10 with (at_builtin; refine app_R rfl _ _ rfl w.heap.size (.slice au S.l.length cu) S.l [r] rfl HDA.out.ol ⟨w7.heap.size, 0, none⟩ 1 rfl hnw (by simp; omega) (by simp; omega) (by simp) ?_; intro g8 cap8 w8 o8 hO8 hloc8; have HQ := Hid.intro (HDA.out.app hO8 o8 (hloc8.elim (fun e => .inl e) (fun e => .inr (by rw [e]; rfl)))); have HX8 := HDA.out.s.only hO8 (fun e => (HDA.out.nl _ e.symm).2.1 rfl); have KV8 := Hid.intro (KVA.out.only hO8 (fun e => by have := HUL.out _ e.symm; omega)); have HO8 := Hid.intro (HXA.out.only hO8 (fun k hk e => by have := HUL.out _ e.symm; have := (HXA.out.lt k hk).1; omega)); have HG8 : Hid (∀ k, (Value.slice (some ⟨g8, 0, none⟩) (S.l.length + 1) cap8).ownBlock = some k → ¬ (Value.slice a5 (nextK K r).e.length c5).ownBlock = some k) := (fun k hk e => by have h1 := HXA.out.lt k e; simp only [Value.ownBlock, Option.some.injEq] at hk; subst hk; exact hloc8.elim (fun e2 => by have := HUL.out _ e2.symm; omega) (fun e2 => by omega)); replace cs := HX8.cell; replace fs := HX8.fro; clear o8 hO8 hloc8 HX8)
              have KV9 := Hid.intro (KV8.out.only (only_set w8 b3 6 (.slice (some ⟨g8, 0, none⟩) (S.l.length + [r].length) cap8)) (by omega))
              have HO9 := Hid.intro (HO8.out.only (only_set w8 b3 6 (.slice (some ⟨g8, 0, none⟩) (S.l.length + [r].length) cap8)) (fun k hk e => by have := (HO8.out.lt k hk).1; omega))
              clear cs fs c6 hnw
              simp only [List.length_singleton] at HQ KV9 HO9
              generalize w8.setCell ⟨b3, 6, none⟩ (.slice (some ⟨g8, 0, none⟩) (S.l.length + 1) cap8) = U8 at HQ KV9 HO9 ⊢
              have ky := KV9.out.cell
              have k4 := HQ.out.k.cell
              have f4 := HQ.out.k.fro
              obtain ⟨V2, hV2, kV2, oV2⟩ := HQ.out.k.all6 (.int .i64 (nextK K r).t) (.int .i64 (nextK K r).v) (.int .i64 (nextK K r).si) (.int .i64 (nextK K r).st) (.string (nextK K r).sd) (.slice a5 (nextK K r).e.length c5)
              have HE := Hid.intro (HQ.out.setK oV2 kV2 (HO9.out.lower hYw) (fun k hk => by have := (HO9.out.lt k hk).1; omega) (fun k hk e => HG8.out k hk e))
              go_wp2_with fail
              try simp only [hV2]
              go_roundw
              case rel =>
                refine ⟨n, ⟨S.k, S.l ++ [r]⟩, _, nextK K r, _, by go_num, by omega, hSk, by simp; omega, ?_, (HBN.out.next r).up (by omega), HE.out⟩
                intro x hx
                simp only [List.mem_append, List.mem_singleton] at hx
                rcases hx with hx | rfl
                · exact HLS.out x hx
                · exact hrd
              case measure => simp [intOf]
            | false =>
              go_wp2_with fail
              go_roundw
              case rel => exact ⟨n, S, _, K, _, by go_num, by omega, hSk, by omega, HLS.out, HBN.out.up (by omega), HDV.out⟩
              case measure => simp [intOf]
      · skip
        go_simp
        obtain ⟨X7, hX7, bX7, zX7, dX7, eX7⟩ := boxed D #[.int .i64 0, .int .i64 0, .int .i64 0, .int .i64 0, .string ⟨#[]⟩, .slice none 0 0] 28
        simp only [hX7]
        have Y7 : Hid (Blk X7 D.heap.size #[.int .i64 0, .int .i64 0, .int .i64 0, .int .i64 0, .string ⟨#[]⟩, .slice none 0 0]) := ⟨by omega, dX7, eX7⟩
        have hx7 : D.heap.size < X7.heap.size := by omega
        have BWX7 : Below Y.heap.size Y X7 := BWD.trans (bX7.mono BWD.size)
        clear hX7 bX7 zX7 dX7 eX7
        refine hKK.out _ _ (HS.out _ BWX7) (fun hHeld2 => ?_)
        clear hKK KK hHeld
        have hHeld := hHeld2
        clear hHeld2
        refine wpAnyH_ready (rs := [1]) (by kernel_rfl) (by simp) ?_
        refine AllReadyH.cons rfl (fun KK hKK => ?_) AllReadyH.nil
        go_simp
        refine (l3Copy_any K (.slice ak K.e.length ck) Y.heap.size X7 BWX7.size (RK.out.kept BWX7) (by have := HBN.out.e; omega)).mono ?_
        rintro e wA ⟨vA, rfl, oA, bA⟩
        have BWwA : Below Y.heap.size Y wA := BWX7.trans (bA.mono BWX7.size)
        have HA := Hid.intro (oA.lower BWX7.size)
        have lA := Hid.intro oA.lt
        replace Y7 := Hid.intro (Y7.out.kept bA)
        have NA : Hid (∀ k, vA.ownBlock = some k → k ≠ D.heap.size) := fun k hk => by have := (lA.out k hk).1; have := hx7; omega
        clear bA oA
        go_simp
        refine hKK.out _ _ (HS.out _ BWwA) (fun hHeld2 => ?_)
        clear hKK KK hHeld
        have hHeld := hHeld2
        clear hHeld2
        refine wpAnyH_ready (rs := [3]) (by kernel_rfl) (by simp) ?_
        refine AllReadyH.cons rfl (fun KK hKK => ?_) AllReadyH.nil
        go_simp
        refine (l3StepX_any K vA Y.heap.size r wA BWwA.size HA.out (by have := HBN.out; exact ⟨by have := this.i0; omega, by have := this.i1; omega, by have := this.e; omega⟩)).mono ?_
        rintro e w5 ⟨v5, rfl, o5, loc5, on5⟩
        obtain ⟨a5, c5, rfl⟩ := o5.slice
        have BWw5 : Below Y.heap.size Y w5 := BWwA.trans (on5.below BWwA.size (fun k hk e => by have := (HA.out.lt k e.symm).1; omega))
        have H5 := Hid.intro o5
        have N5 : Hid (∀ k, (Value.slice a5 (nextK K r).e.length c5).ownBlock = some k → k ≠ D.heap.size) := fun k hk => by
          rcases loc5 k hk with e | e
          · exact NA.out k e
          · have := Y7.out.hi; omega
        replace Y7 := Hid.intro (Y7.out.only on5 (fun e => NA.out _ e.symm rfl))
        clear o5 on5 loc5
        go_simp
        refine hKK.out _ _ (HS.out _ BWw5) (fun hHeld2 => ?_)
        clear hKK KK hHeld
        have hHeld := hHeld2
        clear hHeld2
        refine take1 (i := 4) (d := some 23) (v := ?_) rfl rfl (by kernel_rfl) (by kernel_rfl) (by kernel_rfl) (fun _ _ _ h => h) (Or.inl ⟨by rfl, ?_⟩) (by assumption) ?_
        rotate_left 1
        · intro w hSw
          obtain ⟨q0, q1⟩ := hSw
          go_simp <;> with_reducible rfl
        simp only [Act.put, List.setIfInBounds_toArray]
        try simp only [List.set_cons_succ]
        try simp only [List.set_cons_zero]
        refine take1 (i := 5) (d := some 28) (v := ?_) rfl rfl (by kernel_rfl) (by kernel_rfl) (by kernel_rfl) (fun _ _ _ h => h) (Or.inl ⟨by rfl, ?_⟩) (by assumption) ?_
        rotate_left 1
        · intro w hSw
          obtain ⟨q0, q1⟩ := hSw
          go_simp <;> with_reducible rfl
        simp only [Act.put, List.setIfInBounds_toArray]
        try simp only [List.set_cons_succ]
        try simp only [List.set_cons_zero]
        refine take1 (i := 6) (d := some 29) (v := ?_) rfl rfl (by kernel_rfl) (by kernel_rfl) (by kernel_rfl) (fun _ _ _ h => h) (Or.inl ⟨by rfl, ?_⟩) (by assumption) ?_
        rotate_left 1
        · intro w hSw
          obtain ⟨q0, q1⟩ := hSw
          go_simp <;> with_reducible rfl
        simp only [Act.put, List.setIfInBounds_toArray]
        try simp only [List.set_cons_succ]
        try simp only [List.set_cons_zero]
        refine wpAnyH_ready (rs := [8]) (by kernel_rfl) (by simp) ?_
        refine AllReadyH.cons rfl (fun KK hKK => ?_) AllReadyH.nil
        have k7 := Y7.out.cell
        have f7 := Y7.out.fro
        have hyb : Y.heap.size ≤ D.heap.size := BWD.size
        go_simp
        obtain ⟨V, hV, kV, oV⟩ := Y7.out.all6 (.int .i64 (nextK K r).t) (.int .i64 (nextK K r).v) (.int .i64 (nextK K r).si) (.int .i64 (nextK K r).st) (.string (nextK K r).sd) (.slice a5 (nextK K r).e.length c5)
        simp only [hV]
        have BWV : Below Y.heap.size Y V := BWw5.trans (oV.below BWw5.size (fun k hk e => by omega))
        have HX := Hid.intro (H5.out.only oV (fun k hk e => N5.out k hk e)).x
        refine hKK.out _ _ (HS.out _ BWV) (fun hHeld2 => ?_)
        clear hKK KK hHeld
        have hHeld := hHeld2
        clear hHeld2
        refine take1 (i := 9) (d := some 8) (v := ?_) rfl rfl (by kernel_rfl) (by kernel_rfl) (by kernel_rfl) (fun _ _ _ h => h) (Or.inl ⟨by rfl, ?_⟩) (by assumption) ?_
        rotate_left 1
        · intro w hSw
          obtain ⟨q0, q1⟩ := hSw
          go_simp <;> with_reducible rfl
        simp only [Act.put, List.setIfInBounds_toArray]
        try simp only [List.set_cons_succ]
        try simp only [List.set_cons_zero]
        refine wpAnyH_done (by kernel_rfl) ?_ _
        clear hHeld k7 f7 hV H5
        have KV := Hid.intro kV
        have HDV := Hid.intro (HD.out.kept BWV)
        have R6V := Hid.intro (R6.out.kept BWV)
        have hzV := BWV.size
        clear BWV oV kV
        cases hg : goB K r with
        | true =>
          go_upto_region 9 with fail
          have cs := HDV.out.s.cell
          have fs := HDV.out.s.fro
          have c6 := R6V.out.cell
          have hbw : w.heap.size ≤ V.heap.size := HDV.out.o.size
          have HDA := Hid.intro (HDV.out.kept ((Below.refl V.heap.size V).alloc (Nat.le_refl _) (.cells #[.int .i64 r.k, .int .i64 r.t, .int .i64 r.i, .int .i64 r.v, .string r.d] 43)))
          have KVA := Hid.intro (KV.out.kept ((Below.refl V.heap.size V).alloc (Nat.le_refl _) (.cells #[.int .i64 r.k, .int .i64 r.t, .int .i64 r.i, .int .i64 r.v, .string r.d] 43)))
          have HXA := Hid.intro (HX.out.kept ((Below.refl V.heap.size V).alloc (Nat.le_refl _) (.cells #[.int .i64 r.k, .int .i64 r.t, .int .i64 r.i, .int .i64 r.v, .string r.d] 43)))
          have hnw := rc_news (w := V) r 43
          go_upto_region 10 with (at_builtin; refine app_R rfl _ _ rfl w.heap.size (.slice au S.l.length cu) S.l [r] rfl HDA.out.ol ⟨V.heap.size, 0, none⟩ 1 rfl hnw (by simp; omega) (by simp; omega) (by simp) ?_; intro g8 cap8 w8 o8 hO8 hloc8; have HQ := Hid.intro (HDA.out.app hO8 o8 (hloc8.elim (fun e => .inl e) (fun e => .inr (by rw [e]; rfl)))); have HX8 := HDA.out.s.only hO8 (fun e => (HDA.out.nl _ e.symm).2.1 rfl); have KV8 := Hid.intro (KVA.out.only hO8 (fun e => by have := HUL.out _ e.symm; omega)); have HO8 := Hid.intro (HXA.out.only hO8 (fun k hk e => by have := HUL.out _ e.symm; have := (HXA.out.lt k hk).1; omega)); have HG8 : Hid (∀ k, (Value.slice (some ⟨g8, 0, none⟩) (S.l.length + 1) cap8).ownBlock = some k → ¬ (Value.slice a5 (nextK K r).e.length c5).ownBlock = some k) := (fun k hk e => by have h1 := HXA.out.lt k e; simp only [Value.ownBlock, Option.some.injEq] at hk; subst hk; exact hloc8.elim (fun e2 => by have := HUL.out _ e2.symm; omega) (fun e2 => by omega)); replace cs := HX8.cell; replace fs := HX8.fro; clear o8 hO8 hloc8 HX8)
          have KV9 := Hid.intro (KV8.out.only (only_set w8 b3 6 (.slice (some ⟨g8, 0, none⟩) (S.l.length + [r].length) cap8)) (by omega))
          have HO9 := Hid.intro (HO8.out.only (only_set w8 b3 6 (.slice (some ⟨g8, 0, none⟩) (S.l.length + [r].length) cap8)) (fun k hk e => by have := (HO8.out.lt k hk).1; omega))
          clear cs fs c6 hnw
          simp only [List.length_singleton] at HQ KV9 HO9
          generalize w8.setCell ⟨b3, 6, none⟩ (.slice (some ⟨g8, 0, none⟩) (S.l.length + 1) cap8) = U8 at HQ KV9 HO9 ⊢
          have ky := KV9.out.cell
          have k4 := HQ.out.k.cell
          have f4 := HQ.out.k.fro
          obtain ⟨V2, hV2, kV2, oV2⟩ := HQ.out.k.all6 (.int .i64 (nextK K r).t) (.int .i64 (nextK K r).v) (.int .i64 (nextK K r).si) (.int .i64 (nextK K r).st) (.string (nextK K r).sd) (.slice a5 (nextK K r).e.length c5)
          have HE := Hid.intro (HQ.out.setK oV2 kV2 (HO9.out.lower hYw) (fun k hk => by have := (HO9.out.lt k hk).1; omega) (fun k hk e => HG8.out k hk e))
          go_wp2_with fail
          try simp only [hV2]
          go_roundw
          case rel =>
            refine ⟨n, ⟨S.k, S.l ++ [r]⟩, _, nextK K r, _, by go_num, by omega, hSk, by simp; omega, ?_, (HBN.out.next r).up (by omega), HE.out⟩
            intro x hx
            simp only [List.mem_append, List.mem_singleton] at hx
            rcases hx with hx | rfl
            · exact HLS.out x hx
            · exact hrd
          case measure => simp [intOf]
        | false =>
          go_wp2_with fail
          refine (onceC_any 25 V HDV.out.cur (by omega) (by omega)).mono ?_
          rintro e w7 ⟨q7, rfl, c7, g7⟩
          replace HDV := Hid.intro (HDV.out.step g7 c7)
          replace R6V := Hid.intro (R6V.out.only (grown_only g7) (by simp; omega))
          replace KV := Hid.intro (KV.out.only (grown_only g7) (by simp; omega))
          replace HX := Hid.intro (HX.out.step g7 (by omega))
          replace hzV : Y.heap.size ≤ w7.heap.size := by have := g7.size; omega
          clear c7 g7
          cases q7 with
          | true =>
            go_upto_region 9 with fail
            have cs := HDV.out.s.cell
            have fs := HDV.out.s.fro
            have c6 := R6V.out.cell
            have hbw : w.heap.size ≤ w7.heap.size := HDV.out.o.size
            have HDA := Hid.intro (HDV.out.kept ((Below.refl w7.heap.size w7).alloc (Nat.le_refl _) (.cells #[.int .i64 r.k, .int .i64 r.t, .int .i64 r.i, .int .i64 r.v, .string r.d] 43)))
            have KVA := Hid.intro (KV.out.kept ((Below.refl w7.heap.size w7).alloc (Nat.le_refl _) (.cells #[.int .i64 r.k, .int .i64 r.t, .int .i64 r.i, .int .i64 r.v, .string r.d] 43)))
            have HXA := Hid.intro (HX.out.kept ((Below.refl w7.heap.size w7).alloc (Nat.le_refl _) (.cells #[.int .i64 r.k, .int .i64 r.t, .int .i64 r.i, .int .i64 r.v, .string r.d] 43)))
            have hnw := rc_news (w := w7) r 43
            go_upto_region 10 with (at_builtin; refine app_R rfl _ _ rfl w.heap.size (.slice au S.l.length cu) S.l [r] rfl HDA.out.ol ⟨w7.heap.size, 0, none⟩ 1 rfl hnw (by simp; omega) (by simp; omega) (by simp) ?_; intro g8 cap8 w8 o8 hO8 hloc8; have HQ := Hid.intro (HDA.out.app hO8 o8 (hloc8.elim (fun e => .inl e) (fun e => .inr (by rw [e]; rfl)))); have HX8 := HDA.out.s.only hO8 (fun e => (HDA.out.nl _ e.symm).2.1 rfl); have KV8 := Hid.intro (KVA.out.only hO8 (fun e => by have := HUL.out _ e.symm; omega)); have HO8 := Hid.intro (HXA.out.only hO8 (fun k hk e => by have := HUL.out _ e.symm; have := (HXA.out.lt k hk).1; omega)); have HG8 : Hid (∀ k, (Value.slice (some ⟨g8, 0, none⟩) (S.l.length + 1) cap8).ownBlock = some k → ¬ (Value.slice a5 (nextK K r).e.length c5).ownBlock = some k) := (fun k hk e => by have h1 := HXA.out.lt k e; simp only [Value.ownBlock, Option.some.injEq] at hk; subst hk; exact hloc8.elim (fun e2 => by have := HUL.out _ e2.symm; omega) (fun e2 => by omega)); replace cs := HX8.cell; replace fs := HX8.fro; clear o8 hO8 hloc8 HX8)
            have KV9 := Hid.intro (KV8.out.only (only_set w8 b3 6 (.slice (some ⟨g8, 0, none⟩) (S.l.length + [r].length) cap8)) (by omega))
            have HO9 := Hid.intro (HO8.out.only (only_set w8 b3 6 (.slice (some ⟨g8, 0, none⟩) (S.l.length + [r].length) cap8)) (fun k hk e => by have := (HO8.out.lt k hk).1; omega))
            clear cs fs c6 hnw
            simp only [List.length_singleton] at HQ KV9 HO9
            generalize w8.setCell ⟨b3, 6, none⟩ (.slice (some ⟨g8, 0, none⟩) (S.l.length + 1) cap8) = U8 at HQ KV9 HO9 ⊢
            have ky := KV9.out.cell
            have k4 := HQ.out.k.cell
            have f4 := HQ.out.k.fro
            obtain ⟨V2, hV2, kV2, oV2⟩ := HQ.out.k.all6 (.int .i64 (nextK K r).t) (.int .i64 (nextK K r).v) (.int .i64 (nextK K r).si) (.int .i64 (nextK K r).st) (.string (nextK K r).sd) (.slice a5 (nextK K r).e.length c5)
            have HE := Hid.intro (HQ.out.setK oV2 kV2 (HO9.out.lower hYw) (fun k hk => by have := (HO9.out.lt k hk).1; omega) (fun k hk e => HG8.out k hk e))
            go_wp2_with fail
            try simp only [hV2]
            go_roundw
            case rel =>
              refine ⟨n, ⟨S.k, S.l ++ [r]⟩, _, nextK K r, _, by go_num, by omega, hSk, by simp; omega, ?_, (HBN.out.next r).up (by omega), HE.out⟩
              intro x hx
              simp only [List.mem_append, List.mem_singleton] at hx
              rcases hx with hx | rfl
              · exact HLS.out x hx
              · exact hrd
            case measure => simp [intOf]
          | false =>
            go_wp2_with fail
            go_roundw
            case rel => exact ⟨n, S, _, K, _, by go_num, by omega, hSk, by omega, HLS.out, HBN.out.up (by omega), HDV.out⟩
            case measure => simp [intOf]
end
end Go.Proofs.Ytkilepoimocoeaa
namespace Go.Proofs.Ytkilepoimocoeaa
open Go.RowKit
set_option linter.unusedVariables false
theorem row_nil (w : World) (T : TypeId) (B : Nat) (hB : B ≤ w.heap.size) (hT : T = 43) : OwnR (w.alloc (.cells #[] T)) B (.slice (some ⟨w.heap.size, 0, none⟩) 0 0) [] := by
  subst hT
  refine ⟨rfl, .inr ⟨w.heap.size, 0, #[], rfl, hB, by show (w.heap.push _)[w.heap.size]? = _; simp, Nat.le_refl _, by unfold maxLen; omega, rfl, rfl⟩⟩
theorem row_of_x {w : World} {base N : Nat} {v : Value} {L : List En} (h : OwnX w base v L) : RowE w w.heap.size v L := h.rowAll
set_option maxRecDepth 100000 in
set_option maxHeartbeats 8000000 in
theorem drawWrite_any (zs : List Int) (len N cap : Nat) (a : Option Addr) (w : World) (hl : len ≤ 1048576) (hN : N ≤ w.heap.size) (hr : RowOk w N a len zs) :
    Calls Try.prog 10 #[.slice a len cap] w fun e w' => DrawWP w e w' := by
  obtain ⟨W, hW, bW, zW, cW, fW⟩ := boxed w #[.int .i64 0, .int .i64 0, .int .i64 0, .int .i64 0, .string ⟨#[]⟩, .slice none 0 0, .slice none 0 0] 31
  have HR := Hid.intro (hr.below (bW.mono hN))
  clear hr
  go_enter Try.func10, Try.ntmps10
  go_wp2_with fail
  try simp only [hW]
  refine (new_any zs len W.heap.size cap a W hl (Nat.le_refl _) (fun j hj => by obtain ⟨b, off, e, hb, r⟩ := HR.out j hj; exact ⟨b, off, e, by omega, r⟩)).mono ?_
  rintro e w1 ⟨B, rfl, s1, g1⟩
  have C := Hid.intro (show Cur W.heap.size a len cap zs B w1 from ⟨hl, _, _, Nat.zero_le _, s1⟩)
  have hB : W.heap.size ≤ B := s1.base
  have zw1 := g1.size
  have hB1 : B < w1.heap.size := C.out.lt
  have R1 : Hid (Blk w1 w.heap.size #[.int .i64 0, .int .i64 0, .int .i64 0, .int .i64 0, .string ⟨#[]⟩, .slice none 0 0, .slice none 0 0]) := (Blk.mk (by omega) cW fW : Blk W _ _).only (grown_only g1) (by simp)
  have HB : Hid (Below w.heap.size w w1) := bW.trans ((grown_only g1).below (by omega) (by simp))
  clear hW bW cW fW s1 g1 HR
  go_wp2_with fail
  refine (l3Store_any w1 C.out).mono ?_
  rintro e w2 ⟨S, v, u, rfl, ov, ou, bd, sl, sd, c2, g2⟩
  obtain ⟨a0, c0, rfl⟩ := ov.slice
  obtain ⟨au, cu, rfl⟩ := ou.slice
  have z2 := g2.size
  replace R1 := Hid.intro (R1.out.only (grown_only g2) (by simp; omega))
  replace HB := Hid.intro (HB.out.trans ((grown_only g2).below HB.out.size (by simp; omega)))
  replace C := Hid.intro c2
  have OV := Hid.intro ov
  have OU := Hid.intro ou
  have LV := Hid.intro (fun k hk => (ov.lt k hk).2)
  have LU := Hid.intro (fun k hk => (ou.lt k hk).2)
  have bt0 := bd.t0
  have bt1 := bd.t1
  clear ov ou bd sd c2 g2
  go_upto_region 3 with fail
  obtain ⟨X, hX, bX, zX, dX, eX⟩ := boxed w2 #[.int .i64 S.k.t, .int .i64 S.k.v, .int .i64 S.k.si, .int .i64 S.k.st, .string S.k.sd, .slice a0 S.k.e.length c0, .slice au S.l.length cu] 31
  try simp only [hX]
  have SX : Hid (Blk X w2.heap.size #[.int .i64 S.k.t, .int .i64 S.k.v, .int .i64 S.k.si, .int .i64 S.k.st, .string S.k.sd, .slice a0 S.k.e.length c0, .slice au S.l.length cu]) := ⟨by omega, dX, eX⟩
  replace R1 := Hid.intro (R1.out.kept bX)
  replace HB := Hid.intro (HB.out.trans (bX.mono HB.out.size))
  replace OV := Hid.intro (OV.out.kept bX)
  replace OU := Hid.intro (OU.out.kept bX)
  replace C := Hid.intro (C.out.kept (grown_below bX))
  clear hX bX dX eX
  have cs := SX.out.cell
  go_wp2_with fail
  clear cs
  refine (specHeld_any S _ _ X.heap.size X (Nat.le_refl _) OV.out.rowAll OU.out.rowAll).mono ?_
  rintro e w3 ⟨vk, rfl, ok⟩
  have hbn := held_bn S
  obtain ⟨K, hK⟩ : ∃ K, heldK S = K := ⟨_, rfl⟩
  rw [hK] at ok hbn ⊢
  obtain ⟨ak, ck, hvk⟩ := ok.1.slice
  subst hvk
  have z3 := ok.2.size
  have b3 := ok.2
  replace R1 := Hid.intro (R1.out.kept b3)
  replace SX := Hid.intro (SX.out.kept b3)
  replace HB := Hid.intro (HB.out.trans (b3.mono HB.out.size))
  replace OV := Hid.intro (OV.out.kept b3)
  replace OU := Hid.intro (OU.out.kept b3)
  replace C := Hid.intro (C.out.kept (grown_below b3))
  have OK := Hid.intro ok.1
  have HBN := Hid.intro hbn
  clear ok b3 hbn hK
  go_upto_region 4 with fail
  obtain ⟨Y, hY, bY, zY, dY, eY⟩ := boxed w3 #[.int .i64 K.t, .int .i64 K.v, .int .i64 K.si, .int .i64 K.st, .string K.sd, .slice ak K.e.length ck] 28
  try simp only [hY]
  have KY : Hid (Blk Y w3.heap.size #[.int .i64 K.t, .int .i64 K.v, .int .i64 K.si, .int .i64 K.st, .string K.sd, .slice ak K.e.length ck]) := ⟨by omega, dY, eY⟩
  replace R1 := Hid.intro (R1.out.kept bY)
  replace SX := Hid.intro (SX.out.kept bY)
  replace HB := Hid.intro (HB.out.trans (bY.mono HB.out.size))
  replace OV := Hid.intro (OV.out.kept bY)
  replace OU := Hid.intro (OU.out.kept bY)
  have lk := OK.out.lt
  replace OK := Hid.intro (OK.out.kept bY)
  replace C := Hid.intro (C.out.kept (grown_below bY))
  clear hY bY dY eY
  go_upto_region 5 with fail
  obtain ⟨Q, hQ, bQ, zQ, dQ, eQ⟩ := boxed Y #[] 43
  have OL : Hid (OwnR Q w3.heap.size (.slice (some ⟨Y.heap.size, 0, none⟩) 0 0) []) := by
    unfold Hid
    rw [← hQ]
    exact row_nil Y _ _ (by omega) rfl
  try simp only [hQ]
  have HD : Hid (DW W.heap.size a len cap zs B w Q w.heap.size w1.heap.size w2.heap.size w3.heap.size S (.slice a0 S.k.e.length c0) (.slice au S.l.length cu) K (.slice ak K.e.length ck) [] (.slice (some ⟨Y.heap.size, 0, none⟩) 0 0)) :=
    ⟨Nat.le_refl _, by omega, hB1, by omega, by omega, R1.out.kept bQ, SX.out.kept bQ, KY.out.kept bQ, OV.out.kept bQ, OU.out.kept bQ, ((OK.out.kept bQ).x).lower (by omega), OL.out, LV.out, LU.out, (fun k hk => by have := lk k hk; omega), (fun k hk => by
      simp only [Value.ownBlock, Option.some.injEq] at hk
      subst hk
      exact ⟨by omega, fun e => by have := (lk _ e).2; omega⟩), C.out.kept (grown_below bQ), HB.out.trans (bQ.mono HB.out.size)⟩
  have hzY : Y.heap.size = w3.heap.size + 1 := zY
  clear hQ bQ zQ dQ eQ R1 SX KY OV OU OK OL LV LU C HB lk
  obtain ⟨b0, hb0⟩ : ∃ b0, w1.heap.size = b0 := ⟨_, rfl⟩
  obtain ⟨b3, hb3⟩ : ∃ b3, w2.heap.size = b3 := ⟨_, rfl⟩
  obtain ⟨b4, hb4⟩ : ∃ b4, w3.heap.size = b4 := ⟨_, rfl⟩
  rw [hzY, hb0, hb3, hb4] at HD
  simp only [hb3, hb4]
  go_wp2_with fail
  refine (belowC_any 5 Q HD.out.cur (by omega) (by omega)).mono ?_
  rintro e w5 ⟨y, rfl, y0, y1, c5, g5⟩
  replace HD := Hid.intro (HD.out.step g5 c5)
  clear c5 g5
  obtain ⟨n0, rfl⟩ := Int.eq_ofNat_of_zero_le y0
  go_wp2_with fail
  go_loopw [8, 9] (fun lvv s wr => ∃ (n : Nat) (L : List Rc) (K : Kp) (vk : Value), s = .int .i64 n ∧ n ≤ 4 ∧ L.length + n ≤ 4 ∧ Hid (Bn (101 + (4 - n)) K) ∧ Hid (DW W.heap.size a len cap zs B w wr w.heap.size b0 b3 b4 S (.slice a0 S.k.e.length c0) (.slice au S.l.length cu) K vk L lvv)) (fun _ s _ => (intOf s).toNat)
  case atStart => exact ⟨n0, [], K, _, rfl, by omega, by simp; omega, HBN.out.up (by omega), HD⟩
  case round =>
    obtain ⟨n', L, K, vk, rfl, hn, hln, HBN, HD⟩ := hrel
    obtain ⟨ak, ck, rfl⟩ := HD.out.ok.slice
    obtain ⟨al, cl, rfl⟩ := HD.out.ol.slice
    rcases n' with _ | n
    · have hLl : L.length ≤ 90 := by omega
      go_wp2_with fail
      refine (onceC_any 25 wr HD.out.cur (by omega) (by omega)).mono ?_
      rintro e w6 ⟨qq, rfl, c6, g6⟩
      replace HD := Hid.intro (HD.out.step g6 c6)
      clear c6 g6
      cases qq with
      | false =>
        go_upto_region 18 with fail
        have hne3 : b3 ≠ B ∧ b3 ≠ w.heap.size := by have := HD.out.hz; have := HD.out.hB; have := HD.out.h03; omega
        have HS : Hid (∀ u', Only (fun k => k = B ∨ k = w.heap.size) w6 u' → (fun u => (∀ o, u.cell? ⟨b3, o, none⟩ = (#[.int .i64 S.k.t, .int .i64 S.k.v, .int .i64 S.k.si, .int .i64 S.k.st, .string S.k.sd, .slice a0 S.k.e.length c0, .slice au S.l.length cu] : Array Value)[o]?)) u') := fun u' ho => (HD.out.s.only ho (by omega)).cell
        refine wp_region_held_drew (S := fun u => (∀ o, u.cell? ⟨b3, o, none⟩ = (#[.int .i64 S.k.t, .int .i64 S.k.v, .int .i64 S.k.si, .int .i64 S.k.st, .string S.k.sd, .slice a0 S.k.e.length c0, .slice au S.l.length cu] : Array Value)[o]?)) (by kernel_rfl) (HS.out _ (Only.refl _ _).drew) (fun hHeld => ?_)
        have BWD : Below w6.heap.size w6 w6.drew := (Below.refl _ _).drew
        have HDD := Hid.intro (HD.out.kept BWD)
        have OD : Only (fun k => k = B ∨ k = w.heap.size) w6 w6.drew := Below.any BWD
        generalize w6.drew = D at HDD OD hHeld ⊢
        clear BWD
        refine take1 (i := 0) (d := some 61) (v := ?_) rfl rfl (by kernel_rfl) (by kernel_rfl) (by kernel_rfl) (fun _ _ _ h => h) (Or.inl ⟨by rfl, ?_⟩) (by assumption) ?_
        rotate_left 1
        · intro w hSw
          have q0 := hSw
          go_simp <;> with_reducible rfl
        simp only [Act.put, List.setIfInBounds_toArray]
        try simp only [List.set_cons_succ]
        try simp only [List.set_cons_zero]
        refine take1 (i := 1) (d := some 62) (v := ?_) rfl rfl (by kernel_rfl) (by kernel_rfl) (by kernel_rfl) (fun _ _ _ h => h) (Or.inl ⟨by rfl, ?_⟩) (by assumption) ?_
        rotate_left 1
        · intro w hSw
          have q0 := hSw
          go_simp <;> with_reducible rfl
        simp only [Act.put, List.setIfInBounds_toArray]
        try simp only [List.set_cons_succ]
        try simp only [List.set_cons_zero]
        refine take1 (i := 2) (d := some 63) (v := ?_) rfl rfl (by kernel_rfl) (by kernel_rfl) (by kernel_rfl) (fun _ _ _ h => h) (Or.inl ⟨by rfl, ?_⟩) (by assumption) ?_
        rotate_left 1
        · intro w hSw
          have q0 := hSw
          go_simp <;> with_reducible rfl
        simp only [Act.put, List.setIfInBounds_toArray]
        try simp only [List.set_cons_succ]
        try simp only [List.set_cons_zero]
        refine wpAnyH_ready (rs := [3]) (by kernel_rfl) (by simp) ?_
        refine AllReadyH.cons rfl (fun KK hKK => ?_) AllReadyH.nil
        go_simp
        have OA : Only (fun k => k = B ∨ k = w.heap.size) w6 (D.alloc (.cells #[.int .i64 (-1), .int .i64 0, .int .i64 1, .int .i64 2, .int .i64 90, .int .i64 3] 3)) := OD.trans (Below.any ((Below.refl _ _).alloc (Nat.le_refl _) _))
        refine hKK.out _ _ (HS.out _ OA) (fun hHeld2 => ?_)
        clear hKK KK hHeld
        have hHeld := hHeld2
        clear hHeld2
        refine wpAnyH_ready (rs := [4]) (by kernel_rfl) (by simp) ?_
        refine AllReadyH.cons rfl (fun KK hKK => ?_) AllReadyH.nil
        go_simp
        refine (pickIntP_any (fun x => -10 ≤ x ∧ x ≤ 100001) 6 _ D HDD.out.cur (okIntsP_map _ [-1, 0, 1, 2, 90, 3] (by simp)) rfl (by omega) (by omega)).mono ?_
        rintro e w9 ⟨nn, rfl, hnn, c9, g9⟩
        have HD9 := Hid.intro (HDD.out.step g9 c9)
        have O9 : Only (fun k => k = B ∨ k = w.heap.size) w6 w9 := Only.then OD (grown_only g9) (by intro k hk h; left; simpa using h)
        clear c9 g9 OA
        go_simp
        refine hKK.out _ _ (HS.out _ O9) (fun hHeld2 => ?_)
        clear hKK KK hHeld
        have hHeld := hHeld2
        clear hHeld2
        have k7 := HD9.out.z.cell
        have f7 := HD9.out.z.fro
        refine wpAnyH_ready (rs := [5]) (by kernel_rfl) (by simp) ?_
        refine AllReadyH.cons rfl (fun KK hKK => ?_) AllReadyH.nil
        go_simp
        obtain ⟨V, hV, kV, oV⟩ := HD9.out.z.all7 (.int .i64 S.k.t) (.int .i64 S.k.v) (.int .i64 S.k.si) (.int .i64 S.k.st) (.string S.k.sd) (.slice a0 S.k.e.length c0) (.slice au S.l.length cu)
        simp only [hV]
        have OV9 := Only.then O9 oV (by intro k hk h; right; exact h)
        have h1 := HD9.out.hz
        have h2 := HD9.out.hB
        have h3 := HD9.out.h03
        have h4 := HD9.out.h34
        have FE : Hid (DrawWP w (.returned (.tuple #[stV S (.slice a0 S.k.e.length c0) (.slice au S.l.length cu), .slice al L.length cl, .int .i64 nn])) V) := by
          refine ⟨S, _, _, L, _, nn, rfl, ?_, ?_, ?_, by omega, ?_⟩
          · exact (HD9.out.ov.only oV (fun k hk e => by have := (HD9.out.ov.lt k hk).1; omega)).rowAll
          · exact (HD9.out.ou.only oV (fun k hk e => by have := (HD9.out.ou.lt k hk).1; omega)).rowAll
          · exact (HD9.out.ol.only oV (fun k hk e => by have := (HD9.out.ol.lt k hk).1; omega)).rowAll
          · exact HD9.out.o.trans (oV.below HD9.out.o.size (fun k hk e => by omega))
        have kz := kV.cell
        clear k7 f7 hV kV oV HD9 HDD HD O9 OD
        refine hKK.out _ _ (HS.out _ OV9) (fun hHeld2 => ?_)
        clear hKK KK hHeld
        have hHeld := hHeld2
        clear hHeld2
        refine take1 (i := 6) (d := some 3) (v := ?_) rfl rfl (by kernel_rfl) (by kernel_rfl) (by kernel_rfl) (fun _ _ _ h => h) (Or.inl ⟨by rfl, ?_⟩) (by assumption) ?_
        rotate_left 1
        · intro w hSw
          have q0 := hSw
          go_simp <;> with_reducible rfl
        simp only [Act.put, List.setIfInBounds_toArray]
        try simp only [List.set_cons_succ]
        try simp only [List.set_cons_zero]
        refine take1 (i := 7) (d := some 4) (v := ?_) rfl rfl (by kernel_rfl) (by kernel_rfl) (by kernel_rfl) (fun _ _ _ h => h) (Or.inl ⟨by rfl, ?_⟩) (by assumption) ?_
        rotate_left 1
        · intro w hSw
          have q0 := hSw
          go_simp <;> with_reducible rfl
        simp only [Act.put, List.setIfInBounds_toArray]
        try simp only [List.set_cons_succ]
        try simp only [List.set_cons_zero]
        refine wpAnyH_done (by kernel_rfl) ?_ _
        clear hHeld OV9 HS h1 h2 h3 h4
        have z0 := kz 0
        have z1 := kz 1
        have z2 := kz 2
        have z3 := kz 3
        have z4 := kz 4
        have z5 := kz 5
        have z6 := kz 6
        clear kz
        go_wp2_with fail
        exact bodyPost_ret (v := .tuple #[stV S (.slice a0 S.k.e.length c0) (.slice au S.l.length cu), .slice al L.length cl, .int .i64 nn]) (by simp [results, Try.results10, go_sem, z0, z1, z2, z3, z4, z5, z6]) rfl FE.out
      | true =>
        go_wp2_with fail
        refine (belowC_any 2 w6 HD.out.cur (by omega) (by omega)).mono ?_
        rintro e w7 ⟨y, rfl, y0, y1, c7, g7⟩
        replace HD := Hid.intro (HD.out.step g7 c7)
        clear c7 g7
        obtain ⟨m, rfl⟩ := Int.eq_ofNat_of_zero_le y0
        go_upto_region 14 with fail
        obtain ⟨Q2, hQ2, bQ2, zQ2, dQ2, eQ2⟩ := boxed w7 #[] 43
        have OL2 : Hid (OwnR Q2 b4 (.slice (some ⟨w7.heap.size, 0, none⟩) 0 0) []) := by
          unfold Hid
          rw [← hQ2]
          exact row_nil w7 _ _ (by have := HD.out.k.hi; omega) rfl
        try simp only [hQ2]
        replace HD := Hid.intro (HD.out.anew bQ2 OL2.out (fun k hk => by simp only [Value.ownBlock, Option.some.injEq] at hk; omega))
        clear hQ2 bQ2 zQ2 dQ2 eQ2 OL2 hLl
        go_wp2_with fail
        go_loopw [8, 12] (fun lvv i wr => ∃ (j : Nat) (L : List Rc), i = .int .i64 (j : Nat) ∧ j ≤ 80 + m ∧ Hid (L.length = j) ∧ Hid (DW W.heap.size a len cap zs B w wr w.heap.size b0 b3 b4 S (.slice a0 S.k.e.length c0) (.slice au S.l.length cu) K (.slice ak K.e.length ck) L lvv)) (fun _ i _ => 80 + m - (intOf i).toNat)
        case atStart => exact ⟨0, [], rfl, by omega, Hid.intro rfl, HD⟩
        case round =>
          obtain ⟨j, L2, rfl, hj, hL2, HD⟩ := hrel
          obtain ⟨al2, cl2, rfl⟩ := HD.out.ol.slice
          have hL2b : L2.length ≤ 90 := by have := hL2.out; omega
          by_cases hlt : j < 80 + m
          · have hlt' : (j : Int) < 80 + (m : Int) := by omega
            have k0 : wr.cell? ⟨b3, 0, none⟩ = some (.int .i64 S.k.t) := HD.out.s.cell 0
            have hk4 : b4 < wr.heap.size := HD.out.k.hi
            have HDA := Hid.intro (HD.out.kept ((Below.refl wr.heap.size wr).alloc (Nat.le_refl _) (.cells #[.int .i64 1, .int .i64 (S.k.t + 20 + (j : Nat)), .int .i64 0, .int .i64 (-1), .string ⟨#[]⟩] 43)))
            have hnw : ∀ j' u, (rcF [(⟨1, S.k.t + 20 + (j : Nat), 0, -1, ⟨#[]⟩⟩ : Rc)])[j']? = some u → (wr.alloc (.cells #[.int .i64 1, .int .i64 (S.k.t + 20 + (j : Nat)), .int .i64 0, .int .i64 (-1), .string ⟨#[]⟩] 43)).cell? ((⟨wr.heap.size, 0, none⟩ : Addr).add j') = some u := rc_news (w := wr) (⟨1, S.k.t + 20 + (j : Nat), 0, -1, ⟨#[]⟩⟩ : Rc) 43
            go_wp2_with (at_builtin; refine app_R rfl _ _ rfl b4 (.slice al2 L2.length cl2) L2 [(⟨1, S.k.t + 20 + (j : Nat), 0, -1, ⟨#[]⟩⟩ : Rc)] rfl HDA.out.ol ⟨wr.heap.size, 0, none⟩ 1 rfl hnw (by simp <;> omega) (by simp <;> omega) (by simp) ?_; intro g8 cap8 w8 o8 hO8 hloc8; have HQ := Hid.intro (HDA.out.app hO8 o8 (hloc8.elim (fun e => .inl e) (fun e => .inr (by rw [e] <;> rfl)))); clear o8 hO8 hloc8)
            go_roundw
            case rel => exact ⟨j + 1, L2 ++ [(⟨1, S.k.t + 20 + (j : Nat), 0, -1, ⟨#[]⟩⟩ : Rc)], by go_num, by omega, Hid.intro (by have := hL2.out; simp; omega), HQ⟩
            case measure => simp [intOf]; omega
          · have hlt' : ¬ (j : Int) < 80 + (m : Int) := by omega
            go_upto_region 18 with fail
            have hne3 : b3 ≠ B ∧ b3 ≠ w.heap.size := by have := HD.out.hz; have := HD.out.hB; have := HD.out.h03; omega
            have HS : Hid (∀ u', Only (fun k => k = B ∨ k = w.heap.size) wr u' → (fun u => (∀ o, u.cell? ⟨b3, o, none⟩ = (#[.int .i64 S.k.t, .int .i64 S.k.v, .int .i64 S.k.si, .int .i64 S.k.st, .string S.k.sd, .slice a0 S.k.e.length c0, .slice au S.l.length cu] : Array Value)[o]?)) u') := fun u' ho => (HD.out.s.only ho (by omega)).cell
            refine wp_region_held_drew (S := fun u => (∀ o, u.cell? ⟨b3, o, none⟩ = (#[.int .i64 S.k.t, .int .i64 S.k.v, .int .i64 S.k.si, .int .i64 S.k.st, .string S.k.sd, .slice a0 S.k.e.length c0, .slice au S.l.length cu] : Array Value)[o]?)) (by kernel_rfl) (HS.out _ (Only.refl _ _).drew) (fun hHeld => ?_)
            have BWD : Below wr.heap.size wr wr.drew := (Below.refl _ _).drew
            have HDD := Hid.intro (HD.out.kept BWD)
            have OD : Only (fun k => k = B ∨ k = w.heap.size) wr wr.drew := Below.any BWD
            generalize wr.drew = D at HDD OD hHeld ⊢
            clear BWD
            refine take1 (i := 0) (d := some 61) (v := ?_) rfl rfl (by kernel_rfl) (by kernel_rfl) (by kernel_rfl) (fun _ _ _ h => h) (Or.inl ⟨by rfl, ?_⟩) (by assumption) ?_
            rotate_left 1
            · intro w hSw
              have q0 := hSw
              go_simp <;> with_reducible rfl
            simp only [Act.put, List.setIfInBounds_toArray]
            try simp only [List.set_cons_succ]
            try simp only [List.set_cons_zero]
            refine take1 (i := 1) (d := some 62) (v := ?_) rfl rfl (by kernel_rfl) (by kernel_rfl) (by kernel_rfl) (fun _ _ _ h => h) (Or.inl ⟨by rfl, ?_⟩) (by assumption) ?_
            rotate_left 1
            · intro w hSw
              have q0 := hSw
              go_simp <;> with_reducible rfl
            simp only [Act.put, List.setIfInBounds_toArray]
            try simp only [List.set_cons_succ]
            try simp only [List.set_cons_zero]
            refine take1 (i := 2) (d := some 63) (v := ?_) rfl rfl (by kernel_rfl) (by kernel_rfl) (by kernel_rfl) (fun _ _ _ h => h) (Or.inl ⟨by rfl, ?_⟩) (by assumption) ?_
            rotate_left 1
            · intro w hSw
              have q0 := hSw
              go_simp <;> with_reducible rfl
            simp only [Act.put, List.setIfInBounds_toArray]
            try simp only [List.set_cons_succ]
            try simp only [List.set_cons_zero]
            refine wpAnyH_ready (rs := [3]) (by kernel_rfl) (by simp) ?_
            refine AllReadyH.cons rfl (fun KK hKK => ?_) AllReadyH.nil
            go_simp
            have OA : Only (fun k => k = B ∨ k = w.heap.size) wr (D.alloc (.cells #[.int .i64 (-1), .int .i64 0, .int .i64 1, .int .i64 2, .int .i64 90, .int .i64 3] 3)) := OD.trans (Below.any ((Below.refl _ _).alloc (Nat.le_refl _) _))
            refine hKK.out _ _ (HS.out _ OA) (fun hHeld2 => ?_)
            clear hKK KK hHeld
            have hHeld := hHeld2
            clear hHeld2
            refine wpAnyH_ready (rs := [4]) (by kernel_rfl) (by simp) ?_
            refine AllReadyH.cons rfl (fun KK hKK => ?_) AllReadyH.nil
            go_simp
            refine (pickIntP_any (fun x => -10 ≤ x ∧ x ≤ 100001) 6 _ D HDD.out.cur (okIntsP_map _ [-1, 0, 1, 2, 90, 3] (by simp)) rfl (by omega) (by omega)).mono ?_
            rintro e w9 ⟨nn, rfl, hnn, c9, g9⟩
            have HD9 := Hid.intro (HDD.out.step g9 c9)
            have O9 : Only (fun k => k = B ∨ k = w.heap.size) wr w9 := Only.then OD (grown_only g9) (by intro k hk h; left; simpa using h)
            clear c9 g9 OA
            go_simp
            refine hKK.out _ _ (HS.out _ O9) (fun hHeld2 => ?_)
            clear hKK KK hHeld
            have hHeld := hHeld2
            clear hHeld2
            have k7 := HD9.out.z.cell
            have f7 := HD9.out.z.fro
            refine wpAnyH_ready (rs := [5]) (by kernel_rfl) (by simp) ?_
            refine AllReadyH.cons rfl (fun KK hKK => ?_) AllReadyH.nil
            go_simp
            obtain ⟨V, hV, kV, oV⟩ := HD9.out.z.all7 (.int .i64 S.k.t) (.int .i64 S.k.v) (.int .i64 S.k.si) (.int .i64 S.k.st) (.string S.k.sd) (.slice a0 S.k.e.length c0) (.slice au S.l.length cu)
            simp only [hV]
            have OV9 := Only.then O9 oV (by intro k hk h; right; exact h)
            have h1 := HD9.out.hz
            have h2 := HD9.out.hB
            have h3 := HD9.out.h03
            have h4 := HD9.out.h34
            have FE : Hid (DrawWP w (.returned (.tuple #[stV S (.slice a0 S.k.e.length c0) (.slice au S.l.length cu), .slice al2 L2.length cl2, .int .i64 nn])) V) := by
              refine ⟨S, _, _, L2, _, nn, rfl, ?_, ?_, ?_, by omega, ?_⟩
              · exact (HD9.out.ov.only oV (fun k hk e => by have := (HD9.out.ov.lt k hk).1; omega)).rowAll
              · exact (HD9.out.ou.only oV (fun k hk e => by have := (HD9.out.ou.lt k hk).1; omega)).rowAll
              · exact (HD9.out.ol.only oV (fun k hk e => by have := (HD9.out.ol.lt k hk).1; omega)).rowAll
              · exact HD9.out.o.trans (oV.below HD9.out.o.size (fun k hk e => by omega))
            have kz := kV.cell
            clear k7 f7 hV kV oV HD9 HDD HD O9 OD
            refine hKK.out _ _ (HS.out _ OV9) (fun hHeld2 => ?_)
            clear hKK KK hHeld
            have hHeld := hHeld2
            clear hHeld2
            refine take1 (i := 6) (d := some 3) (v := ?_) rfl rfl (by kernel_rfl) (by kernel_rfl) (by kernel_rfl) (fun _ _ _ h => h) (Or.inl ⟨by rfl, ?_⟩) (by assumption) ?_
            rotate_left 1
            · intro w hSw
              have q0 := hSw
              go_simp <;> with_reducible rfl
            simp only [Act.put, List.setIfInBounds_toArray]
            try simp only [List.set_cons_succ]
            try simp only [List.set_cons_zero]
            refine take1 (i := 7) (d := some 4) (v := ?_) rfl rfl (by kernel_rfl) (by kernel_rfl) (by kernel_rfl) (fun _ _ _ h => h) (Or.inl ⟨by rfl, ?_⟩) (by assumption) ?_
            rotate_left 1
            · intro w hSw
              have q0 := hSw
              go_simp <;> with_reducible rfl
            simp only [Act.put, List.setIfInBounds_toArray]
            try simp only [List.set_cons_succ]
            try simp only [List.set_cons_zero]
            refine wpAnyH_done (by kernel_rfl) ?_ _
            clear hHeld OV9 HS h1 h2 h3 h4
            have z0 := kz 0
            have z1 := kz 1
            have z2 := kz 2
            have z3 := kz 3
            have z4 := kz 4
            have z5 := kz 5
            have z6 := kz 6
            clear kz
            go_wp2_with fail
            exact bodyPost_ret (v := .tuple #[stV S (.slice a0 S.k.e.length c0) (.slice au S.l.length cu), .slice al2 L2.length cl2, .int .i64 nn]) (by simp [results, Try.results10, go_sem, z0, z1, z2, z3, z4, z5, z6]) rfl FE.out

    · have kn : (0 : Int) < ((n + 1 : Nat) : Int) := by omega
      have k4 := HD.out.k.cell
      go_wp2_with fail
      refine (l3Rec_any K _ b0 wr HD.out.cur HD.out.ok HD.out.hB (HBN.out.up (by omega))).mono ?_
      rintro e w6 ⟨r, rfl, hrd, c6, g6⟩
      replace HD := Hid.intro (HD.out.step g6 c6)
      clear c6 g6 k4
      go_upto_region 9 with fail
      obtain ⟨Z, hZ, bZ, zZ, dZ, eZ⟩ := boxed w6 #[.int .i64 r.k, .int .i64 r.t, .int .i64 r.i, .int .i64 r.v, .string r.d] 43
      try simp only [hZ]
      have R6 : Hid (Blk Z w6.heap.size #[.int .i64 r.k, .int .i64 r.t, .int .i64 r.i, .int .i64 r.v, .string r.d]) := ⟨by omega, dZ, eZ⟩
      have hb46 : b4 < w6.heap.size := HD.out.k.hi
      have hz6 : w6.heap.size < Z.heap.size := by omega
      clear zZ
      have hvk6 : Hid (∀ k, (Value.slice ak K.e.length ck).ownBlock = some k → k < w6.heap.size) := fun k hk => (HD.out.ok.lt k hk).2
      have hlv6 : Hid (∀ k, (Value.slice al L.length cl).ownBlock = some k → k < w6.heap.size) := fun k hk => (HD.out.ol.lt k hk).2
      replace HD := Hid.intro (HD.out.kept bZ)
      clear hZ bZ dZ eZ
      have c6 := R6.out.cell
      have HDA := Hid.intro (HD.out.kept ((Below.refl Z.heap.size Z).alloc (Nat.le_refl _) (.cells #[.int .i64 r.k, .int .i64 r.t, .int .i64 r.i, .int .i64 r.v, .string r.d] 43)))
      have R6A := Hid.intro (R6.out.kept ((Below.refl Z.heap.size Z).alloc (Nat.le_refl _) (.cells #[.int .i64 r.k, .int .i64 r.t, .int .i64 r.i, .int .i64 r.v, .string r.d] 43)))
      have hnw := rc_news (w := Z) r 43
      go_upto_region 10 with (at_builtin; refine app_R rfl _ _ rfl b4 (.slice al L.length cl) L [r] rfl HDA.out.ol ⟨Z.heap.size, 0, none⟩ 1 rfl hnw (by simp <;> omega) (by simp <;> omega) (by simp) ?_; intro g8 cap8 w8 o8 hO8 hloc8; have HQ := Hid.intro (HDA.out.app hO8 o8 (hloc8.elim (fun e => .inl e) (fun e => .inr (by rw [e] <;> rfl)))); have R68 := Hid.intro (R6A.out.only hO8 (fun e => by have := hlv6.out _ e.symm; omega)); have hz8 : Z.heap.size ≤ w8.heap.size := (by have := hO8.size; simp at this; omega); clear o8 hO8 hloc8)
      clear c6 hnw HD R6 HDA R6A
      simp only [List.length_singleton] at HQ
      have RK := Hid.intro HQ.out.ok.rowAll
      have HS : Hid (∀ u', Only (fun k => k = b4) w8 u' → (fun u => (∀ o, u.cell? ⟨w6.heap.size, o, none⟩ = (#[.int .i64 r.k, .int .i64 r.t, .int .i64 r.i, .int .i64 r.v, .string r.d] : Array Value)[o]?)) u') := fun u' ho => (R68.out.only ho (by omega)).cell
      refine wp_region_held_drew (S := fun u => (∀ o, u.cell? ⟨w6.heap.size, o, none⟩ = (#[.int .i64 r.k, .int .i64 r.t, .int .i64 r.i, .int .i64 r.v, .string r.d] : Array Value)[o]?)) (by kernel_rfl) (HS.out _ (Only.refl _ _).drew) (fun hHeld => ?_)
      have BWD : Below w8.heap.size w8 w8.drew := (Below.refl _ _).drew
      generalize w8.drew = D at BWD hHeld ⊢
      have kD := (HQ.out.kept BWD).k.cell
      refine take1 (i := 2) (d := some 36) (v := ?_) rfl rfl (by kernel_rfl) (by kernel_rfl) (by kernel_rfl) (fun _ _ _ h => h) (Or.inl ⟨by rfl, ?_⟩) (by assumption) ?_
      rotate_left 1
      · intro w hSw
        have q0 := hSw
        go_simp <;> with_reducible rfl
      simp only [Act.put, List.setIfInBounds_toArray]
      try simp only [List.set_cons_succ]
      try simp only [List.set_cons_zero]
      refine wpAnyH_ready (rs := [0]) (by kernel_rfl) (by simp) ?_
      refine AllReadyH.cons rfl (fun KK hKK => ?_) AllReadyH.nil
      go_simp
      clear kD
      refine hKK.out _ _ (HS.out _ (Below.any BWD)) (fun hHeld2 => ?_)
      clear hKK KK hHeld
      have hHeld := hHeld2
      clear hHeld2
      refine wpAnyH_ready (rs := [1]) (by kernel_rfl) (by simp) ?_
      refine AllReadyH.cons rfl (fun KK hKK => ?_) AllReadyH.nil
      go_simp
      refine (l3Copy_any K (.slice ak K.e.length ck) w8.heap.size D BWD.size (RK.out.kept BWD) (by have := HBN.out.e; omega)).mono ?_
      rintro e wA ⟨vA, rfl, oA, bA⟩
      have BWA : Below w8.heap.size w8 wA := BWD.trans (bA.mono BWD.size)
      have HA := Hid.intro (oA.lower BWD.size)
      clear bA oA BWD
      go_simp
      refine hKK.out _ _ (HS.out _ (Below.any BWA)) (fun hHeld2 => ?_)
      clear hKK KK hHeld
      have hHeld := hHeld2
      clear hHeld2
      refine wpAnyH_ready (rs := [3]) (by kernel_rfl) (by simp) ?_
      refine AllReadyH.cons rfl (fun KK hKK => ?_) AllReadyH.nil
      go_simp
      refine (l3StepX_any K vA w8.heap.size r wA BWA.size HA.out (by have := HBN.out; exact ⟨by have := this.i0; omega, by have := this.i1; omega, by have := this.e; omega⟩)).mono ?_
      rintro e w9 ⟨v9, rfl, o9, loc9, on9⟩
      obtain ⟨a9, c9, rfl⟩ := o9.slice
      have BW9 : Below w8.heap.size w8 w9 := BWA.trans (on9.below BWA.size (fun k hk e => by have := (HA.out.lt k e.symm).1; omega))
      have H9 := Hid.intro o9
      clear o9 on9 loc9 BWA HA
      go_simp
      refine hKK.out _ _ (HS.out _ (Below.any BW9)) (fun hHeld2 => ?_)
      clear hKK KK hHeld
      have hHeld := hHeld2
      clear hHeld2
      refine take1 (i := 4) (d := some 33) (v := ?_) rfl rfl (by kernel_rfl) (by kernel_rfl) (by kernel_rfl) (fun _ _ _ h => h) (Or.inl ⟨by rfl, ?_⟩) (by assumption) ?_
      rotate_left 1
      · intro w hSw
        have q0 := hSw
        go_simp <;> with_reducible rfl
      simp only [Act.put, List.setIfInBounds_toArray]
      try simp only [List.set_cons_succ]
      try simp only [List.set_cons_zero]
      refine take1 (i := 5) (d := some 38) (v := ?_) rfl rfl (by kernel_rfl) (by kernel_rfl) (by kernel_rfl) (fun _ _ _ h => h) (Or.inl ⟨by rfl, ?_⟩) (by assumption) ?_
      rotate_left 1
      · intro w hSw
        have q0 := hSw
        go_simp <;> with_reducible rfl
      simp only [Act.put, List.setIfInBounds_toArray]
      try simp only [List.set_cons_succ]
      try simp only [List.set_cons_zero]
      refine take1 (i := 6) (d := some 39) (v := ?_) rfl rfl (by kernel_rfl) (by kernel_rfl) (by kernel_rfl) (fun _ _ _ h => h) (Or.inl ⟨by rfl, ?_⟩) (by assumption) ?_
      rotate_left 1
      · intro w hSw
        have q0 := hSw
        go_simp <;> with_reducible rfl
      simp only [Act.put, List.setIfInBounds_toArray]
      try simp only [List.set_cons_succ]
      try simp only [List.set_cons_zero]
      have HQ9 := Hid.intro (HQ.out.kept BW9)
      have k7 := HQ9.out.k.cell
      have f7 := HQ9.out.k.fro
      refine wpAnyH_ready (rs := [7]) (by kernel_rfl) (by simp) ?_
      refine AllReadyH.cons rfl (fun KK hKK => ?_) AllReadyH.nil
      go_simp
      obtain ⟨V, hV, kV, oV⟩ := HQ9.out.k.all6 (.int .i64 (nextK K r).t) (.int .i64 (nextK K r).v) (.int .i64 (nextK K r).si) (.int .i64 (nextK K r).st) (.string (nextK K r).sd) (.slice a9 (nextK K r).e.length c9)
      simp only [hV]
      have hlt9 : Hid (∀ k, (Value.slice a9 (nextK K r).e.length c9).ownBlock = some k → w8.heap.size ≤ k) := fun k hk => (H9.out.lt k hk).1
      have h8b : b4 < w8.heap.size := HQ.out.k.hi
      have hlw8 : Hid (∀ k, (Value.slice (some ⟨g8, 0, none⟩) (L.length + 1) cap8).ownBlock = some k → k < w8.heap.size) := fun k hk => (HQ.out.ol.lt k hk).2
      have hb08 : b0 ≤ w8.heap.size := by have := HQ.out.h03; have := HQ.out.h34; omega
      have hb38 : b3 < b4 := HQ.out.h34
      have HE := Hid.intro (HQ9.out.setK oV kV ((H9.out.x).lower hb08) (fun k hk => by have := hlt9.out k hk; omega) (fun k hk e => by have := hlt9.out k e; have := hlw8.out k hk; omega))
      have hSV := Only.then (Below.any BW9 : Only (fun k => k = b4) w8 w9) oV (by intro k hk h; exact h)
      clear k7 f7 hV kV oV HQ9 H9 BW9
      refine hKK.out _ _ (HS.out _ hSV) (fun hHeld2 => ?_)
      clear hKK KK hHeld
      have hHeld := hHeld2
      clear hHeld2
      refine wpAnyH_done (by kernel_rfl) ?_ _
      have HBX := Hid.intro (HBN.out.next r)
      clear hHeld hSV HS R68 RK HQ
      go_wp2_with fail
      go_roundw
      case rel => exact ⟨n, L ++ [r], nextK K r, _, by go_num, by omega, by simp; omega, HBX.out.up (by omega), HE.out⟩
      case measure => simp [intOf]
end Go.Proofs.Ytkilepoimocoeaa
namespace Go.Proofs.Ytkilepoimocoeaa
open Go.RowKit
set_option linter.unusedVariables false
theorem below_drewN9 {B : Nat} {w w' : World} (h : Below B w w') (n : Nat) : Below B w (w'.drewN n) := ⟨h.os, h.tape, h.output, h.size, h.block⟩
theorem bytes_eq9 {a b : ByteArray} (h : a.toList = b.toList) : a = b := by
  rw [ByteArray.toList_eq, ByteArray.toList_eq] at h
  exact ByteArray.ext (Array.ext' h)
set_option maxRecDepth 100000 in
set_option maxHeartbeats 4000000 in
theorem alike_any (L M : List En) (v u : Value) (N : Nat) (w : World) (hN : N ≤ w.heap.size) (h1 : RowE w N v L) (h2 : RowE w N u M) :
    Calls Try.prog 57 #[v, u] w fun e w' => e = .returned (.int .i64 (alikeN L M)) ∧ Below w.heap.size w w' := by
  obtain ⟨a1, cap1, rfl, l1, m1, hc1⟩ := h1
  obtain ⟨a2, cap2, rfl, l2, m2, hc2⟩ := h2
  have H1 := Hid.intro hc1
  have H2 := Hid.intro hc2
  clear hc1 hc2
  go_enter Try.func57, Try.ntmps57
  go_wp2
  go_loopw [5] (fun i wr => ∃ (j : Nat), i = .int .i64 j ∧ j ≤ L.length ∧ j ≤ M.length ∧ Hid (alikeN L M = j + alikeN (L.drop j) (M.drop j)) ∧ Below w.heap.size w wr) (fun i _ => L.length - (intOf i).toNat)
  case atStart => exact ⟨0, rfl, Nat.zero_le _, Nat.zero_le _, by unfold Hid; simp, Below.refl _ _⟩
  case round =>
    obtain ⟨j, rfl, hj1, hj2, HE, hbel⟩ := hrel
    have HB := Hid.intro hbel
    clear hbel
    by_cases hl1 : j < L.length
    · by_cases hl2 : j < M.length
      · have hne1 : L ≠ [] := by intro h; rw [h] at hl1; simp at hl1
        have hne2 : M ≠ [] := by intro h; rw [h] at hl2; simp at hl2
        obtain ⟨b1, o1, rfl, hb1, cc1⟩ := H1.out hne1
        obtain ⟨b2, o2, rfl, hb2, cc2⟩ := H2.out hne2
        obtain ⟨p0, p1⟩ := cc1 j hl1
        obtain ⟨q0, q1⟩ := cc2 j hl2
        have hat := alikeN_at L M j hl1 hl2
        generalize L[j] = ea at p0 p1 hat
        generalize M[j] = eb at q0 q1 hat
        have hp0 := atCell HB.out p0 (by omega)
        have hp1 := atCell HB.out p1 (by omega)
        have hq0 := atCell HB.out q0 (by omega)
        have hq1 := atCell HB.out q1 (by omega)
        have HAT := Hid.intro hat
        have i1 : (j : Int) < (L.length : Int) := by omega
        have i2 : (j : Int) < (M.length : Int) := by omega
        clear cc1 cc2 p0 p1 q0 q1 hne1 hne2 hat
        by_cases ht : ea.t = eb.t
        · by_cases hd : ea.d = eb.d
          · obtain ⟨t1, d1⟩ := ea
            obtain ⟨t2, d2⟩ := eb
            simp only at ht hd hp0 hp1 hq0 hq1
            subst ht
            subst hd
            go_wp2
            go_quiet (fail)
            go_wp2
            go_roundw
            case rel => exact ⟨j + 1, by go_num, by omega, by omega, by have h1 := HE.out; have h2 := HAT.out; unfold Hid; rw [h1, h2]; simp [eqE]; omega, by first | exact HB.out | exact below_drewN9 HB.out _⟩
            case measure => simp [intOf]; omega
          · have n1 : ¬ ea.d.toList = eb.d.toList := fun h => hd (bytes_eq9 h)
            have n2 : (ea.d.toList == eb.d.toList) = false := by simpa using n1
            have hz : eqE ea eb = false := by simp [eqE, hd]
            have HZ := Hid.intro hz
            clear hd hz
            obtain ⟨t1, d1⟩ := ea
            obtain ⟨t2, d2⟩ := eb
            simp only at ht hp0 hp1 hq0 hq1 n1 n2
            subst ht
            go_wp2
            go_quiet (fail)
            go_wp2
            go_ret
            exact ⟨ret_int (by have h1 := HE.out; have h2 := HAT.out; rw [h1, h2, HZ.out]; simp), by first | exact HB.out | exact below_drewN9 HB.out _⟩
        · have n1 : (ea.t == eb.t) = false := by simpa using ht
          have hz : eqE ea eb = false := by simp [eqE, ht]
          have HZ := Hid.intro hz
          clear hz
          go_wp2
          go_quiet (fail)
          go_wp2
          go_ret
          exact ⟨ret_int (by have h1 := HE.out; have h2 := HAT.out; rw [h1, h2, HZ.out]; simp), by first | exact HB.out | exact below_drewN9 HB.out _⟩
      · have i1 : (j : Int) < (L.length : Int) := by omega
        have i2 : decide ((j : Int) < (M.length : Int)) = false := decide_eq_false (by omega)
        have HN := Hid.intro (alikeN_end L M j (by omega))
        go_wp2
        go_quiet (fail)
        go_wp2
        go_ret
        exact ⟨ret_int (by have h1 := HE.out; rw [h1, HN.out]; simp), by first | exact HB.out | exact below_drewN9 HB.out _⟩
    · have i1 : decide ((j : Int) < (L.length : Int)) = false := decide_eq_false (by omega)
      have HN := Hid.intro (alikeN_end L M j (by omega))
      go_wp2
      go_quiet (fail)
      go_wp2
      go_ret
      exact ⟨ret_int (by have h1 := HE.out; rw [h1, HN.out]; simp), by first | exact HB.out | exact below_drewN9 HB.out _⟩
end Go.Proofs.Ytkilepoimocoeaa
namespace Go.Proofs.Ytkilepoimocoeaa
open Go.RowKit
set_option linter.unusedVariables false
set_option maxRecDepth 100000 in
set_option maxHeartbeats 1600000 in
theorem sameEntries_same (L : List En) (v u : Value) (N : Nat) (w : World) (hN : N ≤ w.heap.size) (h1 : RowE w N v L) (h2 : RowE w N u L) :
    Calls Try.prog 53 #[v, u] w fun e w' => e = .returned (.bool true) ∧ Below w.heap.size w w' := by
  obtain ⟨a1, cap1, rfl, l1, m1, hc1⟩ := h1
  obtain ⟨a2, cap2, rfl, l2, m2, hc2⟩ := h2
  have H1 := Hid.intro hc1
  have H2 := Hid.intro hc2
  clear hc1 hc2
  go_enter Try.func53, Try.ntmps53
  go_wp2
  go_loopw [5] (fun i wr => ∃ (j : Nat), i = .int .i64 j ∧ j ≤ L.length ∧ Below w.heap.size w wr) (fun i _ => L.length - (intOf i).toNat)
  case atStart => exact ⟨0, rfl, Nat.zero_le _, Below.refl _ _⟩
  case round =>
    obtain ⟨j, rfl, hj1, hbel⟩ := hrel
    have HB := Hid.intro hbel
    clear hbel
    by_cases hl1 : j < L.length
    · have hne1 : L ≠ [] := by intro h; rw [h] at hl1; simp at hl1
      obtain ⟨b1, o1, rfl, hb1, cc1⟩ := H1.out hne1
      obtain ⟨b2, o2, rfl, hb2, cc2⟩ := H2.out hne1
      obtain ⟨p0, p1⟩ := cc1 j hl1
      obtain ⟨q0, q1⟩ := cc2 j hl1
      generalize L[j] = ea at p0 p1 q0 q1
      have hp0 := atCell HB.out p0 (by omega)
      have hp1 := atCell HB.out p1 (by omega)
      have hq0 := atCell HB.out q0 (by omega)
      have hq1 := atCell HB.out q1 (by omega)
      have i1 : (j : Int) < (L.length : Int) := by omega
      clear cc1 cc2 p0 p1 q0 q1 hne1
      obtain ⟨t1, d1⟩ := ea
      simp only at hp0 hp1 hq0 hq1
      go_wp2
      go_quiet (fail)
      go_wp2
      go_roundw
      case rel => exact ⟨j + 1, by go_num, by omega, by first | exact HB.out | exact below_drewN9 HB.out _⟩
      case measure => simp [intOf]; omega
    · have i1 : ¬ (j : Int) < (L.length : Int) := by omega
      go_wp2
      go_ret
      exact ⟨rfl, HB.out⟩
set_option maxRecDepth 100000 in
set_option maxHeartbeats 1600000 in
theorem sameKept_same (K : Kp) (v u : Value) (N : Nat) (w : World) (hN : N ≤ w.heap.size) (h1 : RowE w N v K.e) (h2 : RowE w N u K.e) :
    Calls Try.prog 18 #[kpV K v, kpV K u] w fun e w' => e = .returned (.bool true) ∧ Below w.heap.size w w' := by
  have H1 := Hid.intro h1
  have H2 := Hid.intro h2
  obtain ⟨a1, cap1, rfl, -, -, -⟩ := h1
  obtain ⟨a2, cap2, rfl, -, -, -⟩ := h2
  go_enter Try.func18, Try.ntmps18
  go_wp2_with fail
  have bX := ((Below.refl w.heap.size w).alloc (Nat.le_refl _) (.cells #[.int .i64 K.t, .int .i64 K.v, .int .i64 K.si, .int .i64 K.st, .string K.sd, .slice a1 K.e.length cap1] 28)).alloc (by simp) (.cells #[.int .i64 K.t, .int .i64 K.v, .int .i64 K.si, .int .i64 K.st, .string K.sd, .slice a2 K.e.length cap2] 28)
  refine (sameEntries_same K.e _ _ N _ (by simp; omega) (H1.out.kept (bX.mono hN)) (H2.out.kept (bX.mono hN))).mono ?_
  rintro e w1 ⟨rfl, b1⟩
  have HB := Hid.intro (bX.trans (b1.mono (by simp; omega)))
  clear b1 bX
  go_wp2
  go_ret
  exact ⟨by first | rfl | simp, HB.out⟩
end Go.Proofs.Ytkilepoimocoeaa
namespace Go.Proofs.Ytkilepoimocoeaa
open Go.RowKit
set_option linter.unusedVariables false
abbrev sA (S : Sto) (v u : Value) : Array Value := #[.int .i64 S.k.t, .int .i64 S.k.v, .int .i64 S.k.si, .int .i64 S.k.st, .string S.k.sd, v, u]
abbrev kA (K : Kp) (v : Value) : Array Value := #[.int .i64 K.t, .int .i64 K.v, .int .i64 K.si, .int .i64 K.st, .string K.sd, v]
abbrev zS : Array Value := #[.int .i64 0, .int .i64 0, .int .i64 0, .int .i64 0, .string ⟨#[]⟩, .slice none 0 0, .slice none 0 0]
structure LW (w y : World) (B kb : Nat) (S : Sto) (v u u0 : Value) (K : Kp) (vk : Value) : Prop where
  sz : w.heap.size + 1 < kb
  s : Blk y w.heap.size (sA S v u)
  r : Blk y (w.heap.size + 1) zS
  k : Blk y kb (kA K vk)
  ev : OwnE y B v S.k.e
  ru : OwnR y B u S.l
  ek : OwnE y (w.heap.size + 1 + 1) vk K.e
  hv : ∀ k, v.ownBlock = some k → k < w.heap.size
  hu : ∀ k, u.ownBlock = some k → (u0.ownBlock = some k ∧ k < w.heap.size) ∨ (w.heap.size + 1 < k ∧ k ≠ kb ∧ ¬ vk.ownBlock = some k)
  huv : ∀ k, v.ownBlock = some k → ¬ u.ownBlock = some k
  hk : ∀ k, vk.ownBlock = some k → k ≠ kb
  o : Only (fun k => some k = u0.ownBlock) w y
theorem LW.step {w y y' : World} {B kb : Nat} {S : Sto} {v u u0 : Value} {K K' : Kp} {vk vk' : Value} (h : LW w y B kb S v u u0 K vk) (ho : Only (fun k => some k = vk.ownBlock) y y') (he : OwnE y' (w.heap.size + 1 + 1) vk' K'.e)
    (hl : ∀ k, vk'.ownBlock = some k → k ≠ kb ∧ (vk.ownBlock = some k ∨ y.heap.size ≤ k)) : LW w (setC y' kb 0 (kA K' vk').toList) B kb S v u u0 K' vk' := by
  have hkl := h.ek.lt
  have hsz := h.sz
  have o2 := only_setC y' kb 0 (kA K' vk').toList
  have nk : ¬ some kb = vk.ownBlock := fun e => h.hk kb e.symm rfl
  refine ⟨h.sz, (h.s.only ho (fun e => by have := hkl _ e.symm; omega)).only o2 (by omega), (h.r.only ho (fun e => by have := hkl _ e.symm; omega)).only o2 (by omega), (h.k.only ho nk).all _ rfl,
    (h.ev.only ho (fun k hk e => by have := hkl _ e.symm; have := h.hv k hk; omega)).only o2 (fun k hk e => by have := h.hv k hk; omega), ?_, he.only o2 (fun k hk e => (hl k hk).1 e), h.hv, ?_, h.huv, fun k hk => (hl k hk).1, ?_⟩
  · refine (h.ru.only ho (fun k hk e => ?_)).only o2 (fun k hk e => ?_)
    · rcases h.hu k hk with ⟨_, h1⟩ | ⟨_, _, h1⟩
      · have := hkl _ e.symm; omega
      · exact h1 e.symm
    · rcases h.hu k hk with ⟨_, h1⟩ | ⟨_, h1, _⟩
      · omega
      · exact h1 e
  · intro k hk
    rcases h.hu k hk with h1 | ⟨h1, h2, h3⟩
    · exact .inl h1
    · refine .inr ⟨h1, h2, fun e => ?_⟩
      rcases (hl k e).2 with h4 | h4
      · exact h3 h4
      · have := (h.ru.lt k hk).2; omega
  · exact (h.o.then ho (fun k hk e => by have := hkl _ e.symm; omega)).then o2 (fun k hk e => by omega)
theorem LW.push {w y y' : World} {B kb : Nat} {S : Sto} {v u u0 : Value} {K : Kp} {vk : Value} {g n cap : Nat} {l : List Rc} (h : LW w y B kb S v u u0 K vk) (ho : Only (fun k => some k = u.ownBlock) y y') (hr : OwnR y' B (.slice (some ⟨g, 0, none⟩) n cap) l)
    (hg : u.ownBlock = some g ∨ y.heap.size ≤ g) : LW w (y'.setCell ⟨w.heap.size, 6, none⟩ (.slice (some ⟨g, 0, none⟩) n cap)) B kb ⟨S.k, l⟩ v (.slice (some ⟨g, 0, none⟩) n cap) u0 K vk := by
  have hkl := h.ek.lt
  have hsz := h.sz
  have hky := h.k.hi
  have o2 : Only (fun k => k = w.heap.size) y' (y'.setCell ⟨w.heap.size, 6, none⟩ (.slice (some ⟨g, 0, none⟩) n cap)) := only_setC y' w.heap.size 6 [.slice (some ⟨g, 0, none⟩) n cap]
  have hg2 : (u0.ownBlock = some g ∧ g < w.heap.size) ∨ (w.heap.size + 1 < g ∧ g ≠ kb ∧ ¬ vk.ownBlock = some g) := by
    rcases hg with h1 | h1
    · exact h.hu g h1
    · exact .inr ⟨by omega, by omega, fun e => by have := (hkl g e).2; omega⟩
  have hgs : g ≠ w.heap.size := by rcases hg2 with h1 | h1 <;> omega
  refine ⟨h.sz, (h.s.only ho (fun e => ?_)).set 6 (by simp) _, (h.r.only ho (fun e => ?_)).only o2 (by omega), (h.k.only ho (fun e => ?_)).only o2 (by omega), (h.ev.only ho (fun k hk e => h.huv k hk e.symm)).only o2 (fun k hk e => by have := h.hv k hk; omega),
    hr.only o2 (fun k hk e => by simp only [Value.ownBlock, Option.some.injEq] at hk; omega), (h.ek.only ho (fun k hk e => ?_)).only o2 (fun k hk e => by have := hkl k hk; omega), h.hv, ?_, ?_, h.hk, ?_⟩
  · rcases h.hu _ e.symm with h1 | h1 <;> omega
  · rcases h.hu _ e.symm with h1 | h1 <;> omega
  · rcases h.hu _ e.symm with h1 | h1 <;> omega
  · rcases h.hu _ e.symm with ⟨_, h1⟩ | ⟨_, _, h1⟩
    · have := hkl k hk; omega
    · exact h1 hk
  · intro k hk
    simp only [Value.ownBlock, Option.some.injEq] at hk
    subst hk
    exact hg2
  · intro k hk e
    simp only [Value.ownBlock, Option.some.injEq] at e
    subst e
    rcases hg with h1 | h1
    · exact h.huv g hk h1
    · have := h.hv g hk; have := h.s.hi; omega
  · refine (h.o.then ho (fun k hk e => ?_)).then o2 (fun k hk e => by omega)
    rcases h.hu k e.symm with ⟨h1, _⟩ | h1
    · exact h1.symm
    · omega
/-- What l3Write leaves. -/
structure LWP (w w' : World) (B : Nat) (S : Sto) (v u u0 : Value) : Prop where
  ev : OwnE w' B v S.k.e
  ru : OwnR w' B u S.l
  dis : ∀ k, v.ownBlock = some k → ¬ u.ownBlock = some k
  o : Only (fun k => some k = u0.ownBlock) w w'
/-- The same, without the Kept. -/
structure LS (w y : World) (B : Nat) (S : Sto) (v u u0 : Value) : Prop where
  s : Blk y w.heap.size (sA S v u)
  r : Blk y (w.heap.size + 1) zS
  ev : OwnE y B v S.k.e
  ru : OwnR y B u S.l
  hv : ∀ k, v.ownBlock = some k → k < w.heap.size
  hu : ∀ k, u.ownBlock = some k → k ≠ w.heap.size + 1
  huv : ∀ k, v.ownBlock = some k → ¬ u.ownBlock = some k
  o : Only (fun k => some k = u0.ownBlock) w y
theorem LW.weakO {w y y' : World} {B kb : Nat} {S : Sto} {v u u0 : Value} {K : Kp} {vk : Value} (h : LW w y B kb S v u u0 K vk) (ho : Only (fun k => some k = vk.ownBlock) y y') : LS w y' B S v u u0 := by
  have hkl := h.ek.lt
  have hsz := h.sz
  refine ⟨h.s.only ho (fun e => by have := hkl _ e.symm; omega), h.r.only ho (fun e => by have := hkl _ e.symm; omega), h.ev.only ho (fun k hk e => by have := hkl _ e.symm; have := h.hv k hk; omega), h.ru.only ho (fun k hk e => ?_), h.hv, fun k hk => ?_, h.huv, h.o.then ho (fun k hk e => by have := hkl _ e.symm; omega)⟩
  · rcases h.hu k hk with ⟨_, h1⟩ | ⟨_, _, h1⟩
    · have := hkl _ e.symm; omega
    · exact h1 e.symm
  · rcases h.hu k hk with h1 | h1 <;> omega
theorem LW.weak {w y : World} {B kb : Nat} {S : Sto} {v u u0 : Value} {K : Kp} {vk : Value} (h : LW w y B kb S v u u0 K vk) : LS w y B S v u u0 := h.weakO (Only.refl _ _)
theorem LS.fin {w y : World} {B : Nat} {S : Sto} {v u u0 : Value} (h : LS w y B S v u u0) : LWP w (setC y (w.heap.size + 1) 0 (sA S v u).toList) B S v u u0 := by
  have o2 := only_setC y (w.heap.size + 1) 0 (sA S v u).toList
  exact ⟨h.ev.only o2 (fun k hk e => by have := h.hv k hk; omega), h.ru.only o2 (fun k hk e => h.hu k hk e), h.huv, h.o.then o2 (fun k hk e => by omega)⟩
end Go.Proofs.Ytkilepoimocoeaa
namespace Go.Proofs.Ytkilepoimocoeaa
open Go.RowKit
set_option linter.unusedVariables false
theorem firstN_at {L : List Rc} {j : Nat} {n : Int} (h : j < L.length) (hn : (j : Int) < n) : ∃ h' : j < (firstN n L).length, (firstN n L)[j] = L[j] := ⟨by simp [firstN]; omega, by simp [firstN]⟩
theorem firstN_len2 (n : Int) (L : List Rc) : (firstN n L).length = min n.toNat L.length := by simp [firstN]
theorem wr_out {S : Sto} {L : List Rc} {n : Int} {j : Nat} {K : Kp} (hst : storeB S = true) (c : CameI (heldK S) (80 - S.l.length) (firstN n L) j K) (h : ¬ (j : Int) < n ∨ ¬ j < L.length) : wrN S L n = j := by
  have hl := firstN_len2 n L
  have := c.jl
  obtain rfl : j = (firstN n L).length := by omega
  rw [wrN_yes hst, c.out]
theorem wr_full {S : Sto} {L : List Rc} {n : Int} {j : Nat} {K : Kp} (hst : storeB S = true) (c : CameI (heldK S) (80 - S.l.length) (firstN n L) j K) (h : ¬ S.l.length + j < 80) : wrN S L n = j := by
  have h80 := (storeB_out hst).2.1
  have := c.jr
  obtain rfl : j = 80 - S.l.length := by omega
  rw [wrN_yes hst, c.full]
theorem wr_stop {S : Sto} {L : List Rc} {n : Int} {j : Nat} {K : Kp} (hst : storeB S = true) (c : CameI (heldK S) (80 - S.l.length) (firstN n L) j K) (h : j < L.length) (hn : (j : Int) < n) (hg : goB K L[j] = false) : wrN S L n = j := by
  obtain ⟨h', e⟩ := firstN_at h hn
  rw [wrN_yes hst, c.stop h' (by rw [e]; exact hg)]
theorem wr_step {S : Sto} {L : List Rc} {n : Int} {j : Nat} {K : Kp} (c : CameI (heldK S) (80 - S.l.length) (firstN n L) j K) (h : j < L.length) (hn : (j : Int) < n) (h80 : S.l.length + j < 80) (hg : goB K L[j] = true) : CameI (heldK S) (80 - S.l.length) (firstN n L) (j + 1) (stepK K L[j]) := by
  obtain ⟨h', e⟩ := firstN_at h hn
  have := c.step h' (by omega) (by rw [e]; exact hg)
  rw [e] at this
  exact this
end Go.Proofs.Ytkilepoimocoeaa
namespace Go.Proofs.Ytkilepoimocoeaa
open Go.RowKit
set_option linter.unusedVariables false
structure LI (w y : World) (kb nb rb : Nat) (S : Sto) (v u : Value) (K : Kp) (vk : Value) : Prop where
  ne : kb ≠ nb ∧ kb ≠ rb ∧ nb ≠ rb ∧ w.heap.size ≤ kb ∧ w.heap.size ≤ nb ∧ w.heap.size ≤ rb
  n : Blk y nb (sA S v u)
  r : Blk y rb zS
  k : Blk y kb (kA K vk)
  ev : OwnE y w.heap.size v S.k.e
  ru : OwnR y w.heap.size u S.l
  ek : OwnE y w.heap.size vk K.e
  hv : ∀ k, v.ownBlock = some k → k ≠ kb ∧ k ≠ nb ∧ k ≠ rb ∧ ¬ vk.ownBlock = some k ∧ ¬ u.ownBlock = some k
  hu : ∀ k, u.ownBlock = some k → k ≠ kb ∧ k ≠ nb ∧ k ≠ rb ∧ ¬ vk.ownBlock = some k
  hk : ∀ k, vk.ownBlock = some k → k ≠ kb ∧ k ≠ nb ∧ k ≠ rb
  bel : Below w.heap.size w y
theorem LI.kept {w y y' : World} {kb nb rb : Nat} {S : Sto} {v u : Value} {K : Kp} {vk : Value} (h : LI w y kb nb rb S v u K vk) (hb : Below y.heap.size y y') : LI w y' kb nb rb S v u K vk :=
  ⟨h.ne, h.n.kept hb, h.r.kept hb, h.k.kept hb, h.ev.kept hb, h.ru.kept hb, h.ek.kept hb, h.hv, h.hu, h.hk, h.bel.trans (hb.mono h.bel.size)⟩
theorem LI.kown {w y : World} {kb nb rb : Nat} {S : Sto} {v u : Value} {K : Kp} {vk : Value} (h : LI w y kb nb rb S v u K vk) : KOwn y kb w.heap.size K vk :=
  ⟨⟨h.k.hi, by rw [h.k.cell]; rfl, by rw [h.k.cell]; rfl, by rw [h.k.cell]; rfl, by rw [h.k.cell]; rfl, by rw [h.k.cell]; rfl, by rw [h.k.cell]; rfl, h.k.fro⟩, h.ek, fun k hk e => (h.hk k hk).1 e.symm⟩
/-- Behind take. -/
theorem LI.took {w y y' : World} {kb nb rb : Nat} {S : Sto} {v u : Value} {K K' : Kp} {vk vk' : Value} (h : LI w y kb nb rb S v u K vk) (hk' : KOwn y' kb w.heap.size K' vk') (hl : Loc vk vk' y) (ht : Took kb vk y y') : LI w y' kb nb rb S v u K' vk' := by
  have ho := ht.only
  have hne := h.ne
  have hloc : ∀ k, vk'.ownBlock = some k → vk.ownBlock = some k ∨ y.heap.size ≤ k := hl
  refine ⟨h.ne, h.n.only ho (fun e => ?_), h.r.only ho (fun e => ?_), ?_, h.ev.only ho (fun k hk e => ?_), h.ru.only ho (fun k hk e => ?_), hk'.2.1, fun k hk => ?_, fun k hk => ?_, fun k hk => ?_, ?_⟩
  · rcases e with e | e
    · omega
    · exact (h.hk _ e.symm).2.1 rfl
  · rcases e with e | e
    · omega
    · exact (h.hk _ e.symm).2.2 rfl
  · have x := hk'.1
    refine ⟨x.lt, fun o => ?_, x.f⟩
    have hrest := ht.rest o
    match o with
    | 0 => exact x.c0
    | 1 => exact x.c1
    | 2 => exact x.c2
    | 3 => exact x.c3
    | 4 => exact x.c4
    | 5 => exact x.c5
    | q + 6 =>
      rw [hrest (by omega), h.k.cell]
      rfl
  · rcases e with e | e
    · exact (h.hv k hk).1 e
    · exact (h.hv k hk).2.2.2.1 e.symm
  · rcases e with e | e
    · exact (h.hu k hk).1 e
    · exact (h.hu k hk).2.2.2 e.symm
  · refine ⟨(h.hv k hk).1, (h.hv k hk).2.1, (h.hv k hk).2.2.1, fun e => ?_, (h.hv k hk).2.2.2.2⟩
    rcases hloc k e with h1 | h1
    · exact (h.hv k hk).2.2.2.1 h1
    · have := (h.ev.lt k hk).2; omega
  · refine ⟨(h.hu k hk).1, (h.hu k hk).2.1, (h.hu k hk).2.2.1, fun e => ?_⟩
    rcases hloc k e with h1 | h1
    · exact (h.hu k hk).2.2.2 h1
    · have := (h.ru.lt k hk).2; omega
  · rcases hloc k hk with h1 | h1
    · exact h.hk k h1
    · have := h.k.hi; have := h.n.hi; have := h.r.hi
      exact ⟨by omega, by omega, by omega⟩
  · refine h.bel.trans (ho.below h.bel.size (fun k hk e => ?_))
    rcases e with e | e
    · omega
    · have := (h.ek.lt k e.symm).1; omega
theorem LI.push {w y y' : World} {kb nb rb : Nat} {S : Sto} {v u : Value} {K : Kp} {vk : Value} {g n cap : Nat} {l : List Rc} (h : LI w y kb nb rb S v u K vk) (ho : Only (fun k => some k = u.ownBlock) y y') (hr : OwnR y' w.heap.size (.slice (some ⟨g, 0, none⟩) n cap) l)
    (hg : u.ownBlock = some g ∨ y.heap.size ≤ g) : LI w (y'.setCell ⟨nb, 6, none⟩ (.slice (some ⟨g, 0, none⟩) n cap)) kb nb rb ⟨S.k, l⟩ v (.slice (some ⟨g, 0, none⟩) n cap) K vk := by
  have hne := h.ne
  have o2 : Only (fun k => k = nb) y' (y'.setCell ⟨nb, 6, none⟩ (.slice (some ⟨g, 0, none⟩) n cap)) := only_setC y' nb 6 [.slice (some ⟨g, 0, none⟩) n cap]
  have hg2 : g ≠ kb ∧ g ≠ nb ∧ g ≠ rb ∧ ¬ vk.ownBlock = some g := by
    rcases hg with h1 | h1
    · exact h.hu g h1
    · have := h.k.hi; have := h.n.hi; have := h.r.hi
      exact ⟨by omega, by omega, by omega, fun e => by have := (h.ek.lt g e).2; omega⟩
  refine ⟨h.ne, (h.n.only ho (fun e => (h.hu _ e.symm).2.1 rfl)).set 6 (by simp) _, (h.r.only ho (fun e => (h.hu _ e.symm).2.2.1 rfl)).only o2 (by omega), (h.k.only ho (fun e => (h.hu _ e.symm).1 rfl)).only o2 (by omega),
    (h.ev.only ho (fun k hk e => (h.hv k hk).2.2.2.2 e.symm)).only o2 (fun k hk e => (h.hv k hk).2.1 e), hr.only o2 (fun k hk e => by simp only [Value.ownBlock, Option.some.injEq] at hk; omega), (h.ek.only ho (fun k hk e => (h.hu k e.symm).2.2.2 hk)).only o2 (fun k hk e => (h.hk k hk).2.1 e), fun k hk => ?_, fun k hk => ?_, h.hk, ?_⟩
  · refine ⟨(h.hv k hk).1, (h.hv k hk).2.1, (h.hv k hk).2.2.1, (h.hv k hk).2.2.2.1, fun e => ?_⟩
    simp only [Value.ownBlock, Option.some.injEq] at e
    subst e
    rcases hg with h1 | h1
    · exact (h.hv g hk).2.2.2.2 h1
    · have := (h.ev.lt g hk).2; omega
  · simp only [Value.ownBlock, Option.some.injEq] at hk
    subst hk
    exact hg2
  · refine h.bel.trans ((ho.below h.bel.size (fun k hk e => ?_)).trans (o2.below (Nat.le_trans h.bel.size ho.size) (fun k hk e => by omega)))
    have := (h.ru.lt k e.symm).1
    omega
/-- The answer. -/
theorem LI.fin {w y : World} {kb nb rb : Nat} {S : Sto} {v u : Value} {K : Kp} {vk : Value} (h : LI w y kb nb rb S v u K vk) : NewS w (setC y rb 0 (sA S v u).toList) v u S := by
  have o2 := only_setC y rb 0 (sA S v u).toList
  have := h.ne
  exact ⟨h.ev.only o2 (fun k hk e => (h.hv k hk).2.2.1 e), h.ru.only o2 (fun k hk e => (h.hu k hk).2.2.1 e), fun k hk => (h.hv k hk).2.2.2.2, h.bel.trans (o2.below h.bel.size (fun k hk e => by omega))⟩
/-- append of records onto nil, inside a region that draws its order. -/
theorem step_nilR {w : World} {ops : Array Oper} {o : Oper} {a : Act} {KK : Act → World → Prop} {Q : Exit → Act → World → Prop} {E : Prop} (hgd : o.guard = none) (s x : Operand)
    (ho : o.op = .call { callee := .builtin .append, args := #[s, x], argTypes := #[29, 29] })
    (l : List Rc) (N : Nat) (hs : a.eval s = .slice none 0 0) (vx : Value) (hx : a.eval x = vx) (hr : RowR w N vx l) (hlen : l.length ≤ 2000000)
    (h : ∀ a' m' c' w', OwnR w' w.heap.size (.slice a' m' c') l → Below w.heap.size w w' → KK (a.put o.dst (.slice a' m' c')) w') : if Region.wanted o (yielded ops a.tmps) = true then Oper.wp Try.prog o a w KK Q else E := by
  obtain ⟨i0, hi, hz0, hz1, hz2⟩ := info_parts Try.infoR
  by_cases h0 : l = []
  · subst h0
    have hw : Region.wanted o (yielded ops a.tmps) = true := by simp [Region.wanted, hgd]
    rw [if_pos hw]
    obtain ⟨ad, c, rfl, _, _, _⟩ := hr
    have hrun : (Builtin.append_ #[29, 29] o.type #[.slice none 0 0, .slice ad 0 c]).run Try.prog w = .ok (.slice none 0 0) w := by
      cases ad <;> simp [Builtin.append_, run_underlying Try.underlying29, sizeOf, typeInfo, hi, Builtin.lenOf, Builtin.firstCells, loadCells, loadCellsFrom]
    unfold Oper.wp execOp
    simp only [ho, resolve, invoke, builtin, Sem.run_bind, Sem.run_pure, Result.andThen_ok, List.map_toArray, List.map_cons, List.map_nil, hs, hx, List.length_nil, hrun]
    exact h none 0 0 w (OwnR.nil _ _) (Below.refl _ _)
  · obtain ⟨ad, c, rfl, h1, h2, h3⟩ := id hr
    obtain ⟨b, off, rfl, hbN, h4⟩ := h3 h0
    refine step_R hgd s x ho w.heap.size (.slice none 0 0) [] l hs (OwnR.nil _ _) ⟨b, off, none⟩ l.length c hx rfl (hr.cells h0).2 (by simp; omega) (Nat.le_refl _) (List.length_pos_iff.2 h0) ?_
    intro g cap' w' o9 hO hloc hg
    simp only [List.length_nil, Nat.zero_add, List.nil_append] at o9 ⊢
    exact h _ _ _ w' o9 (hO.below (Nat.le_refl _) (fun k hk e => by cases e))
theorem CameI.out9 {K0 K : Kp} {room j : Nat} {L : List Rc} (h : CameI K0 room L j K) (hj : L.length = j) : came K0 room L = j := by subst hj; exact h.out
/-- What the copy of a store comes to. -/
structure NX (X y : World) (nb : Nat) (S : Sto) (v u : Value) : Prop where
  lo : X.heap.size ≤ nb
  n : Blk y nb (sA S v u)
  e : OwnE y X.heap.size v S.k.e
  r : OwnR y X.heap.size u S.l
  he : ∀ k, v.ownBlock = some k → k ≠ nb ∧ ¬ u.ownBlock = some k
  hr : ∀ k, u.ownBlock = some k → k ≠ nb
  bel : Below X.heap.size X y
set_option maxRecDepth 100000 in
set_option maxHeartbeats 8000000 in
theorem implWrite_any (S : Sto) (v u : Value) (L : List Rc) (x : Value) (N : Nat) (n : Int) (w : World) (hN : N ≤ w.heap.size) (hr : RowE w N v S.k.e) (hu : RowR w N u S.l) (hx : RowR w N x L) (hl : L.length ≤ 1048576) :
    Calls Try.prog 11 #[stV S v u, x, .int .i64 n] w fun e w' => ∃ v' u', e = .returned (.tuple #[stV (wrS S L n) v' u', .int .i64 (wrN S L n)]) ∧ NewS w w' v' u' (wrS S L n) := by
  have HR := Hid.intro hr
  have HU := Hid.intro hu
  have HX := Hid.intro hx
  obtain ⟨av, cv, rfl, -, -, -⟩ := hr
  obtain ⟨au, cu, rfl, -, -, -⟩ := hu
  obtain ⟨ax, cx, rfl, lx, mx, -⟩ := hx
  go_enter Try.func11, Try.ntmps11
  go_wp2_with fail
  obtain ⟨W, hW, bW, zW, c1, f1, c2, f2⟩ := boxed2 w (sA S (.slice av S.k.e.length cv) (.slice au S.l.length cu)) zS 31 31
  try simp only [hW]
  refine (held_any S _ _ N W (by omega) (HR.out.kept (bW.mono hN)) (HU.out.kept (bW.mono hN))).mono ?_
  rintro e w1 ⟨vk, rfl, ok, b1⟩
  obtain ⟨ak, ck, rfl⟩ := ok.slice
  have S1 : Hid (Blk w1 w.heap.size (sA S (.slice av S.k.e.length cv) (.slice au S.l.length cu))) := (Blk.mk (by omega) c1 f1 : Blk W _ _).kept b1
  have R1 : Hid (Blk w1 (w.heap.size + 1) zS) := (Blk.mk (by omega) c2 f2 : Blk W _ _).kept b1
  have HB : Hid (Below w.heap.size w w1) := bW.trans (b1.mono (by omega))
  have z1 : w.heap.size + 1 < w1.heap.size := by have := b1.size; omega
  have HOK := Hid.intro (show OwnE w1 (w.heap.size + 1 + 1) (.slice ak (heldK S).e.length ck) (heldK S).e by rw [← zW]; exact ok)
  clear hW bW zW c1 f1 c2 f2 b1 ok
  go_upto_region 2 with fail
  obtain ⟨X, hX, bX, zX, cX, fX⟩ := boxed w1 (kA (heldK S) (.slice ak (heldK S).e.length ck)) 28
  try simp only [hX]
  have K1 : Hid (Blk X w1.heap.size (kA (heldK S) (.slice ak (heldK S).e.length ck))) := ⟨by omega, cX, fX⟩
  have HLT : Hid (∀ k, (Value.slice ak (heldK S).e.length ck).ownBlock = some k → w.heap.size + 1 + 1 ≤ k ∧ k < w1.heap.size) := HOK.out.lt
  replace S1 := Hid.intro (S1.out.kept bX)
  replace R1 := Hid.intro (R1.out.kept bX)
  replace HOK := Hid.intro (HOK.out.kept bX)
  replace HB := Hid.intro (HB.out.trans (bX.mono HB.out.size))
  clear hX bX cX fX
  cases hst : storeB S with
  | false =>
    have dr := R1.out.cell
    have fr := R1.out.fro
    have zr := R1.out.hi
    clear S1
    go_wp2
    refine bodyPost_ret (v := .tuple #[stV ⟨kpZ, []⟩ (.slice none 0 0) (.slice none 0 0), .int .i64 0]) (by simp [results, Try.results11, go_sem, dr, kpZ]) rfl ?_
    rw [wrS_no hst, wrN_no hst]
    refine ⟨_, _, rfl, OwnE.nil _ _, OwnR.nil _ _, (fun k hk => by cases hk), ?_⟩
    repeat (refine Below.setCell ?_ (by simp <;> omega) _)
    exact HB.out
  | true =>
    have hk80 := (storeB_out hst).2.1
    have hke : S.k.e.length ≤ 60 := (Sm.of (storeB_out hst).1).2.2
    have HS : Hid (∀ w', Below X.heap.size X w' → SLo S (.slice av S.k.e.length cv) (.slice au S.l.length cu) w.heap.size w') := fun w' hb => by
      have d1 := (S1.out.kept hb).cell
      exact ⟨by rw [d1]; rfl, by rw [d1]; rfl, by rw [d1]; rfl, by rw [d1]; rfl, by rw [d1]; rfl, by rw [d1]; rfl, by rw [d1]; rfl⟩
    have HRX : Hid (∀ w', Below X.heap.size X w' → RowE w' N (.slice av S.k.e.length cv) S.k.e ∧ RowR w' N (.slice au S.l.length cu) S.l) := fun w' hb =>
      have hh := (HB.out.trans (hb.mono HB.out.size)).mono hN
      ⟨HR.out.kept hh, HU.out.kept hh⟩
    have hNX : N ≤ X.heap.size := Nat.le_trans hN HB.out.size
    go_upto_region 4 with fail
    go_cut [10] from 22 (fun s wc => ∃ nb aA cA a9 m9 c9, s = .pointer (some ⟨nb, 0, none⟩) ∧ NX X wc nb S (.slice aA S.k.e.length cA) (.slice a9 m9 c9))
    case first =>
      refine wp_region_held_drew (S := SLo S (.slice av S.k.e.length cv) (.slice au S.l.length cu) w.heap.size) (by kernel_rfl) (HS.out _ (Below.refl _ _).drew) (fun hHeld => ?_)
      have BWD : Below X.heap.size X X.drew := (Below.refl _ _).drew
      generalize X.drew = D at BWD hHeld ⊢
      refine take1s (i := 0) (d := some 22) (v := ?_) rfl rfl (by kernel_rfl) (by kernel_rfl) (by kernel_rfl) (fun _ _ _ h => h) (Or.inl ⟨by rfl, ?_⟩) (by assumption) ?_
      rotate_left 1
      · intro w hSw
        obtain ⟨q0, q1, q2, q3, q4, q5, q6⟩ := hSw
        go_simp <;> with_reducible rfl
      simp only [Act.put, List.setIfInBounds_toArray]
      try simp only [List.set_cons_succ]
      try simp only [List.set_cons_zero]
      refine take1s (i := 1) (d := some 23) (v := ?_) rfl rfl (by kernel_rfl) (by kernel_rfl) (by kernel_rfl) (fun _ _ _ h => h) (Or.inl ⟨by rfl, ?_⟩) (by assumption) ?_
      rotate_left 1
      · intro w hSw
        obtain ⟨q0, q1, q2, q3, q4, q5, q6⟩ := hSw
        go_simp <;> with_reducible rfl
      simp only [Act.put, List.setIfInBounds_toArray]
      try simp only [List.set_cons_succ]
      try simp only [List.set_cons_zero]
      refine take1s (i := 3) (d := some 25) (v := ?_) rfl rfl (by kernel_rfl) (by kernel_rfl) (by kernel_rfl) (fun _ _ _ h => h) (Or.inl ⟨by rfl, ?_⟩) (by assumption) ?_
      rotate_left 1
      · intro w hSw
        obtain ⟨q0, q1, q2, q3, q4, q5, q6⟩ := hSw
        go_simp <;> with_reducible rfl
      simp only [Act.put, List.setIfInBounds_toArray]
      try simp only [List.set_cons_succ]
      try simp only [List.set_cons_zero]
      refine take1s (i := 4) (d := some 26) (v := ?_) rfl rfl (by kernel_rfl) (by kernel_rfl) (by kernel_rfl) (fun _ _ _ h => h) (Or.inl ⟨by rfl, ?_⟩) (by assumption) ?_
      rotate_left 1
      · intro w hSw
        obtain ⟨q0, q1, q2, q3, q4, q5, q6⟩ := hSw
        go_simp <;> with_reducible rfl
      simp only [Act.put, List.setIfInBounds_toArray]
      try simp only [List.set_cons_succ]
      try simp only [List.set_cons_zero]
      refine wpAnyH_ready (rs := [2, 7]) (by kernel_rfl) (by simp) ?_
      refine AllReadyH.cons rfl (fun KK hKK => ?_) (AllReadyH.cons rfl (fun KK hKK => ?_) AllReadyH.nil)
      · skip
        go_simp
        refine (copied_any S.k _ N D (by have := BWD.size; omega) (HRX.out _ BWD).1 (by omega)).mono ?_
        rintro e wA ⟨vA, rfl, oA, bA⟩
        obtain ⟨aA, capA, rfl⟩ := oA.slice
        have BWwA : Below X.heap.size X wA := BWD.trans (bA.mono BWD.size)
        have zA := bA.size
        have HOA := Hid.intro (OwnE.lower oA BWD.size)
        have HLA : Hid (∀ k, (Value.slice aA S.k.e.length capA).ownBlock = some k → D.heap.size ≤ k ∧ k < wA.heap.size) := oA.lt
        clear oA bA
        go_simp
        refine hKK.out _ _ (HS.out _ BWwA) (fun hHeld2 => ?_)
        clear hKK KK hHeld
        have hHeld := hHeld2
        clear hHeld2
        refine wpAnyH_ready (rs := [5, 7]) (by kernel_rfl) (by simp) ?_
        refine AllReadyH.cons rfl (fun KK hKK => ?_) (AllReadyH.cons rfl (fun KK hKK => ?_) AllReadyH.nil)
        · skip
          refine step_nilR rfl _ _ rfl S.l N rfl _ rfl (HRX.out _ BWwA).2 (by omega) ?_
          intro a9 m9 c9 w9 o9 b9
          have BWw9 : Below X.heap.size X w9 := BWwA.trans (b9.mono BWwA.size)
          have z9 := b9.size
          have HO9 := Hid.intro (OwnR.lower o9 BWwA.size)
          have HL9 : Hid (∀ k, (Value.slice a9 m9 c9).ownBlock = some k → wA.heap.size ≤ k ∧ k < w9.heap.size) := o9.lt
          replace HOA := Hid.intro (HOA.out.kept b9)
          clear o9 b9
          go_simp
          refine hKK.out _ _ (HS.out _ BWw9) (fun hHeld2 => ?_)
          clear hKK KK hHeld
          have hHeld := hHeld2
          clear hHeld2
          refine take1s (i := 6) (d := some 28) (v := ?_) rfl rfl (by kernel_rfl) (by kernel_rfl) (by kernel_rfl) (fun _ _ _ h => h) (Or.inl ⟨by rfl, ?_⟩) (by assumption) ?_
          rotate_left 1
          · intro w hSw
            obtain ⟨q0, q1, q2, q3, q4, q5, q6⟩ := hSw
            go_simp <;> with_reducible rfl
          simp only [Act.put, List.setIfInBounds_toArray]
          try simp only [List.set_cons_succ]
          try simp only [List.set_cons_zero]
          refine wpAnyH_ready (rs := [7]) (by kernel_rfl) (by simp) ?_
          refine AllReadyH.cons rfl (fun KK hKK => ?_) AllReadyH.nil
          go_simp
          obtain ⟨Y, hY, bY, zY, cY, fY⟩ := boxed w9 zS 31
          simp only [hY]
          have BWY : Below X.heap.size X Y := BWw9.trans (bY.mono BWw9.size)
          have HN : Hid (Blk Y w9.heap.size zS) := ⟨by omega, cY, fY⟩
          replace HOA := Hid.intro (HOA.out.kept bY)
          replace HO9 := Hid.intro (HO9.out.kept bY)
          clear hY bY cY fY
          refine hKK.out _ _ (HS.out _ BWY) (fun hHeld2 => ?_)
          clear hKK KK hHeld
          have hHeld := hHeld2
          clear hHeld2
          refine wpAnyH_ready (rs := [8]) (by kernel_rfl) (by simp) ?_
          refine AllReadyH.cons rfl (fun KK hKK => ?_) AllReadyH.nil
          have dn := HN.out.cell
          have fn := HN.out.fro
          go_simp
          obtain ⟨V, hV⟩ : ∃ V, ((((((Y.setCell ⟨w9.heap.size, 0, none⟩ (.int .i64 S.k.t)).setCell ⟨w9.heap.size, 1, none⟩ (.int .i64 S.k.v)).setCell ⟨w9.heap.size, 2, none⟩ (.int .i64 S.k.si)).setCell ⟨w9.heap.size, 3, none⟩ (.int .i64 S.k.st)).setCell ⟨w9.heap.size, 4, none⟩ (.string S.k.sd)).setCell ⟨w9.heap.size, 5, none⟩ (.slice aA S.k.e.length capA)).setCell ⟨w9.heap.size, 6, none⟩ (.slice a9 m9 c9) = V := ⟨_, rfl⟩
          have eV : setC Y (w9.heap.size) 0 (sA S (.slice aA S.k.e.length capA) (.slice a9 m9 c9)).toList = V := by rw [← hV]; rfl
          have oV : Only (fun k => k = w9.heap.size) Y V := by rw [← eV]; exact only_setC _ _ _ _
          have kV : Blk V (w9.heap.size) (sA S (.slice aA S.k.e.length capA) (.slice a9 m9 c9)) := by rw [← eV]; exact HN.out.all _ rfl
          clear eV
          try simp only [hV]
          have hnb : X.heap.size ≤ w9.heap.size := by have := BWD.size; omega
          have BWV : Below X.heap.size X V := BWY.trans (oV.below BWY.size (fun k hk h => by omega))
          have HQ : Hid (NX X V (w9.heap.size) S (.slice aA S.k.e.length capA) (.slice a9 m9 c9)) := ⟨hnb, kV, HOA.out.only oV (fun k hk h => by have := HLA.out k hk; omega), HO9.out.only oV (fun k hk h => by have := HL9.out k hk; omega), fun k hk => ⟨by have := HLA.out k hk; omega, fun e => by have := HLA.out k hk; have := HL9.out k e; omega⟩, fun k hk => by have := HL9.out k hk; omega, BWV⟩
          refine hKK.out _ _ (HS.out _ BWV) (fun hHeld2 => ?_)
          clear hKK KK hHeld hV dn fn
          have hHeld := hHeld2
          clear hHeld2
          refine wpAnyH_done (by kernel_rfl) ?_ _
          go_wp2_with fail
          go_meet
          case rel => exact ⟨_, _, _, _, _, _, rfl, HQ.out⟩
        · skip
          go_simp
          obtain ⟨Y, hY, bY, zY, cY, fY⟩ := boxed wA zS 31
          simp only [hY]
          have BWY : Below X.heap.size X Y := BWwA.trans (bY.mono BWwA.size)
          have HN : Hid (Blk Y wA.heap.size zS) := ⟨by omega, cY, fY⟩
          replace HOA := Hid.intro (HOA.out.kept bY)
          clear hY bY cY fY
          refine hKK.out _ _ (HS.out _ BWY) (fun hHeld2 => ?_)
          clear hKK KK hHeld
          have hHeld := hHeld2
          clear hHeld2
          refine wpAnyH_ready (rs := [5]) (by kernel_rfl) (by simp) ?_
          refine AllReadyH.cons rfl (fun KK hKK => ?_) AllReadyH.nil
          refine step_nilR rfl _ _ rfl S.l N rfl _ rfl (HRX.out _ BWY).2 (by omega) ?_
          intro a9 m9 c9 w9 o9 b9
          have BWw9 : Below X.heap.size X w9 := BWY.trans (b9.mono BWY.size)
          have z9 := b9.size
          have HO9 := Hid.intro (OwnR.lower o9 BWY.size)
          have HL9 : Hid (∀ k, (Value.slice a9 m9 c9).ownBlock = some k → Y.heap.size ≤ k ∧ k < w9.heap.size) := o9.lt
          replace HOA := Hid.intro (HOA.out.kept b9)
          replace HN := Hid.intro (HN.out.kept b9)
          clear o9 b9
          go_simp
          refine hKK.out _ _ (HS.out _ BWw9) (fun hHeld2 => ?_)
          clear hKK KK hHeld
          have hHeld := hHeld2
          clear hHeld2
          refine take1s (i := 6) (d := some 28) (v := ?_) rfl rfl (by kernel_rfl) (by kernel_rfl) (by kernel_rfl) (fun _ _ _ h => h) (Or.inl ⟨by rfl, ?_⟩) (by assumption) ?_
          rotate_left 1
          · intro w hSw
            obtain ⟨q0, q1, q2, q3, q4, q5, q6⟩ := hSw
            go_simp <;> with_reducible rfl
          simp only [Act.put, List.setIfInBounds_toArray]
          try simp only [List.set_cons_succ]
          try simp only [List.set_cons_zero]
          refine wpAnyH_ready (rs := [8]) (by kernel_rfl) (by simp) ?_
          refine AllReadyH.cons rfl (fun KK hKK => ?_) AllReadyH.nil
          have dn := HN.out.cell
          have fn := HN.out.fro
          go_simp
          obtain ⟨V, hV⟩ : ∃ V, ((((((w9.setCell ⟨wA.heap.size, 0, none⟩ (.int .i64 S.k.t)).setCell ⟨wA.heap.size, 1, none⟩ (.int .i64 S.k.v)).setCell ⟨wA.heap.size, 2, none⟩ (.int .i64 S.k.si)).setCell ⟨wA.heap.size, 3, none⟩ (.int .i64 S.k.st)).setCell ⟨wA.heap.size, 4, none⟩ (.string S.k.sd)).setCell ⟨wA.heap.size, 5, none⟩ (.slice aA S.k.e.length capA)).setCell ⟨wA.heap.size, 6, none⟩ (.slice a9 m9 c9) = V := ⟨_, rfl⟩
          have eV : setC w9 (wA.heap.size) 0 (sA S (.slice aA S.k.e.length capA) (.slice a9 m9 c9)).toList = V := by rw [← hV]; rfl
          have oV : Only (fun k => k = wA.heap.size) w9 V := by rw [← eV]; exact only_setC _ _ _ _
          have kV : Blk V (wA.heap.size) (sA S (.slice aA S.k.e.length capA) (.slice a9 m9 c9)) := by rw [← eV]; exact HN.out.all _ rfl
          clear eV
          try simp only [hV]
          have hnb : X.heap.size ≤ wA.heap.size := by have := BWD.size; omega
          have BWV : Below X.heap.size X V := BWw9.trans (oV.below BWw9.size (fun k hk h => by omega))
          have HQ : Hid (NX X V (wA.heap.size) S (.slice aA S.k.e.length capA) (.slice a9 m9 c9)) := ⟨hnb, kV, HOA.out.only oV (fun k hk h => by have := HLA.out k hk; omega), HO9.out.only oV (fun k hk h => by have := HL9.out k hk; omega), fun k hk => ⟨by have := HLA.out k hk; omega, fun e => by have := HLA.out k hk; have := HL9.out k e; omega⟩, fun k hk => by have := HL9.out k hk; omega, BWV⟩
          refine hKK.out _ _ (HS.out _ BWV) (fun hHeld2 => ?_)
          clear hKK KK hHeld hV dn fn
          have hHeld := hHeld2
          clear hHeld2
          refine wpAnyH_done (by kernel_rfl) ?_ _
          go_wp2_with fail
          go_meet
          case rel => exact ⟨_, _, _, _, _, _, rfl, HQ.out⟩
      · skip
        go_simp
        obtain ⟨Y, hY, bY, zY, cY, fY⟩ := boxed D zS 31
        simp only [hY]
        have BWY : Below X.heap.size X Y := BWD.trans (bY.mono BWD.size)
        have HN : Hid (Blk Y D.heap.size zS) := ⟨by omega, cY, fY⟩
        clear hY bY cY fY
        refine hKK.out _ _ (HS.out _ BWY) (fun hHeld2 => ?_)
        clear hKK KK hHeld
        have hHeld := hHeld2
        clear hHeld2
        refine wpAnyH_ready (rs := [2]) (by kernel_rfl) (by simp) ?_
        refine AllReadyH.cons rfl (fun KK hKK => ?_) AllReadyH.nil
        go_simp
        refine (copied_any S.k _ N Y (by have := BWY.size; omega) (HRX.out _ BWY).1 (by omega)).mono ?_
        rintro e wA ⟨vA, rfl, oA, bA⟩
        obtain ⟨aA, capA, rfl⟩ := oA.slice
        have BWwA : Below X.heap.size X wA := BWY.trans (bA.mono BWY.size)
        have zA := bA.size
        have HOA := Hid.intro (OwnE.lower oA BWY.size)
        have HLA : Hid (∀ k, (Value.slice aA S.k.e.length capA).ownBlock = some k → Y.heap.size ≤ k ∧ k < wA.heap.size) := oA.lt
        replace HN := Hid.intro (HN.out.kept bA)
        clear oA bA
        go_simp
        refine hKK.out _ _ (HS.out _ BWwA) (fun hHeld2 => ?_)
        clear hKK KK hHeld
        have hHeld := hHeld2
        clear hHeld2
        refine wpAnyH_ready (rs := [5]) (by kernel_rfl) (by simp) ?_
        refine AllReadyH.cons rfl (fun KK hKK => ?_) AllReadyH.nil
        refine step_nilR rfl _ _ rfl S.l N rfl _ rfl (HRX.out _ BWwA).2 (by omega) ?_
        intro a9 m9 c9 w9 o9 b9
        have BWw9 : Below X.heap.size X w9 := BWwA.trans (b9.mono BWwA.size)
        have z9 := b9.size
        have HO9 := Hid.intro (OwnR.lower o9 BWwA.size)
        have HL9 : Hid (∀ k, (Value.slice a9 m9 c9).ownBlock = some k → wA.heap.size ≤ k ∧ k < w9.heap.size) := o9.lt
        replace HOA := Hid.intro (HOA.out.kept b9)
        replace HN := Hid.intro (HN.out.kept b9)
        clear o9 b9
        go_simp
        refine hKK.out _ _ (HS.out _ BWw9) (fun hHeld2 => ?_)
        clear hKK KK hHeld
        have hHeld := hHeld2
        clear hHeld2
        refine take1s (i := 6) (d := some 28) (v := ?_) rfl rfl (by kernel_rfl) (by kernel_rfl) (by kernel_rfl) (fun _ _ _ h => h) (Or.inl ⟨by rfl, ?_⟩) (by assumption) ?_
        rotate_left 1
        · intro w hSw
          obtain ⟨q0, q1, q2, q3, q4, q5, q6⟩ := hSw
          go_simp <;> with_reducible rfl
        simp only [Act.put, List.setIfInBounds_toArray]
        try simp only [List.set_cons_succ]
        try simp only [List.set_cons_zero]
        refine wpAnyH_ready (rs := [8]) (by kernel_rfl) (by simp) ?_
        refine AllReadyH.cons rfl (fun KK hKK => ?_) AllReadyH.nil
        have dn := HN.out.cell
        have fn := HN.out.fro
        go_simp
        obtain ⟨V, hV⟩ : ∃ V, ((((((w9.setCell ⟨D.heap.size, 0, none⟩ (.int .i64 S.k.t)).setCell ⟨D.heap.size, 1, none⟩ (.int .i64 S.k.v)).setCell ⟨D.heap.size, 2, none⟩ (.int .i64 S.k.si)).setCell ⟨D.heap.size, 3, none⟩ (.int .i64 S.k.st)).setCell ⟨D.heap.size, 4, none⟩ (.string S.k.sd)).setCell ⟨D.heap.size, 5, none⟩ (.slice aA S.k.e.length capA)).setCell ⟨D.heap.size, 6, none⟩ (.slice a9 m9 c9) = V := ⟨_, rfl⟩
        have eV : setC w9 (D.heap.size) 0 (sA S (.slice aA S.k.e.length capA) (.slice a9 m9 c9)).toList = V := by rw [← hV]; rfl
        have oV : Only (fun k => k = D.heap.size) w9 V := by rw [← eV]; exact only_setC _ _ _ _
        have kV : Blk V (D.heap.size) (sA S (.slice aA S.k.e.length capA) (.slice a9 m9 c9)) := by rw [← eV]; exact HN.out.all _ rfl
        clear eV
        try simp only [hV]
        have hnb : X.heap.size ≤ D.heap.size := by have := BWD.size; omega
        have BWV : Below X.heap.size X V := BWw9.trans (oV.below BWw9.size (fun k hk h => by omega))
        have HQ : Hid (NX X V (D.heap.size) S (.slice aA S.k.e.length capA) (.slice a9 m9 c9)) := ⟨hnb, kV, HOA.out.only oV (fun k hk h => by have := HLA.out k hk; omega), HO9.out.only oV (fun k hk h => by have := HL9.out k hk; omega), fun k hk => ⟨by have := HLA.out k hk; omega, fun e => by have := HLA.out k hk; have := HL9.out k e; omega⟩, fun k hk => by have := HL9.out k hk; omega, BWV⟩
        refine hKK.out _ _ (HS.out _ BWV) (fun hHeld2 => ?_)
        clear hKK KK hHeld hV dn fn
        have hHeld := hHeld2
        clear hHeld2
        refine wpAnyH_done (by kernel_rfl) ?_ _
        go_wp2_with fail
        go_meet
        case rel => exact ⟨_, _, _, _, _, _, rfl, HQ.out⟩
    case rest =>
    obtain ⟨wa, hwa⟩ : ∃ wa, wa = wc := ⟨_, rfl⟩
    subst hwa
    obtain ⟨nb, aA, cA, a9, m9, c9, rfl, hq⟩ := hcut
    have HL0 : Hid (LI w wa w1.heap.size nb (w.heap.size + 1) S (.slice aA S.k.e.length cA) (.slice a9 m9 c9) (heldK S) (.slice ak (heldK S).e.length ck)) := by
      have h1 := hq.lo
      refine ⟨⟨by omega, by omega, by omega, by omega, by omega, by omega⟩, hq.n, R1.out.kept hq.bel, K1.out.kept hq.bel, hq.e.lower (by omega), hq.r.lower (by omega), (HOK.out.kept hq.bel).lower (by omega), fun k hk => ?_, fun k hk => ?_, fun k hk => ?_, HB.out.trans (hq.bel.mono HB.out.size)⟩
      · have := hq.e.lt k hk
        refine ⟨by omega, (hq.he k hk).1, by omega, fun e => by have := HLT.out k e; omega, (hq.he k hk).2⟩
      · have := hq.r.lt k hk
        refine ⟨by omega, hq.hr k hk, by omega, fun e => by have := HLT.out k e; omega⟩
      · have := HLT.out k hk
        exact ⟨by omega, by omega, by omega⟩
    have HST := Hid.intro hst
    have HSM : Hid (Sm (heldK S)) := by
      obtain ⟨h1, _, K9, h2⟩ := storeB_out hst
      unfold Hid
      rw [heldK_yes hst h2]
      exact (Sm.of h1).fold h2
    have hm9 : m9 = S.l.length := by obtain ⟨a, c, h⟩ := hq.r.slice; cases h; rfl
    clear HS HRX S1 R1 K1 HOK HLT HB hq hst
    generalize w1.heap.size = kb at *
    go_wp2_with fail
    refine (clamp_any n L.length wa).mono ?_
    rintro e w4 ⟨rfl, b4⟩
    replace HL0 := Hid.intro (HL0.out.kept b4)
    have hcl := clampN_le n L.length
    have HCF : Hid (firstN n L = L.take (clampN n L.length)) := firstN_clamp n L
    clear b4
    generalize clampN n L.length = c at *
    have hcx : c ≤ cx := by omega
    have HM0 := Hid.intro hm9
    have HLEN : Hid ((firstN n L).length = c) := by unfold Hid; rw [HCF.out]; simp; omega
    have HCI : Hid (CameI (heldK S) (80 - S.l.length) (firstN n L) 0 (heldK S)) := CameI.zero HSM.out
    clear hm9 HSM
    go_wp2
    generalize hvv : Value.slice aA S.k.e.length cA = v at *
    go_loopw [11, 36] (fun cm i wr => ∃ (j : Nat) (K' : Kp) (vk u' : Value), i = .int .i64 j ∧ cm = .int .i64 j ∧ j ≤ c ∧ Hid (CameI (heldK S) (80 - S.l.length) (firstN n L) j K') ∧ Hid (LI w wr kb nb (w.heap.size + 1) ⟨S.k, S.l ++ L.take j⟩ v u' K' vk)) (fun _ i _ => c - (intOf i).toNat)
    case atStart => exact ⟨0, heldK S, _, _, rfl, rfl, Nat.zero_le _, HCI, by simpa using HL0⟩
    case round =>
      clear HCI HL0
      obtain ⟨j, K', vk, u', rfl, rfl, hj, HCI, HL⟩ := hrel
      obtain ⟨au', m', cu', hu', hm'⟩ : ∃ au' m' cu', u' = .slice au' m' cu' ∧ m' = S.l.length + j := by
        obtain ⟨a, c9, h⟩ := HL.out.ru.slice
        exact ⟨a, _, c9, h, by simp; omega⟩
      subst hu'
      subst hvv
      have HMM := Hid.intro hm'
      clear hm'
      by_cases hlt : j < c
      · have hjL : j < L.length := by omega
        obtain ⟨_, _, hxe, _, _, hxc⟩ := HX.out
        cases hxe
        obtain ⟨b, off, rfl, hbN, hcc⟩ := hxc (by intro h; rw [h] at hjL; simp at hjL)
        clear hxc
        obtain ⟨p0, p1, p2, p3, p4⟩ := hcc j hjL
        have hnj : (j : Int) < n := by
          have h1 := HLEN.out
          simp only [firstN, List.length_take] at h1
          omega
        have hstp := wr_step HCI.out hjL hnj
        have hsto := wr_stop HST.out HCI.out hjL hnj
        have htk : L.take (j + 1) = L.take j ++ [L[j]] := List.take_succ_eq_append_getElem hjL
        generalize L[j] = r at p0 p1 p2 p3 p4 hstp hsto htk
        have HSP := Hid.intro hstp
        have HSO := Hid.intro hsto
        have HTK := Hid.intro htk
        have hbw : b < w.heap.size := by omega
        have g0 := atCell HL.out.bel p0 hbw
        have g1 := atCell HL.out.bel p1 hbw
        have g2 := atCell HL.out.bel p2 hbw
        have g3 := atCell HL.out.bel p3 hbw
        have g4 := atCell HL.out.bel p4 hbw
        clear hcc p0 p1 p2 p3 p4 hstp hsto htk
        go_upto_region 9 with fail
        obtain ⟨Y, hY, bY, zY, cY, fY⟩ := boxed wr #[.int .i64 r.k, .int .i64 r.t, .int .i64 r.i, .int .i64 r.v, .string r.d] 43
        try simp only [hY]
        have HLN : Hid (nb < wr.heap.size ∧ kb < wr.heap.size ∧ (∀ k, (Value.slice au' m' cu').ownBlock = some k → k < wr.heap.size) ∧ (∀ k, vk.ownBlock = some k → k < wr.heap.size)) := ⟨HL.out.n.hi, HL.out.k.hi, fun k hk => (HL.out.ru.lt k hk).2, fun k hk => (HL.out.ek.lt k hk).2⟩
        replace HL := Hid.intro (HL.out.kept bY)
        have RY : Hid (Blk Y wr.heap.size #[.int .i64 r.k, .int .i64 r.t, .int .i64 r.i, .int .i64 r.v, .string r.d]) := ⟨by omega, cY, fY⟩
        have HRN : Hid (wr.heap.size ≠ nb ∧ (∀ k, (Value.slice au' m' cu').ownBlock = some k → k ≠ wr.heap.size) ∧ (∀ k, vk.ownBlock = some k → k ≠ wr.heap.size) ∧ wr.heap.size ≠ kb) := by
          have hn0 := HL.out.n.hi
          refine ⟨by have := HLN.out.1; omega, fun k hk e => by have := (HLN.out.2.2.1 k hk); omega, fun k hk e => by have := (HLN.out.2.2.2 k hk); omega, by have := HLN.out.2.1; omega⟩
        clear hY bY zY cY fY g0 g1 g2 g3 g4
        have dn := HL.out.n.cell
        by_cases h80 : m' = 80
        · subst h80
          have HM : Hid (wrN S L n = j) := by unfold Hid; exact wr_full HST.out HCI.out (by have := HMM.out; omega)
          have HFA := Hid.intro HL.out.fin
          have dn2 := HL.out.n.cell
          have dr := HL.out.r.cell
          have fr := HL.out.r.fro
          have zr := HL.out.r.hi
          have HWS : Hid (wrS S L n = ⟨S.k, S.l ++ L.take (wrN S L n)⟩) := wrS_yes HST.out
          clear HL
          go_wp2
          refine bodyPost_ret (v := .tuple #[stV ⟨S.k, S.l ++ L.take j⟩ (.slice aA S.k.e.length cA) (.slice au' 80 cu'), .int .i64 j]) (by simp [results, Try.results11, go_sem, dr]) rfl ?_
          rw [HWS.out, HM.out]
          exact ⟨_, _, rfl, HFA.out⟩
        · have hm80 : ((m' : Int) == 80) = false := by simp; omega
          have cr := RY.out.cell
          go_wp2_with fail
          clear dn cr
          refine (take_any K' vk kb w.heap.size r Y HL.out.bel.size HL.out.kown HCI.out.sm).mono ?_
          rintro e w6 ⟨rfl, vk6, hk6, hl6, ht6⟩
          replace RY := Hid.intro (RY.out.only ht6.only (fun e => e.elim (fun e => HRN.out.2.2.2 e) (fun e => HRN.out.2.2.1 _ e.symm rfl)))
          replace HL := Hid.intro (HL.out.took hk6 hl6 ht6)
          clear hk6 hl6 ht6
          cases hgo : goB K' r with
          | true =>
            have HNX : Hid (nextK K' r = stepK K' r) := nextK_yes hgo
            have HCI2 := Hid.intro (HSP.out (by have := HMM.out; have := HCI.out.jr; omega) hgo)
            have dn := HL.out.n.cell
            have fn := HL.out.n.fro
            have zn := HL.out.n.hi
            have cr := RY.out.cell
            have hmin : min j L.length = j := by omega
            have HNU : Hid (¬ some nb = (Value.slice au' m' cu').ownBlock) := fun e => (HL.out.hu _ e.symm).2.1 rfl
            go_wp2_with (at_builtin; refine app_R rfl _ _ rfl w.heap.size (.slice au' m' cu') (S.l ++ L.take j) [r] rfl (HL.out.ru.kept ((Below.refl _ _).alloc (Nat.le_refl _) _)) ⟨w6.heap.size, 0, none⟩ 1 rfl (by intro j u hu; simp only [rcF, rcC, List.flatMap_cons, List.flatMap_nil, List.append_nil] at hu; rcases j with _ | _ | _ | _ | _ | j <;> simp at hu <;> subst hu <;> simp [Addr.add, go_sem]) (by have := HMM.out; simp; omega) (by have := HL.out.bel.size; simp; omega) (by simp) ?_; intro g cap' w7 o7 hO7 hloc; have HO7 := Hid.intro o7; have HP7 := Hid.intro hO7; have HLC := Hid.intro hloc; have d7 : ∀ o, w7.cell? ⟨nb, o, none⟩ = _ := (fun o => ((hO7.cell (by simp; omega) HNU.out).trans (by rw [World.cell?_alloc_past _ _ _ (by simpa using zn)])).trans (dn o)); have f7 : ∀ o, w7.frozen? ⟨nb, o, none⟩ = false := (fun o => ((hO7.frozen (by simp; omega) HNU.out).trans (by rw [World.frozen?_alloc_past _ _ _ (by simpa using zn)])).trans (fn o)); clear o7 hO7 hloc dn fn)
            go_roundw
            case rel =>
              have hq := HL.out.push (g := g) (y' := w7) ((Below.any ((Below.refl _ _).alloc (Nat.le_refl _) _)).trans HP7.out) HO7.out (HLC.out.imp (fun h => h.symm) (fun h => by simp at h; omega))
              have e9 : (S.l ++ L.take j).length + [r].length = S.l.length + j + 1 := by simp; omega
              rw [e9, HNX.out] at hq
              refine ⟨j + 1, stepK K' r, vk6, .slice (some ⟨g, 0, none⟩) (S.l.length + j + 1) cap', by go_num, by go_num, by omega, HCI2, ?_⟩
              unfold Hid
              rw [HTK.out, ← List.append_assoc]
              exact hq
            case measure => simp [intOf]; omega
          | false =>
            have HM : Hid (wrN S L n = j) := by unfold Hid; exact HSO.out hgo
            have HFA := Hid.intro HL.out.fin
            have dn2 := HL.out.n.cell
            have dr := HL.out.r.cell
            have fr := HL.out.r.fro
            have zr := HL.out.r.hi
            have HWS : Hid (wrS S L n = ⟨S.k, S.l ++ L.take (wrN S L n)⟩) := wrS_yes HST.out
            clear HL
            go_wp2
            refine bodyPost_ret (v := .tuple #[stV ⟨S.k, S.l ++ L.take j⟩ (.slice aA S.k.e.length cA) (.slice au' m' cu'), .int .i64 j]) (by simp [results, Try.results11, go_sem, dr]) rfl ?_
            rw [HWS.out, HM.out]
            exact ⟨_, _, rfl, HFA.out⟩
      · obtain rfl : j = c := by omega
        have HM : Hid (wrN S L n = j) := by unfold Hid; exact by have h1 := HCI.out.out9 HLEN.out; rw [wrN_yes HST.out]; exact h1
        have HFA := Hid.intro HL.out.fin
        have dn2 := HL.out.n.cell
        have dr := HL.out.r.cell
        have fr := HL.out.r.fro
        have zr := HL.out.r.hi
        have HWS : Hid (wrS S L n = ⟨S.k, S.l ++ L.take (wrN S L n)⟩) := wrS_yes HST.out
        clear HL
        go_wp2
        refine bodyPost_ret (v := .tuple #[stV ⟨S.k, S.l ++ L.take j⟩ (.slice aA S.k.e.length cA) (.slice au' m' cu'), .int .i64 j]) (by simp [results, Try.results11, go_sem, dr]) rfl ?_
        rw [HWS.out, HM.out]
        exact ⟨_, _, rfl, HFA.out⟩
end Go.Proofs.Ytkilepoimocoeaa
namespace Go.Proofs.Ytkilepoimocoeaa
open Go.RowKit
set_option linter.unusedVariables false
theorem set6 {w : World} {b : Nat} {x0 x1 x2 x3 x4 x5 y0 y1 y2 y3 y4 y5 : Value} (h : ∀ o, w.cell? ⟨b, o, none⟩ = #[y0, y1, y2, y3, y4, y5][o]?) :
    ∃ X, (((((w.setCell ⟨b, 0, none⟩ x0).setCell ⟨b, 1, none⟩ x1).setCell ⟨b, 2, none⟩ x2).setCell ⟨b, 3, none⟩ x3).setCell ⟨b, 4, none⟩ x4).setCell ⟨b, 5, none⟩ x5 = X ∧ X.cell? ⟨b, 0, none⟩ = some x0 ∧ X.cell? ⟨b, 1, none⟩ = some x1 ∧ X.cell? ⟨b, 2, none⟩ = some x2 ∧ X.cell? ⟨b, 3, none⟩ = some x3 ∧ X.cell? ⟨b, 4, none⟩ = some x4 ∧ X.cell? ⟨b, 5, none⟩ = some x5 ∧ Only (fun k => k = b) w X ∧ X.heap.size = w.heap.size := by
  have h0 : w.cell? ⟨b, 0, none⟩ = some y0 := by rw [h]; rfl
  have h1 : w.cell? ⟨b, 1, none⟩ = some y1 := by rw [h]; rfl
  have h2 : w.cell? ⟨b, 2, none⟩ = some y2 := by rw [h]; rfl
  have h3 : w.cell? ⟨b, 3, none⟩ = some y3 := by rw [h]; rfl
  have h4 : w.cell? ⟨b, 4, none⟩ = some y4 := by rw [h]; rfl
  have h5 : w.cell? ⟨b, 5, none⟩ = some y5 := by rw [h]; rfl
  refine ⟨_, rfl, ?_, ?_, ?_, ?_, ?_, ?_, ?_, by simp⟩
  · exact set_other (set_other (set_other (set_other (set_other (set_same h0) (by omega)) (by omega)) (by omega)) (by omega)) (by omega)
  · exact set_other (set_other (set_other (set_other (set_same (set_other h1 (by omega))) (by omega)) (by omega)) (by omega)) (by omega)
  · exact set_other (set_other (set_other (set_same (set_other (set_other h2 (by omega)) (by omega))) (by omega)) (by omega)) (by omega)
  · exact set_other (set_other (set_same (set_other (set_other (set_other h3 (by omega)) (by omega)) (by omega))) (by omega)) (by omega)
  · exact set_other (set_same (set_other (set_other (set_other (set_other h4 (by omega)) (by omega)) (by omega)) (by omega))) (by omega)
  · exact set_same (set_other (set_other (set_other (set_other (set_other h5 (by omega)) (by omega)) (by omega)) (by omega)) (by omega))
  · repeat (refine Only.setCell ?_ (by simp) _)
    exact Only.refl _ _
def SK2 (K : Kp) (v : Value) (r : Rc) (B : Nat) (w' : World) : Prop := w'.cell? ⟨B, 0, none⟩ = some (.int .i64 K.t) ∧ w'.cell? ⟨B, 1, none⟩ = some (.int .i64 K.v) ∧ w'.cell? ⟨B, 2, none⟩ = some (.int .i64 K.si) ∧ w'.cell? ⟨B, 3, none⟩ = some (.int .i64 K.st) ∧ w'.cell? ⟨B, 4, none⟩ = some (.string K.sd) ∧ w'.cell? ⟨B, 5, none⟩ = some v ∧ w'.cell? ⟨B + 1, 0, none⟩ = some (.int .i64 r.k) ∧ w'.cell? ⟨B + 1, 1, none⟩ = some (.int .i64 r.t) ∧ w'.cell? ⟨B + 1, 2, none⟩ = some (.int .i64 r.i) ∧ w'.cell? ⟨B + 1, 3, none⟩ = some (.int .i64 r.v) ∧ w'.cell? ⟨B + 1, 4, none⟩ = some (.string r.d)
set_option maxRecDepth 100000 in
set_option maxHeartbeats 4000000 in
theorem specKeptStep_any (K : Kp) (v : Value) (N : Nat) (r : Rc) (w : World) (hN : N ≤ w.heap.size) (hr : RowE w N v K.e) :
    Calls Try.prog 16 #[kpV K v, rcV r] w fun e w' => ∃ v', e = .returned (.tuple #[kpV (ksK K r) v', .bool (ksB K r)]) ∧ NewE w w' v' (ksK K r).e := by
  have HR := Hid.intro hr
  clear hr
  cases hkb : keptB K with
  | false =>
    rw [ksK_no hkb, ksB_no hkb]
    go_enter Try.func16, Try.ntmps16
    go_wp2_with fail
    obtain ⟨W, hW, bW, zW, c1, f1, c2, f2, c3, f3⟩ := boxed3 w #[.int .i64 K.t, .int .i64 K.v, .int .i64 K.si, .int .i64 K.st, .string K.sd, v] #[.int .i64 r.k, .int .i64 r.t, .int .i64 r.i, .int .i64 r.v, .string r.d] #[.int .i64 0, .int .i64 0, .int .i64 0, .int .i64 0, .string ⟨#[]⟩, .slice none 0 0] 28 43 28
    simp only [hW]
    refine (specKeptOk_any K v N W (by omega) (HR.out.kept (bW.mono hN))).mono ?_
    rintro e w1 ⟨rfl, b1⟩
    replace c3 := keepC b1 (by omega) c3
    replace f3 := keepF b1 (by omega) f3
    have z1 := b1.size
    have HB := Hid.intro (bW.trans (b1.mono (by omega)))
    have hz1 : w.heap.size + 1 + 1 < w1.heap.size := by omega
    clear hW bW zW b1 f1 f2 c1 c2 z1
    go_wp2
    refine bodyPost_ret (v := .tuple #[kpV kpZ (.slice none 0 0), .bool false]) (by simp [results, Try.results16, go_sem, c3, kpZ]) rfl ⟨_, rfl, OwnE.nil _ _, ?_⟩
    repeat (refine Below.setCell ?_ (by simp <;> omega) _)
    exact HB.out
  | true =>
    have hs := Sm.of hkb
    have hle : K.e.length ≤ 60 := hs.2.2
    have HS := Hid.intro hs
    rw [ksK_yes hkb, ksB_yes hkb]
    clear hs
    go_enter Try.func16, Try.ntmps16
    go_wp2_with fail
    obtain ⟨W, hW, bW, zW, c1, f1, c2, f2, c3, f3⟩ := boxed3 w #[.int .i64 K.t, .int .i64 K.v, .int .i64 K.si, .int .i64 K.st, .string K.sd, v] #[.int .i64 r.k, .int .i64 r.t, .int .i64 r.i, .int .i64 r.v, .string r.d] #[.int .i64 0, .int .i64 0, .int .i64 0, .int .i64 0, .string ⟨#[]⟩, .slice none 0 0] 28 43 28
    simp only [hW]
    refine (specKeptOk_any K v N W (by omega) (HR.out.kept (bW.mono hN))).mono ?_
    rintro e w1 ⟨rfl, b1⟩
    have z1 := b1.size
    have B1 := bW.trans (b1.mono (by omega))
    have hz1 : w.heap.size + 1 + 1 < w1.heap.size := by omega
    have hz1b : w.heap.size + 1 < w1.heap.size := by omega
    have hz1c : w.heap.size < w1.heap.size := by omega
    replace c1 := keepC b1 (by omega) c1
    replace c2 := keepC b1 (by omega) c2
    replace c3 := keepC b1 (by omega) c3
    replace f3 := keepF b1 (by omega) f3
    have HC : Hid (∀ w', Below w1.heap.size w1 w' → (∀ o, w'.cell? ⟨w.heap.size, o, none⟩ = #[.int .i64 K.t, .int .i64 K.v, .int .i64 K.si, .int .i64 K.st, .string K.sd, v][o]?) ∧ (∀ o, w'.cell? ⟨w.heap.size + 1, o, none⟩ = #[.int .i64 r.k, .int .i64 r.t, .int .i64 r.i, .int .i64 r.v, .string r.d][o]?) ∧ (∀ o, w'.cell? ⟨w.heap.size + 1 + 1, o, none⟩ = #[.int .i64 0, .int .i64 0, .int .i64 0, .int .i64 0, .string ⟨#[]⟩, .slice none 0 0][o]?) ∧ (∀ o, w'.frozen? ⟨w.heap.size + 1 + 1, o, none⟩ = false) ∧ RowE w' N v K.e ∧ N ≤ w'.heap.size ∧ Below w.heap.size w w' ∧ w.heap.size + 1 + 1 < w'.heap.size) :=
      fun w' hb => ⟨keepC hb (by omega) c1, keepC hb (by omega) c2, keepC hb (by omega) c3, keepF hb (by omega) f3, HR.out.kept ((B1.trans (hb.mono (by omega))).mono hN), by have := hb.size; omega, B1.trans (hb.mono (by omega)), by have := hb.size; omega⟩
    clear hW bW zW b1 f1 f2 z1 c3 f3 B1
    go_wp2
    have HS2 : Hid (∀ w', Below w1.heap.size w1 w' → SK2 K v r w.heap.size w') := fun w' hb => by
      obtain ⟨d1, d2, _⟩ := HC.out w' hb
      exact ⟨by rw [d1]; rfl, by rw [d1]; rfl, by rw [d1]; rfl, by rw [d1]; rfl, by rw [d1]; rfl, by rw [d1]; rfl, by rw [d2]; rfl, by rw [d2]; rfl, by rw [d2]; rfl, by rw [d2]; rfl, by rw [d2]; rfl⟩
    refine wp_region_held_drew (S := SK2 K v r w.heap.size) (by kernel_rfl) (HS2.out _ (Below.refl _ _).drew) (fun hHeld => ?_)
    refine take1 (i := 0) (d := some 13) (v := ?_) rfl rfl (by kernel_rfl) (by kernel_rfl) (by kernel_rfl) (fun _ _ _ h => h) (Or.inl ⟨by rfl, ?_⟩) (by assumption) ?_
    rotate_left 1
    · intro w hSw
      obtain ⟨q0, q1, q2, q3, q4, q5, q6, q7, q8, q9, q10⟩ := hSw
      go_simp <;> with_reducible rfl
    simp only [Act.put, List.setIfInBounds_toArray]
    try simp only [List.set_cons_succ]
    try simp only [List.set_cons_zero]
    refine take1 (i := 2) (d := some 15) (v := ?_) rfl rfl (by kernel_rfl) (by kernel_rfl) (by kernel_rfl) (fun _ _ _ h => h) (Or.inl ⟨by rfl, ?_⟩) (by assumption) ?_
    rotate_left 1
    · intro w hSw
      obtain ⟨q0, q1, q2, q3, q4, q5, q6, q7, q8, q9, q10⟩ := hSw
      go_simp <;> with_reducible rfl
    simp only [Act.put, List.setIfInBounds_toArray]
    try simp only [List.set_cons_succ]
    try simp only [List.set_cons_zero]
    refine wpAnyH_ready (rs := [1, 7]) (by kernel_rfl) (by simp) ?_
    refine AllReadyH.cons rfl (fun KK hKK => ?_) (AllReadyH.cons rfl (fun KK hKK => ?_) AllReadyH.nil)
    · -- the copy first
      go_simp
      refine (l3Copy_any K v N _ (HC.out _ ((Below.refl _ _).drew)).2.2.2.2.2.1 (HC.out _ ((Below.refl _ _).drew)).2.2.2.2.1 (by omega)).mono ?_
      rintro e w2 ⟨v2, rfl, o2, b2⟩
      have BW2 : Below w1.heap.size w1 w2 := Below.trans ((Below.refl _ _).drew) (b2.mono (by simp))
      have HO2 := Hid.intro o2
      have HZ2 := Hid.intro b2
      clear o2 b2
      go_simp
      refine hKK.out _ _ (HS2.out _ BW2) (fun hHeld2 => ?_)
      clear hKK KK hHeld
      have hHeld := hHeld2
      clear hHeld2
      refine wpAnyH_ready (rs := [3, 7]) (by kernel_rfl) (by simp) ?_
      refine AllReadyH.cons rfl (fun KK hKK => ?_) (AllReadyH.cons rfl (fun KK hKK => ?_) AllReadyH.nil)
      · -- then the step
        go_simp
        refine (l3Step_any K v2 w1.heap.size r _ BW2.size (OwnE.lower HO2.out (by simp)) HS.out).mono ?_
        rintro e w3 ⟨v3, rfl, o3, l3, q3⟩
        obtain ⟨a3, cap3, rfl⟩ := o3.slice
        have HV2 : Hid (∀ k, v2.ownBlock = some k → w1.heap.size ≤ k ∧ k < w2.heap.size) := fun k hk => ⟨Nat.le_trans (by simp) (HO2.out.lt k hk).1, (HO2.out.lt k hk).2⟩
        have BW3 : Below w1.heap.size w1 w3 := BW2.trans (q3.below BW2.size (fun k hk h => by have := (HV2.out k h.symm).1; omega))
        have HN3 : Hid (∀ k, (Value.slice a3 (nextK K r).e.length cap3).ownBlock = some k → ¬ (k = w.heap.size + 1 + 1)) := fun k hk h => by
          have h3 := o3.lt k hk
          have h4 := l3 k hk
          omega
        have HO3 := Hid.intro o3
        clear o3 l3 q3
        go_simp
        refine hKK.out _ _ (HS2.out _ BW3) (fun hHeld2 => ?_)
        clear hKK KK hHeld
        have hHeld := hHeld2
        clear hHeld2
        refine take1 (i := 4) (d := some 12) (v := ?_) rfl rfl (by kernel_rfl) (by kernel_rfl) (by kernel_rfl) (fun _ _ _ h => h) (Or.inl ⟨by rfl, ?_⟩) (by assumption) ?_
        rotate_left 1
        · intro w hSw
          obtain ⟨q0, q1, q2, q3, q4, q5, q6, q7, q8, q9, q10⟩ := hSw
          go_simp <;> with_reducible rfl
        simp only [Act.put, List.setIfInBounds_toArray]
        try simp only [List.set_cons_succ]
        try simp only [List.set_cons_zero]
        refine take1 (i := 5) (d := some 17) (v := ?_) rfl rfl (by kernel_rfl) (by kernel_rfl) (by kernel_rfl) (fun _ _ _ h => h) (Or.inl ⟨by rfl, ?_⟩) (by assumption) ?_
        rotate_left 1
        · intro w hSw
          obtain ⟨q0, q1, q2, q3, q4, q5, q6, q7, q8, q9, q10⟩ := hSw
          go_simp <;> with_reducible rfl
        simp only [Act.put, List.setIfInBounds_toArray]
        try simp only [List.set_cons_succ]
        try simp only [List.set_cons_zero]
        refine take1 (i := 6) (d := some 18) (v := ?_) rfl rfl (by kernel_rfl) (by kernel_rfl) (by kernel_rfl) (fun _ _ _ h => h) (Or.inl ⟨by rfl, ?_⟩) (by assumption) ?_
        rotate_left 1
        · intro w hSw
          obtain ⟨q0, q1, q2, q3, q4, q5, q6, q7, q8, q9, q10⟩ := hSw
          go_simp <;> with_reducible rfl
        simp only [Act.put, List.setIfInBounds_toArray]
        try simp only [List.set_cons_succ]
        try simp only [List.set_cons_zero]
        refine wpAnyH_ready (rs := [7]) (by kernel_rfl) (by simp) ?_
        refine AllReadyH.cons rfl (fun KK hKK => ?_) AllReadyH.nil
        go_simp
        refine hKK.out _ _ (HS2.out _ (BW3.alloc BW3.size _)) (fun hHeld2 => ?_)
        clear hKK KK hHeld
        have hHeld := hHeld2
        clear hHeld2
        refine wpAnyH_ready (rs := [8]) (by kernel_rfl) (by simp) ?_
        refine AllReadyH.cons rfl (fun KK hKK => ?_) AllReadyH.nil
        go_simp
        refine hKK.out _ _ (HS2.out _ (BW3.alloc BW3.size _)) (fun hHeld2 => ?_)
        clear hKK KK hHeld
        have hHeld := hHeld2
        clear hHeld2
        refine take1 (i := 9) (d := some 7) (v := ?_) rfl rfl (by kernel_rfl) (by kernel_rfl) (by kernel_rfl) (fun _ _ _ h => h) (Or.inl ⟨by rfl, ?_⟩) (by assumption) ?_
        rotate_left 1
        · intro w hSw
          obtain ⟨q0, q1, q2, q3, q4, q5, q6, q7, q8, q9, q10⟩ := hSw
          go_simp <;> with_reducible rfl
        simp only [Act.put, List.setIfInBounds_toArray]
        try simp only [List.set_cons_succ]
        try simp only [List.set_cons_zero]
        refine wpAnyH_done (by kernel_rfl) ?_ _
        obtain ⟨_, _, d3, g3, _, _, B3, z3⟩ := HC.out _ BW3
        have HB3 := Hid.intro B3
        have z3b := BW3.size
        obtain ⟨X, hX, bX, zX, cX, fX⟩ := boxed w3 #[.int .i64 (nextK K r).t, .int .i64 (nextK K r).v, .int .i64 (nextK K r).si, .int .i64 (nextK K r).st, .string (nextK K r).sd, .slice a3 (nextK K r).e.length cap3] 28
        simp only [hX]
        have x0 := cX 0
        have x1 := cX 1
        have x2 := cX 2
        have x3 := cX 3
        have x4 := cX 4
        have x5 := cX 5
        simp at x0 x1 x2 x3 x4 x5
        replace d3 := keepC bX z3 d3
        replace g3 := keepF bX z3 g3
        have HOX := Hid.intro (HO3.out.kept bX)
        have HBX := Hid.intro (HB3.out.trans (bX.mono (by omega)))
        have zX2 : w.heap.size + 1 + 1 < X.heap.size := by omega
        clear hX bX zX cX fX
        clear HC HS2 B3 c1 c2 hHeld BW3 BW2 HB3 HO3 HZ2 HO2 z3 z3b
        go_wp2
        refine bodyPost_ret (v := .tuple #[kpV (nextK K r) (.slice a3 (nextK K r).e.length cap3), .bool (goB K r)]) (by simp [results, Try.results16, go_sem, d3]) rfl ⟨_, rfl, ?_, ?_⟩
        · refine OwnE.lower (OwnE.only HOX.out (S := fun k => k = w.heap.size + 1 + 1) ?_ (fun k hk h => HN3.out k hk h)) (show w.heap.size ≤ w1.heap.size by omega)
          repeat (refine Only.setCell ?_ (by simp) _)
          exact Only.refl _ _
        · repeat (refine Below.setCell ?_ (by simp <;> omega) _)
          exact HBX.out
      · -- then the new variable
        go_simp
        refine hKK.out _ _ (HS2.out _ (BW2.alloc BW2.size _)) (fun hHeld2 => ?_)
        clear hKK KK hHeld
        have hHeld := hHeld2
        clear hHeld2
        refine wpAnyH_ready (rs := [3]) (by kernel_rfl) (by simp) ?_
        refine AllReadyH.cons rfl (fun KK hKK => ?_) AllReadyH.nil
        go_simp
        refine (l3Step_any K v2 w1.heap.size r _ (by simp; have := BW2.size; omega) ((OwnE.lower HO2.out (by simp)).kept ((Below.refl _ _).alloc (Nat.le_refl _) _)) HS.out).mono ?_
        rintro e w3 ⟨v3, rfl, o3, l3, q3⟩
        obtain ⟨a3, cap3, rfl⟩ := o3.slice
        have HV2 : Hid (∀ k, v2.ownBlock = some k → w1.heap.size ≤ k ∧ k < w2.heap.size) := fun k hk => ⟨Nat.le_trans (by simp) (HO2.out.lt k hk).1, (HO2.out.lt k hk).2⟩
        have BW3 : Below w1.heap.size w1 w3 := (BW2.alloc BW2.size _).trans (q3.below (by simp; have := BW2.size; omega) (fun k hk h => by have := (HV2.out k h.symm).1; omega))
        have k6 : ∀ o, w3.cell? ⟨w2.heap.size, o, none⟩ = #[.int .i64 0, .int .i64 0, .int .i64 0, .int .i64 0, .string ⟨#[]⟩, .slice none 0 0][o]? := fun o => (q3.cell (by simp) (fun h => by have := (HV2.out _ h.symm).2; omega)).trans (World.cell?_alloc_at _ _ _ _ rfl)
        have g6 : ∀ o, w3.frozen? ⟨w2.heap.size, o, none⟩ = false := fun o => (q3.frozen (by simp) (fun h => by have := (HV2.out _ h.symm).2; omega)).trans (World.frozen?_alloc_at _ _ _ _ rfl)
        have zk6 : w2.heap.size < w3.heap.size := by have := q3.size; simp at this; omega
        have n6 : ¬ w.heap.size + 1 + 1 = w2.heap.size := by have := BW2.size; omega
        have HN3 : Hid (∀ k, (Value.slice a3 (nextK K r).e.length cap3).ownBlock = some k → ¬ (k = w.heap.size + 1 + 1 ∨ k = w2.heap.size)) := fun k hk h => by
          have h3 := o3.lt k hk
          have h4 := l3 k hk
          have := BW2.size; rcases h4 with h5 | h5
          · have := HV2.out k h5; omega
          · simp at h5; omega
        have HO3 := Hid.intro o3
        clear o3 l3 q3
        go_simp
        refine hKK.out _ _ (HS2.out _ BW3) (fun hHeld2 => ?_)
        clear hKK KK hHeld
        have hHeld := hHeld2
        clear hHeld2
        refine take1 (i := 4) (d := some 12) (v := ?_) rfl rfl (by kernel_rfl) (by kernel_rfl) (by kernel_rfl) (fun _ _ _ h => h) (Or.inl ⟨by rfl, ?_⟩) (by assumption) ?_
        rotate_left 1
        · intro w hSw
          obtain ⟨q0, q1, q2, q3, q4, q5, q6, q7, q8, q9, q10⟩ := hSw
          go_simp <;> with_reducible rfl
        simp only [Act.put, List.setIfInBounds_toArray]
        try simp only [List.set_cons_succ]
        try simp only [List.set_cons_zero]
        refine take1 (i := 5) (d := some 17) (v := ?_) rfl rfl (by kernel_rfl) (by kernel_rfl) (by kernel_rfl) (fun _ _ _ h => h) (Or.inl ⟨by rfl, ?_⟩) (by assumption) ?_
        rotate_left 1
        · intro w hSw
          obtain ⟨q0, q1, q2, q3, q4, q5, q6, q7, q8, q9, q10⟩ := hSw
          go_simp <;> with_reducible rfl
        simp only [Act.put, List.setIfInBounds_toArray]
        try simp only [List.set_cons_succ]
        try simp only [List.set_cons_zero]
        refine take1 (i := 6) (d := some 18) (v := ?_) rfl rfl (by kernel_rfl) (by kernel_rfl) (by kernel_rfl) (fun _ _ _ h => h) (Or.inl ⟨by rfl, ?_⟩) (by assumption) ?_
        rotate_left 1
        · intro w hSw
          obtain ⟨q0, q1, q2, q3, q4, q5, q6, q7, q8, q9, q10⟩ := hSw
          go_simp <;> with_reducible rfl
        simp only [Act.put, List.setIfInBounds_toArray]
        try simp only [List.set_cons_succ]
        try simp only [List.set_cons_zero]
        refine wpAnyH_ready (rs := [8]) (by kernel_rfl) (by simp) ?_
        refine AllReadyH.cons rfl (fun KK hKK => ?_) AllReadyH.nil
        go_simp
        refine hKK.out _ _ (HS2.out _ (by (repeat (refine Below.setCell ?_ (by first | (simp; done) | exact BW2.size) _)); exact BW3)) (fun hHeld2 => ?_)
        clear hKK KK hHeld
        have hHeld := hHeld2
        clear hHeld2
        refine take1 (i := 9) (d := some 7) (v := ?_) rfl rfl (by kernel_rfl) (by kernel_rfl) (by kernel_rfl) (fun _ _ _ h => h) (Or.inl ⟨by rfl, ?_⟩) (by assumption) ?_
        rotate_left 1
        · intro w hSw
          obtain ⟨q0, q1, q2, q3, q4, q5, q6, q7, q8, q9, q10⟩ := hSw
          go_simp <;> with_reducible rfl
        simp only [Act.put, List.setIfInBounds_toArray]
        try simp only [List.set_cons_succ]
        try simp only [List.set_cons_zero]
        refine wpAnyH_done (by kernel_rfl) ?_ _
        obtain ⟨_, _, d3, g3, _, _, B3, z3⟩ := HC.out _ BW3
        have HB3 := Hid.intro B3
        have z3b := BW3.size
        obtain ⟨X, hX, x0, x1, x2, x3, x4, x5, oX, zX⟩ := set6 (x0 := .int .i64 (nextK K r).t) (x1 := .int .i64 (nextK K r).v) (x2 := .int .i64 (nextK K r).si) (x3 := .int .i64 (nextK K r).st) (x4 := .string (nextK K r).sd) (x5 := .slice a3 (nextK K r).e.length cap3) k6
        simp only [hX]
        replace d3 : ∀ o, X.cell? ⟨w.heap.size + 1 + 1, o, none⟩ = #[.int .i64 0, .int .i64 0, .int .i64 0, .int .i64 0, .string ⟨#[]⟩, .slice none 0 0][o]? := fun o => (oX.cell z3 n6).trans (d3 o)
        replace g3 : ∀ o, X.frozen? ⟨w.heap.size + 1 + 1, o, none⟩ = false := fun o => (oX.frozen z3 n6).trans (g3 o)
        have HOX := Hid.intro (HO3.out.only oX (fun k hk h => HN3.out k hk (.inr h)))
        have HBX := Hid.intro (HB3.out.trans (oX.below HB3.out.size (fun k hk h => by have := BW2.size; omega)))
        have zX2 : w.heap.size + 1 + 1 < X.heap.size := by omega
        clear hX oX zX k6 g6 zk6
        clear HC HS2 B3 c1 c2 hHeld BW3 BW2 HB3 HO3 HZ2 HO2 z3 z3b
        go_wp2
        refine bodyPost_ret (v := .tuple #[kpV (nextK K r) (.slice a3 (nextK K r).e.length cap3), .bool (goB K r)]) (by simp [results, Try.results16, go_sem, d3]) rfl ⟨_, rfl, ?_, ?_⟩
        · refine OwnE.lower (OwnE.only HOX.out (S := fun k => k = w.heap.size + 1 + 1) ?_ (fun k hk h => HN3.out k hk (.inl h))) (show w.heap.size ≤ w1.heap.size by omega)
          repeat (refine Only.setCell ?_ (by simp) _)
          exact Only.refl _ _
        · repeat (refine Below.setCell ?_ (by simp <;> omega) _)
          exact HBX.out
    · -- the new variable first
      go_simp
      refine hKK.out _ _ (HS2.out _ ((Below.refl _ _).drew.alloc (Nat.le_refl _) _)) (fun hHeld2 => ?_)
      clear hKK KK hHeld
      have hHeld := hHeld2
      clear hHeld2
      refine wpAnyH_ready (rs := [1]) (by kernel_rfl) (by simp) ?_
      refine AllReadyH.cons rfl (fun KK hKK => ?_) AllReadyH.nil
      go_simp
      refine (l3Copy_any K v N _ (HC.out _ ((Below.refl _ _).drew.alloc (Nat.le_refl _) _)).2.2.2.2.2.1 (HC.out _ ((Below.refl _ _).drew.alloc (Nat.le_refl _) _)).2.2.2.2.1 (by omega)).mono ?_
      rintro e w2 ⟨v2, rfl, o2, b2⟩
      have BW2 : Below w1.heap.size w1 w2 := Below.trans ((Below.refl _ _).drew.alloc (Nat.le_refl _) _) (b2.mono (by simp))
      have HO2 := Hid.intro o2
      have HZ2 := Hid.intro b2
      clear o2 b2
      go_simp
      refine hKK.out _ _ (HS2.out _ BW2) (fun hHeld2 => ?_)
      clear hKK KK hHeld
      have hHeld := hHeld2
      clear hHeld2
      refine wpAnyH_ready (rs := [3]) (by kernel_rfl) (by simp) ?_
      refine AllReadyH.cons rfl (fun KK hKK => ?_) AllReadyH.nil
      go_simp
      refine (l3Step_any K v2 w1.heap.size r _ BW2.size (OwnE.lower HO2.out (by simp)) HS.out).mono ?_
      rintro e w3 ⟨v3, rfl, o3, l3, q3⟩
      obtain ⟨a3, cap3, rfl⟩ := o3.slice
      have HV2 : Hid (∀ k, v2.ownBlock = some k → w1.heap.size ≤ k ∧ k < w2.heap.size) := fun k hk => ⟨Nat.le_trans (by simp) (HO2.out.lt k hk).1, (HO2.out.lt k hk).2⟩
      have BW3 : Below w1.heap.size w1 w3 := BW2.trans (q3.below BW2.size (fun k hk h => by have := (HV2.out k h.symm).1; omega))
      have k6 : ∀ o, w3.cell? ⟨w1.heap.size, o, none⟩ = #[.int .i64 0, .int .i64 0, .int .i64 0, .int .i64 0, .string ⟨#[]⟩, .slice none 0 0][o]? := fun o => (q3.cell (by have := HZ2.out.size; simp at this; omega) (fun h => by have := (HO2.out.lt _ h.symm).1; simp at this; omega)).trans ((HZ2.out.cell (p := ⟨w1.heap.size, o, none⟩) (by simp)).trans (World.cell?_alloc_at _ _ _ _ rfl))
      have g6 : ∀ o, w3.frozen? ⟨w1.heap.size, o, none⟩ = false := fun o => (q3.frozen (by have := HZ2.out.size; simp at this; omega) (fun h => by have := (HO2.out.lt _ h.symm).1; simp at this; omega)).trans ((HZ2.out.frozen (p := ⟨w1.heap.size, o, none⟩) (by simp)).trans (World.frozen?_alloc_at _ _ _ _ rfl))
      have zk6 : w1.heap.size < w3.heap.size := by have := q3.size; have := HZ2.out.size; simp at this; omega
      have n6 : ¬ w.heap.size + 1 + 1 = w1.heap.size := by omega
      have HN3 : Hid (∀ k, (Value.slice a3 (nextK K r).e.length cap3).ownBlock = some k → ¬ (k = w.heap.size + 1 + 1 ∨ k = w1.heap.size)) := fun k hk h => by
        have h3 := o3.lt k hk
        have h4 := l3 k hk
        rcases h4 with h5 | h5
        · have := (HO2.out.lt k h5).1; simp at this; omega
        · have := HZ2.out.size; simp at this; omega
      have HO3 := Hid.intro o3
      clear o3 l3 q3
      go_simp
      refine hKK.out _ _ (HS2.out _ BW3) (fun hHeld2 => ?_)
      clear hKK KK hHeld
      have hHeld := hHeld2
      clear hHeld2
      refine take1 (i := 4) (d := some 12) (v := ?_) rfl rfl (by kernel_rfl) (by kernel_rfl) (by kernel_rfl) (fun _ _ _ h => h) (Or.inl ⟨by rfl, ?_⟩) (by assumption) ?_
      rotate_left 1
      · intro w hSw
        obtain ⟨q0, q1, q2, q3, q4, q5, q6, q7, q8, q9, q10⟩ := hSw
        go_simp <;> with_reducible rfl
      simp only [Act.put, List.setIfInBounds_toArray]
      try simp only [List.set_cons_succ]
      try simp only [List.set_cons_zero]
      refine take1 (i := 5) (d := some 17) (v := ?_) rfl rfl (by kernel_rfl) (by kernel_rfl) (by kernel_rfl) (fun _ _ _ h => h) (Or.inl ⟨by rfl, ?_⟩) (by assumption) ?_
      rotate_left 1
      · intro w hSw
        obtain ⟨q0, q1, q2, q3, q4, q5, q6, q7, q8, q9, q10⟩ := hSw
        go_simp <;> with_reducible rfl
      simp only [Act.put, List.setIfInBounds_toArray]
      try simp only [List.set_cons_succ]
      try simp only [List.set_cons_zero]
      refine take1 (i := 6) (d := some 18) (v := ?_) rfl rfl (by kernel_rfl) (by kernel_rfl) (by kernel_rfl) (fun _ _ _ h => h) (Or.inl ⟨by rfl, ?_⟩) (by assumption) ?_
      rotate_left 1
      · intro w hSw
        obtain ⟨q0, q1, q2, q3, q4, q5, q6, q7, q8, q9, q10⟩ := hSw
        go_simp <;> with_reducible rfl
      simp only [Act.put, List.setIfInBounds_toArray]
      try simp only [List.set_cons_succ]
      try simp only [List.set_cons_zero]
      refine wpAnyH_ready (rs := [8]) (by kernel_rfl) (by simp) ?_
      refine AllReadyH.cons rfl (fun KK hKK => ?_) AllReadyH.nil
      go_simp
      refine hKK.out _ _ (HS2.out _ (by (repeat (refine Below.setCell ?_ (by first | (simp; done) | exact BW2.size) _)); exact BW3)) (fun hHeld2 => ?_)
      clear hKK KK hHeld
      have hHeld := hHeld2
      clear hHeld2
      refine take1 (i := 9) (d := some 7) (v := ?_) rfl rfl (by kernel_rfl) (by kernel_rfl) (by kernel_rfl) (fun _ _ _ h => h) (Or.inl ⟨by rfl, ?_⟩) (by assumption) ?_
      rotate_left 1
      · intro w hSw
        obtain ⟨q0, q1, q2, q3, q4, q5, q6, q7, q8, q9, q10⟩ := hSw
        go_simp <;> with_reducible rfl
      simp only [Act.put, List.setIfInBounds_toArray]
      try simp only [List.set_cons_succ]
      try simp only [List.set_cons_zero]
      refine wpAnyH_done (by kernel_rfl) ?_ _
      obtain ⟨_, _, d3, g3, _, _, B3, z3⟩ := HC.out _ BW3
      have HB3 := Hid.intro B3
      have z3b := BW3.size
      obtain ⟨X, hX, x0, x1, x2, x3, x4, x5, oX, zX⟩ := set6 (x0 := .int .i64 (nextK K r).t) (x1 := .int .i64 (nextK K r).v) (x2 := .int .i64 (nextK K r).si) (x3 := .int .i64 (nextK K r).st) (x4 := .string (nextK K r).sd) (x5 := .slice a3 (nextK K r).e.length cap3) k6
      simp only [hX]
      replace d3 : ∀ o, X.cell? ⟨w.heap.size + 1 + 1, o, none⟩ = #[.int .i64 0, .int .i64 0, .int .i64 0, .int .i64 0, .string ⟨#[]⟩, .slice none 0 0][o]? := fun o => (oX.cell z3 n6).trans (d3 o)
      replace g3 : ∀ o, X.frozen? ⟨w.heap.size + 1 + 1, o, none⟩ = false := fun o => (oX.frozen z3 n6).trans (g3 o)
      have HOX := Hid.intro (HO3.out.only oX (fun k hk h => HN3.out k hk (.inr h)))
      have HBX := Hid.intro (HB3.out.trans (oX.below HB3.out.size (fun k hk h => by have := BW2.size; omega)))
      have zX2 : w.heap.size + 1 + 1 < X.heap.size := by omega
      clear hX oX zX k6 g6 zk6
      clear HC HS2 B3 c1 c2 hHeld BW3 BW2 HB3 HO3 HZ2 HO2 z3 z3b
      go_wp2
      refine bodyPost_ret (v := .tuple #[kpV (nextK K r) (.slice a3 (nextK K r).e.length cap3), .bool (goB K r)]) (by simp [results, Try.results16, go_sem, d3]) rfl ⟨_, rfl, ?_, ?_⟩
      · refine OwnE.lower (OwnE.only HOX.out (S := fun k => k = w.heap.size + 1 + 1) ?_ (fun k hk h => HN3.out k hk (.inl h))) (show w.heap.size ≤ w1.heap.size by omega)
        repeat (refine Only.setCell ?_ (by simp) _)
        exact Only.refl _ _
      · repeat (refine Below.setCell ?_ (by simp <;> omega) _)
        exact HBX.out
end Go.Proofs.Ytkilepoimocoeaa
