/- Maps from numbers to inodes. -/
import Derived.Test.YtknckbedddeijaaGreatTCurVo
import Derived.Maps.RangeWalk
import Derived.Maps.OwnSet
import Derived.Maps.OwnOps
namespace Go.Proofs.YtknckbedddeijaaGreat
open Go.RowKit Go.Maps
set_option linter.unusedVariables false
/-- A pointer to the inode at place j of the row at b, off. -/
abbrev ptrJ (b off j : Nat) : Value := .pointer (some ⟨b, off + j * 9, none⟩)
def ptrO (b off : Nat) : Option Nat → Value
 | some j => ptrJ b off j
 | none => .pointer none
/-- How such a pointer reads. -/
def ptrR (b off : Nat) : Value → Option (DataW Unit × List MemPlace)
 | .pointer none => some (.nil, [])
 | .pointer (some ⟨b', o, none⟩) => if b' = b ∧ off ≤ o ∧ (o - off) % 9 = 0 then some (.lit (.int .i64 ((o - off) / 9 : Nat)), []) else none
 | _ => none
theorem ptrR_mk (b off j : Nat) : ptrR b off (ptrJ b off j) = some (.lit (.int .i64 (j : Nat)), []) := by
 have h1 : off + j * 9 - off = j * 9 := by omega
 simp [ptrR, h1]
theorem ptrR_nil (b off : Nat) : ptrR b off (.pointer none) = some (.nil, []) := rfl
theorem ptrR_inv {b off : Nat} {v : Value} {z : DataW Unit × List MemPlace} (h : ptrR b off v = some z) : (v = .pointer none ∧ z = (.nil, [])) ∨ ∃ j : Nat, v = ptrJ b off j ∧ z = (.lit (.int .i64 (j : Nat)), []) := by
 unfold ptrR at h
 split at h
 ·cases h; exact .inl ⟨rfl, rfl⟩
 ·rename_i b' o
  split at h
  ·rename_i hc
   obtain ⟨rfl, h1, h2⟩ := hc
   cases h
   refine .inr ⟨(o - off) / 9, ?_, rfl⟩
   have : off + (o - off) / 9 * 9 = o := by omega
   rw [ptrJ, this]
  ·cases h
 ·cases h
def encF : Option Nat → DataW Unit
 | some j => .lit (.int .i64 (j : Nat))
 | none => .nil
theorem encF_ptr {b off : Nat} {v : Value} {ps : List MemPlace} {f : Option Nat} (h : ptrR b off v = some (encF f, ps)) : v = ptrO b off f := by
 rcases ptrR_inv h with ⟨rfl, e⟩ | ⟨j, rfl, e⟩
 ·cases f with
  | none => rfl
  | some j => simp [encF] at e
 ·cases f with
  | none => simp [encF] at e
  | some i =>
   simp only [encF, Prod.mk.injEq, DataW.lit.injEq, Lit.int.injEq, true_and] at e
   have : i = j := by omega
   rw [this]; rfl
theorem int_law : Keyed Tryz.prog 3 := int_keyed Tryz.underlying3
theorem key_int {x : Int} (h : (Lit.int .i64 x).wf = true) : keyOf Tryz.prog 3 (.int .i64 x) = some (.int .i64 x) := keyOf_int_mk Tryz.underlying3 h
theorem wf_i {x : Int} (h1 : -9223372036854775808 ≤ x) (h2 : x ≤ 9223372036854775807) : (Lit.int .i64 x).wf = true := WalkArith.wf_i64 (by omega)
/-- Block tb is a map of c entries, at most n, that holds F. -/
def TM (w : World) (tb b off : Nat) (F : Int → Option Nat) (n c : Nat) : Prop := ∃ D : DataW Unit, w.ownsMap Tryz.prog 3 (ptrR b off) tb n D ∧ Maps.size D = c ∧ ∀ id : Int, (Lit.int .i64 id).wf = true → Maps.has D (.int .i64 id) = (F id).isSome ∧ D.atKey (.int .i64 id) .nil = encF (F id)
theorem TM.kept {w w' : World} {tb b off n c : Nat} {F : Int → Option Nat} (h : TM w tb b off F n c) (hb : w'.heap[tb]? = w.heap[tb]?) : TM w' tb b off F n c := by
 obtain ⟨D, ⟨es, clock, h1, h2⟩, h3⟩ := h
 exact ⟨D, ⟨es, clock, hb.trans h1, h2⟩, h3⟩
theorem TM.lt {w : World} {tb b off n c : Nat} {F : Int → Option Nat} (h : TM w tb b off F n c) : tb < w.heap.size := by
 obtain ⟨D, h1, _⟩ := h
 exact h1.lt
theorem TM.below {w w' : World} {tb b off n c N : Nat} {F : Int → Option Nat} (h : TM w tb b off F n c) (hb : Below N w w') (hN : tb < N) : TM w' tb b off F n c := h.kept (hb.block tb hN)
theorem TM.only {w w' : World} {tb b off n c : Nat} {F : Int → Option Nat} {S : Nat → Prop} (h : TM w tb b off F n c) (hb : Only S w w') (hS : ¬ S tb) : TM w' tb b off F n c := h.kept (hb.block tb h.lt hS)
theorem TM.made (w : World) (b off : Nat) : TM (w.alloc (.map #[] 0)) w.heap.size b off (fun _ => none) 0 0 :=
 ⟨.map [], World.ownsMap_made w _ _ _, rfl, fun id _ => ⟨rfl, rfl⟩⟩
theorem zeroP (w : World) : (zeroValue 120).run Tryz.prog w = .ok (.pointer none) w := by kernel_rfl
/-- A look into the map. -/
theorem TM.look {w : World} {tb b off n c : Nat} {F : Int → Option Nat} (h : TM w tb b off F n c) {id : Int} (hw : (Lit.int .i64 id).wf = true) : (Instr.lookup 109 (.map (some tb)) (.int .i64 id) false).run Tryz.prog w = .ok (ptrO b off (F id)) w := by
 obtain ⟨D, h1, _, h2⟩ := h
 obtain ⟨v, ps, hrun, hv⟩ := h1.lookup int_law Tryz.underlying109 (zeroP w) (ptrR_nil b off) (key_int hw)
 rw [(h2 id hw).2] at hv
 rw [hrun, encF_ptr hv]
/-- One more entry. -/
theorem TM.put {w : World} {tb b off n c j : Nat} {F : Int → Option Nat} (h : TM w tb b off F n c) (hn : n < maxLen) {id : Int} (hw : (Lit.int .i64 id).wf = true) (hj : (F id).isSome = false) : ∃ w', (Instr.mapUpdate 109 (.map (some tb)) (.int .i64 id) (ptrJ b off j)).run Tryz.prog w = .ok () w' ∧ TM w' tb b off (fun x => if x = id then some j else F x) (n + 1) (c + 1) ∧ Only (fun k => k = tb) w w' := by
 obtain ⟨D, h1, h3, h2⟩ := h
 obtain ⟨w', hrun, h4, h5⟩ := h1.update int_law Tryz.underlying109 hn (key_int hw) (ptrR_mk b off j)
 have hk : WideAt.IsKeyLit (Lit.int .i64 id) := int_law.key (key_int hw)
 refine ⟨w', hrun, ⟨_, h4, ?_, fun x hx => ?_⟩, ?_⟩
 ·rw [size_put (h1.tidy int_law), (h2 id hw).1, hj, h3]
  simp
 ·by_cases e : x = id
  ·subst e
   dsimp only
   rw [if_pos rfl, has_put_same h1.isMap hk, atKey_put_same h1.isMap hk]
   exact ⟨rfl, rfl⟩
  ·have hne : Lit.int .i64 x ≠ Lit.int .i64 id := fun h => e (by cases h; rfl)
   dsimp only
   rw [if_neg e, has_put_other hne, atKey_put_other hne]
   exact h2 x hx
 ·exact ⟨h5.os, h5.tape, h5.output, h5.size, fun i hi hs => h5.block i hi (by simpa using fun e => hs e)⟩
instance decT (s : List Bool) (i : Nat) : Decidable (isT s i) := inferInstanceAs (Decidable (_ = _))
/-- The inodes that are marked, by their numbers. -/
def FS (L : List Nd) (s : List Bool) (id : Int) : Option Nat := (atN L id).bind fun x => if isT s x then some x else none
theorem FS_some {L : List Nd} {s : List Bool} {id : Int} {x : Nat} : FS L s id = some x ↔ atN L id = some x ∧ isT s x := by
 unfold FS
 cases h : atN L id with
 | none => simp
 | some y =>
  simp only [Option.bind_some, Option.some.injEq]
  by_cases hy : isT s y
  ·rw [if_pos hy]
   constructor
   ·intro e; cases e; exact ⟨rfl, hy⟩
   ·rintro ⟨rfl, _⟩; rfl
  ·rw [if_neg hy]
   constructor
   ·intro e; cases e
   ·rintro ⟨rfl, h2⟩; exact absurd h2 hy
/-- The numbers are numbers, each of one inode. -/
structure IdsD (L : List Nd) : Prop where
 wf : ∀ n ∈ L, (Lit.int .i64 n.id).wf = true
 at_ : ∀ x (h : x < L.length), atN L L[x].id = some x
theorem FS_set {L : List Nd} {s : List Bool} {x : Nat} (h : IdsD L) (hx : x < L.length) (hs : s.length = L.length) : (fun y => if y = L[x].id then some x else FS L s y) = FS L (s.set x true) := by
 funext y
 by_cases e : y = L[x].id
 ·rw [if_pos e, e]
  exact (FS_some.2 ⟨h.at_ x hx, isT_set.2 (.inl ⟨rfl, by omega⟩)⟩).symm
 ·rw [if_neg e]
  unfold FS
  cases ha : atN L y with
  | none => rfl
  | some z =>
   simp only [Option.bind_some]
   have hz : x ≠ z := by
    rintro rfl
    exact e ((atN_some.1 ha).2.1).symm
   have : isT (s.set x true) z ↔ isT s z := by
    rw [isT_set]
    constructor
    ·rintro (⟨e, _⟩ | h)
     ·exact absurd e hz
     ·exact h
    ·exact .inr
   by_cases h2 : isT s z
   ·rw [if_pos h2, if_pos (this.2 h2)]
   ·rw [if_neg h2, if_neg fun h => h2 (this.1 h)]
theorem count_set {s : List Bool} {x : Nat} (hx : x < s.length) (h : ¬ isT s x) : (s.set x true).count true = s.count true + 1 := by
 induction s generalizing x with
 | nil => simp at hx
 | cons a s ih =>
  cases x with
  | zero =>
   have : a = false := by
    cases a with
    | false => rfl
    | true => exact absurd rfl h
   subst this
   simp
  | succ x =>
   have h1 := ih (x := x) (by simpa using hx) (by simpa [isT] using h)
   rw [List.set_cons_succ, List.count_cons, List.count_cons, h1]
   omega
/-- A range over the map under way: s is what it holds, v what has come. -/
def TR (w : World) (tb rb b off : Nat) (L : List Nd) (s v : List Bool) (n cnt : Nat) : Prop := ∃ (D : DataW Unit) (left : Lit → Bool), w.ranges Tryz.prog 3 (ptrR b off) tb rb n D left cnt ∧ (∀ id : Int, (Lit.int .i64 id).wf = true → Maps.has D (.int .i64 id) = (FS L s id).isSome ∧ D.atKey (.int .i64 id) .nil = encF (FS L s id)) ∧ (∀ x (h : x < L.length), left (.int .i64 L[x].id) = true ↔ isT s x ∧ ¬ isT v x) ∧ Maps.size D = s.count true
theorem TR.kept {w w' : World} {tb rb b off n cnt : Nat} {L : List Nd} {s v : List Bool} (h : TR w tb rb b off L s v n cnt) (h1 : w'.heap[tb]? = w.heap[tb]?) (h2 : w'.heap[rb]? = w.heap[rb]?) : TR w' tb rb b off L s v n cnt := by
 obtain ⟨D, left, ⟨es, clock, since, seen, c0, k1, k2, k3, k4, k5, k6⟩, h3⟩ := h
 exact ⟨D, left, ⟨es, clock, since, seen, c0, h1.trans k1, k2, k3, k4, h2.trans k5, k6⟩, h3⟩
theorem TR.tm {w : World} {tb rb b off n cnt : Nat} {L : List Nd} {s v : List Bool} (h : TR w tb rb b off L s v n cnt) : TM w tb b off (FS L s) n (s.count true) := by
 obtain ⟨D, left, h1, h2, h3, h4⟩ := h
 exact ⟨D, h1.owns, h4, h2⟩
theorem TM.len {w : World} {tb b off n c : Nat} {F : Int → Option Nat} (h : TM w tb b off F n c) (ty : TypeId) : (Builtin.len_ #[109] ty #[.map (some tb)]).run Tryz.prog w = .ok (.int .i64 (c : Nat)) w := by
 obtain ⟨D, h1, h2, _⟩ := h
 rw [h1.len Tryz.underlying109 ty, h2]
theorem TR.iter {w : World} {tb rb b off n cnt : Nat} {L : List Nd} {s v : List Bool} (h : TR w tb rb b off L s v n cnt) : rb < w.heap.size ∧ rb ≠ tb := by
 obtain ⟨D, left, h1, _⟩ := h
 exact ⟨h1.lt, h1.ne⟩
theorem TR.only {w w' : World} {tb rb b off n cnt : Nat} {L : List Nd} {s v : List Bool} {S : Nat → Prop} (h : TR w tb rb b off L s v n cnt) (hb : Only S w w') (h1 : ¬ S tb) (h2 : ¬ S rb) : TR w' tb rb b off L s v n cnt := h.kept (hb.block tb h.tm.lt h1) (hb.block rb h.iter.1 h2)
theorem TR.left {w : World} {tb rb b off n cnt : Nat} {L : List Nd} {s v : List Bool} (h : TR w tb rb b off L s v n cnt) : w.rangeLeft tb rb = cnt := by
 obtain ⟨D, left, h1, _⟩ := h
 exact h1.left_eq
theorem wpList_range_tree {w : World} {ops : Array Oper} {rest : List Oper} {o : Oper} {a : Act} {Q : Exit → Act → World → Prop} (hg : o.guard = none) (m : Operand) (hop : o.op = Op.range 109 m) {tb b off n : Nat} {L : List Nd} {s : List Bool} (hI : IdsD L)
  (hm : a.eval m = .map (some tb)) (h : TM w tb b off (FS L s) n (s.count true))
  (hK : ∀ w', TR w' tb w.heap.size b off L s (List.replicate L.length false) n (s.count true) → Below w.heap.size w w' → w'.heap.size = w.heap.size + 1 → wpList Tryz.prog ops Q rest (a.put o.dst (.pointer (some ⟨w.heap.size, 0, none⟩))) w') :
  wpList Tryz.prog ops Q (o :: rest) a w := by
 obtain ⟨D, h1, h2, h3⟩ := h
 refine wpList_range_own w hg m 109 hop 3 120 int_law Tryz.underlying109 (ptrR b off) tb n D hm h1 fun w' h4 h5 h6 => ?_
 rw [h2] at h4
 refine hK w' ⟨D, _, h4, h3, fun x hx => ?_, h2⟩ ((grown_only h5).below (Nat.le_refl _) (fun k _ h => by cases h)) h6
 rw [(h3 _ (hI.wf _ (List.getElem_mem hx))).1]
 have hv : ¬ isT (List.replicate L.length false) x := by
  unfold isT
  rw [List.getElem?_replicate]
  split <;> simp
 constructor
 ·intro h
  obtain ⟨y, hy⟩ := Option.isSome_iff_exists.1 h
  have h7 := FS_some.1 hy
  have h8 := hI.at_ x hx
  rw [h8] at h7
  cases h7.1
  exact ⟨h7.2, hv⟩
 ·rintro ⟨h, _⟩
  rw [FS_some.2 ⟨hI.at_ x hx, h⟩]
  rfl
theorem wpList_next_tree {w : World} {ops : Array Oper} {rest : List Oper} {o : Oper} {a : Act} {Q : Exit → Act → World → Prop} (hg : o.guard = none) (it : Operand) (hop : o.op = Op.next it false) {tb rb b off n cnt : Nat} {L : List Nd} {s v : List Bool} (hI : IdsD L) (hv : v.length = L.length)
  (hit : a.eval it = .pointer (some ⟨rb, 0, none⟩)) (h : TR w tb rb b off L s v n cnt)
  (hDone : (∀ x, x < L.length → isT s x → isT v x) → wpList Tryz.prog ops Q rest (a.put o.dst (.tuple #[.bool false])) w)
  (hMore : ∀ (x : Nat) (hx : x < L.length) (w' : World) (cnt' : Nat), isT s x → ¬ isT v x → TR w' tb rb b off L s (v.set x true) n cnt' → cnt' < cnt → Only (fun k => k = rb) w w' → w'.heap.size = w.heap.size → (Instr.entry (.pointer (some ⟨rb, 0, none⟩))).run Tryz.prog w' = .ok (.tuple #[.int .i64 L[x].id, ptrJ b off x]) w' → wpList Tryz.prog ops Q rest (a.put o.dst (.tuple #[.bool true, .int .i64 L[x].id, ptrJ b off x])) w') :
  wpList Tryz.prog ops Q (o :: rest) a w := by
 obtain ⟨D, left, h1, h2, h3, hsz0⟩ := h
 refine wpList_plain hg fun K' hK' => ?_
 unfold Oper.wp
 rcases h1.next int_law o.type with ⟨h0, hl, hrun⟩ | ⟨key, u, kl, y, w', cnt', hkey, hlk, hu, hat, hrun, hrg, hlt, hgr, hsz, hen⟩
 ·simp [execOp, hop, hit, hrun, Result.andThen]
  refine hK' _ _ (hDone fun x hx hs => ?_)
  by_cases hvx : isT v x
  ·exact hvx
  ·have := (h3 x hx).2 ⟨hs, hvx⟩
   rw [hl] at this
   cases this
 ·obtain ⟨id, rfl, rfl, hw⟩ := Maps.keyOf_int_inv Tryz.underlying3 hkey
  have hh : Maps.has D (.int .i64 id) = true := has_true_of_atKey hat
  rw [(h2 id hw).1] at hh
  obtain ⟨x, hx⟩ := Option.isSome_iff_exists.1 hh
  have hx2 := FS_some.1 hx
  have hxl := atN_lt hx2.1
  have hid : L[x].id = id := (atN_some.1 hx2.1).2.1
  have hu2 : ptrR b off u = some (encF (FS L s id), y.2) := by rw [hu, ← (h2 id hw).2, hat]
  have hu3 := encF_ptr hu2
  rw [hx] at hu3
  have hu4 : u = ptrJ b off x := hu3
  subst hu4
  subst hid
  have hnv := (h3 x hxl).1 hlk
  simp [execOp, hop, hit, hrun, Result.andThen]
  refine hK' _ _ (hMore x hxl w' cnt' hx2.2 hnv.2 ⟨D, _, hrg, h2, fun z hz => ?_, hsz0⟩ hlt ?_ hsz hen)
  ·simp only [Bool.and_eq_true, Bool.not_eq_true']
   by_cases e : z = x
   ·subst e
    have hk : WideAt.IsKeyLit (Lit.int .i64 L[z].id) := int_law.key (key_int (hI.wf _ (List.getElem_mem hz)))
    rw [WideAt.sameKey_self hk]
    constructor
    ·rintro ⟨_, h⟩; cases h
    ·rintro ⟨_, h⟩; exact absurd (isT_set.2 (.inl ⟨rfl, by omega⟩)) h
   ·have hne : Lit.int .i64 L[z].id ≠ Lit.int .i64 L[x].id := fun h => by
     have h7 : L[z].id = L[x].id := by simpa using h
     have h8 := hI.at_ z hz
     rw [h7, hI.at_ x hxl] at h8
     cases h8
     exact e rfl
    rw [sameKey_ne hne, h3 z hz, isT_set]
    constructor
    ·rintro ⟨⟨h, k⟩, _⟩
     exact ⟨h, fun h => h.elim (fun h => e h.1.symm) k⟩
    ·rintro ⟨h, k⟩
     exact ⟨⟨h, fun h => k (.inr h)⟩, rfl⟩
  ·exact ⟨hgr.os, hgr.tape, hgr.output, hgr.size, fun i hi hs => hgr.block i hi (by simpa using fun e => hs e)⟩
end Go.Proofs.YtknckbedddeijaaGreat
