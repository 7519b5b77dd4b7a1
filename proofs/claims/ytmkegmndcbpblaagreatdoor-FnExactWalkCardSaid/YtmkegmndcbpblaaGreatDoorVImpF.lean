/- eachOk: is each inode right, and where do its names lead? -/
import Derived.Test.YtmkegmndcbpblaaGreatDoorVRow
import Derived.Maps.RangeWalk
import Derived.Maps.OwnSet
import Derived.Maps.OwnOps
import Derived.Test.YtmkegmndcbpblaaGreatDoorVSpecE
import Derived.Laws.EntriesVeiled
namespace Go.Proofs.YtmkegmndcbpblaaGreatDoor
open Go.RowKit Go.Maps
set_option linter.unusedVariables false
/-- A pointer to the inode at place j of the row at b, off. -/
abbrev ptrJ (b off j : Nat) : Value := .pointer (some ⟨b, off + j * 9, none⟩)
def ptrO (b off : Nat) : Option Nat → Value
 | some j => ptrJ b off j
 | none => .pointer none
/-- How such a pointer reads. -/
def ptrR (b off : Nat) : Value → Option (DataW Unit × List MemPlace)
 | .pointer none => some (.nil, [])
 | .pointer (some ⟨b', o, none⟩) => if b' = b ∧ off ≤ o ∧ (o - off) % 9 = 0 then some (.lit (.int .i64 ((o - off) / 9 : Nat)), []) else none
 | _ => none
theorem ptrR_mk (b off j : Nat) : ptrR b off (ptrJ b off j) = some (.lit (.int .i64 (j : Nat)), []) := by
 have h1 : off + j * 9 - off = j * 9 := by omega
 simp [ptrR, h1]
theorem ptrR_nil (b off : Nat) : ptrR b off (.pointer none) = some (.nil, []) := rfl
theorem ptrR_inv {b off : Nat} {v : Value} {z : DataW Unit × List MemPlace} (h : ptrR b off v = some z) : (v = .pointer none ∧ z = (.nil, [])) ∨ ∃ j : Nat, v = ptrJ b off j ∧ z = (.lit (.int .i64 (j : Nat)), []) := by
 unfold ptrR at h
 split at h
 ·cases h; exact .inl ⟨rfl, rfl⟩
 ·rename_i b' o
  split at h
  ·rename_i hc
   obtain ⟨rfl, h1, h2⟩ := hc
   cases h
   refine .inr ⟨(o - off) / 9, ?_, rfl⟩
   have : off + (o - off) / 9 * 9 = o := by omega
   rw [ptrJ, this]
  ·cases h
 ·cases h
def encF : Option Nat → DataW Unit
 | some j => .lit (.int .i64 (j : Nat))
 | none => .nil
theorem encF_ptr {b off : Nat} {v : Value} {ps : List MemPlace} {f : Option Nat} (h : ptrR b off v = some (encF f, ps)) : v = ptrO b off f := by
 rcases ptrR_inv h with ⟨rfl, e⟩ | ⟨j, rfl, e⟩
 ·cases f with
  | none => rfl
  | some j => simp [encF] at e
 ·cases f with
  | none => simp [encF] at e
  | some i =>
   simp only [encF, Prod.mk.injEq, DataW.lit.injEq, Lit.int.injEq, true_and] at e
   have : i = j := by omega
   rw [this]; rfl
theorem int_law : Keyed Tryz.prog 3 := int_keyed Tryz.underlying3
theorem key_int {x : Int} (h : (Lit.int .i64 x).wf = true) : keyOf Tryz.prog 3 (.int .i64 x) = some (.int .i64 x) := keyOf_int_mk Tryz.underlying3 h
theorem wf_i {x : Int} (h1 : -9223372036854775808 ≤ x) (h2 : x ≤ 9223372036854775807) : (Lit.int .i64 x).wf = true := WalkArith.wf_i64 (by omega)
/-- Block tb is a map of c entries, at most n, that holds F. -/
def TM (w : World) (tb b off : Nat) (F : Int → Option Nat) (n c : Nat) : Prop := ∃ D : DataW Unit, w.ownsMap Tryz.prog 3 (ptrR b off) tb n D ∧ Maps.size D = c ∧ ∀ id : Int, (Lit.int .i64 id).wf = true → Maps.has D (.int .i64 id) = (F id).isSome ∧ D.atKey (.int .i64 id) .nil = encF (F id)
theorem TM.kept {w w' : World} {tb b off n c : Nat} {F : Int → Option Nat} (h : TM w tb b off F n c) (hb : w'.heap[tb]? = w.heap[tb]?) : TM w' tb b off F n c := by
 obtain ⟨D, ⟨es, clock, h1, h2⟩, h3⟩ := h
 exact ⟨D, ⟨es, clock, hb.trans h1, h2⟩, h3⟩
theorem TM.lt {w : World} {tb b off n c : Nat} {F : Int → Option Nat} (h : TM w tb b off F n c) : tb < w.heap.size := by
 obtain ⟨D, h1, _⟩ := h
 exact h1.lt
theorem TM.below {w w' : World} {tb b off n c N : Nat} {F : Int → Option Nat} (h : TM w tb b off F n c) (hb : Below N w w') (hN : tb < N) : TM w' tb b off F n c := h.kept (hb.block tb hN)
theorem TM.only {w w' : World} {tb b off n c : Nat} {F : Int → Option Nat} {S : Nat → Prop} (h : TM w tb b off F n c) (hb : Only S w w') (hS : ¬ S tb) : TM w' tb b off F n c := h.kept (hb.block tb h.lt hS)
theorem TM.made (w : World) (b off : Nat) : TM (w.alloc (.map #[] 0)) w.heap.size b off (fun _ => none) 0 0 :=
 ⟨.map [], World.ownsMap_made w _ _ _, rfl, fun id _ => ⟨rfl, rfl⟩⟩
theorem zeroP (w : World) : (zeroValue 92).run Tryz.prog w = .ok (.pointer none) w := by kernel_rfl
/-- A look into the map. -/
theorem TM.look {w : World} {tb b off n c : Nat} {F : Int → Option Nat} (h : TM w tb b off F n c) {id : Int} (hw : (Lit.int .i64 id).wf = true) : (Instr.lookup 77 (.map (some tb)) (.int .i64 id) false).run Tryz.prog w = .ok (ptrO b off (F id)) w := by
 obtain ⟨D, h1, _, h2⟩ := h
 obtain ⟨v, ps, hrun, hv⟩ := h1.lookup int_law Tryz.underlying77 (zeroP w) (ptrR_nil b off) (key_int hw)
 rw [(h2 id hw).2] at hv
 rw [hrun, encF_ptr hv]
/-- One more entry. -/
theorem TM.put {w : World} {tb b off n c j : Nat} {F : Int → Option Nat} (h : TM w tb b off F n c) (hn : n < maxLen) {id : Int} (hw : (Lit.int .i64 id).wf = true) (hj : (F id).isSome = false) : ∃ w', (Instr.mapUpdate 77 (.map (some tb)) (.int .i64 id) (ptrJ b off j)).run Tryz.prog w = .ok () w' ∧ TM w' tb b off (fun x => if x = id then some j else F x) (n + 1) (c + 1) ∧ Only (fun k => k = tb) w w' := by
 obtain ⟨D, h1, h3, h2⟩ := h
 obtain ⟨w', hrun, h4, h5⟩ := h1.update int_law Tryz.underlying77 hn (key_int hw) (ptrR_mk b off j)
 have hk : WideAt.IsKeyLit (Lit.int .i64 id) := int_law.key (key_int hw)
 refine ⟨w', hrun, ⟨_, h4, ?_, fun x hx => ?_⟩, ?_⟩
 ·rw [size_put (h1.tidy int_law), (h2 id hw).1, hj, h3]
  simp
 ·by_cases e : x = id
  ·subst e
   dsimp only
   rw [if_pos rfl, has_put_same h1.isMap hk, atKey_put_same h1.isMap hk]
   exact ⟨rfl, rfl⟩
  ·have hne : Lit.int .i64 x ≠ Lit.int .i64 id := fun h => e (by cases h; rfl)
   dsimp only
   rw [if_neg e, has_put_other hne, atKey_put_other hne]
   exact h2 x hx
 ·exact ⟨h5.os, h5.tape, h5.output, h5.size, fun i hi hs => h5.block i hi (by simpa using fun e => hs e)⟩
instance decT (s : List Bool) (i : Nat) : Decidable (isT s i) := inferInstanceAs (Decidable (_ = _))
/-- The inodes that are marked, by their numbers. -/
def FS (L : List Nd) (s : List Bool) (id : Int) : Option Nat := (atN L id).bind fun x => if isT s x then some x else none
theorem FS_some {L : List Nd} {s : List Bool} {id : Int} {x : Nat} : FS L s id = some x ↔ atN L id = some x ∧ isT s x := by
 unfold FS
 cases h : atN L id with
 | none => simp
 | some y =>
  simp only [Option.bind_some, Option.some.injEq]
  by_cases hy : isT s y
  ·rw [if_pos hy]
   constructor
   ·intro e; cases e; exact ⟨rfl, hy⟩
   ·rintro ⟨rfl, _⟩; rfl
  ·rw [if_neg hy]
   constructor
   ·intro e; cases e
   ·rintro ⟨rfl, h2⟩; exact absurd h2 hy
/-- The numbers are numbers, each of one inode. -/
structure IdsD (L : List Nd) : Prop where
 wf : ∀ n ∈ L, (Lit.int .i64 n.id).wf = true
 at_ : ∀ x (h : x < L.length), atN L L[x].id = some x
theorem FS_set {L : List Nd} {s : List Bool} {x : Nat} (h : IdsD L) (hx : x < L.length) (hs : s.length = L.length) : (fun y => if y = L[x].id then some x else FS L s y) = FS L (s.set x true) := by
 funext y
 by_cases e : y = L[x].id
 ·rw [if_pos e, e]
  exact (FS_some.2 ⟨h.at_ x hx, isT_set.2 (.inl ⟨rfl, by omega⟩)⟩).symm
 ·rw [if_neg e]
  unfold FS
  cases ha : atN L y with
  | none => rfl
  | some z =>
   simp only [Option.bind_some]
   have hz : x ≠ z := by
    rintro rfl
    exact e ((atN_some.1 ha).2.1).symm
   have : isT (s.set x true) z ↔ isT s z := by
    rw [isT_set]
    constructor
    ·rintro (⟨e, _⟩ | h)
     ·exact absurd e hz
     ·exact h
    ·exact .inr
   by_cases h2 : isT s z
   ·rw [if_pos h2, if_pos (this.2 h2)]
   ·rw [if_neg h2, if_neg fun h => h2 (this.1 h)]
theorem count_set {s : List Bool} {x : Nat} (hx : x < s.length) (h : ¬ isT s x) : (s.set x true).count true = s.count true + 1 := by
 induction s generalizing x with
 | nil => simp at hx
 | cons a s ih =>
  cases x with
  | zero =>
   have : a = false := by
    cases a with
    | false => rfl
    | true => exact absurd rfl h
   subst this
   simp
  | succ x =>
   have h1 := ih (x := x) (by simpa using hx) (by simpa [isT] using h)
   rw [List.set_cons_succ, List.count_cons, List.count_cons, h1]
   omega
/-- A range over the map under way: s is what it holds, v what has come. -/
def TR (w : World) (tb rb b off : Nat) (L : List Nd) (s v : List Bool) (n cnt : Nat) : Prop := ∃ (D : DataW Unit) (left : Lit → Bool), w.ranges Tryz.prog 3 (ptrR b off) tb rb n D left cnt ∧ (∀ id : Int, (Lit.int .i64 id).wf = true → Maps.has D (.int .i64 id) = (FS L s id).isSome ∧ D.atKey (.int .i64 id) .nil = encF (FS L s id)) ∧ (∀ x (h : x < L.length), left (.int .i64 L[x].id) = true ↔ isT s x ∧ ¬ isT v x) ∧ Maps.size D = s.count true
theorem TR.kept {w w' : World} {tb rb b off n cnt : Nat} {L : List Nd} {s v : List Bool} (h : TR w tb rb b off L s v n cnt) (h1 : w'.heap[tb]? = w.heap[tb]?) (h2 : w'.heap[rb]? = w.heap[rb]?) : TR w' tb rb b off L s v n cnt := by
 obtain ⟨D, left, ⟨es, clock, since, seen, c0, k1, k2, k3, k4, k5, k6⟩, h3⟩ := h
 exact ⟨D, left, ⟨es, clock, since, seen, c0, h1.trans k1, k2, k3, k4, h2.trans k5, k6⟩, h3⟩
theorem TR.tm {w : World} {tb rb b off n cnt : Nat} {L : List Nd} {s v : List Bool} (h : TR w tb rb b off L s v n cnt) : TM w tb b off (FS L s) n (s.count true) := by
 obtain ⟨D, left, h1, h2, h3, h4⟩ := h
 exact ⟨D, h1.owns, h4, h2⟩
theorem TM.len {w : World} {tb b off n c : Nat} {F : Int → Option Nat} (h : TM w tb b off F n c) (ty : TypeId) : (Builtin.len_ #[77] ty #[.map (some tb)]).run Tryz.prog w = .ok (.int .i64 (c : Nat)) w := by
 obtain ⟨D, h1, h2, _⟩ := h
 rw [h1.len Tryz.underlying77 ty, h2]
theorem TR.iter {w : World} {tb rb b off n cnt : Nat} {L : List Nd} {s v : List Bool} (h : TR w tb rb b off L s v n cnt) : rb < w.heap.size ∧ rb ≠ tb := by
 obtain ⟨D, left, h1, _⟩ := h
 exact ⟨h1.lt, h1.ne⟩
theorem TR.only {w w' : World} {tb rb b off n cnt : Nat} {L : List Nd} {s v : List Bool} {S : Nat → Prop} (h : TR w tb rb b off L s v n cnt) (hb : Only S w w') (h1 : ¬ S tb) (h2 : ¬ S rb) : TR w' tb rb b off L s v n cnt := h.kept (hb.block tb h.tm.lt h1) (hb.block rb h.iter.1 h2)
theorem TR.left {w : World} {tb rb b off n cnt : Nat} {L : List Nd} {s v : List Bool} (h : TR w tb rb b off L s v n cnt) : w.rangeLeft tb rb = cnt := by
 obtain ⟨D, left, h1, _⟩ := h
 exact h1.left_eq
theorem wpList_range_tree {w : World} {ops : Array Oper} {rest : List Oper} {o : Oper} {a : Act} {Q : Exit → Act → World → Prop} (hg : o.guard = none) (m : Operand) (hop : o.op = Op.range 77 m) {tb b off n : Nat} {L : List Nd} {s : List Bool} (hI : IdsD L)
  (hm : a.eval m = .map (some tb)) (h : TM w tb b off (FS L s) n (s.count true))
  (hK : ∀ w', TR w' tb w.heap.size b off L s (List.replicate L.length false) n (s.count true) → Below w.heap.size w w' → w'.heap.size = w.heap.size + 1 → wpList Tryz.prog ops Q rest (a.put o.dst (.pointer (some ⟨w.heap.size, 0, none⟩))) w') :
  wpList Tryz.prog ops Q (o :: rest) a w := by
 obtain ⟨D, h1, h2, h3⟩ := h
 refine wpList_range_own w hg m 77 hop 3 92 int_law Tryz.underlying77 (ptrR b off) tb n D hm h1 fun w' h4 h5 h6 => ?_
 rw [h2] at h4
 refine hK w' ⟨D, _, h4, h3, fun x hx => ?_, h2⟩ ((grown_only h5).below (Nat.le_refl _) (fun k _ h => by cases h)) h6
 rw [(h3 _ (hI.wf _ (List.getElem_mem hx))).1]
 have hv : ¬ isT (List.replicate L.length false) x := by
  unfold isT
  rw [List.getElem?_replicate]
  split <;> simp
 constructor
 ·intro h
  obtain ⟨y, hy⟩ := Option.isSome_iff_exists.1 h
  have h7 := FS_some.1 hy
  have h8 := hI.at_ x hx
  rw [h8] at h7
  cases h7.1
  exact ⟨h7.2, hv⟩
 ·rintro ⟨h, _⟩
  rw [FS_some.2 ⟨hI.at_ x hx, h⟩]
  rfl
theorem wpList_next_tree {w : World} {ops : Array Oper} {rest : List Oper} {o : Oper} {a : Act} {Q : Exit → Act → World → Prop} (hg : o.guard = none) (it : Operand) (hop : o.op = Op.next it false) {tb rb b off n cnt : Nat} {L : List Nd} {s v : List Bool} (hI : IdsD L) (hv : v.length = L.length)
  (hit : a.eval it = .pointer (some ⟨rb, 0, none⟩)) (h : TR w tb rb b off L s v n cnt)
  (hDone : (∀ x, x < L.length → isT s x → isT v x) → wpList Tryz.prog ops Q rest (a.put o.dst (.tuple #[.bool false])) w)
  (hMore : ∀ (x : Nat) (hx : x < L.length) (w' : World) (cnt' : Nat), isT s x → ¬ isT v x → TR w' tb rb b off L s (v.set x true) n cnt' → cnt' < cnt → Only (fun k => k = rb) w w' → w'.heap.size = w.heap.size → (Instr.entry (.pointer (some ⟨rb, 0, none⟩))).run Tryz.prog w' = .ok (.tuple #[.int .i64 L[x].id, ptrJ b off x]) w' → wpList Tryz.prog ops Q rest (a.put o.dst (.tuple #[.bool true, .int .i64 L[x].id, ptrJ b off x])) w') :
  wpList Tryz.prog ops Q (o :: rest) a w := by
 obtain ⟨D, left, h1, h2, h3, hsz0⟩ := h
 refine wpList_plain hg fun K' hK' => ?_
 unfold Oper.wp
 rcases h1.next int_law o.type with ⟨h0, hl, hrun⟩ | ⟨key, u, kl, y, w', cnt', hkey, hlk, hu, hat, hrun, hrg, hlt, hgr, hsz, hen⟩
 ·simp [execOp, hop, hit, hrun, Result.andThen]
  refine hK' _ _ (hDone fun x hx hs => ?_)
  by_cases hvx : isT v x
  ·exact hvx
  ·have := (h3 x hx).2 ⟨hs, hvx⟩
   rw [hl] at this
   cases this
 ·obtain ⟨id, rfl, rfl, hw⟩ := Maps.keyOf_int_inv Tryz.underlying3 hkey
  have hh : Maps.has D (.int .i64 id) = true := has_true_of_atKey hat
  rw [(h2 id hw).1] at hh
  obtain ⟨x, hx⟩ := Option.isSome_iff_exists.1 hh
  have hx2 := FS_some.1 hx
  have hxl := atN_lt hx2.1
  have hid : L[x].id = id := (atN_some.1 hx2.1).2.1
  have hu2 : ptrR b off u = some (encF (FS L s id), y.2) := by rw [hu, ← (h2 id hw).2, hat]
  have hu3 := encF_ptr hu2
  rw [hx] at hu3
  have hu4 : u = ptrJ b off x := hu3
  subst hu4
  subst hid
  have hnv := (h3 x hxl).1 hlk
  simp [execOp, hop, hit, hrun, Result.andThen]
  refine hK' _ _ (hMore x hxl w' cnt' hx2.2 hnv.2 ⟨D, _, hrg, h2, fun z hz => ?_, hsz0⟩ hlt ?_ hsz hen)
  ·simp only [Bool.and_eq_true, Bool.not_eq_true']
   by_cases e : z = x
   ·subst e
    have hk : WideAt.IsKeyLit (Lit.int .i64 L[z].id) := int_law.key (key_int (hI.wf _ (List.getElem_mem hz)))
    rw [WideAt.sameKey_self hk]
    constructor
    ·rintro ⟨_, h⟩; cases h
    ·rintro ⟨_, h⟩; exact absurd (isT_set.2 (.inl ⟨rfl, by omega⟩)) h
   ·have hne : Lit.int .i64 L[z].id ≠ Lit.int .i64 L[x].id := fun h => by
     have h7 : L[z].id = L[x].id := by simpa using h
     have h8 := hI.at_ z hz
     rw [h7, hI.at_ x hxl] at h8
     cases h8
     exact e rfl
    rw [sameKey_ne hne, h3 z hz, isT_set]
    constructor
    ·rintro ⟨⟨h, k⟩, _⟩
     exact ⟨h, fun h => h.elim (fun h => e h.1.symm) k⟩
    ·rintro ⟨h, k⟩
     exact ⟨⟨h, fun h => k (.inr h)⟩, rfl⟩
  ·exact ⟨hgr.os, hgr.tape, hgr.output, hgr.size, fun i hi hs => hgr.block i hi (by simpa using fun e => hs e)⟩
end Go.Proofs.YtmkegmndcbpblaaGreatDoor
namespace Go.Proofs.YtmkegmndcbpblaaGreatDoor
open Go.RowKit
set_option linter.unusedVariables false
/-- The numbers grow from m on, below next. -/
def idsL (next : Int) : Int → List Nd → Bool
 | _, [] => true
 | m, n :: l => inB n.id m (next - 1) && idsL next (n.id + 1) l
theorem indB_ids (M : List Nd) (next : Int) (l : List Nd) : ∀ (p : Option Int) (m : Int), 1 ≤ m → (p = none ∧ m = 1 ∨ p = some (m - 1)) → indB M next p l = (idsL next m l && l.all (nodeB M)) := by
 induction l with
 | nil => intro p m _ _; rfl
 | cons n l ih =>
  intro p m hm hp
  rw [indB, idsL, List.all_cons]
  have h1 : (inB n.id 1 (next - 1) && (p.map fun q => decide (q < n.id)).getD true) = inB n.id m (next - 1) := by
   rcases hp with ⟨rfl, rfl⟩ | rfl
   ·simp
   ·rw [Bool.eq_iff_iff]
    simp only [Option.map_some, Option.getD_some, inB, Bool.and_eq_true, decide_eq_true_eq]
    omega
  rw [h1]
  by_cases h2 : inB n.id m (next - 1) = true
  ·have h3 : 1 ≤ n.id + 1 := by
    simp only [inB, Bool.and_eq_true, decide_eq_true_eq] at h2
    omega
   rw [ih (some n.id) (n.id + 1) h3 (.inr (by simp)), h2]
   cases nodeB M n <;> cases idsL next (n.id + 1) l <;> simp
  ·simp only [Bool.not_eq_true] at h2
   rw [h2]; simp
/-- What idsOk tells. -/
def headI (L : List Nd) : Bool := (L.head?.map fun n => decide (n.id = 1)).getD false
def idsB (next : Int) (L : List Nd) : Bool := inB next 2 100000 && inB L.length 1 24 && headI L && idsL next 1 L
theorem idsL_drop {L : List Np} {next m : Int} {j : Nat} (h : j < L.length) : idsL next m ((L.drop j).map Np.n) = (inB L[j].n.id m (next - 1) && idsL next (L[j].n.id + 1) ((L.drop (j + 1)).map Np.n)) := by
 rw [List.drop_eq_getElem_cons h, List.map_cons, idsL]
set_option maxRecDepth 100000 in
set_option maxHeartbeats 4000000 in
theorem idsOk_any (next : Int) (L : List Np) (u : Value) (N : Nat) (w : World) (hN : N ≤ w.heap.size) (hr : VolR w N u L) :
  Calls Tryz.prog 50 #[volV next u] w fun e w' => e = .returned (.bool (idsB next (L.map Np.n))) ∧ Below w.heap.size w w' := by
 obtain ⟨a, cap, rfl, hl, hm, hcells⟩ := ndE_cell hr.row
 have HC := Hid.intro hcells
 obtain ⟨LN, hLN⟩ : ∃ LN, L.map Np.n = LN := ⟨_, rfl⟩
 rw [hLN]
 have hlen : LN.length = L.length := by rw [← hLN]; simp
 have HLN := Hid.intro hLN
 clear hcells hr hLN
 go_enter Tryz.func50, Tryz.ntmps50
 go_upto_region 1 with fail
 obtain ⟨W, hW, bW, zW, cW, fW⟩ := boxed w #[.int .i64 next, .slice a L.length cap] 35
 try simp only [hW]
 clear hW fW
 have CW0 := Hid.intro cW
 cases hb1 : inB next 2 100000 with
 | false =>
  go_wp2_with (go_at_call 55; refine (within_any _ _ _ _).mono ?_; rintro e w' ⟨rfl, rfl⟩; simp only [hb1])
  go_ret
  exact ⟨ret_bool (by rw [idsB, hb1]; rfl), bW⟩
 | true =>
  have hnx : 2 ≤ next ∧ next ≤ 100000 := by simpa [inB] using hb1
  have hnx1 := hnx.1
  have hnx2 := hnx.2
  clear hnx
  cases hb2 : inB (L.length : Int) 1 24 with
  | false =>
   go_wp2_with (go_at_call 55; refine (within_any _ _ _ _).mono ?_; rintro e w' ⟨rfl, rfl⟩; simp only [hb1, hb2])
   go_ret
   exact ⟨ret_bool (by rw [idsB, hlen, hb1, hb2]; rfl), bW⟩
  | true =>
   have hle : 1 ≤ (L.length : Int) ∧ (L.length : Int) ≤ 24 := by simpa [inB] using hb2
   have hle1 := hle.1
   have hle2 := hle.2
   clear hle
   have h0 : 0 < L.length := by omega
   obtain ⟨b, off, rfl, hbN, hcc⟩ := HC.out (by intro h; rw [h] at h0; simp at h0)
   have HCC := Hid.intro hcc
   have hc0 := hcc 0 h0
   have hhd : headI LN = decide (L[0].n.id = 1) := by
    rw [← HLN.out, headI, List.head?_map, List.head?_eq_getElem?, List.getElem?_eq_getElem h0]
    rfl
   generalize L[0] = e0 at hc0 hhd
   obtain ⟨g0, -, -, -, -, -, -, -, -⟩ := hc0.kept bW (by omega)
   have i0 : (0 : Int) ≤ 0 ∧ (0 : Int) < (L.length : Int) := by omega
   have HVB : Hid (idsB next LN = (headI LN && idsL next 1 LN)) := by unfold Hid; rw [idsB, hlen, hb1, hb2]; rfl
   simp only [Nat.zero_mul, Nat.add_zero] at g0
   clear hcc hc0
   by_cases e1 : e0.n.id = 1
   ·have t1 : (e0.n.id != 1) = false := by simp [e1]
    have HVC : Hid (idsB next LN = idsL next 1 LN) := by unfold Hid; rw [HVB.out, hhd, e1]; rfl
    clear hhd e1 HVB
    go_wp2_with (go_at_call 55; refine (within_any _ _ _ _).mono ?_; rintro e w' ⟨rfl, rfl⟩; simp only [hb1, hb2])
    clear g0 t1 cW
    go_loopw [3, 28] (fun q i wr => ∃ (j : Nat) (x : Int), i = .int .i64 j ∧ q = .int .i64 x ∧ j ≤ L.length ∧ 1 ≤ x ∧ x ≤ 100000 ∧ Hid (idsB next LN = idsL next x ((L.drop j).map Np.n)) ∧ Hid (Below W.heap.size W wr)) (fun _ i _ => L.length - (intOf i).toNat)
    case atStart => exact ⟨0, 1, rfl, rfl, Nat.zero_le _, by omega, by omega, by unfold Hid; rw [HVC.out, List.drop_zero, HLN.out], Below.refl _ _⟩
    case round =>
     obtain ⟨j, x, rfl, rfl, hj, hx1, hx2, HJ, HBJ⟩ := hrel
     have hzr := HBJ.out.size
     have cW := keepC HBJ.out (show w.heap.size < W.heap.size by omega) CW0.out
     have HBW := Hid.intro (bW.trans (HBJ.out.mono (by omega)))
     by_cases hlt : j < L.length
     ·have hc := HCC.out j hlt
      have hst := @idsL_drop L next x j hlt
      generalize L[j] = ej at hc hst
      obtain ⟨g0, g1, g2, g3, g4, g5, g6, g7, g8⟩ := hc.kept HBW.out (by omega)
      have hjl : (j : Int) < (L.length : Int) := by omega
      have i1 : (0 : Int) ≤ (j : Int) ∧ (j : Int) < (L.length : Int) := by omega
      have HST := Hid.intro hst
      clear hst hc
      go_upto_region 7 with fail
      obtain ⟨X, hX, bX, zX, cX, fX⟩ := boxed wr (ndA ej.n ej.v) 64
      simp only [hX]
      have HBX : Hid (Below W.heap.size W X) := HBJ.out.trans (bX.mono hzr)
      replace cW := keepC bX (by omega) cW
      clear hX fX g0 g1 g2 g3 g4 g5 g6 g7 g8 bX
      cases hin : inB ej.n.id x (next - 1) with
      | false =>
       have HFF : Hid (idsB next LN = false) := by unfold Hid; rw [HJ.out, HST.out, hin]; rfl
       go_wp2_with (go_at_call 55; refine (within_any _ _ _ _).mono ?_; rintro e w' ⟨rfl, rfl⟩; simp only [hin])
       go_ret
       exact ⟨ret_bool HFF.out.symm, bW.trans (HBX.out.mono (by omega))⟩
      | true =>
       have hid : x ≤ ej.n.id ∧ ej.n.id ≤ next - 1 := by simpa [inB] using hin
       have hid1 := hid.1
       have hid2 := hid.2
       clear hid
       have HFF : Hid (idsB next LN = idsL next (ej.n.id + 1) ((L.drop (j + 1)).map Np.n)) := by unfold Hid; rw [HJ.out, HST.out, hin]; rfl
       go_wp2_with (go_at_call 55; refine (within_any _ _ _ _).mono ?_; rintro e w' ⟨rfl, rfl⟩; simp only [hin])
       go_roundw
       case rel => exact ⟨j + 1, ej.n.id + 1, by go_num, by go_num, by omega, by omega, by omega, HFF, HBX⟩
       case measure => simp [intOf]; omega
     ·obtain rfl : j = L.length := by omega
      have hj2 := HJ.out
      rw [List.drop_length, List.map_nil, idsL] at hj2
      have HJ2 := Hid.intro hj2
      clear hj2
      go_wp2
      go_ret
      exact ⟨ret_bool HJ2.out.symm, HBW.out⟩
   ·have t1 : (e0.n.id != 1) = true := by simpa using e1
    have HVC : Hid (idsB next LN = false) := by unfold Hid; rw [HVB.out, hhd, decide_eq_false e1]; simp
    clear hhd e1 HVB
    go_wp2_with (go_at_call 55; refine (within_any _ _ _ _).mono ?_; rintro e w' ⟨rfl, rfl⟩; simp only [hb1, hb2])
    go_ret
    exact ⟨ret_bool HVC.out.symm, bW⟩
set_option maxHeartbeats 1000000 in
theorem holdsNone_any (n : Nd) (v : Value) (b o : Nat) (w : World) (hc : NdAt w b o n v) (hr : ∃ a cap, v = .slice a n.names.length cap) :
  Calls Tryz.prog 78 #[.pointer (some ⟨b, o, none⟩)] w fun e w' => e = .returned (.bool (plainB n)) ∧ w = w' := by
 obtain ⟨a, cap, rfl⟩ := hr
 obtain ⟨g0, g1, g2, g3, g4, g5, g6, g7, g8⟩ := hc
 by_cases e1 : n.names.length = 0
 ·have t1 : ((n.names.length : Int) == 0) = true := by simp [e1]
  by_cases e2 : n.maxb = 0
  ·have t2 : (n.maxb == 0) = true := by simp [e2]
   by_cases e3 : n.maxi = 0
   ·have t3 : (n.maxi == 0) = true := by simp [e3]
    have HP : Hid (plainB n = true) := by unfold Hid; simp [plainB, e1, e2, e3]
    clear e1 e2 e3
    go_enter Tryz.func78, Tryz.ntmps78
    go_wp2
    go_ret
    exact ⟨ret_bool HP.out.symm, rfl⟩
   ·have t3 : (n.maxi == 0) = false := by simpa using e3
    have HP : Hid (plainB n = false) := by unfold Hid; simp [plainB, e3]
    clear e1 e2 e3
    go_enter Tryz.func78, Tryz.ntmps78
    go_wp2
    go_ret
    exact ⟨ret_bool HP.out.symm, rfl⟩
  ·have t2 : (n.maxb == 0) = false := by simpa using e2
   have HP : Hid (plainB n = false) := by unfold Hid; simp [plainB, e2]
   clear e1 e2
   go_enter Tryz.func78, Tryz.ntmps78
   go_wp2
   go_ret
   exact ⟨ret_bool HP.out.symm, rfl⟩
 ·have t1 : ((n.names.length : Int) == 0) = false := by rw [beq_eq_false_iff_ne]; omega
  have HP : Hid (plainB n = false) := by unfold Hid; simp [plainB, e1]
  clear e1
  go_enter Tryz.func78, Tryz.ntmps78
  go_wp2
  go_ret
  exact ⟨ret_bool HP.out.symm, rfl⟩
/-- The inode alone is right. -/
def aloneB (n : Nd) : Bool := inB n.mode 0 2047 && inB n.uid 0 1000 && inB n.gid 0 1000 &&
 (if n.kind = 1 then decide (n.data.size ≤ 64) && plainB n
  else if n.kind = 3 then pbB n.data.data.toList && decide (n.mode = 511) && plainB n
  else if n.kind = 2 then (n.data.toList == []) && decide (n.names.length ≤ 12) && inB n.maxb 0 400 && inB n.maxi 0 24
  else false)
theorem nodeB_alone (L : List Nd) (n : Nd) : nodeB L n = (aloneB n && nmsB L none n.names) := by
 unfold nodeB aloneB
 rw [Bool.and_assoc (inB n.mode 0 2047 && inB n.uid 0 1000 && inB n.gid 0 1000)]
 congr 1
 have hp : plainB n = true → nmsB L none n.names = true := fun h => by
  simp only [plainB, Bool.and_eq_true, decide_eq_true_eq] at h
  rw [List.eq_nil_of_length_eq_zero h.1.1]
  rfl
 split
 ·cases h : plainB n with
  | false => simp
  | true => rw [hp h]; simp
 ·split
  ·cases h : plainB n with
   | false => simp
   | true => rw [hp h]; simp
  ·split
   ·rfl
   ·rfl
set_option maxRecDepth 100000 in
set_option maxHeartbeats 4000000 in
theorem inodeOk_any (n : Nd) (v : Value) (b o : Nat) (w : World) (hc : NdAt w b o n v) (hr : ∃ a cap, v = .slice a n.names.length cap) (hz1 : n.data.size ≤ 9223372036854775807) :
  Calls Tryz.prog 64 #[.pointer (some ⟨b, o, none⟩)] w fun e w' => e = .returned (.bool (aloneB n)) ∧ w = w' := by
 have HC := Hid.intro hc
 have HR := Hid.intro hr
 obtain ⟨a, cap, rfl⟩ := hr
 obtain ⟨g0, g1, g2, g3, g4, g5, g6, g7, g8⟩ := hc
 cases hb1 : inB n.mode 0 2047 with
 | false =>
  go_enter Tryz.func64, Tryz.ntmps64
  go_wp2_with (go_at_call 55; refine (within_any _ _ _ _).mono ?_; rintro e w' ⟨rfl, rfl⟩; simp only [hb1])
  go_ret
  exact ⟨ret_bool (by rw [aloneB, hb1]; rfl), rfl⟩
 | true =>
  cases hb2 : inB n.uid 0 1000 with
  | false =>
   go_enter Tryz.func64, Tryz.ntmps64
   go_wp2_with (go_at_call 55; refine (within_any _ _ _ _).mono ?_; rintro e w' ⟨rfl, rfl⟩; simp only [hb1, hb2])
   go_ret
   exact ⟨ret_bool (by rw [aloneB, hb1, hb2]; rfl), rfl⟩
  | true =>
   cases hb3 : inB n.gid 0 1000 with
   | false =>
    go_enter Tryz.func64, Tryz.ntmps64
    go_wp2_with (go_at_call 55; refine (within_any _ _ _ _).mono ?_; rintro e w' ⟨rfl, rfl⟩; simp only [hb1, hb2, hb3])
    go_ret
    exact ⟨ret_bool (by rw [aloneB, hb1, hb2, hb3]; rfl), rfl⟩
   | true =>
    have HB3 : Hid (aloneB n = (if n.kind = 1 then decide (n.data.size ≤ 64) && plainB n else if n.kind = 3 then pbB n.data.data.toList && decide (n.mode = 511) && plainB n else if n.kind = 2 then (n.data.toList == []) && decide (n.names.length ≤ 12) && inB n.maxb 0 400 && inB n.maxi 0 24 else false)) := by unfold Hid; rw [aloneB, hb1, hb2, hb3]; rfl
    go_enter Tryz.func64, Tryz.ntmps64
    go_upto_region 3 with (go_at_call 55; refine (within_any _ _ _ _).mono ?_; rintro e w' ⟨rfl, rfl⟩; simp only [hb1, hb2, hb3])
    by_cases hk1 : n.kind = 1
    ·have k1 : (n.kind == 1) = true := by simpa using hk1
     have HK := HB3.out
     rw [if_pos hk1] at HK
     have HK1 := Hid.intro HK
     clear hk1 HK HB3
     by_cases h64 : (n.data.size : Int) ≤ 64
     ·have HD := Hid.intro (decide_eq_true (show n.data.size ≤ 64 by omega))
      go_wp2_with (go_at_call 78; refine (holdsNone_any n _ b o _ HC.out HR.out).mono ?_; rintro e w' ⟨rfl, rfl⟩)
      go_ret
      exact ⟨ret_bool (by rw [HK1.out, HD.out]; simp), rfl⟩
     ·have HD := Hid.intro (decide_eq_false (show ¬ n.data.size ≤ 64 by omega))
      go_wp2_with fail
      go_ret
      exact ⟨ret_bool (by rw [HK1.out, HD.out]; rfl), rfl⟩
    ·have k1 : (n.kind == 1) = false := by simpa using hk1
     by_cases hk3 : n.kind = 3
     ·have k3 : (n.kind == 3) = true := by simpa using hk3
      have HK := HB3.out
      rw [if_neg hk1, if_pos hk3] at HK
      have HK1 := Hid.intro HK
      clear hk1 hk3 HK HB3
      cases hq : pbB n.data.data.toList with
      | true =>
       by_cases h5 : n.mode = 511
       ·have t5 : (n.mode == 511) = true := by simpa using h5
        have H5 := Hid.intro h5
        clear h5
        go_wp2_with (first | (go_at_call 71; refine (pathBytes_any _ _ hz1).mono ?_; rintro e w' ⟨rfl, rfl⟩; simp only [hq]) | (go_at_call 78; refine (holdsNone_any n _ b o _ HC.out HR.out).mono ?_; rintro e w' ⟨rfl, rfl⟩))
        go_ret
        exact ⟨ret_bool (by rw [HK1.out, hq, H5.out]; simp), rfl⟩
       ·have t5 : (n.mode == 511) = false := by simpa using h5
        have H5 := Hid.intro h5
        clear h5
        go_wp2_with (go_at_call 71; refine (pathBytes_any _ _ hz1).mono ?_; rintro e w' ⟨rfl, rfl⟩; simp only [hq])
        go_ret
        exact ⟨ret_bool (by rw [HK1.out, hq, decide_eq_false H5.out]; rfl), rfl⟩
      | false =>
       go_wp2_with (go_at_call 71; refine (pathBytes_any _ _ hz1).mono ?_; rintro e w' ⟨rfl, rfl⟩; simp only [hq])
       go_ret
       exact ⟨ret_bool (by rw [HK1.out, hq]; rfl), rfl⟩
     ·have k3 : (n.kind == 3) = false := by simpa using hk3
      by_cases hk2 : n.kind = 2
      ·have k2 : (n.kind == 2) = true := by simpa using hk2
       have HK := HB3.out
       rw [if_neg hk1, if_neg hk3, if_pos hk2] at HK
       have HK1 := Hid.intro HK
       clear hk1 hk3 hk2 HK HB3
       cases d1 : (n.data.toList == []) with
       | false =>
        go_wp2_with fail
        go_ret
        exact ⟨ret_bool (by rw [HK1.out, d1]; rfl), rfl⟩
       | true =>
        by_cases d2 : (n.names.length : Int) ≤ 12
        ·have HD := Hid.intro (decide_eq_true (show n.names.length ≤ 12 by omega))
         cases d3 : inB n.maxb 0 400 with
         | false =>
          go_wp2_with (go_at_call 55; refine (within_any _ _ _ _).mono ?_; rintro e w' ⟨rfl, rfl⟩; simp only [d3])
          go_ret
          exact ⟨ret_bool (by rw [HK1.out, d3]; simp), rfl⟩
         | true =>
          cases d4 : inB n.maxi 0 24 with
          | false =>
           go_wp2_with (go_at_call 55; refine (within_any _ _ _ _).mono ?_; rintro e w' ⟨rfl, rfl⟩; simp only [d3, d4])
           go_ret
           exact ⟨ret_bool (by rw [HK1.out, d4]; simp), rfl⟩
          | true =>
           go_wp2_with (go_at_call 55; refine (within_any _ _ _ _).mono ?_; rintro e w' ⟨rfl, rfl⟩; simp only [d3, d4])
           go_ret
           exact ⟨ret_bool (by rw [HK1.out, d1, d3, d4, HD.out]; rfl), rfl⟩
        ·have HD := Hid.intro (decide_eq_false (show ¬ n.names.length ≤ 12 by omega))
         go_wp2_with fail
         go_ret
         exact ⟨ret_bool (by rw [HK1.out, HD.out]; simp), rfl⟩
      ·have k2 : (n.kind == 2) = false := by simpa using hk2
       have HK := HB3.out
       rw [if_neg hk1, if_neg hk3, if_neg hk2] at HK
       have HK1 := Hid.intro HK
       clear hk1 hk3 hk2 HK HB3
       go_wp2_with fail
       go_ret
       exact ⟨ret_bool HK1.out.symm, rfl⟩
end Go.Proofs.YtmkegmndcbpblaaGreatDoor
namespace Go.Proofs.YtmkegmndcbpblaaGreatDoor
open Go.RowKit
set_option linter.unusedVariables false
def allT (L : List Nd) : List Bool := List.replicate L.length true
theorem isT_all {L : List Nd} {x : Nat} : isT (allT L) x ↔ x < L.length := by
 unfold isT allT
 rw [List.getElem?_replicate]
 split <;> simp_all
theorem FS_all (L : List Nd) (id : Int) : FS L (allT L) id = atN L id := by
 unfold FS
 cases h : atN L id with
 | none => rfl
 | some x =>
  simp only [Option.bind_some]
  rw [if_pos (isT_all.2 (atN_lt h))]
/-- The inodes in memory below N, and the map of them all in block tb. -/
structure TC (w : World) (tb b off N : Nat) (L : List Np) : Prop where
 map : TM w tb b off (FS (L.map Np.n) (allT (L.map Np.n))) L.length L.length
 at_ : ∀ j (h : j < L.length), NdAt w b (off + j * 9) L[j].n L[j].v
 nms : ∀ p ∈ L, Row diE w N p.v p.n.names
 bN : b < N
 NT : N ≤ tb
theorem TC.lt {w : World} {tb b off N : Nat} {L : List Np} (h : TC w tb b off N L) : tb < w.heap.size := h.map.lt
theorem TC.kept {w w' : World} {tb b off N M : Nat} {L : List Np} (h : TC w tb b off N L) (hb : Below M w w') (hM : tb < M) : TC w' tb b off N L :=
 ⟨h.map.below hb hM, fun j hj => (h.at_ j hj).kept hb (by have := h.bN; have := h.NT; omega), fun p hp => (h.nms p hp).kept (hb.mono (by have := h.NT; omega)), h.bN, h.NT⟩
theorem TC.look {w : World} {tb b off N : Nat} {L : List Np} (h : TC w tb b off N L) {id : Int} (hw : (Lit.int .i64 id).wf = true) : (Instr.lookup 77 (.map (some tb)) (.int .i64 id) false).run Tryz.prog w = .ok (ptrO b off (atN (L.map Np.n) id)) w := by
 have := h.map.look hw
 rw [FS_all] at this
 exact this
/-- The directory of that number. -/
def dirO (L : List Nd) (id : Int) : Option Nat := (atN L id).bind fun x => if ((L[x]?.map Nd.kind).getD 0) = 2 then some x else none
theorem dirO_none {L : List Nd} {id : Int} (h : atN L id = none) : dirO L id = none := by simp [dirO, h]
theorem dirO_some {L : List Nd} {id : Int} {x : Nat} {n : Nd} (h : atN L id = some x) (hn : L[x]? = some n) : dirO L id = if n.kind = 2 then some x else none := by simp [dirO, h, hn]
theorem map_get {L : List Np} {x : Nat} (h : x < L.length) : (L.map Np.n)[x]? = some L[x].n := by simp [List.getElem?_eq_getElem h]
set_option maxHeartbeats 2000000 in
theorem dir_any (L : List Np) (tb b off N : Nat) (id : Int) (w : World) (h : TC w tb b off N L) (hw : (Lit.int .i64 id).wf = true) :
  Calls Tryz.prog 66 #[.map (some tb), .int .i64 id] w fun e w' => e = .returned (ptrO b off (dirO (L.map Np.n) id)) ∧ w = w' := by
 have hl := h.look hw
 cases ha : atN (L.map Np.n) id with
 | none =>
  rw [ha] at hl
  have HD := Hid.intro (dirO_none ha)
  simp only [ptrO] at hl
  clear h ha
  go_enter Tryz.func66, Tryz.ntmps66
  go_wp2
  go_ret
  exact ⟨by rw [HD.out]; rfl, rfl⟩
 | some x =>
  rw [ha] at hl
  have hx : x < L.length := by have := atN_lt ha; simpa using this
  have hd := dirO_some ha (map_get hx)
  have hc := h.at_ x hx
  generalize L[x] = p at hc hd
  have g1 := hc.c1
  simp only [ptrO] at hl
  clear h ha hc
  by_cases hk : p.n.kind = 2
  ·have k2 : (p.n.kind == 2) = true := by simpa using hk
   rw [if_pos hk] at hd
   have HD := Hid.intro hd
   clear hd hk
   go_enter Tryz.func66, Tryz.ntmps66
   go_wp2
   go_ret
   exact ⟨by rw [HD.out]; rfl, rfl⟩
  ·have k2 : (p.n.kind == 2) = false := by simpa using hk
   rw [if_neg hk] at hd
   have HD := Hid.intro hd
   clear hd hk
   go_enter Tryz.func66, Tryz.ntmps66
   go_wp2
   go_ret
   exact ⟨by rw [HD.out]; rfl, rfl⟩
/-! The order of texts. -/
theorem less_tri : ∀ a b : List UInt8, (Op.bytesLess a b || a == b) = !Op.bytesLess b a
 | [], [] => by simp [Op.bytesLess]
 | [], b :: y => by simp [Op.bytesLess]
 | a :: x, [] => by simp [Op.bytesLess]
 | a :: x, b :: y => by
  have ih := less_tri x y
  simp only [Op.bytesLess]
  by_cases h1 : a < b
  ·have h2 : ¬ b < a := fun h => by rw [UInt8.lt_iff_toNat_lt] at h1 h; omega
   have h3 : ¬ b = a := fun h => by subst h; exact h2 h1
   simp [h1, h2, h3]
  ·by_cases h2 : b < a
   ·have h3 : ¬ b = a := fun h => by subst h; exact h1 h2
    have h4 : ¬ a = b := fun h => h3 h.symm
    simp [h1, h2, h4]
   ·have h3 : a = b := by
     apply UInt8.toNat_inj.1
     rw [UInt8.lt_iff_toNat_lt] at h1 h2
     omega
    subst h3
    simp only [h1, decide_false, Bool.false_or, beq_self_eq_true, Bool.true_and]
    rw [← ih]
    simp
theorem leq_ltS (a b : ByteArray) : (Op.bytesLess a.toList b.toList || a.toList == b.toList) = !ltS b a := less_tri _ _
theorem ltS_empty {a : ByteArray} (h : nameB a.data.toList = true) : ltS ⟨#[]⟩ a = true := by
 have h1 : 1 ≤ a.data.toList.length := by
  simp only [nameB, Bool.and_eq_true, decide_eq_true_eq] at h
  exact h.1.1.1.1
 unfold ltS
 rw [toList_data, toList_data]
 cases hl : a.data.toList with
 | nil => rw [hl] at h1; simp at h1
 | cons c l => rfl
/-- The text ahead of place j. -/
def aheadT (l : List Di) (j : Nat) : ByteArray := (aheadN l j).getD ⟨#[]⟩
theorem ahead_lt {l : List Di} {j : Nat} {a : ByteArray} (h : nameB a.data.toList = true) : ltS (aheadT l j) a = ((aheadN l j).map fun q => ltS q a).getD true := by
 unfold aheadT
 cases aheadN l j with
 | none => exact ltS_empty h
 | some q => rfl
/-- The numbers that names lead to are numbers. -/
def IdW (l : List Di) : Prop := ∀ e ∈ l, (Lit.int .i64 e.id).wf = true
set_option maxRecDepth 100000 in
set_option maxHeartbeats 4000000 in
theorem lead_any (L : List Np) (tb b off N : Nat) (nn : List Di) (v : Value) (w : World) (h : TC w tb b off N L) (hr : Row diE w N v nn) (hi : IdW nn) (hz : ∀ e ∈ nn, e.nm.size ≤ 9223372036854775807) :
  Calls Tryz.prog 65 #[.map (some tb), v] w fun e w' => e = .returned (.bool (nmsB (L.map Np.n) none nn)) ∧ Below w.heap.size w w' := by
 have HT := Hid.intro h
 have HI := Hid.intro hi
 have HZ := Hid.intro hz
 obtain ⟨a2, cap2, rfl, l2, m2, hdc⟩ := diE_cell hr
 have HD := Hid.intro hdc
 obtain ⟨LN, hLN⟩ : ∃ LN, L.map Np.n = LN := ⟨_, rfl⟩
 rw [hLN]
 have HLN := Hid.intro hLN
 have htl := h.lt
 have hbN := h.bN
 have hNT := h.NT
 clear h hr hi hz hdc hLN
 go_enter Tryz.func65, Tryz.ntmps65
 go_wp2_with fail
 go_loopw [5, 10] (fun q i wr => ∃ (j : Nat), i = .int .i64 j ∧ q = .string (aheadT nn j) ∧ j ≤ nn.length ∧ Hid (nmsB LN none nn = nmsB LN (aheadN nn j) (nn.drop j)) ∧ Hid (Below w.heap.size w wr)) (fun _ i _ => nn.length - (intOf i).toNat)
 case atStart => exact ⟨0, rfl, rfl, Nat.zero_le _, rfl, Below.refl _ _⟩
 case round =>
  obtain ⟨j, rfl, rfl, hj, HJ, HB⟩ := hrel
  have hzr := HB.out.size
  by_cases hlt : j < nn.length
  ·obtain ⟨b2, o2, rfl, hb2, hdd⟩ := HD.out (by intro h; rw [h] at hlt; simp at hlt)
   obtain ⟨d0, d1⟩ := hdd j hlt
   have hes := HZ.out _ (List.getElem_mem hlt)
   have hiw := HI.out _ (List.getElem_mem hlt)
   have hst := nmsB_drop (L := LN) hlt
   have hah := aheadN_succ hlt
   generalize nn[j] = e at d0 d1 hst hes hiw hah
   replace d0 := atCell HB.out d0 (by omega)
   replace d1 := atCell HB.out d1 (by omega)
   have hjl : (j : Int) < (nn.length : Int) := by omega
   have i1 : (0 : Int) ≤ (j : Int) ∧ (j : Int) < (nn.length : Int) := by omega
   have HST := Hid.intro hst
   have HES := Hid.intro hes
   have HAT : Hid (aheadT nn (j + 1) = e.nm) := by unfold Hid aheadT; rw [hah]; rfl
   clear hst hes hdd hah
   go_upto_region 5 with fail
   obtain ⟨X, hX, bX, zX, cX, fX⟩ := boxed wr #[.string e.nm, .int .i64 e.id] 85
   simp only [hX]
   have HBX : Hid (Below w.heap.size w X) := HB.out.trans (bX.mono hzr)
   have hlk := (HT.out.kept HBX.out htl).look hiw
   rw [HLN.out] at hlk
   clear hX fX d0 d1 bX
   cases hnm : nameB e.nm.data.toList with
   | false =>
    have HFF : Hid (nmsB LN none nn = false) := by unfold Hid; rw [HJ.out, HST.out, hnm]; rfl
    go_wp2_with (go_at_call 79; refine (implNameOk_any _ _ HES.out).mono ?_; rintro e9 w9 ⟨rfl, rfl⟩; simp only [hnm])
    go_ret
    exact ⟨ret_bool HFF.out.symm, HBX.out⟩
   | true =>
    have hal := @ahead_lt nn j e.nm hnm
    cases hlt2 : ltS (aheadT nn j) e.nm with
    | false =>
     have hle : (Op.bytesLess e.nm.toList (aheadT nn j).toList || e.nm.toList == (aheadT nn j).toList) = true := by rw [leq_ltS, hlt2]; rfl
     have HFF : Hid (nmsB LN none nn = false) := by unfold Hid; rw [HJ.out, HST.out, ← hal, hlt2]; simp
     go_wp2_with (go_at_call 79; refine (implNameOk_any _ _ HES.out).mono ?_; rintro e9 w9 ⟨rfl, rfl⟩; simp only [hnm])
     go_ret
     exact ⟨ret_bool HFF.out.symm, HBX.out⟩
    | true =>
     have hle : (Op.bytesLess e.nm.toList (aheadT nn j).toList || e.nm.toList == (aheadT nn j).toList) = false := by rw [leq_ltS, hlt2]; rfl
     by_cases hi1 : e.id = 1
     ·have hid : (e.id == 1) = true := by simpa using hi1
      have HFF : Hid (nmsB LN none nn = false) := by unfold Hid; rw [HJ.out, HST.out, hi1]; simp
      clear hi1
      go_wp2_with (go_at_call 79; refine (implNameOk_any _ _ HES.out).mono ?_; rintro e9 w9 ⟨rfl, rfl⟩; simp only [hnm])
      go_ret
      exact ⟨ret_bool HFF.out.symm, HBX.out⟩
     ·have hid : (e.id == 1) = false := by simpa using hi1
      cases hax : atN LN e.id with
      | none =>
       have HFF : Hid (nmsB LN none nn = false) := by unfold Hid; rw [HJ.out, HST.out, hax]; simp
       rw [hax] at hlk
       simp only [ptrO] at hlk
       clear hi1
       go_wp2_with (go_at_call 79; refine (implNameOk_any _ _ HES.out).mono ?_; rintro e9 w9 ⟨rfl, rfl⟩; simp only [hnm])
       go_ret
       exact ⟨ret_bool HFF.out.symm, HBX.out⟩
      | some x =>
       have HFF : Hid (nmsB LN none nn = nmsB LN (aheadN nn (j + 1)) (nn.drop (j + 1))) := by unfold Hid; rw [HJ.out, HST.out, ← hal, hlt2, hnm, hax, decide_eq_false hi1]; rfl
       rw [hax] at hlk
       simp only [ptrO] at hlk
       clear hi1
       go_wp2_with (go_at_call 79; refine (implNameOk_any _ _ HES.out).mono ?_; rintro e9 w9 ⟨rfl, rfl⟩; simp only [hnm])
       go_roundw
       case rel => exact ⟨j + 1, by go_num, by rw [HAT.out], by omega, HFF, HBX⟩
       case measure => simp [intOf]; omega
  ·obtain rfl : j = nn.length := by omega
   have hj2 := HJ.out
   rw [List.drop_length, nmsB] at hj2
   have HJ2 := Hid.intro hj2
   clear hj2
   go_wp2
   go_ret
   exact ⟨ret_bool HJ2.out.symm, HB.out⟩
end Go.Proofs.YtmkegmndcbpblaaGreatDoor
namespace Go.Proofs.YtmkegmndcbpblaaGreatDoor
open Go.RowKit
set_option linter.unusedVariables false
/-- So far, of the first names of i: s was there, t is there. -/
structure LookI (L : List Nd) (i : Nat) (nn : List Di) (s t : List Bool) : Prop where
 len : t.length = s.length
 sub : ∀ x, isT s x → isT t x
 sound : ∀ x, isT t x → isT s x ∨ Reach L i x
 kids : ∀ e ∈ nn, ∀ x, atN L e.id = some x → isT t x
 shut : ∀ x, isT t x → ¬ isT s x → ∀ y, Edge L x y → isT t y
theorem LookI.start (L : List Nd) (i : Nat) (s : List Bool) : LookI L i [] s s := ⟨rfl, fun _ h => h, fun _ h => .inl h, fun e he => (by cases he), fun x h1 h2 => absurd h1 h2⟩
theorem LookI.there {L : List Nd} {i x : Nat} {nn : List Di} {s t : List Bool} {e : Di} (h : LookI L i nn s t) (hx : atN L e.id = some x) (ht : isT t x) : LookI L i (nn ++ [e]) s t :=
 ⟨h.len, h.sub, h.sound, fun d hd y hy => by
  rcases List.mem_append.1 hd with hd | hd
  ·exact h.kids d hd y hy
  ·rw [List.mem_singleton.1 hd, hx] at hy
   cases hy
   exact ht, h.shut⟩
theorem LookI.more {L : List Nd} {i x : Nat} {n : Nd} {nn : List Di} {s t u : List Bool} {e : Di} (h : LookI L i nn s t) (hi : L[i]? = some n) (he : e ∈ n.names) (hx : atN L e.id = some x) (hl : x < t.length) (hu : u.length = t.length) (k : Looked L x (isT (t.set x true)) (isT u)) : LookI L i (nn ++ [e]) s u := by
 have hE : Edge L i x := ⟨n, e, hi, he, hx⟩
 have hsx : isT (t.set x true) x := isT_set.2 (.inl ⟨rfl, hl⟩)
 have hst : ∀ y, isT t y → isT u y := fun y hy => k.sub y (isT_set.2 (.inr hy))
 refine ⟨hu.trans h.len, fun y hy => hst y (h.sub y hy), fun y hy => ?_, fun d hd y hy => ?_, fun y hy hny z hz => ?_⟩
 ·rcases k.sound y hy with hy | hy
  ·rcases isT_set.1 hy with ⟨rfl, _⟩ | hy
   ·exact .inr (.one hE)
   ·exact h.sound y hy
  ·exact .inr ((Reach.one hE).trans hy)
 ·rcases List.mem_append.1 hd with hd | hd
  ·exact hst y (h.kids d hd y hy)
  ·rw [List.mem_singleton.1 hd, hx] at hy
   cases hy
   exact k.sub _ hsx
 ·by_cases h1 : isT (t.set x true) y
  ·rcases isT_set.1 h1 with ⟨rfl, _⟩ | h2
   ·exact k.kids z hz
   ·exact hst z (h.shut y h2 hny z hz)
  ·exact k.shut y hy h1 z hz
theorem LookI.looked {L : List Nd} {i : Nat} {n : Nd} {s t : List Bool} (h : LookI L i n.names s t) (hi : L[i]? = some n) : Looked L i (isT s) (isT t) :=
 ⟨h.sub, h.sound, fun x hx => by
  obtain ⟨m, e, hm, he, hx⟩ := hx
  rw [hi] at hm
  cases hm
  exact h.kids e he x hx, h.shut⟩
theorem count_sub {s t : List Bool} (h : Sub s t) : s.count true ≤ t.count true := by
 by_cases e : t = s
 ·rw [e]; exact Nat.le_refl _
 ·exact Nat.le_of_lt (count_lt h e)
/-- All names lead somewhere. -/
def Leads (L : List Np) : Prop := ∀ p ∈ L, ∀ e ∈ p.n.names, (Lit.int .i64 e.id).wf = true ∧ ∃ x, atN (L.map Np.n) e.id = some x
theorem NdAt.only {w w' : World} {b o : Nat} {S : Nat → Prop} {n : Nd} {v : Value} (h : NdAt w b o n v) (hb : Only S w w') (hl : b < w.heap.size) (hS : ¬ S b) : NdAt w' b o n v :=
 ⟨(hb.cell hl hS).trans h.c0, (hb.cell hl hS).trans h.c1, (hb.cell hl hS).trans h.c2, (hb.cell hl hS).trans h.c3, (hb.cell hl hS).trans h.c4, (hb.cell hl hS).trans h.c5, (hb.cell hl hS).trans h.c6, (hb.cell hl hS).trans h.c7, (hb.cell hl hS).trans h.c8⟩
/-- What stands while it is looked: the tree, the boxes of the three variables, the map of what was found. -/
structure LkC (w : World) (tb b off N : Nat) (L : List Np) (tx fb lb mb : Nat) (s : List Bool) : Prop where
 tc : TC w tb b off N L
 ct : w.cell? ⟨tx, 0, none⟩ = some (.map (some tb))
 cf : w.cell? ⟨fb, 0, none⟩ = some (.map (some mb))
 cl : w.cell? ⟨lb, 0, none⟩ = some (.func (.func 80) #[] #[.pointer (some ⟨fb, 0, none⟩), .pointer (some ⟨tx, 0, none⟩), .pointer (some ⟨lb, 0, none⟩)])
 mp : TM w mb b off (FS (L.map Np.n) s) (s.count true) (s.count true)
 len : s.length = L.length
 t1 : tb < mb
 t2 : tx ≠ mb
 t3 : fb ≠ mb
 t4 : lb ≠ mb
 t5 : tx < w.heap.size
 t6 : fb < w.heap.size
 t7 : lb < w.heap.size
theorem LkC.only {w w' : World} {tb b off N tx fb lb mb : Nat} {L : List Np} {s t : List Bool} (h : LkC w tb b off N L tx fb lb mb s) (hb : Only (fun k => k = mb) w w') (hm : TM w' mb b off (FS (L.map Np.n) t) (t.count true) (t.count true)) (hl : t.length = L.length) : LkC w' tb b off N L tx fb lb mb t :=
 ⟨h.tc.kept (hb.below (Nat.le_of_lt h.mp.lt) (fun k hk e => by omega)) h.t1, (hb.cell h.t5 h.t2).trans h.ct, (hb.cell h.t6 h.t3).trans h.cf, (hb.cell h.t7 h.t4).trans h.cl, hm, hl, h.t1, h.t2, h.t3, h.t4, Nat.lt_of_lt_of_le h.t5 hb.size, Nat.lt_of_lt_of_le h.t6 hb.size, Nat.lt_of_lt_of_le h.t7 hb.size⟩
theorem LkC.kept {w w' : World} {tb b off N tx fb lb mb : Nat} {L : List Np} {s : List Bool} (h : LkC w tb b off N L tx fb lb mb s) (hb : Below w.heap.size w w') : LkC w' tb b off N L tx fb lb mb s :=
 h.only ((Below.any hb)) (h.mp.below hb h.mp.lt) h.len
set_option maxRecDepth 100000 in
set_option maxHeartbeats 4000000 in
theorem look_any (L : List Np) (tb b off N tx fb lb mb : Nat) (hI : IdsD (L.map Np.n)) (hLd : Leads L) (hn : L.length ≤ 24) (m : Nat) : ∀ (i : Nat) (hi : i < L.length) (s : List Bool) (w : World), LkC w tb b off N L tx fb lb mb s → L.length - s.count true < m →
  Calls Tryz.prog 80 #[ptrJ b off i, .pointer (some ⟨fb, 0, none⟩), .pointer (some ⟨tx, 0, none⟩), .pointer (some ⟨lb, 0, none⟩)] w fun e w' => ∃ t, e = .returned (.tuple #[]) ∧ LkC w' tb b off N L tx fb lb mb t ∧ Looked (L.map Np.n) i (isT s) (isT t) ∧ Only (fun k => k = mb) w w' := by
 induction m with
 | zero => intro i hi s w _ h; omega
 | succ m ih =>
  intro i hi s w h hm
  have HK := Hid.intro h
  have HI := Hid.intro hI
  have HIH := Hid.intro ih
  have hmem := List.getElem_mem hi
  have HLD := Hid.intro (hLd _ hmem)
  have hc := h.tc.at_ i hi
  have hrow := h.tc.nms _ hmem
  have hget := map_get hi
  generalize L[i] = p at hc hrow hget HLD
  obtain ⟨a2, cap2, hv2, l2, m2, hdc⟩ := diE_cell hrow
  have g6 := hc.c6
  rw [hv2] at g6
  have HD := Hid.intro hdc
  have HG := Hid.intro hget
  have hbN := h.tc.bN
  have hNT := h.tc.NT
  have htl := h.tc.lt
  clear h ih hc hrow hget hdc hv2 hI hLd hmem
  obtain ⟨nn, hnn⟩ : ∃ nn, p.n.names = nn := ⟨_, rfl⟩
  rw [hnn] at HD l2 g6 HLD
  have HNN := Hid.intro hnn
  clear hnn
  go_enter Tryz.func80, Tryz.ntmps80
  go_wp2_with fail
  clear g6
  go_loopw [12] (fun q wr => ∃ (j : Nat) (t : List Bool), q = .int .i64 j ∧ j ≤ nn.length ∧ Hid (LookI (L.map Np.n) i (nn.take j) s t) ∧ Hid (LkC wr tb b off N L tx fb lb mb t) ∧ Hid (Only (fun k => k = mb) w wr)) (fun q _ => nn.length - (intOf q).toNat)
  case atStart => exact ⟨0, s, rfl, Nat.zero_le _, LookI.start _ _ _, HK, Only.refl _ _⟩
  case round =>
   obtain ⟨j, t, rfl, hj, HL, HT, HO⟩ := hrel
   by_cases hlt : j < nn.length
   ·obtain ⟨b2, o2, rfl, hb2, hdd⟩ := HD.out (by intro h; rw [h] at hlt; simp at hlt)
    obtain ⟨d0, d1⟩ := hdd j hlt
    have hld := HLD.out _ (List.getElem_mem hlt)
    have htk : nn.take (j + 1) = nn.take j ++ [nn[j]] := List.take_succ_eq_append_getElem hlt
    have hmn : nn[j] ∈ nn := List.getElem_mem hlt
    generalize nn[j] = e at d0 d1 hld htk hmn
    obtain ⟨hwf, x, hx⟩ := hld
    have hbel : Below mb w wr := HO.out.below (Nat.le_of_lt HK.out.mp.lt) (fun k hk e => by omega)
    have ht1 := HK.out.t1
    have e0 := atCell hbel d0 (by omega)
    have e1 := atCell hbel d1 (by omega)
    have hjl : (j : Int) < (nn.length : Int) := by omega
    have i1 : (0 : Int) ≤ (j : Int) ∧ (j : Int) < (nn.length : Int) := by omega
    have HTK := Hid.intro htk
    have HMN := Hid.intro hmn
    have HX := Hid.intro hx
    clear hdd d0 d1 htk hmn hbel
    go_upto_region 3 with fail
    obtain ⟨X, hX, bX, zX, cX, fX⟩ := boxed wr #[.string e.nm, .int .i64 e.id] 85
    simp only [hX]
    have HTX := Hid.intro (HT.out.kept bX)
    have HOX := Hid.intro (HO.out.trans (Below.any bX))
    have cf := HTX.out.cf
    have ct := HTX.out.ct
    have cl := HTX.out.cl
    have hlk := HTX.out.mp.look hwf
    have hlt := HTX.out.tc.look hwf
    have hxl : x < L.length := by have := atN_lt hx; simpa using this
    clear hX fX e0 e1 bX
    by_cases ht : isT t x
    ·have hF : FS (L.map Np.n) t e.id = some x := FS_some.2 ⟨hx, ht⟩
     rw [hF] at hlk
     simp only [ptrO] at hlk
     have HNX : Hid (LookI (L.map Np.n) i (nn.take (j + 1)) s t) := by unfold Hid; rw [HTK.out]; exact HL.out.there HX.out ht
     clear hF hx ht hlt
     go_wp2_with fail
     go_roundw
     case rel => exact ⟨j + 1, t, by go_num, by omega, HNX, HTX, HOX⟩
     case measure => simp [intOf]; omega
    ·have hF : FS (L.map Np.n) t e.id = none := by
      cases h : FS (L.map Np.n) t e.id with
      | none => rfl
      | some y =>
       have := FS_some.1 h
       rw [hx] at this
       cases this.1
       exact absurd this.2 ht
     rw [hF] at hlk
     rw [hx] at hlt
     simp only [ptrO] at hlk hlt
     have hxn : x < (L.map Np.n).length := atN_lt hx
     have hid : (L.map Np.n)[x].id = e.id := (atN_some.1 hx).2.1
     have htl2 : x < t.length := by rw [HTX.out.len]; exact hxl
     have hct := List.count_le_length (a := true) (l := t.set x true)
     rw [count_set htl2 ht, List.length_set, HTX.out.len] at hct
     have hcs := count_sub (s := s) (t := t) ⟨HL.out.len.symm, HL.out.sub⟩
     obtain ⟨Y, hY, hTM, hOY⟩ := HTX.out.mp.put (j := x) (by unfold maxLen; omega) hwf (by rw [hF]; rfl)
     have hTY : LkC Y tb b off N L tx fb lb mb (t.set x true) := by
      refine HTX.out.only hOY ?_ (by rw [List.length_set]; exact HTX.out.len)
      rw [count_set htl2 ht, ← FS_set HI.out hxn (by rw [HTX.out.len]; simp), hid]
      exact hTM
     have HTY := Hid.intro hTY
     have HOY := Hid.intro (HOX.out.trans hOY)
     have ct2 := hTY.ct
     have cl2 := hTY.cl
     have hlt2 := hTY.tc.look hwf
     rw [hx] at hlt2
     simp only [ptrO] at hlt2
     have hzX : wr.heap.size < X.heap.size := by omega
     have hmbw : mb < wr.heap.size := HT.out.mp.lt
     have cX2 : ∀ o, Y.cell? ⟨wr.heap.size, o, none⟩ = #[.string e.nm, .int .i64 e.id][o]? := fun o => (hOY.cell hzX (by omega)).trans (cX o)
     have hbd : L.length - (t.set x true).count true < m := by rw [count_set htl2 ht]; omega
     have HBD := Hid.intro hbd
     have HHT := Hid.intro ht
     have HTL := Hid.intro htl2
     clear hF hx ht hTM hOY hTY hid hxn hct hcs hbd htl2
     go_wp2_with fail
     refine (HIH.out x hxl (t.set x true) Y HTY.out HBD.out).mono ?_
     rintro e9 w3 ⟨t3, rfl, l3, k3, q3⟩
     have HNX : Hid (LookI (L.map Np.n) i (nn.take (j + 1)) s t3) := by
      unfold Hid
      rw [HTK.out]
      exact HL.out.more HG.out (by rw [HNN.out]; exact HMN.out) HX.out HTL.out (by rw [l3.len, HTX.out.len]) k3
     have HL3 := Hid.intro l3
     have HO3 := Hid.intro (HOY.out.trans q3)
     clear l3 k3 q3 hY hlk hlt hlt2 cf ct cl ct2 cl2 cX cX2
     go_wp2_with fail
     go_roundw
     case rel => exact ⟨j + 1, t3, by go_num, by omega, HNX, HL3, HO3⟩
     case measure => simp [intOf]; omega
   ·obtain rfl : j = nn.length := by omega
    have HLK : Hid (Looked (L.map Np.n) i (isT s) (isT t)) := by
     have h1 := HL.out
     rw [List.take_length, ← HNN.out] at h1
     exact h1.looked HG.out
    go_wp2
    go_end0
    exact ⟨t, rfl, HT.out, HLK.out, HO.out⟩
set_option maxRecDepth 100000 in
set_option maxHeartbeats 4000000 in
theorem below_any (L : List Np) (tb b off N : Nat) (hI : IdsD (L.map Np.n)) (hLd : Leads L) (hn : L.length ≤ 24) (i : Nat) (hi : i < L.length) (w : World) (h : TC w tb b off N L) :
  Calls Tryz.prog 68 #[.map (some tb), ptrJ b off i] w fun e w' => ∃ mb, e = .returned (.map (some mb)) ∧ w.heap.size ≤ mb ∧ TM w' mb b off (FS (L.map Np.n) (belowB (L.map Np.n) i)) ((belowB (L.map Np.n) i).count true) ((belowB (L.map Np.n) i).count true) ∧ Below w.heap.size w w' := by
 have HT := Hid.intro h
 have htl := h.lt
 clear h
 go_enter Tryz.func68, Tryz.ntmps68
 have hmm := @run_makeMap Tryz.prog
 go_wp2_with fail
 obtain ⟨W1, hW1, b1, z1, c1, f1⟩ := boxed w #[.map (some tb)] 77
 simp only [hW1]
 have hT2 := TM.made W1 b off
 have b2 := (Below.refl W1.heap.size W1).alloc (Nat.le_refl _) (.map #[] 0)
 have z2 : (W1.alloc (.map #[] 0)).heap.size = W1.heap.size + 1 := by simp
 generalize W1.alloc (.map #[] 0) = W2 at hT2 b2 z2 ⊢
 obtain ⟨W3, hW3, b3, z3, c3, f3⟩ := boxed W2 #[.map (some (w.heap.size + 1))] 77
 simp only [hW3]
 obtain ⟨W4, hW4, b4, z4, c4, f4⟩ := boxed W3 #[.func (.func 80) #[] #[.pointer (some ⟨w.heap.size + 1 + 1, 0, none⟩), .pointer (some ⟨w.heap.size, 0, none⟩), .pointer (some ⟨w.heap.size + 1 + 1 + 1, 0, none⟩)]] 127
 simp only [hW4]
 have B4 : Below w.heap.size w W4 := b1.trans ((b2.mono (by omega)).trans ((b3.mono (by omega)).trans (b4.mono (by omega))))
 have e1 : W1.heap.size = w.heap.size + 1 := z1
 have e2 : W2.heap.size = w.heap.size + 1 + 1 := by omega
 have e3 : W3.heap.size = w.heap.size + 1 + 1 + 1 := by omega
 rw [e1] at hT2
 rw [e2] at c3
 rw [e3] at c4
 have hs0 : ∀ x, ¬ isT (List.replicate L.length false) x := fun x h => by
  unfold isT at h
  rw [List.getElem?_replicate] at h
  split at h <;> simp at h
 have hcnt : (List.replicate L.length false).count true = 0 := by simp [List.count_replicate]
 have hFS : FS (L.map Np.n) (List.replicate L.length false) = fun _ => none := by
  funext id
  cases h : FS (L.map Np.n) (List.replicate L.length false) id with
  | none => rfl
  | some y => exact absurd (FS_some.1 h).2 (hs0 y)
 have HLK : Hid (LkC W4 tb b off N L w.heap.size (w.heap.size + 1 + 1) (w.heap.size + 1 + 1 + 1) (w.heap.size + 1) (List.replicate L.length false)) := by
  refine ⟨HT.out.kept B4 htl, ?_, ?_, ?_, ?_, by simp, by omega, by omega, by omega, by omega, by omega, by omega, by omega⟩
  ·have := keepC (b2.trans ((b3.mono (by omega)).trans (b4.mono (by omega)))) (by omega) c1 0
   exact this
  ·exact keepC b4 (by omega) c3 0
  ·exact c4 0
  ·rw [hcnt, hFS]
   exact (hT2.below b3 (by omega)).below b4 (by omega)
 have HB4 := Hid.intro B4
 have z5 : W4.heap.size = w.heap.size + 1 + 1 + 1 + 1 := by omega
 have HLO := Hid.intro (look_any L tb b off N w.heap.size (w.heap.size + 1 + 1) (w.heap.size + 1 + 1 + 1) (w.heap.size + 1) hI hLd hn (L.length + 1) i hi _ W4 HLK.out (by omega))
 clear hW1 hW3 hW4 b1 b2 b3 b4 c1 c3 c4 f1 f3 f4 hT2 B4 e1 e2 e3 z1 z2 z3 z4
 refine HLO.out.mono ?_
 rintro e w5 ⟨t, rfl, l5, k5, q5⟩
 have hF : isT (List.replicate L.length false) = fun _ => False := by
  funext x
  exact propext ⟨hs0 x, fun h => h.elim⟩
 rw [hF] at k5
 have ht : t = belowB (L.map Np.n) i := by
  have hl : t.length = (belowB (L.map Np.n) i).length := by rw [l5.len, belowB_len]; simp
  exact Sub.anti ⟨hl, fun x hx => (belowB_iff _ _ _).2 ((k5.all x).1 hx)⟩ ⟨hl.symm, fun x hx => (k5.all x).2 ((belowB_iff _ _ _).1 hx)⟩
 subst ht
 have HM := Hid.intro l5.mp
 have cf := l5.cf
 have HB5 : Hid (Below w.heap.size w w5) := HB4.out.trans (q5.below (by omega) (fun k hk e => by omega))
 clear l5 k5 q5 hF hs0 hcnt hFS HLK HLO hmm
 go_wp2_with fail
 go_ret
 exact ⟨_, rfl, by omega, HM.out, HB5.out⟩
end Go.Proofs.YtmkegmndcbpblaaGreatDoor
namespace Go.Proofs.YtmkegmndcbpblaaGreatDoor
open Go.RowKit
set_option linter.unusedVariables false
theorem usB_set {L : List Nd} : ∀ {v : List Bool} {x : Nat}, L.length = v.length → (hx : x < L.length) → ¬ isT v x → usB L (v.set x true) = usB L v + L[x].data.size := by
 induction L with
 | nil => intro v x _ hx; simp at hx
 | cons n L ih =>
  intro v x hl hx hn
  cases v with
  | nil => simp at hl
  | cons a v =>
   cases x with
   | zero =>
    have ha : a = false := by
     cases a with
     | false => rfl
     | true => exact absurd rfl hn
    subst ha
    simp [usB]; omega
   | succ x =>
    have h1 := ih (v := v) (x := x) (by simpa using hl) (by simpa using hx) (by simpa [isT] using hn)
    simp only [usB, List.set_cons_succ, List.zip_cons_cons, List.map_cons, List.sum_cons, List.getElem_cons_succ] at h1 ⊢
    rw [h1]; omega
theorem usB_le {L : List Nd} (k : Nat) : ∀ {v : List Bool}, (∀ n ∈ L, n.data.size ≤ k) → 0 ≤ usB L v ∧ usB L v ≤ L.length * (k : Int) := by
 induction L with
 | nil => intro v _; simp [usB]
 | cons n L ih =>
  intro v h
  cases v with
  | nil =>
   have : usB (n :: L) [] = 0 := by simp [usB]
   rw [this]
   exact ⟨Int.le_refl _, Int.mul_nonneg (by omega) (by omega)⟩
  | cons a v =>
   have h1 := ih (v := v) fun m hm => h m (List.mem_cons_of_mem _ hm)
   have h2 := h n (by simp)
   have e : ((L.length + 1 : Nat) : Int) * (k : Int) = L.length * (k : Int) + k := by rw [Int.natCast_add, Int.add_mul]; simp
   have e2 : usB (n :: L) (a :: v) = (if a = true then (n.data.size : Int) else 0) + usB L v := by simp [usB]
   rw [e2, List.length_cons, e]
   split <;> omega
theorem usB_zero (L : List Nd) : usB L (List.replicate L.length false) = 0 := by
 induction L with
 | nil => simp [usB]
 | cons n L ih =>
  simp only [usB, List.length_cons, List.replicate_succ, List.zip_cons_cons, List.map_cons, List.sum_cons] at ih ⊢
  rw [ih]; simp
set_option maxRecDepth 100000 in
set_option maxHeartbeats 4000000 in
theorem used_any (L : List Np) (tb b off N : Nat) (hI : IdsD (L.map Np.n)) (hLd : Leads L) (hn : L.length ≤ 24) (h64 : ∀ p ∈ L, p.n.data.size ≤ 64) (i : Nat) (hi : i < L.length) (w : World) (h : TC w tb b off N L) :
  Calls Tryz.prog 69 #[.map (some tb), ptrJ b off i] w fun e w' => e = .returned (.tuple #[.int .i64 (usB (L.map Np.n) (belowB (L.map Np.n) i)), .int .i64 (usI (belowB (L.map Np.n) i))]) ∧ Below w.heap.size w w' := by
 have HT := Hid.intro h
 have HI := Hid.intro hI
 have H64 : Hid (∀ n ∈ L.map Np.n, n.data.size ≤ 64) := fun n hn => by
  obtain ⟨p, hp, rfl⟩ := List.mem_map.1 hn
  exact h64 p hp
 have htl := h.lt
 have hbN := h.bN
 have hNT := h.NT
 go_enter Tryz.func69, Tryz.ntmps69
 go_upto_region 2 with (go_at_call 68; refine (below_any L tb b off N hI hLd hn i hi w h).mono ?_; rintro e w1 ⟨mb, rfl, hmb, hM, b1⟩; have HM := Hid.intro hM; have HB1 := Hid.intro b1; clear hM b1)
 have hsl : (belowB (L.map Np.n) i).length = L.length := by rw [belowB_len]; simp
 obtain ⟨s, hs⟩ : ∃ s, belowB (L.map Np.n) i = s := ⟨_, rfl⟩
 rw [hs] at HM hsl
 have HSS := Hid.intro hs
 obtain ⟨LN, hLN⟩ : ∃ LN, L.map Np.n = LN := ⟨_, rfl⟩
 rw [hLN] at HM HI H64
 have HLN := Hid.intro hLN
 have HSS' : Hid (belowB LN i = s) := by unfold Hid; rw [← hLN]; exact HSS.out
 have HLEN : Hid (LN.length = L.length) := by unfold Hid; rw [← hLN]; simp
 have hml := HM.out.lt
 have HA := Hid.intro (HT.out.kept HB1.out htl).at_
 have hz1 := HB1.out.size
 clear hs hLN hLd hI h HT h64
 go_wp2_with (at_range; refine wpList_range_tree rfl _ rfl HI.out rfl HM.out ?_; intro w2 hTR hB2 hz2; have HTR := Hid.intro hTR; have HB2 := Hid.intro hB2; clear hTR hB2)
 go_frame
 go_loopw [7] (fun q wr => ∃ (x : Int) (v : List Bool) (cnt : Nat), q = .int .i64 x ∧ Hid (x = usB LN v) ∧ Hid (v.length = LN.length) ∧ Hid (∀ y, isT v y → isT s y) ∧ Hid (TR wr mb w1.heap.size b off LN s v (s.count true) cnt) ∧ Hid (Below w1.heap.size w1 wr)) (fun _ wr => wr.rangeLeft mb w1.heap.size)
 case atStart =>
  exact ⟨0, List.replicate LN.length false, _, rfl, (usB_zero LN).symm, by unfold Hid; simp, fun y hy => by unfold isT at hy; rw [List.getElem?_replicate] at hy; split at hy <;> simp at hy, HTR, HB2⟩
 case round =>
  obtain ⟨x, v, cnt, rfl, HX, HV, HS, HR, HB⟩ := hrel
  have hx := usB_le 64 (v := v) H64.out
  rw [← HX.out, HLEN.out] at hx
  have hx0 := hx.1
  have hx1 := hx.2
  clear hx
  go_wp2_with (at_next; refine wpList_next_tree rfl _ rfl HI.out HV.out rfl HR.out ?_ ?_)
  ·intro hall
   have hvs : v = s := Sub.anti ⟨by rw [HV.out, hsl, HLEN.out], HS.out⟩ ⟨by rw [HV.out, hsl, HLEN.out], fun y hy => hall y (by rw [HLEN.out, ← hsl]; exact (List.getElem?_eq_some_iff.1 hy).1) hy⟩
   have HXS : Hid (x = usB LN s) := by unfold Hid; rw [HX.out, hvs]
   have hl := HR.out.tm.len
   have HBE := Hid.intro (HB1.out.trans (HB.out.mono hz1))
   clear hall hvs HV HS HX
   go_wp2_with fail
   go_ret2
   exact ⟨by rw [HLN.out, HSS'.out, ← HXS.out]; rfl, HBE.out⟩
  ·intro y hy w3 cnt3 hsy hny hTR hlt hO hsz hen
   have hyl : y < L.length := by rw [← HLEN.out]; exact hy
   have hb3 : Below w1.heap.size w1 w3 := HB.out.trans (hO.below HB.out.size (fun k hk e => by omega))
   have hc := (HA.out y hyl).kept hb3 (by omega)
   have hLy : LN[y] = L[y].n := by
    have := map_get hyl
    rw [HLN.out, List.getElem?_eq_getElem hy] at this
    exact Option.some.inj this
   have hus := usB_set (v := v) HV.out.symm hy hny
   have h64y := H64.out _ (List.getElem_mem hy)
   rw [hLy] at hus hen h64y ⊢
   generalize L[y] = p at hc hus hen h64y
   have g5 := hc.c5
   have HUS := Hid.intro hus
   have HR3 := Hid.intro hTR
   have HB3 := Hid.intro hb3
   have HV3 : Hid ((v.set y true).length = LN.length) := by unfold Hid; rw [List.length_set]; exact HV.out
   have HS3 : Hid (∀ z, isT (v.set y true) z → isT s z) := fun z hz => by
    rcases isT_set.1 hz with ⟨rfl, _⟩ | hz
    ·exact hsy
    ·exact HS.out z hz
   have HLT : Hid (w3.rangeLeft mb w1.heap.size < wr.rangeLeft mb w1.heap.size) := by unfold Hid; rw [hTR.left, HR.out.left]; exact hlt
   clear hus hTR hb3 hO hsz hc hny hsy hlt hLy
   go_wp2_with fail
   go_roundw
   case rel => exact ⟨x + p.n.data.size, v.set y true, cnt3, by go_num, by unfold Hid; rw [HUS.out, HX.out], HV3, HS3, HR3, HB3⟩
   case measure => exact HLT.out
end Go.Proofs.YtmkegmndcbpblaaGreatDoor
namespace Go.Proofs.YtmkegmndcbpblaaGreatDoor
open Go.RowKit
set_option linter.unusedVariables false
/-- More than it may have is below the inode at place i. -/
def ovI (L : List Nd) (i : Nat) (n : Nd) : Bool := (decide (0 < n.maxb) && decide (n.maxb < usB L (belowB L i))) || (decide (0 < n.maxi) && decide (n.maxi < usI (belowB L i)))
set_option maxRecDepth 100000 in
set_option maxHeartbeats 4000000 in
theorem over_any (L : List Np) (tb b off N : Nat) (hI : IdsD (L.map Np.n)) (hLd : Leads L) (hn : L.length ≤ 24) (h64 : ∀ p ∈ L, p.n.data.size ≤ 64) (i : Nat) (hi : i < L.length) (w : World) (h : TC w tb b off N L) :
  Calls Tryz.prog 70 #[.map (some tb), ptrJ b off i] w fun e w' => e = .returned (.bool (ovI (L.map Np.n) i L[i].n)) ∧ Below w.heap.size w w' := by
 have hc := h.at_ i hi
 have hus := used_any L tb b off N hI hLd hn h64 i hi w h
 generalize L[i] = p at hc
 have g7 := hc.c7
 have g8 := hc.c8
 have hbl : b < w.heap.size := by have := h.bN; have := h.NT; have := h.lt; omega
 have HOV : Hid (ovI (L.map Np.n) i p.n = ((decide (0 < p.n.maxb) && decide (p.n.maxb < usB (L.map Np.n) (belowB (L.map Np.n) i))) || (decide (0 < p.n.maxi) && decide (p.n.maxi < usI (belowB (L.map Np.n) i))))) := rfl
 have HUS := Hid.intro hus
 have HC := Hid.intro hc
 clear hus hI hLd h64 h hc
 by_cases hz : p.n.maxb = 0 ∧ p.n.maxi = 0
 ·have q1 : (p.n.maxb == 0) = true := by simp [hz.1]
  have q2 : (p.n.maxi == 0) = true := by simp [hz.2]
  have HE : Hid (ovI (L.map Np.n) i p.n = false) := by unfold Hid; rw [HOV.out, hz.1, hz.2]; simp
  clear hz
  go_enter Tryz.func70, Tryz.ntmps70
  go_wp2_with fail
  go_ret
  exact ⟨ret_bool HE.out.symm, Below.refl _ _⟩
 ·have hq : ((p.n.maxb == 0) = false) ∨ ((p.n.maxb == 0) = true ∧ (p.n.maxi == 0) = false) := by
   by_cases h0 : p.n.maxb = 0
   ·exact .inr ⟨by simp [h0], by have : ¬ p.n.maxi = 0 := fun h => hz ⟨h0, h⟩; simpa using this⟩
   ·exact .inl (by simpa using h0)
  clear hz
  rcases hq with q1 | ⟨q1, q2⟩
  all_goals
   go_enter Tryz.func70, Tryz.ntmps70
   go_wp2_with fail
   refine HUS.out.mono ?_
   rintro e w2 ⟨rfl, b2⟩
   obtain ⟨-, -, -, -, -, -, -, k7, k8⟩ := HC.out.kept b2 hbl
   generalize usB (L.map Np.n) (belowB (L.map Np.n) i) = ub at HOV
   generalize usI (belowB (L.map Np.n) i) = ui at HOV
   have HB2 := Hid.intro b2
   clear b2 g7 g8
   by_cases p1 : 0 < p.n.maxb
   ·by_cases p2 : p.n.maxb < ub
    ·go_wp2_with fail
     go_ret
     exact ⟨ret_bool (by rw [HOV.out, Bool.eq_iff_iff]; simp <;> omega), HB2.out⟩
    ·by_cases p3 : 0 < p.n.maxi
     ·by_cases p4 : p.n.maxi < ui
      ·go_wp2_with fail
       go_ret
       exact ⟨ret_bool (by rw [HOV.out, Bool.eq_iff_iff]; simp <;> omega), HB2.out⟩
      ·go_wp2_with fail
       go_ret
       exact ⟨ret_bool (by rw [HOV.out, Bool.eq_iff_iff]; simp <;> omega), HB2.out⟩
     ·go_wp2_with fail
      go_ret
      exact ⟨ret_bool (by rw [HOV.out, Bool.eq_iff_iff]; simp <;> omega), HB2.out⟩
   ·by_cases p3 : 0 < p.n.maxi
    ·by_cases p4 : p.n.maxi < ui
     ·go_wp2_with fail
      go_ret
      exact ⟨ret_bool (by rw [HOV.out, Bool.eq_iff_iff]; simp <;> omega), HB2.out⟩
     ·go_wp2_with fail
      go_ret
      exact ⟨ret_bool (by rw [HOV.out, Bool.eq_iff_iff]; simp <;> omega), HB2.out⟩
    ·go_wp2_with fail
     go_ret
     exact ⟨ret_bool (by rw [HOV.out, Bool.eq_iff_iff]; simp <;> omega), HB2.out⟩
/-- Is one over, or are there too many bytes? -/
def fullB (L : List Nd) : Bool := (List.range L.length).any (fun i => (L[i]?.map fun n => decide (n.kind = 2) && ovI L i n).getD false) || decide (400 < usB L (belowB L 0))
def ovA (L : List Nd) (i : Nat) : Bool := (L[i]?.map fun n => decide (n.kind = 2) && ovI L i n).getD false
theorem ovA_at {L : List Np} {i : Nat} (h : i < L.length) : ovA (L.map Np.n) i = (decide (L[i].n.kind = 2) && ovI (L.map Np.n) i L[i].n) := by
 unfold ovA
 rw [map_get h]
 rfl
theorem fullB_yes {L : List Nd} {i : Nat} (h : i < L.length) (ho : ovA L i = true) : fullB L = true := by
 have : (List.range L.length).any (ovA L) = true := List.any_eq_true.2 ⟨i, List.mem_range.2 h, ho⟩
 show ((List.range L.length).any (ovA L) || _) = true
 rw [this]
 rfl
theorem fullB_no {L : List Nd} (h : ∀ i, i < L.length → ovA L i = false) : fullB L = decide (400 < usB L (belowB L 0)) := by
 have : (List.range L.length).any (ovA L) = false := List.any_eq_false.2 fun i hi => by rw [h i (List.mem_range.1 hi)]; simp
 show ((List.range L.length).any (ovA L) || _) = _
 rw [this]
 rfl
theorem count_allT (L : List Nd) : (allT L).count true = L.length := by simp [allT]
theorem TC.mapT {w : World} {tb b off N : Nat} {L : List Np} (h : TC w tb b off N L) : TM w tb b off (FS (L.map Np.n) (allT (L.map Np.n))) L.length ((allT (L.map Np.n)).count true) := by
 have := h.map
 rw [count_allT]
 simpa using this
def hvB (L : List Nd) : Bool := decide (400 < usB L (belowB L 0))
def anyB (L : List Nd) : Bool := (List.range L.length).any (ovA L)
theorem fullB_two (L : List Nd) : fullB L = (anyB L || hvB L) := rfl
theorem anyB_yes {L : List Nd} {i : Nat} (h : i < L.length) (ho : ovA L i = true) : anyB L = true := List.any_eq_true.2 ⟨i, List.mem_range.2 h, ho⟩
theorem anyB_no {L : List Nd} (h : ∀ i, i < L.length → ovA L i = false) : anyB L = false := List.any_eq_false.2 fun i hi => by rw [h i (List.mem_range.1 hi)]; simp
set_option maxRecDepth 100000 in
set_option maxHeartbeats 4000000 in
theorem heavy_any (L : List Np) (tb b off N : Nat) (hI : IdsD (L.map Np.n)) (hLd : Leads L) (hn : L.length ≤ 24) (h64 : ∀ p ∈ L, p.n.data.size ≤ 64) (h0 : 0 < L.length) (h1 : L[0].n.id = 1) (w : World) (h : TC w tb b off N L) :
  Calls Tryz.prog 53 #[.map (some tb)] w fun e w' => e = .returned (.bool (hvB (L.map Np.n))) ∧ Below w.heap.size w w' := by
 have hat1 : atN (L.map Np.n) 1 = some 0 := by
  have := hI.at_ 0 (by simpa using h0)
  rw [List.getElem_map, h1] at this
  exact this
 have hlk := h.look (id := 1) (by decide)
 rw [hat1] at hlk
 simp only [ptrO] at hlk
 have HUS := Hid.intro (used_any L tb b off N hI hLd hn h64 0 h0 w h)
 clear hI hLd h64 h hat1 h1
 go_enter Tryz.func53, Tryz.ntmps53
 go_wp2_with fail
 refine HUS.out.mono ?_
 rintro e w5 ⟨rfl, b5⟩
 have HBE := Hid.intro b5
 clear b5 hlk
 go_wp2_with fail
 go_ret
 exact ⟨ret_bool rfl, HBE.out⟩
set_option maxRecDepth 100000 in
set_option maxHeartbeats 4000000 in
theorem anyOver_any (L : List Np) (tb b off N : Nat) (hI : IdsD (L.map Np.n)) (hLd : Leads L) (hn : L.length ≤ 24) (h64 : ∀ p ∈ L, p.n.data.size ≤ 64) (h0 : 0 < L.length) (h1 : L[0].n.id = 1) (w : World) (h : TC w tb b off N L) :
  Calls Tryz.prog 54 #[.map (some tb)] w fun e w' => e = .returned (.bool (anyB (L.map Np.n))) ∧ Below w.heap.size w w' := by
 have hat1 : atN (L.map Np.n) 1 = some 0 := by
  have := hI.at_ 0 (by simpa using h0)
  rw [List.getElem_map, h1] at this
  exact this
 have HT := Hid.intro h
 have HI := Hid.intro hI
 have HM := Hid.intro h.mapT
 have htl := h.lt
 have hbN := h.bN
 have hNT := h.NT
 have HOV : Hid (∀ (i : Nat) (hi : i < L.length) (y : World), TC y tb b off N L → Calls Tryz.prog 70 #[.map (some tb), ptrJ b off i] y fun e w' => e = .returned (.bool (ovI (L.map Np.n) i L[i].n)) ∧ Below y.heap.size y w') := fun i hi y hy => over_any L tb b off N hI hLd hn h64 i hi y hy
 have HUS : Hid (∀ y : World, TC y tb b off N L → Calls Tryz.prog 69 #[.map (some tb), ptrJ b off 0] y fun e w' => e = .returned (.tuple #[.int .i64 (usB (L.map Np.n) (belowB (L.map Np.n) 0)), .int .i64 (usI (belowB (L.map Np.n) 0))]) ∧ Below y.heap.size y w') := fun y hy => used_any L tb b off N hI hLd hn h64 0 h0 y hy
 have HA1 := Hid.intro hat1
 obtain ⟨LN, hLN⟩ : ∃ LN, L.map Np.n = LN := ⟨_, rfl⟩
 rw [hLN] at HM HI HUS HOV HA1 ⊢
 have HLN := Hid.intro hLN
 have HLEN : Hid (LN.length = L.length) := by unfold Hid; rw [← hLN]; simp
 clear hI hLd h64 h hat1 h1 hLN
 go_enter Tryz.func54, Tryz.ntmps54
 go_wp2_with (at_range; refine wpList_range_tree rfl _ rfl HI.out rfl HM.out ?_; intro w2 hTR hB2 hz2; have HTR := Hid.intro hTR; have HB2 := Hid.intro hB2; clear hTR hB2)
 go_frame
 go_loopw [4] (fun _ wr => ∃ (v : List Bool) (cnt : Nat), Hid (v.length = LN.length) ∧ Hid (∀ y, y < LN.length → isT v y → ovA LN y = false) ∧ Hid (TR wr tb w.heap.size b off LN (allT LN) v L.length cnt) ∧ Hid (Below w.heap.size w wr)) (fun _ wr => wr.rangeLeft tb w.heap.size)
 case atStart =>
  exact ⟨List.replicate LN.length false, _, by unfold Hid; simp, fun y _ hy => by unfold isT at hy; rw [List.getElem?_replicate] at hy; split at hy <;> simp at hy, HTR, HB2⟩
 case round =>
  obtain ⟨v, cnt, HV, HS, HR, HB⟩ := hrel
  go_wp2_with (at_next; refine wpList_next_tree rfl _ rfl HI.out HV.out rfl HR.out ?_ ?_)
  ·intro hall
   have HFB : Hid (anyB LN = false) := anyB_no fun y hy => HS.out y hy (hall y hy (isT_all.2 hy))
   clear hall
   go_wp2_with fail
   go_ret
   exact ⟨ret_bool HFB.out.symm, HB.out⟩
  ·intro y hy w3 cnt3 hsy hny hTR hlt hO hsz hen
   have hyl : y < L.length := by rw [← HLEN.out]; exact hy
   have hb3 : Below w.heap.size w w3 := HB.out.trans (hO.below HB.out.size (fun k hk e => by omega))
   have htc := HT.out.kept hb3 htl
   have hc := htc.at_ y hyl
   have hLy : LN[y] = L[y].n := by
    have := map_get hyl
    rw [HLN.out, List.getElem?_eq_getElem hy] at this
    exact Option.some.inj this
   have hoa : ovA LN y = (decide (L[y].n.kind = 2) && ovI LN y L[y].n) := by
    have := ovA_at hyl
    rw [HLN.out] at this
    exact this
   have hov := HOV.out y hyl w3 htc
   rw [hLy] at hen ⊢
   generalize L[y] = p at hc hen hoa hov
   have g1 := hc.c1
   have HR3 := Hid.intro hTR
   have HB3 := Hid.intro hb3
   have hz3 := hb3.size
   have HV3 : Hid ((v.set y true).length = LN.length) := by unfold Hid; rw [List.length_set]; exact HV.out
   have HS3 : Hid (ovA LN y = false → ∀ z, z < LN.length → isT (v.set y true) z → ovA LN z = false) := fun h z hz hz2 => by
    rcases isT_set.1 hz2 with ⟨rfl, _⟩ | hz2
    ·exact h
    ·exact HS.out z hz hz2
   have HLT : Hid (cnt3 < wr.rangeLeft tb w.heap.size) := by unfold Hid; rw [HR.out.left]; exact hlt
   have HYL := Hid.intro hy
   have HOA := Hid.intro hoa
   have HOO := Hid.intro hov
   have hit := hTR.iter
   have hit1 := hit.1
   have hit2 := hit.2
   clear hTR hb3 hO hsz hc hny hsy hlt hLy htc hoa hov hit
   by_cases hk : p.n.kind = 2
   ·have k2 : (p.n.kind == 2) = true := by simpa using hk
    have HK := Hid.intro hk
    clear hk
    go_wp2_with fail
    refine HOO.out.mono ?_
    rintro e w5 ⟨rfl, b5⟩
    have HB5 := Hid.intro (HB3.out.trans (b5.mono hz3))
    have HR5 := Hid.intro (HR3.out.kept (b5.block tb (by omega)) (b5.block w.heap.size (by omega)))
    clear b5 g1
    cases ho : ovI LN y p.n with
    | true =>
     have HFF : Hid (anyB LN = true) := anyB_yes HYL.out (by rw [HOA.out, ho, HK.out]; rfl)
     go_wp2_with fail
     go_ret
     exact ⟨ret_bool HFF.out.symm, HB5.out⟩
    | false =>
     have HS4 := Hid.intro (HS3.out (by rw [HOA.out, ho]; simp))
     go_wp2_with fail
     go_roundw
     case rel => exact ⟨v.set y true, cnt3, HV3, HS4, HR5, HB5⟩
     case measure => rw [HR5.out.left]; exact HLT.out
   ·have k2 : (p.n.kind == 2) = false := by simpa using hk
    have HS4 := Hid.intro (HS3.out (by rw [HOA.out, decide_eq_false hk]; rfl))
    clear hk
    go_wp2_with fail
    go_roundw
    case rel => exact ⟨v.set y true, cnt3, HV3, HS4, HR3, HB3⟩
    case measure => rw [HR3.out.left]; exact HLT.out
end Go.Proofs.YtmkegmndcbpblaaGreatDoor
namespace Go.Proofs.YtmkegmndcbpblaaGreatDoor
open Go.RowKit
set_option linter.unusedVariables false
def nodeA (L : List Nd) (i : Nat) : Bool := (L[i]?.map fun n => nodeB L n).getD true
def eachB (L : List Nd) : Bool := (List.range L.length).all (nodeA L) && (dirO L 1).isSome
theorem nodeA_at {L : List Np} {i : Nat} (h : i < L.length) : nodeA (L.map Np.n) i = (aloneB L[i].n && nmsB (L.map Np.n) none L[i].n.names) := by
 unfold nodeA
 rw [map_get h, ← nodeB_alone]
 rfl
theorem eachB_no {L : List Nd} {i : Nat} (h : i < L.length) (ho : nodeA L i = false) : eachB L = false := by
 have : (List.range L.length).all (nodeA L) = false := List.all_eq_false.2 ⟨i, List.mem_range.2 h, by rw [ho]; simp⟩
 unfold eachB
 rw [this]
 rfl
theorem eachB_yes {L : List Nd} (h : ∀ i, i < L.length → nodeA L i = true) : eachB L = (dirO L 1).isSome := by
 have : (List.range L.length).all (nodeA L) = true := List.all_eq_true.2 fun i hi => h i (List.mem_range.1 hi)
 unfold eachB
 rw [this]
 rfl
/-- The texts and numbers of an inode are such as there can be. -/
def NdW (n : Nd) : Prop := NdSz n ∧ IdW n.names
set_option maxRecDepth 100000 in
set_option maxHeartbeats 4000000 in
theorem eachOk_any (L : List Np) (tb b off N : Nat) (hI : IdsD (L.map Np.n)) (hz : ∀ p ∈ L, NdW p.n) (w : World) (h : TC w tb b off N L) :
  Calls Tryz.prog 51 #[.map (some tb)] w fun e w' => e = .returned (.bool (eachB (L.map Np.n))) ∧ Below w.heap.size w w' := by
 have HT := Hid.intro h
 have HZ := Hid.intro hz
 have HI := Hid.intro hI
 have HM := Hid.intro h.mapT
 have htl := h.lt
 have hbN := h.bN
 have hNT := h.NT
 have HDI : Hid (∀ y : World, TC y tb b off N L → Calls Tryz.prog 66 #[.map (some tb), .int .i64 1] y fun e w' => e = .returned (ptrO b off (dirO (L.map Np.n) 1)) ∧ y = w') := fun y hy => dir_any L tb b off N 1 y hy (by decide)
 have HLE : Hid (∀ (p : Np), p ∈ L → ∀ y : World, TC y tb b off N L → Calls Tryz.prog 65 #[.map (some tb), p.v] y fun e w' => e = .returned (.bool (nmsB (L.map Np.n) none p.n.names)) ∧ Below y.heap.size y w') := fun p hp y hy => lead_any L tb b off N p.n.names p.v y hy (hy.nms p hp) (hz p hp).2 (hz p hp).1.2
 obtain ⟨LN, hLN⟩ : ∃ LN, L.map Np.n = LN := ⟨_, rfl⟩
 rw [hLN] at HM HI HDI HLE ⊢
 have HLN := Hid.intro hLN
 have HLEN : Hid (LN.length = L.length) := by unfold Hid; rw [← hLN]; simp
 clear hI hz h hLN
 go_enter Tryz.func51, Tryz.ntmps51
 go_wp2_with (at_range; refine wpList_range_tree rfl _ rfl HI.out rfl HM.out ?_; intro w2 hTR hB2 hz2; have HTR := Hid.intro hTR; have HB2 := Hid.intro hB2; clear hTR hB2)
 go_frame
 go_loopw [4] (fun _ wr => ∃ (v : List Bool) (cnt : Nat), Hid (v.length = LN.length) ∧ Hid (∀ y, y < LN.length → isT v y → nodeA LN y = true) ∧ Hid (TR wr tb w.heap.size b off LN (allT LN) v L.length cnt) ∧ Hid (Below w.heap.size w wr)) (fun _ wr => wr.rangeLeft tb w.heap.size)
 case atStart =>
  exact ⟨List.replicate LN.length false, _, by unfold Hid; simp, fun y _ hy => by unfold isT at hy; rw [List.getElem?_replicate] at hy; split at hy <;> simp at hy, HTR, HB2⟩
 case round =>
  obtain ⟨v, cnt, HV, HS, HR, HB⟩ := hrel
  go_wp2_with (at_next; refine wpList_next_tree rfl _ rfl HI.out HV.out rfl HR.out ?_ ?_)
  ·intro hall
   have HFB : Hid (eachB LN = (dirO LN 1).isSome) := eachB_yes fun y hy => HS.out y hy (hall y hy (isT_all.2 hy))
   have HTC := Hid.intro (HT.out.kept HB.out htl)
   clear hall
   go_wp2_with fail
   refine (HDI.out _ HTC.out).mono ?_
   rintro e w5 ⟨rfl, rfl⟩
   cases hd : dirO LN 1 with
   | none =>
    simp only [ptrO]
    go_wp2_with fail
    go_ret
    exact ⟨ret_bool (by rw [HFB.out, hd]; rfl), HB.out⟩
   | some x =>
    simp only [ptrO]
    go_wp2_with fail
    go_ret
    exact ⟨ret_bool (by rw [HFB.out, hd]; rfl), HB.out⟩
  ·intro y hy w3 cnt3 hsy hny hTR hlt hO hsz hen
   have hyl : y < L.length := by rw [← HLEN.out]; exact hy
   have hb3 : Below w.heap.size w w3 := HB.out.trans (hO.below HB.out.size (fun k hk e => by omega))
   have htc := HT.out.kept hb3 htl
   have hc := htc.at_ y hyl
   have hmem := List.getElem_mem hyl
   have hLy : LN[y] = L[y].n := by
    have := map_get hyl
    rw [HLN.out, List.getElem?_eq_getElem hy] at this
    exact Option.some.inj this
   have hoa : nodeA LN y = (aloneB L[y].n && nmsB LN none L[y].n.names) := by
    have := nodeA_at hyl
    rw [HLN.out] at this
    exact this
   rw [hLy] at hen ⊢
   generalize L[y] = p at hc hen hoa hmem
   have hzz := (HZ.out p hmem).1.1
   have g6 := hc.c6
   have HR3 := Hid.intro hTR
   have HB3 := Hid.intro hb3
   have hz3 := hb3.size
   have HV3 : Hid ((v.set y true).length = LN.length) := by unfold Hid; rw [List.length_set]; exact HV.out
   have HS3 : Hid (nodeA LN y = true → ∀ z, z < LN.length → isT (v.set y true) z → nodeA LN z = true) := fun h z hz hz2 => by
    rcases isT_set.1 hz2 with ⟨rfl, _⟩ | hz2
    ·exact h
    ·exact HS.out z hz hz2
   have HLT : Hid (cnt3 < wr.rangeLeft tb w.heap.size) := by unfold Hid; rw [HR.out.left]; exact hlt
   have HYL := Hid.intro hy
   have HOA := Hid.intro hoa
   have HNC := Hid.intro hc
   have HLL := Hid.intro (HLE.out p hmem w3 htc)
   have hit := hTR.iter
   have hit1 := hit.1
   have hit2 := hit.2
   clear hTR hb3 hO hsz hc hny hsy hlt hLy htc hoa hit hmem
   cases hal : aloneB p.n with
   | false =>
    have HFF : Hid (eachB LN = false) := eachB_no HYL.out (by rw [HOA.out, hal]; rfl)
    go_wp2_with (go_at_call 64; refine (inodeOk_any p.n p.v b (off + y * 9) _ HNC.out ⟨_, _, rfl⟩ hzz).mono ?_; rintro e9 w9 ⟨rfl, rfl⟩; simp only [hal])
    go_ret
    exact ⟨ret_bool HFF.out.symm, HB3.out⟩
   | true =>
    go_wp2_with (go_at_call 64; refine (inodeOk_any p.n p.v b (off + y * 9) _ HNC.out ⟨_, _, rfl⟩ hzz).mono ?_; rintro e9 w9 ⟨rfl, rfl⟩; simp only [hal])
    refine HLL.out.mono ?_
    rintro e w5 ⟨rfl, b5⟩
    have HB5 := Hid.intro (HB3.out.trans (b5.mono hz3))
    have HR5 := Hid.intro (HR3.out.kept (b5.block tb (by omega)) (b5.block w.heap.size (by omega)))
    clear b5 g6
    cases ho : nmsB LN none p.n.names with
    | false =>
     have HFF : Hid (eachB LN = false) := eachB_no HYL.out (by rw [HOA.out, hal, ho]; rfl)
     go_wp2_with fail
     go_ret
     exact ⟨ret_bool HFF.out.symm, HB5.out⟩
    | true =>
     have HS4 := Hid.intro (HS3.out (by rw [HOA.out, hal, ho]; rfl))
     go_wp2_with fail
     go_roundw
     case rel => exact ⟨v.set y true, cnt3, HV3, HS4, HR5, HB5⟩
     case measure => rw [HR5.out.left]; exact HLT.out
end Go.Proofs.YtmkegmndcbpblaaGreatDoor
