/- What a way has led to: its box, what is left, the package's errors. -/
import Derived.Test.YtmkegmndcbpblaaGreatDoorWTodo
import Derived.Test.YtmkegmndcbpblaaGreatDoorPMath
import Derived.Test.YtmkegmndcbpblaaGreatDoorVPar
import Derived.Test.YtmkegmndcbpblaaGreatDoorVSpecE
import Derived.Test.YtmkegmndcbpblaaGreatDoorVImpI
import Derived.Test.YtmkegmndcbpblaaGreatDoorWLook
import Derived.Test.YtmkegmndcbpblaaGreatDoorWIs
import Derived.Deep.AppendLies
namespace Go.Proofs.YtmkegmndcbpblaaGreatDoor
open Go.RowKit
set_option linter.unusedVariables false
/-- Where a walk ends. -/
structure Sp where
 dir : Int
 nm : List UInt8
 id : Int
 code : Int
def sp0 (code : Int) : Sp := ⟨0, [], 0, code⟩
def ndAt (L : List Nd) (id : Int) : Option Nd := (atN L id).bind fun x => L[x]?
/-- Where a name in a directory leads to; 0 where there is none. -/
def lookN (n : Nd) (p : List UInt8) : Int := ((n.names.find? fun d => decide (d.nm.data.toList = p)).map Di.id).getD 0
/-- One part of what is left: an end, or what is left then. -/
def wStep (L : List Nd) (may : Nd → Bool) (follow : Bool) (cur : Int) (p : List UInt8) (rest : List (List UInt8)) (times : Nat) : Sp ⊕ (Int × List (List UInt8) × Nat) :=
 match ndAt L cur with
 | none => .inl (sp0 22)
 | some n =>
  if may n = false then .inl (sp0 13)
  else if p = [46] then .inr (cur, rest, times)
  else if p = [46, 46] then .inr (parI L cur, rest, times)
  else if 8 < p.length then .inl (sp0 36)
  else if lookN n p = 0 then (if rest = [] then .inl ⟨cur, p, 0, 2⟩ else .inl (sp0 2))
  else match ndAt L (lookN n p) with
   | none => .inl (sp0 22)
   | some m =>
    if m.kind = 3 ∧ (rest ≠ [] ∨ follow = true) then
     if 8 ≤ times then .inl (sp0 40)
     else if 40 < (partsL m.data.data.toList ++ rest).length then .inl (sp0 36)
     else .inr (if m.data.data.toList.head? = some 47 then 1 else cur, partsL m.data.data.toList ++ rest, times + 1)
    else if rest = [] then .inl ⟨cur, p, lookN n p, 0⟩
    else if m.kind ≠ 2 then .inl (sp0 20)
    else .inr (lookN n p, rest, times)
/-- How many steps a walk may take yet. -/
def muW (todo : List (List UInt8)) (times : Nat) : Nat := (8 - times) * 41 + todo.length + 1
theorem wStep_less {L : List Nd} {may : Nd → Bool} {follow : Bool} {cur cur' : Int} {p : List UInt8} {rest rest' : List (List UInt8)} {times times' : Nat} (h : wStep L may follow cur p rest times = .inr (cur', rest', times')) : muW rest' times' < muW (p :: rest) times := by
 unfold wStep at h
 unfold muW
 split at h
 ·cases h
 split at h
 ·cases h
 split at h
 ·cases h; simp
 split at h
 ·cases h; simp
 split at h
 ·cases h
 split at h
 ·split at h <;> cases h
 split at h
 ·cases h
 split at h
 ·split at h
  ·cases h
  split at h
  ·cases h
  cases h
  simp only [List.length_append, List.length_cons] at *
  omega
 split at h
 ·cases h
 split at h
 ·cases h
 cases h
 simp
def walkN (L : List Nd) (may : Nd → Bool) (follow : Bool) : Nat → Int → List (List UInt8) → Nat → Sp
 | 0, _, _, _ => sp0 22
 | _ + 1, cur, [], _ => ⟨0, [], cur, 0⟩
 | f + 1, cur, p :: rest, times => match wStep L may follow cur p rest times with
  | .inl s => s
  | .inr x => walkN L may follow f x.1 x.2.1 x.2.2
theorem walkN_enough (L : List Nd) (may : Nd → Bool) (follow : Bool) (f : Nat) : ∀ (g : Nat) (cur : Int) (todo : List (List UInt8)) (times : Nat), muW todo times ≤ f → muW todo times ≤ g → walkN L may follow f cur todo times = walkN L may follow g cur todo times := by
 induction f with
 | zero => intro g cur todo times h; unfold muW at h; omega
 | succ f ih =>
  intro g cur todo times h1 h2
  obtain ⟨k, rfl⟩ : ∃ k, g = k + 1 := ⟨g - 1, by unfold muW at h2; omega⟩
  cases todo with
  | nil => rfl
  | cons p rest =>
   simp only [walkN]
   cases hs : wStep L may follow cur p rest times with
   | inl s => rfl
   | inr x =>
    obtain ⟨c2, r2, t2⟩ := x
    have h3 := wStep_less hs
    exact ih k c2 r2 t2 (by omega) (by omega)
/-- The walk. -/
def walkW (L : List Nd) (may : Nd → Bool) (follow : Bool) (cur : Int) (todo : List (List UInt8)) (times : Nat) : Sp := walkN L may follow (muW todo times) cur todo times
theorem walkW_nil (L : List Nd) (may : Nd → Bool) (follow : Bool) (cur : Int) (times : Nat) : walkW L may follow cur [] times = ⟨0, [], cur, 0⟩ := by
 unfold walkW muW
 rfl
theorem walkW_end {L : List Nd} {may : Nd → Bool} {follow : Bool} {cur : Int} {p : List UInt8} {rest : List (List UInt8)} {times : Nat} {s : Sp} (h : wStep L may follow cur p rest times = .inl s) : walkW L may follow cur (p :: rest) times = s := by
 unfold walkW muW
 simp only [walkN, h]
theorem walkW_on {L : List Nd} {may : Nd → Bool} {follow : Bool} {cur cur' : Int} {p : List UInt8} {rest rest' : List (List UInt8)} {times times' : Nat} (h : wStep L may follow cur p rest times = .inr (cur', rest', times')) : walkW L may follow cur (p :: rest) times = walkW L may follow cur' rest' times' := by
 have h3 := wStep_less h
 unfold walkW
 obtain ⟨k, hk⟩ : ∃ k, muW (p :: rest) times = k + 1 := ⟨muW (p :: rest) times - 1, by unfold muW; omega⟩
 rw [hk]
 simp only [walkN, h]
 exact walkN_enough L may follow k _ _ _ _ (by omega) (Nat.le_refl _)
end Go.Proofs.YtmkegmndcbpblaaGreatDoor
namespace Go.Proofs.YtmkegmndcbpblaaGreatDoor
open Go.RowKit
set_option linter.unusedVariables false
structure WOk (L : List Nd) : Prop where
 root : (ndAt L 1).isSome = true
 pos : ∀ n ∈ L, 1 ≤ n.id
 nam : ∀ n ∈ L, ∀ d ∈ n.names, (ndAt L d.id).isSome = true
 lnk : ∀ n ∈ L, n.kind = 3 → 1 ≤ n.data.size ∧ n.data.size ≤ 60
 par : ∀ id, (ndAt L (parI L id)).isSome = true
theorem ndAt_is {L : List Nd} {id : Int} (h : (atN L id).isSome = true) : (ndAt L id).isSome = true := by
 unfold ndAt
 cases ha : atN L id with
 | none => rw [ha] at h; cases h
 | some x => simp [List.getElem?_eq_getElem (atN_lt ha)]
theorem ndAt_mem {L : List Nd} {id : Int} {n : Nd} (h : ndAt L id = some n) : n ∈ L ∧ n.id = id := by
 unfold ndAt at h
 cases ha : atN L id with
 | none => rw [ha] at h; cases h
 | some x =>
  obtain ⟨h1, h2, _⟩ := atN_some.1 ha
  rw [ha, Option.bind_some, List.getElem?_eq_getElem h1] at h
  cases h
  exact ⟨List.getElem_mem h1, h2⟩
theorem atN_is {L : List Nd} {n : Nd} (h : n ∈ L) : (atN L n.id).isSome = true := by
 cases ha : atN L n.id with
 | none => exact absurd rfl (atN_none.1 ha n h)
 | some x => rfl
theorem nms_is {L : List Nd} (l : List Di) : ∀ {p : Option ByteArray}, nmsB L p l = true → ∀ e ∈ l, (atN L e.id).isSome = true := by
 induction l with
 | nil => intro p _ n hn; cases hn
 | cons a l ih =>
  intro p h n hn
  rw [nmsB] at h
  simp only [Bool.and_eq_true] at h
  rcases List.mem_cons.1 hn with rfl | hn
  ·exact h.1.2
  ·exact ih h.2 n hn
theorem ind_pos {M : List Nd} {next : Int} (l : List Nd) : ∀ {p : Option Int}, indB M next p l = true → ∀ n ∈ l, 1 ≤ n.id := by
 induction l with
 | nil => intro p _ n hn; cases hn
 | cons a l ih =>
  intro p h n hn
  rw [indB] at h
  simp only [Bool.and_eq_true] at h
  rcases List.mem_cons.1 hn with rfl | hn
  ·have h1 := h.1.1.1
   simp only [inB, Bool.and_eq_true, decide_eq_true_eq] at h1
   exact h1.1
  ·exact ih h.2 n hn
theorem pb_len {s : ByteArray} (h : pbB s.data.toList = true) : 1 ≤ s.size ∧ s.size ≤ 60 := by
 refine ⟨?_, ?_⟩
 ·by_cases h2 : 1 ≤ s.size
  ·exact h2
  ·rw [pbB_short (by omega)] at h; cases h
 ·by_cases h2 : s.size ≤ 60
  ·exact h2
  ·rw [pbB_long (by omega)] at h; cases h
theorem wOk {next : Int} {L : List Nd} (h : volB next L = true) : WOk L := by
 unfold volB at h
 simp only [Bool.and_eq_true] at h
 have hh := h.1.1.1.1.2
 have hi := h.1.1.1.2
 have hroot : (ndAt L 1).isSome = true := by
  cases L with
  | nil => cases hh
  | cons a l =>
   simp only [headB, List.head?_cons, Option.map_some, Option.getD_some, Bool.and_eq_true, decide_eq_true_eq] at hh
   have := ndAt_is (atN_is (L := a :: l) (n := a) (List.mem_cons_self ..))
   rw [hh.1] at this
   exact this
 refine ⟨hroot, ind_pos L hi, fun n hn d hd => ?_, fun n hn hk => ?_, fun id => ?_⟩
 ·have hb := indB_mem L hi n hn
  unfold nodeB at hb
  simp only [Bool.and_eq_true] at hb
  have hb2 := hb.2
  split at hb2
  ·simp only [plainB, Bool.and_eq_true, decide_eq_true_eq] at hb2
   rw [List.eq_nil_of_length_eq_zero hb2.1.1.1] at hd
   cases hd
  ·split at hb2
   ·simp only [plainB, Bool.and_eq_true, decide_eq_true_eq] at hb2
    rw [List.eq_nil_of_length_eq_zero hb2.1.1.1.1] at hd
    cases hd
   ·split at hb2
    ·simp only [Bool.and_eq_true] at hb2
     exact ndAt_is (nms_is n.names hb2.2 d hd)
    ·cases hb2
 ·have hb := indB_mem L hi n hn
  unfold nodeB at hb
  simp only [Bool.and_eq_true] at hb
  have hb2 := hb.2
  rw [if_neg (by omega), if_pos hk] at hb2
  simp only [Bool.and_eq_true] at hb2
  exact pb_len hb2.1.2
 ·unfold parI
  cases hp : parX L id with
  | none => exact hroot
  | some x =>
   have hx : x < L.length := by
    unfold parX at hp
    exact (List.findIdx?_eq_some_iff_getElem.1 hp).1
   simp only [List.getElem?_eq_getElem hx, Option.map_some, Option.getD_some]
   exact ndAt_is (atN_is (List.getElem_mem hx))
/-- A name that leads somewhere leads to an inode. -/
theorem WOk.look {L : List Nd} (h : WOk L) {n : Nd} (hn : n ∈ L) {p : List UInt8} (hp : lookN n p ≠ 0) : (ndAt L (lookN n p)).isSome = true := by
 unfold lookN at hp ⊢
 cases hf : n.names.find? (fun d => decide (d.nm.data.toList = p)) with
 | none => rw [hf] at hp; exact absurd rfl hp
 | some d => exact h.nam n hn d (List.mem_of_find?_eq_some hf)
end Go.Proofs.YtmkegmndcbpblaaGreatDoor
namespace Go.Proofs.YtmkegmndcbpblaaGreatDoor
open Go.RowKit Go.Maps
set_option linter.unusedVariables false
/-- Where the inode of that number is; nil for the number 0. -/
def namO (L : List Nd) (id : Int) : Option Nat := if id = 0 then none else atN L id
set_option maxRecDepth 100000 in
set_option maxHeartbeats 4000000 in
theorem named_any (L : List Np) (tb b off N : Nat) (hW : WOk (L.map Np.n)) (hLd : Leads L) (x : Nat) (hx : x < L.length) (q : ByteArray) (w : World) (h : TC w tb b off N L) :
  Calls Tryz.prog 75 #[.map (some tb), ptrJ b off x, .string q] w fun e w' => e = .returned (ptrO b off (namO (L.map Np.n) (lookL L[x].n.names q.data.toList))) ∧ Below w.heap.size w w' := by
 have HT := Hid.intro h
 have hmem := List.getElem_mem hx
 have hc := h.at_ x hx
 have hrow := h.nms _ hmem
 have HLD : Hid (∀ d ∈ L[x].n.names, (Lit.int .i64 d.id).wf = true ∧ namO (L.map Np.n) d.id = atN (L.map Np.n) d.id) := fun d hd => by
  obtain ⟨h1, y, h2⟩ := hLd _ hmem d hd
  refine ⟨h1, ?_⟩
  obtain ⟨h3, h4, _⟩ := atN_some.1 h2
  have := hW.pos _ (List.getElem_mem h3)
  unfold namO
  rw [if_neg (by omega)]
 have hbN := h.bN
 have hNT := h.NT
 have htl := h.lt
 generalize L[x] = p at hc hrow HLD ⊢
 obtain ⟨a2, cap2, hv2, l2, m2, hdc⟩ := diE_cell hrow
 have g6 := hc.c6
 rw [hv2] at g6
 have HD := Hid.intro hdc
 clear h hc hrow hdc hv2 hLd hmem hW
 generalize p.n.names = nn at HD l2 g6 HLD ⊢
 obtain ⟨ans, hans⟩ : ∃ ans, lookL nn q.data.toList = ans := ⟨_, rfl⟩
 rw [hans]
 have HA : Hid (lookL (nn.drop 0) q.data.toList = ans) := hans
 clear hans
 go_enter Tryz.func75, Tryz.ntmps75
 go_wp2_with fail
 clear g6
 go_loopw [14] (fun i wr => ∃ (k : Nat), i = .int .i64 k ∧ k ≤ nn.length ∧ Hid (lookL (nn.drop k) q.data.toList = ans) ∧ Hid (Below w.heap.size w wr)) (fun i _ => nn.length - (intOf i).toNat)
 case atStart => exact ⟨0, rfl, Nat.zero_le _, HA, Below.refl _ _⟩
 case round =>
  clear HA
  obtain ⟨k, rfl, hk, HA, HB⟩ := hrel
  by_cases hkt : k < nn.length
  ·obtain ⟨b2, o2, rfl, hb2, hdd⟩ := HD.out (by intro h; rw [h] at hkt; simp at hkt)
   obtain ⟨d0, d1⟩ := hdd k hkt
   have hyes := @lookL_hit nn k q.data.toList hkt
   have hst := @lookL_miss nn k q.data.toList hkt
   have hld := HLD.out _ (List.getElem_mem hkt)
   replace d0 := atCell HB.out d0 (by omega)
   replace d1 := atCell HB.out d1 (by omega)
   generalize nn[k] = ek at d0 d1 hyes hst hld
   have hkl : (k : Int) < (nn.length : Int) := by omega
   have hk1 : (0 : Int) ≤ (k : Int) ∧ (k : Int) < (nn.length : Int) := by omega
   go_upto_region 4 with fail
   obtain ⟨X, hX, bX, zX, cX, fX⟩ := boxed wr #[.string ek.nm, .int .i64 ek.id] 85
   simp only [hX]
   have HBX := Hid.intro (HB.out.trans (bX.mono HB.out.size))
   have hlk := (HT.out.kept HBX.out htl).look hld.1
   rw [← hld.2] at hlk
   clear hX fX d0 d1 bX hdd hld
   by_cases he : ek.nm.data.toList = q.data.toList
   ·have n1 : (ek.nm.toList == q.toList) = true := by rw [toList_data, toList_data, he]; exact beq_self_eq_true _
    have HE : Hid (ek.id = ans) := (hyes he).symm.trans HA.out
    clear he hyes hst
    go_wp2_with fail
    go_ret
    exact ⟨by rw [HE.out]; rfl, HBX.out⟩
   ·have n1 : (ek.nm.toList == q.toList) = false := by rw [toList_data, toList_data, beq_eq_false_iff_ne]; exact he
    have HE : Hid (lookL (nn.drop (k + 1)) q.data.toList = ans) := (hst he).symm.trans HA.out
    clear he hyes hst hlk
    go_wp2_with fail
    go_roundw
    case rel => exact ⟨k + 1, by go_num, by omega, HE, HBX⟩
    case measure => simp [intOf]; omega
  ·obtain rfl : k = nn.length := by omega
   have HE : Hid (ans = 0) := by have h := HA.out; rw [lookL_end] at h; exact h.symm
   go_wp2_with fail
   go_ret
   exact ⟨by rw [HE.out]; rfl, HB.out⟩
end Go.Proofs.YtmkegmndcbpblaaGreatDoor
namespace Go.Proofs.YtmkegmndcbpblaaGreatDoor
open Go.RowKit
set_option linter.unusedVariables false
/-- One cell of a block stored over. -/
theorem Blk.setW {w : World} {g : Nat} {A : Array Value} (h : Blk w g A) (i : Nat) (hi : i < A.size) (x : Value) : Blk (w.setCell ⟨g, i, none⟩ x) g (A.setIfInBounds i x) := by
 refine ⟨by simpa using h.hi, fun o => ?_, fun o => by rw [World.frozen?_setCell]; exact h.fro o⟩
 by_cases ho : o = i
 ·subst ho
  rw [World.cell?_setCell_same _ _ _ ((h.cell o).trans (Array.getElem?_eq_getElem hi)), Array.getElem?_setIfInBounds_self_of_lt hi]
 ·rw [World.cell?_setCell_other _ _ _ _ (by intro e; cases e; exact ho rfl), h.cell, Array.getElem?_setIfInBounds_ne (by omega)]
theorem setW_only (g o : Nat) (w : World) (v : Value) : Only (fun k => k = g) w (w.setCell ⟨g, o, none⟩ v) := (Only.refl (fun k => k = g) w).setCell (p := ⟨g, o, none⟩) rfl v
theorem onlyW_any {w w' : World} {S : Nat → Prop} (h : Below w.heap.size w w') : Only S w w' := Below.any h
/-- The box of a way: the tree, who goes, whether a last link is followed, where it is, what is left, how many links. -/
def wayA (tb : Nat) (c : Cr) (cv : Value) (follow : Bool) (b off x : Nat) (lv : Value) (times : Int) : Array Value := #[.map (some tb), .int .i64 c.u, .int .i64 c.g, cv, .bool follow, ptrJ b off x, lv, .int .i64 times]
/-- A row of texts that does not lie in the block g. -/
structure RowL (w : World) (g : Nat) (v : Value) (T : List (List UInt8)) : Prop where
 row : Row stE w w.heap.size v T
 off : v.ownBlock ≠ some g
theorem RowL.only {w w' : World} {g : Nat} {v : Value} {T : List (List UInt8)} (h : RowL w g v T) (ho : Only (fun k => k = g) w w') : RowL w' g v T := by
 refine ⟨?_, h.off⟩
 obtain ⟨a, cap, rfl, h1, h2, h3⟩ := h.row
 refine ⟨a, cap, rfl, h1, h2, fun hT => ?_⟩
 obtain ⟨b, off, rfl, hb, hc⟩ := h3 hT
 have hne : b ≠ g := fun e => h.off (by simp [Value.ownBlock, e])
 refine ⟨b, off, rfl, Nat.lt_of_lt_of_le hb ho.size, fun j hj i hi => ?_⟩
 rw [ho.cell hb hne]
 exact hc j hj i hi
/-- The package's errors, not in the block g. -/
structure ErrB (w : World) (g : Nat) (E : Nat → Addr) : Prop where
 err : ErrW w E
 six : 6 ≤ g
 lt : g < w.heap.size
 off : ∀ k < 6, (E k).block ≠ g
theorem ErrB.only {w w' : World} {g : Nat} {E : Nat → Addr} (h : ErrB w g E) (ho : Only (fun k => k = g) w w') : ErrB w' g E := by
 have hs := h.six
 have hl := h.lt
 refine ⟨⟨fun k hk => ?_, fun k hk => ?_, h.err.two⟩, hs, Nat.lt_of_lt_of_le hl ho.size, h.off⟩
 ·rw [ho.cell (by omega) (by omega)]
  exact h.err.var k hk
 ·obtain ⟨c, t, hb⟩ := h.err.box k hk
  have hlt : (E k).block < w.heap.size := by
   rcases Nat.lt_or_ge (E k).block w.heap.size with h' | h'
   ·exact h'
   ·rw [Array.getElem?_eq_none h'] at hb; cases hb
  exact ⟨c, t, by rw [ho.block _ hlt (h.off k hk)]; exact hb⟩
/-- append of texts onto a row of the call's own, inside a region that draws its order. -/
theorem step_st {w : World} {ops : Array Oper} {o : Oper} {a : Act} {KK : Act → World → Prop} {Q : Exit → Act → World → Prop} {E : Prop} (hgd : o.guard = none) (s x : Operand)
  (ho : o.op = .call { callee := .builtin .append, args := #[s, x], argTypes := #[71, 71] })
  (base : Nat) (v : Value) (L M : List (List UInt8)) (hs : a.eval s = v) (hown : Own stE 9 w base v L) (ad : Addr) (c : Nat) (hx : a.eval x = .slice (some ad) M.length c)
  (hnews : ∀ j u, (stE.f M)[j]? = some u → w.cell? (ad.add j) = some u) (hlen : L.length + M.length ≤ 2000000) (hbase : base ≤ w.heap.size)
  (h : ∀ v' w', Own stE 9 w' base v' (L ++ M) → Only (fun k => some k = v.ownBlock) w w' → KK (a.put o.dst v') w') : if Region.wanted o (yielded ops a.tmps) = true then Oper.wp Tryz.prog o a w KK Q else E := by
 have hw : Region.wanted o (yielded ops a.tmps) = true := by simp [Region.wanted, hgd]
 rw [if_pos hw]
 obtain ⟨i0, hi, hz0, hz1, hz2⟩ := info_parts infoStr
 refine wp_append_own w s x 71 ho base 9 i0 (.string ⟨#[]⟩) 1 16 Tryz.underlying71 hi hz0 hz1 hz2 rfl (by decide) v L.length (stE.f L) hs hown ad M.length c (stE.f M) hx (stE.f_len M) hnews (stE.f_one M) (by unfold maxLen; omega) (by omega) hbase ?_
 intro v' w' hown' hgrow _
 refine h v' w' (Own.mk hown' (by simp) (by rw [stE.f_append])) (grown_only hgrow)
end Go.Proofs.YtmkegmndcbpblaaGreatDoor
