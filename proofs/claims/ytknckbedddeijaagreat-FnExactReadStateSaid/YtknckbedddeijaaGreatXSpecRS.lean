/- ReadState of the sentence. -/
import Derived.Test.YtknckbedddeijaaGreatXWholeSt
import Derived.Test.YtknckbedddeijaaGreatXSpecRT
import Derived.Test.YtknckbedddeijaaGreatXShowSt
import Derived.Maps.AppendAt
namespace Go.Proofs.YtknckbedddeijaaGreat
open Go.RowKit
set_option linter.unusedVariables false
/-- The right tenant that the piece at the front holds, and what is left behind it. -/
noncomputable def insTS (l : List UInt8) : Option ((Int × List Nd × Int × List Nt × List Se) × List UInt8) :=
 (pieO l).bind fun p => (outT p.1).bind fun t => some (t, p.2)
theorem insTS_out {l r : List UInt8} {x : Int × List Nd × Int × List Nt × List Se} (h : insTS l = some (x, r)) : insTO l = some (x, r) ∧ tenB x = true := by
 unfold insTS at h
 obtain ⟨⟨p, r1⟩, h1, h⟩ := bind_out h
 obtain ⟨y, h2, h⟩ := bind_out h
 simp only [Option.some.injEq, Prod.mk.injEq] at h
 obtain ⟨rfl, rfl⟩ := h
 obtain ⟨h3, h4⟩ := outT_out h2
 refine ⟨?_, h4⟩
 unfold insTO
 simp only [h1, h3, Option.bind_some, if_true]
theorem insTS_of {l r : List UInt8} {x : Int × List Nd × Int × List Nt × List Se} (h : insTO l = some (x, r)) (hb : tenB x = true) : insTS l = some (x, r) := by
 unfold insTO at h
 obtain ⟨⟨p, r1⟩, h1, h⟩ := bind_out h
 obtain ⟨⟨y, r2⟩, h2, h⟩ := bind_out h
 dsimp only at h1 h2 h
 split at h
 ·rename_i he
  subst he
  simp only [Option.some.injEq, Prod.mk.injEq] at h
  obtain ⟨rfl, rfl⟩ := h
  unfold insTS outT
  simp only [h1, h2, Option.bind_some, hb, and_self, if_true]
 ·cases h
noncomputable def stS : Nat → List UInt8 → Option (List (Int × List Nd × Int × List Nt × List Se) × List UInt8)
 | 0, l => some ([], l)
 | n + 1, l => (insTS l).bind fun a => (stS n a.2).bind fun d => some (a.1 :: d.1, d.2)
theorem stS_no {n : Nat} {l : List UInt8} (hn : 0 < n) (h : insTS l = none) : stS n l = none := by
 obtain ⟨m, rfl⟩ : ∃ m, n = m + 1 := ⟨n - 1, by omega⟩
 simp only [stS, h, Option.bind_none]
theorem stS_yes {n : Nat} {l q : List UInt8} {x : Int × List Nd × Int × List Nt × List Se} (hn : 0 < n) (h : insTS l = some (x, q)) : stS n l = (stS (n - 1) q).map fun y => (x :: y.1, y.2) := by
 obtain ⟨m, rfl⟩ : ∃ m, n = m + 1 := ⟨n - 1, by omega⟩
 simp only [stS, h, Option.bind_some, Nat.add_sub_cancel]
 cases stS m q <;> rfl
theorem stS_out (n : Nat) : ∀ {l r : List UInt8} {K : List (Int × List Nd × Int × List Nt × List Se)}, stS n l = some (K, r) → insTsO n l = some (K, r) ∧ K.length = n ∧ K.all tenB = true := by
 induction n with
 | zero =>
  intro l r K h
  simp only [stS, Option.some.injEq, Prod.mk.injEq] at h
  obtain ⟨rfl, rfl⟩ := h
  exact ⟨rfl, rfl, rfl⟩
 | succ n ih =>
  intro l r K h
  rw [stS] at h
  obtain ⟨⟨x, l1⟩, h1, h⟩ := bind_out h
  obtain ⟨⟨K2, l2⟩, h2, h⟩ := bind_out h
  dsimp only at h1 h2
  simp only [Option.some.injEq, Prod.mk.injEq] at h
  obtain ⟨rfl, rfl⟩ := h
  obtain ⟨e1, e2, e3⟩ := ih h2
  obtain ⟨g1, g2⟩ := insTS_out h1
  refine ⟨?_, by simp [e2], by simp [g2, e3]⟩
  rw [insTsO, g1, Option.bind_some, e1]
  rfl
theorem stS_of (n : Nat) : ∀ {l r : List UInt8} {K : List (Int × List Nd × Int × List Nt × List Se)}, insTsO n l = some (K, r) → K.all tenB = true → stS n l = some (K, r) := by
 induction n with
 | zero =>
  intro l r K h _
  rw [insTsO] at h
  rw [stS, h]
 | succ n ih =>
  intro l r K h hb
  rw [insTsO] at h
  obtain ⟨⟨x, l1⟩, h1, h⟩ := bind_out h
  obtain ⟨⟨K2, l2⟩, h2, h⟩ := bind_out h
  dsimp only at h1 h2
  simp only [Option.some.injEq, Prod.mk.injEq] at h
  obtain ⟨rfl, rfl⟩ := h
  simp only [List.all_cons, Bool.and_eq_true] at hb
  rw [stS, insTS_of h1 hb.1, Option.bind_some, ih h2 hb.2]
  rfl
/-- A state is what three right tenants make, with nothing behind them. -/
theorem outS_is (l : List UInt8) : outS l = (stS 3 l).bind fun x => if x.2 = [] then some x.1 else none := by
 unfold outS staO
 cases h : stS 3 l with
 | some x =>
  obtain ⟨K, r⟩ := x
  obtain ⟨e1, e2, e3⟩ := stS_out 3 h
  rw [e1, Option.bind_some, Option.bind_some]
  have hb : stB K = true := by unfold stB; rw [e2, e3]; rfl
  by_cases hr : r = []
  ·simp [hr, hb]
  ·simp [hr]
 | none =>
  rw [Option.bind_none]
  cases h2 : insTsO 3 l with
  | none => rfl
  | some x =>
   obtain ⟨K, r⟩ := x
   rw [Option.bind_some]
   cases hb : K.all tenB with
   | true => rw [stS_of 3 h2 hb] at h; cases h
   | false =>
    have : stB K = false := by unfold stB; rw [hb, Bool.and_false]
    simp [this]
theorem insTS_parse {l r : List UInt8} {x : Int × List Nd × Int × List Nt × List Se} (h : insTS l = some (x, r)) : l = varL (shTen x).size ++ ((shTen x).data.toList ++ r) := by
 unfold insTS at h
 obtain ⟨⟨p, r1⟩, h1, h⟩ := bind_out h
 obtain ⟨y, h2, h⟩ := bind_out h
 simp only [Option.some.injEq, Prod.mk.injEq] at h
 obtain ⟨rfl, rfl⟩ := h
 obtain ⟨h3, h4⟩ := outT_out h2
 have h5 := ten_parse h3 h4
 dsimp only at h1 h5
 rw [List.append_nil] at h5
 have hs : (shTen y).data.toList = p := by rw [shTen_yes h4, h5]
 have hz : (shTen y).size = p.length := by
  rw [← hs]; simp
 rw [hz, hs]
 exact (pieO_out h1).2
/-- What is shown of such tenants. -/
def pcsK (K : List (Int × List Nd × Int × List Nt × List Se)) : List UInt8 := K.flatMap fun k => varL (shTen k).size ++ (shTen k).data.toList
theorem pcsK_map (L : List Ten) : pcsK (L.map Ten.key) = pcsL L := by unfold pcsL pcsK; rw [List.flatMap_map]; rfl
theorem stS_parse (n : Nat) : ∀ {l r : List UInt8} {K : List (Int × List Nd × Int × List Nt × List Se)}, stS n l = some (K, r) → l = pcsK K ++ r := by
 induction n with
 | zero =>
  intro l r K h
  simp only [stS, Option.some.injEq, Prod.mk.injEq] at h
  obtain ⟨rfl, rfl⟩ := h
  rfl
 | succ n ih =>
  intro l r K h
  rw [stS] at h
  obtain ⟨⟨x, l1⟩, h1, h⟩ := bind_out h
  obtain ⟨⟨K2, l2⟩, h2, h⟩ := bind_out h
  dsimp only at h1 h2
  simp only [Option.some.injEq, Prod.mk.injEq] at h
  obtain ⟨rfl, rfl⟩ := h
  rw [insTS_parse h1, ih h2]
  simp only [pcsK, List.flatMap_cons, List.append_assoc]
/-- What was read of a whole text is shown as that text. -/
theorem shSt_back {s : ByteArray} {L : List Ten} (h : stS 3 s.data.toList = some (L.map Ten.key, [])) : shSt L = s ∧ outS s.data.toList = some (L.map Ten.key) := by
 obtain ⟨e1, e2, e3⟩ := stS_out 3 h
 have hb : stateB L = true := by rw [← stB_keys]; unfold stB; rw [e2, e3]; rfl
 refine ⟨?_, by rw [outS_is, h]; rfl⟩
 have h1 := stS_parse 3 h
 rw [List.append_nil, pcsK_map] at h1
 rw [shSt_yes hb, ← h1, ba_ofS]
theorem outS_no {l : List UInt8} (h : stS 3 l = none) : outS l = none := by rw [outS_is, h]; rfl
theorem outS_rest {l r : List UInt8} {K : List (Int × List Nd × Int × List Nt × List Se)} (h : stS 3 l = some (K, r)) (hr : r ≠ []) : outS l = none := by
 rw [outS_is, h, Option.bind_some, if_neg hr]
theorem Own.apart2 {α β : Type} {E : Enc α} {F : Enc β} {T U : TypeId} (hTU : T ≠ U) {w w' : World} {B C : Nat} {u v : Value} {L : List α} {M : List β} (h : Own E T w B u L) (k : Own F U w C v M) (ho : Only (fun k => some k = v.ownBlock) w w') : Own E T w' B u L :=
 h.only ho (fun g hg e => apartX hTU h k hg e.symm)
/-- A tenant's memory stands where its state's row grows: it is of other types. -/
theorem TenO.grow {w w' : World} {B C : Nat} {v : Value} {M : List Ten} {t : Ten} (h : TenO w C t) (k : Own tnE 36 w B v M) (ho : Only (fun k => some k = v.ownBlock) w w') : TenO w' C t :=
 ⟨⟨Own.apart2 (by decide) h.vol.own k ho, fun p hp => Own.apart2 (by decide) (h.vol.nms p hp) k ho⟩, Own.apart2 (by decide) h.aud k ho, Own.apart2 (by decide) h.ses k ho⟩
theorem StO.grow {w w' : World} {B : Nat} {v v' : Value} {M : List Ten} {x : Ten} (h : StO w B v M) (hx : TenO w B x) (ho : Only (fun k => some k = v.ownBlock) w w') (hown : Own tnE 36 w' B v' (M ++ [x])) : StO w' B v' (M ++ [x]) :=
 ⟨hown, fun t ht => by
  rcases List.mem_append.1 ht with ht | ht
  ·exact (h.ten t ht).grow h.own ho
  ·rw [show t = x by simpa using ht]; exact hx.grow h.own ho⟩
theorem StO.kept {w w' : World} {B : Nat} {v : Value} {M : List Ten} (h : StO w B v M) (hb : Below w.heap.size w w') : StO w' B v M := ⟨h.own.kept hb, fun t ht => (h.ten t ht).kept hb⟩
theorem rowTn (w : World) : Own tnE 36 (w.alloc (.cells #[] 36)) w.heap.size (.slice (some ⟨w.heap.size, 0, none⟩) 0 0) [] :=
 World.ownsRow_made w #[] 0 (Nat.le_refl _) (by decide) rfl
theorem rowTn2 (w : World) (o : Obj) {B : Nat} (hB : B ≤ w.heap.size) : StO ((w.alloc o).alloc (.cells #[] 36)) B (.slice (some ⟨w.heap.size + 1, 0, none⟩) 0 0) [] :=
 ⟨by
  have h := rowTn (w.alloc o)
  have e : (w.alloc o).heap.size = w.heap.size + 1 := by simp
  rw [e] at h
  exact h.lower (by omega), fun t ht => by cases ht⟩
theorem outT_wf {l : List UInt8} {t : Ten} (h : outT l = some t.key) (hl : l.length ≤ 1048576) : TenW t := (ten_wf (outT_out h).1 hl).1
theorem outT_nil : outT ([] : List UInt8) = none := by
 refine outT_none ?_
 cases h : tenS [] with
 | none => rfl
 | some x => exact absurd rfl (tenS_ne (x := x.1) (r := x.2) h)
/-- What the sentence's ReadState hands back. -/
def RdSS (l : List UInt8) (w : World) (e : Ending) (w' : World) : Prop :=
 (∃ (v : Value) (L : List Ten) (is : Bool), e = .returned (.tuple #[v, .bool is]) ∧ Hid (StO w' w.heap.size v L) ∧ Hid ((is = true ∧ outS l = some (L.map Ten.key)) ∨ (is = false ∧ L = [] ∧ outS l = none))) ∧ Below w.heap.size w w'
set_option maxRecDepth 100000 in
set_option maxHeartbeats 8000000 in
theorem specReadState_any (s : ByteArray) (w : World) (hs : s.size ≤ 1048576) :
  Calls Tryz.prog 4 #[.string s] w (RdSS s.data.toList w) := by
 obtain ⟨i0, hi, hz0, hz1, hz2⟩ := infoTn
 go_enter Tryz.func4, Tryz.ntmps4
 go_upto_region 2 with fail
 obtain ⟨W, hW⟩ : ∃ W, w.alloc (.cells #[] 36) = W := ⟨_, rfl⟩
 have HO : Hid (StO W w.heap.size (.slice (some ⟨w.heap.size, 0, none⟩) 0 0) []) := by rw [← hW]; exact ⟨rowTn w, fun t ht => by cases ht⟩
 have HB : Hid (Below w.heap.size w W) := by rw [← hW]; exact one_below _ _
 simp only [hW]
 clear hW
 go_wp2_with fail
 go_loopw [4, 5, 6] (fun x y i wr => ∃ (a j : Nat) (va : Option Addr) (vc : Nat) (M : List Ten), i = .int .i64 (j : Nat) ∧ y = .int .i64 (a : Nat) ∧ x = .slice va M.length vc ∧ Hid (M.length = j) ∧ j ≤ 3 ∧ a ≤ s.size ∧ Hid (stS 3 s.data.toList = (stS (3 - j) (s.data.toList.drop a)).map fun y => (M.map Ten.key ++ y.1, y.2)) ∧ Hid (StO wr w.heap.size (.slice va M.length vc) M ∧ ∀ t ∈ M, TenW t) ∧ Hid (Below w.heap.size w wr)) (fun _ _ i _ => 3 - (intOf i).toNat)
 case atStart => exact ⟨0, 0, _, _, [], rfl, rfl, rfl, rfl, by omega, by omega, by unfold Hid; simp, ⟨HO.out, fun t ht => by cases ht⟩, HB⟩
 case round =>
  clear HO HB
  obtain ⟨a, j, va, vc, M, rfl, rfl, rfl, HMJ, hj3, ha, HN, HO, HB⟩ := hrel
  have hMl : M.length ≤ 3 := by have := HMJ.out; omega
  have hwr := HB.out.size
  by_cases hlt : j < 3
  ·have hjn : (j : Int) < 3 := by omega
   go_wp2_with fail
   refine (l8Take_any s a wr hs ha).mono ?_
   rintro e w1 ⟨⟨p, a1, rfl, HPI, ha1⟩ | ⟨rfl, HPI⟩, b1⟩
   rotate_left 1
   ·have HP : Hid (outS s.data.toList = none) := outS_no (by rw [HN.out, stS_no (by omega) (by unfold insTS; rw [HPI.out]; rfl)]; rfl)
    replace HB := Hid.intro (HB.out.trans (b1.mono hwr))
    clear b1 HO HN HPI
    go_wp2_with fail
    refine (specReadTenant_any ⟨#[]⟩ _ (by decide)).mono ?_
    rintro e w2 ⟨⟨t, rfl, HT, _⟩ | ⟨rfl, HT⟩, b2⟩
    ·exfalso
     have h := HT.out
     have h2 : outT (⟨#[]⟩ : ByteArray).data.toList = none := outT_nil
     rw [h2] at h
     cases h
    replace HB := Hid.intro (HB.out.trans (b2.mono HB.out.size))
    clear b2 HT
    go_wp2
    exact bodyPost_ret (v := .tuple #[.slice (some ⟨w2.heap.size + 1, 0, none⟩) 0 0, .bool false]) (by simp [results, Tryz.results4, go_sem]) rfl ⟨⟨_, [], false, rfl, rowTn2 _ _ HB.out.size, .inr ⟨rfl, rfl, HP.out⟩⟩, HB.out.trans (((one_below _ _).trans ((one_below _ _).mono (by simp))).mono HB.out.size)⟩
   have hps : p.size ≤ 1048576 := by
    have h := congrArg List.length (pieO_out HPI.out).2
    simp only [List.length_append, List.length_drop, Array.length_toList] at h
    have h2 : p.data.size = p.size := rfl
    have h3 : s.data.size = s.size := rfl
    omega
   replace HO := Hid.intro (And.intro (HO.out.1.kept b1) HO.out.2)
   replace HB := Hid.intro (HB.out.trans (b1.mono hwr))
   have i5 : ¬ (a1 : Int) < 0 := by omega
   clear b1
   go_wp2_with fail
   refine (specReadTenant_any p _ hps).mono ?_
   rintro e w2 ⟨⟨t, rfl, HT, HTO⟩ | ⟨rfl, HT⟩, b2⟩
   rotate_left 1
   ·have HP : Hid (outS s.data.toList = none) := outS_no (by rw [HN.out, stS_no (by omega) (by unfold insTS; rw [HPI.out, Option.bind_some, HT.out]; rfl)]; rfl)
    replace HB := Hid.intro (HB.out.trans (b2.mono HB.out.size))
    clear b2 HT HO HN HPI
    go_wp2
    exact bodyPost_ret (v := .tuple #[.slice (some ⟨w2.heap.size + 1, 0, none⟩) 0 0, .bool false]) (by simp [results, Tryz.results4, go_sem]) rfl ⟨⟨_, [], false, rfl, rowTn2 _ _ HB.out.size, .inr ⟨rfl, rfl, HP.out⟩⟩, HB.out.trans (((one_below _ _).trans ((one_below _ _).mono (by simp))).mono HB.out.size)⟩
   have HTW : Hid (TenW t) := outT_wf HT.out (by simpa using hps)
   have HNN : Hid (stS 3 s.data.toList = (stS (3 - (j + 1)) (s.data.toList.drop a1)).map fun y => ((M ++ [t]).map Ten.key ++ y.1, y.2)) := by
    have h1 : insTS (s.data.toList.drop a) = some (t.key, s.data.toList.drop a1) := by unfold insTS; rw [HPI.out, Option.bind_some, HT.out]; rfl
    unfold Hid
    rw [HN.out, stS_yes (by omega) h1, Nat.sub_sub]
    cases stS (3 - (j + 1)) (s.data.toList.drop a1) <;> simp
   have HX : Hid (TenO w2 w.heap.size t) := HTO.out.lower (by have := HB.out.size; omega)
   replace HO := Hid.intro (And.intro (HO.out.1.kept b2) HO.out.2)
   replace HB := Hid.intro (HB.out.trans (b2.mono HB.out.size))
   have z2 := b2.size
   clear b2 HT HTO HN HPI
   have HBB : Hid (Below w2.heap.size w2 ((w2.alloc (.cells t.arr 36)).alloc (.cells t.arr 36))) := (one_below _ _).trans ((one_below _ _).mono (by simp))
   have hown : w2.ownsRow w.heap.size 36 5 (.slice va M.length vc) M.length (tnE.f M) := HO.out.1.own
   have HO2 : Hid (StO ((w2.alloc (.cells t.arr 36)).alloc (.cells t.arr 36)) w.heap.size (.slice va M.length vc) M) := HO.out.1.kept HBB.out
   have HX2 : Hid (TenO ((w2.alloc (.cells t.arr 36)).alloc (.cells t.arr 36)) w.heap.size t) := HX.out.kept HBB.out
   have HW2 : Hid (∀ x ∈ M ++ [t], TenW x) := fun x hx => by
    rcases List.mem_append.1 hx with hx | hx
    ·exact HO.out.2 x hx
    ·rw [show x = t by simpa using hx]; exact HTW.out
   have hw2 : w.heap.size ≤ w2.heap.size := HB.out.size
   replace HB := Hid.intro (HB.out.trans (HBB.out.mono hw2))
   clear HO HX HTW HBB
   go_wp2_with (at_builtin; refine wpList_append_own _ rfl _ _ 22 rfl w.heap.size 36 i0 (.agg #[.int .i64 0, .slice none 0 0, .int .i64 0, .slice none 0 0, .slice none 0 0]) 5 88 Tryz.underlying22 hi hz0 hz1 hz2 rfl (by decide) _ _ _ rfl ((hown.alloc _).alloc _) ⟨w2.heap.size + 1, 0, none⟩ 1 1 (tnE.c t) rfl rfl ?d1 ?d2 ?d3 ?d4 ?d5 ?_)
   case d1 =>
    intro j u hj
    rw [add_none, Nat.zero_add, World.cell?_alloc_at _ _ _ _ (by simp)]
    simpa [tnE] using hj
   case d2 => exact tnE.one _
   case d3 => unfold maxLen; omega
   case d4 => omega
   case d5 => simp; omega
   intro v' w9 hown' hgrow _
   have HOw : Own tnE 36 w9 w.heap.size v' (M ++ [t]) := Own.mk hown' (by simp) (by rw [tnE.f_append, tnE.f_one1])
   have ho := grown_only hgrow
   obtain ⟨g9, cap2, rfl⟩ : ∃ g cap, v' = .slice (some ⟨g, 0, none⟩) (M.length + 1) cap := by
    rcases HOw.look with ⟨_, h⟩ | ⟨g, cap, h, _⟩
    ·simp at h
    ·exact ⟨g, cap, by simpa using h⟩
   have HE := Hid.intro (HO2.out.grow HX2.out ho HOw)
   have HB9 : Hid (Below w.heap.size w w9) := HB.out.trans (ho.below HB.out.size (fun k hk e => by have := (HO2.out.own.lt k e.symm).1; omega))
   clear hown hown' hgrow HOw ho HO2 HX2 HB
   go_wp2
   go_roundw
   case rel => exact ⟨a1, j + 1, _, _, M ++ [t], by go_num, rfl, by rw [List.length_append]; rfl, by have := HMJ.out; unfold Hid; rw [List.length_append, List.length_singleton]; omega, by omega, ha1, HNN, ⟨by rw [List.length_append, List.length_singleton]; exact HE.out, HW2.out⟩, HB9⟩
   case measure => simp [intOf]; omega
  ·obtain rfl : j = 3 := by omega
   have hjn : ¬ ((3 : Nat) : Int) < 3 := by omega
   have HN3 : Hid (stS 3 s.data.toList = some (M.map Ten.key, s.data.toList.drop a)) := by
    unfold Hid; rw [HN.out]; simp [stS]
   by_cases hz : a = s.size
   ·subst hz
    have hd : s.data.toList.drop s.size = [] := by
     refine List.drop_eq_nil_of_le ?_
     simp
    have hbk := shSt_back (s := s) (L := M) (by rw [HN3.out, hd])
    have HSH := Hid.intro hbk.1
    have HOUT := Hid.intro hbk.2
    have hne : ((s.size : Int) != (s.size : Int)) = false := by simp
    clear hbk hd HN3 HN
    go_wp2_with fail
    refine (specShowState_any M _ wr.heap.size wr (Nat.le_refl _) HO.out.1.rowAll HO.out.2).mono ?_
    rintro e w2 ⟨rfl, b2⟩
    rw [HSH.out]
    replace HO := Hid.intro (HO.out.1.kept b2)
    replace HB := Hid.intro (HB.out.trans (b2.mono hwr))
    clear b2
    have hss : (s.toList == s.toList) = true := by simp
    go_wp2
    exact bodyPost_ret (v := .tuple #[.slice va M.length vc, .bool true]) (by simp [results, Tryz.results4, go_sem]) rfl ⟨⟨_, M, true, rfl, HO, .inl ⟨rfl, HOUT.out⟩⟩, HB.out⟩
   ·have hne : ((a : Int) != (s.size : Int)) = true := by simp; omega
    have HP : Hid (outS s.data.toList = none) := outS_rest HN3.out (fun h => by
     have h2 := congrArg List.length h
     have e2 : s.data.toList.length = s.size := by simp
     rw [List.length_drop, List.length_nil] at h2
     omega)
    clear HN3 HN HO
    go_wp2
    exact bodyPost_ret (v := .tuple #[.slice (some ⟨wr.heap.size, 0, none⟩) 0 0, .bool false]) (by simp [results, Tryz.results4, go_sem]) rfl ⟨⟨_, [], false, rfl, ⟨(rowTn wr).lower hwr, fun t ht => by cases ht⟩, .inr ⟨rfl, rfl, HP.out⟩⟩, HB.out.trans ((one_below _ _).mono hwr)⟩
end Go.Proofs.YtknckbedddeijaaGreat
