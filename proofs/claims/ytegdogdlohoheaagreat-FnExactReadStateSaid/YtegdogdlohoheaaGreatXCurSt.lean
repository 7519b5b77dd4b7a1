/- A cursor's state. -/
import Derived.Test.YtegdogdlohoheaaGreatXInsT
import Derived.Test.YtegdogdlohoheaaGreatZMarkS
import Derived.Maps.AppendAt
namespace Go.Proofs.YtegdogdlohoheaaGreat
open Go.RowKit
set_option linter.unusedVariables false
theorem TnO.top {w : World} {B g3 : Nat} {t : Ten} (h : TnO w B g3 t) (hB : B ≤ w.heap.size) : TenM w B w.heap.size B (min g3 w.heap.size) t :=
 have hlt := h.lt
 ⟨Nat.le_refl _, by omega, by omega, h.vol, fun k hk => by have := h.vt k hk; have := (h.vol.own.lt k hk).2; omega, fun p hp k hk => by have := h.vn p hp k hk; have := ((h.vol.nms p hp).lt k hk).2; omega, h.aud.lower (by omega), h.ses.lower (by omega), fun k hk => by have := h.aud.lt k hk; omega, fun k hk => by have := h.ses.lt k hk; omega⟩
/-- So many tenants from the front on, and what is left. -/
noncomputable def insTsO : Nat → List UInt8 → Option (List (Int × List Nd × Int × List Nt × List Se) × List UInt8)
 | 0, l => some ([], l)
 | n + 1, l => (insTO l).bind fun a => (insTsO n a.2).bind fun d => some (a.1 :: d.1, d.2)
theorem insTsO_no {n : Nat} {l : List UInt8} (hn : 0 < n) (h : insTO l = none) : insTsO n l = none := by
 obtain ⟨m, rfl⟩ : ∃ m, n = m + 1 := ⟨n - 1, by omega⟩
 simp only [insTsO, h, Option.bind_none]
theorem insTsO_yes {n : Nat} {l q : List UInt8} {x : Int × List Nd × Int × List Nt × List Se} (hn : 0 < n) (h : insTO l = some (x, q)) : insTsO n l = (insTsO (n - 1) q).map fun y => (x :: y.1, y.2) := by
 obtain ⟨m, rfl⟩ : ∃ m, n = m + 1 := ⟨n - 1, by omega⟩
 simp only [insTsO, h, Option.bind_some, Nat.add_sub_cancel]
 cases insTsO m q <;> rfl
theorem StM.onlyL {w w' : World} {base : Nat} {v : Value} {L : List Ten} {b t v0 v1 : Nat → Nat} {S : Nat → Prop} (h : StM w base v L b t v0 v1) (ho : Only S w w') (hs : ∀ k, base ≤ k → ¬ S k) : StM w' base v L b t v0 v1 :=
 ⟨h.own.only ho (fun k hk => hs k (h.own.lt k hk).1), fun i hi => (h.ten i hi).onlyR ho (fun k h1 _ => hs k (by have := h.low i hi; omega)), h.low, fun i hi => Nat.le_trans (h.top i hi) ho.size, h.dis, h.row⟩
/-- One more tenant behind a state; its memory lies from lo on. -/
theorem StM.put {wr w1 w9 : World} {base lo X0 X1 : Nat} {v v' : Value} {M : List Ten} {b t v0 v1 : Nat → Nat} {x : Ten} (h : StM w1 base v M b t v0 v1) (htop : ∀ i, i < M.length → t i ≤ lo) (hvr : ∀ k, v.ownBlock = some k → k < lo) (hx : TenM w1 lo w1.heap.size X0 X1 x)
  (ho : Only (fun k => some k = v.ownBlock) w1 w9) (hown : Own tnE 36 w9 base v' (M ++ [x])) (hloc : ∀ k, v'.ownBlock = some k → v.ownBlock = some k ∨ w1.heap.size ≤ k) (hbase : base ≤ lo) (hlo : lo ≤ w1.heap.size) :
  StM w9 base v' (M ++ [x]) (fun i => if i = M.length then lo else b i) (fun i => if i = M.length then w1.heap.size else t i) (fun i => if i = M.length then X0 else v0 i) (fun i => if i = M.length then X1 else v1 i) := by
 have s3 := ho.size
 refine ⟨hown, fun i hi => ?_, fun i hi => ?_, fun i hi => ?_, fun i j hi hj hij k h1 h2 h3 => ?_, fun k hk i hi h3 => ?_⟩
 ·by_cases e : i = M.length
  ·subst e
   simp only [if_true, List.getElem_concat_length]
   exact hx.onlyR ho (fun k h1 h2 e => by have := hvr k e.symm; omega)
  ·have hi2 : i < M.length := by simp at hi; omega
   simp only [if_neg e, List.getElem_append_left hi2]
   exact (h.ten i hi2).onlyR ho (fun k h1 h2 e => h.row k e.symm i hi2 ⟨h1, h2⟩)
 ·by_cases e : i = M.length
  ·simp only [if_pos e]; exact hbase
  ·simp only [if_neg e]; exact h.low i (by simp at hi; omega)
 ·by_cases e : i = M.length
  ·simp only [if_pos e]; omega
  ·simp only [if_neg e]; have := h.top i (by simp at hi; omega); omega
 ·simp only [List.length_append, List.length_singleton] at hi hj
  by_cases e1 : i = M.length
  ·simp only [if_pos e1] at h1 h2
   simp only [if_neg (show ¬ j = M.length by omega)] at h3
   have := htop j (by omega)
   omega
  ·simp only [if_neg e1] at h1 h2
   by_cases e2 : j = M.length
   ·simp only [if_pos e2] at h3
    have := htop i (by omega)
    omega
   ·simp only [if_neg e2] at h3
    exact h.dis i j (by omega) (by omega) hij k h1 h2 h3
 ·simp only [List.length_append, List.length_singleton] at hi
  rcases hloc k hk with hk | hk
  ·by_cases e : i = M.length
   ·simp only [if_pos e] at h3
    have := hvr k hk
    omega
   ·simp only [if_neg e] at h3
    exact h.row k hk i (by omega) h3
  ·by_cases e : i = M.length
   ·simp only [if_pos e] at h3
    omega
   ·simp only [if_neg e] at h3
    have := h.top i (by omega)
    omega
/-- A state, whole. -/
noncomputable def staO (l : List UInt8) : Option (List (Int × List Nd × Int × List Nt × List Se) × List UInt8) := insTsO 3 l
def StaC (b : Nat) (q : ByteArray) (w : World) (e : Ending) (w' : World) : Prop :=
 (∃ (v : Value) (L : List Ten) (bb tt v0 v1 : Nat → Nat) (q' : ByteArray), e = .returned v ∧ Hid (staO q.data.toList = some (L.map Ten.key, q'.data.toList)) ∧ Hid (StM w' w.heap.size v L bb tt v0 v1) ∧ CurAt w' b q' ∧ q'.size ≤ 1048576 ∧ L.length = 3 ∧ Hid (∀ x ∈ L, Inc x.L ∧ TenW x) ∧ Only (fun k => k = b) w w') ∨ (Lack e ∧ Hid (staO q.data.toList = none) ∧ Only (fun k => k = b) w w')
set_option maxRecDepth 100000 in
set_option maxHeartbeats 8000000 in
theorem stateC_any (b : Nat) (q0 : ByteArray) (w : World) (hc : CurAt w b q0) (s0 : q0.size ≤ 1048576) :
  Calls Tryz.prog 13 #[.pointer (some ⟨b, 0, none⟩)] w (StaC b q0 w) := by
 obtain ⟨i0, hi, hz0, hz1, hz2⟩ := infoTn
 have hlt := hc.lt
 go_enter Tryz.func13, Tryz.ntmps13
 go_wp2_with fail
 have HI : Hid (StM w w.heap.size (.slice none 0 0) [] (fun _ => 0) (fun _ => 0) (fun _ => 0) (fun _ => 0)) := ⟨Own.nil _ _, fun i hi => by simp at hi, fun i hi => by simp at hi, fun i hi => by simp at hi, fun i j hi => by simp at hi, fun k hk i hi => by simp at hi⟩
 have HC : Hid (CurAt w b q0 ∧ Only (fun k => k = b) w w) := ⟨hc, Only.refl _ _⟩
 clear hc
 go_loopw [3, 4] (fun s i wr => ∃ (j : Nat) (q : ByteArray) (va : Option Addr) (vc : Nat) (M : List Ten) (bb t v0 v1 : Nat → Nat), i = .int .i64 j ∧ s = .slice va M.length vc ∧ Hid (M.length = j) ∧ j ≤ 3 ∧ q.size ≤ 1048576 ∧ Hid (staO q0.data.toList = (insTsO (3 - j) q.data.toList).map fun y => (M.map Ten.key ++ y.1, y.2)) ∧ Hid (StM wr w.heap.size (.slice va M.length vc) M bb t v0 v1) ∧ Hid (∀ x ∈ M, Inc x.L ∧ TenW x) ∧ Hid (CurAt wr b q ∧ Only (fun k => k = b) w wr)) (fun _ i _ => 3 - (intOf i).toNat)
 case atStart => exact ⟨0, q0, _, _, [], _, _, _, _, rfl, rfl, rfl, by omega, s0, by unfold Hid staO; simp, HI, (fun x hx => by cases hx), HC⟩
 case round =>
  clear HI HC
  obtain ⟨j, q, va, vc, M, bb, t, v0, v1, rfl, rfl, HMJ, hj3, sq, HN, HI, HN2, HC⟩ := hrel
  have hMl : M.length ≤ 3 := by have := HMJ.out; omega
  have hwr := HC.out.2.size
  by_cases hlt3 : j < 3
  ·have hjn : (j : Int) < 3 := by omega
   go_wp2_with fail
   refine (insT_any b q wr HC.out.1 sq).mono ?_
   rintro e w1 (⟨x, g3, q2, rfl, G1, c2, s2, hm, o1⟩ | ⟨⟨pv, rfl⟩, G1, o1⟩)
   rotate_left 1
   ·have HP : Hid (staO q0.data.toList = none) := by
     unfold Hid
     rw [HN.out, insTsO_no (by omega) G1.out]
     rfl
    have B9 := HC.out.2.trans o1
    clear HI HC
    go_wp2
    exact ⟨rfl, .inr ⟨⟨_, rfl⟩, HP, B9⟩⟩
   have HNN : Hid (staO q0.data.toList = (insTsO (3 - (j + 1)) q2.data.toList).map fun y => ((M ++ [x]).map Ten.key ++ y.1, y.2)) := by
    unfold Hid
    rw [HN.out, insTsO_yes (by omega) G1.out, Nat.sub_sub]
    cases insTsO (3 - (j + 1)) q2.data.toList <;> simp
   have HI1 : Hid (StM w1 w.heap.size (.slice va M.length vc) M bb t v0 v1) := HI.out.onlyL o1 (fun k hk e => by omega)
   have HT : Hid (∀ i, i < M.length → t i ≤ wr.heap.size) := HI.out.top
   have HV : Hid (∀ k, (Value.slice va M.length vc).ownBlock = some k → k < wr.heap.size) := fun k hk => (HI.out.own.lt k hk).2
   have z1 := o1.size
   have HX : Hid (TenM (w1.alloc (.cells x.arr 36)) wr.heap.size (w1.alloc (.cells x.arr 36)).heap.size wr.heap.size (min g3 (w1.alloc (.cells x.arr 36)).heap.size) x) := (hm.out.1.kept (one_below _ _)).top (by simp; omega)
   have HN3 : Hid (∀ y ∈ M ++ [x], Inc y.L ∧ TenW y) := fun y hy => by
    rcases List.mem_append.1 hy with hy | hy
    ·exact HN2.out y hy
    ·have : y = x := by simpa using hy
     rw [this]; exact ⟨hm.out.1.inc, hm.out.2⟩
   have hown : w1.ownsRow w.heap.size 36 5 (.slice va M.length vc) M.length (tnE.f M) := HI1.out.own
   have HI2 : Hid (StM (w1.alloc (.cells x.arr 36)) w.heap.size (.slice va M.length vc) M bb t v0 v1) := HI1.out.kept (one_below _ _)
   have HC2 : Hid (CurAt (w1.alloc (.cells x.arr 36)) b q2 ∧ Only (fun k => k = b) w (w1.alloc (.cells x.arr 36))) := ⟨c2.kept (one_below _ _), (HC.out.2.trans o1).trans (ob_any (one_below _ _))⟩
   clear HI HC HI1 hm o1 c2 HN HN2 G1
   go_wp2_with (at_builtin; refine wpList_append_own_at _ rfl _ _ 22 rfl w.heap.size 36 i0 (.agg #[.int .i64 0, .slice none 0 0, .int .i64 0, .slice none 0 0, .slice none 0 0]) 5 88 Tryz.underlying22 hi hz0 hz1 hz2 rfl (by decide) _ _ _ rfl (hown.alloc _) ⟨w1.heap.size, 0, none⟩ 1 1 (tnE.c x) rfl rfl ?d1 ?d2 ?d3 ?d4 ?d5 ?_)
   case d1 =>
    intro j u hj
    rw [add_none, Nat.zero_add, World.cell?_alloc_at _ _ _ _ rfl]
    simpa [tnE] using hj
   case d2 => exact tnE.one _
   case d3 => unfold maxLen; omega
   case d4 => omega
   case d5 => simp; omega
   intro v' w9 hown' hgrow _ hloc
   have HOw : Own tnE 36 w9 w.heap.size v' (M ++ [x]) := Own.mk hown' (by simp) (by rw [tnE.f_append, tnE.f_one1])
   have ho := grown_only hgrow
   obtain ⟨g9, cap2, rfl⟩ : ∃ g cap, v' = .slice (some ⟨g, 0, none⟩) (M.length + 1) cap := by
    rcases HOw.look with ⟨_, h⟩ | ⟨g, cap, h, _⟩
    ·simp at h
    ·exact ⟨g, cap, by simpa using h⟩
   have HE := Hid.intro (HI2.out.put (wr := wr) HT.out HV.out HX.out ho HOw (fun k hk => by
    rcases hloc with h | h
    ·exact .inl (h.symm.trans hk)
    ·rw [h] at hk
     exact .inr (by have := Option.some.inj hk; simp; omega)) hwr (by simp; omega))
   have HC9 : Hid (CurAt w9 b q2 ∧ Only (fun k => k = b) w w9) := ⟨HC2.out.1.only ho (fun e => by have := (HI2.out.own.lt b e.symm).1; omega), HC2.out.2.then ho (fun k hk e => by have := (HI2.out.own.lt k e.symm).1; omega)⟩
   clear hown hown' hgrow HOw ho hloc HI2 HC2 HX HT HV
   go_wp2
   go_roundw
   case rel => exact ⟨j + 1, q2, _, _, M ++ [x], _, _, _, _, by go_num, by rw [List.length_append]; rfl, by have := HMJ.out; unfold Hid; rw [List.length_append, List.length_singleton]; omega, by omega, s2, HNN, by unfold Hid; rw [List.length_append, List.length_singleton]; exact HE.out, HN3, HC9⟩
   case measure => simp [intOf]; omega
  ·obtain rfl : j = 3 := by omega
   have hjn : ¬ ((3 : Nat) : Int) < 3 := by omega
   go_wp2_with fail
   go_ret
   exact .inl ⟨_, M, bb, t, v0, v1, q, rfl, by have h := HN.out; unfold Hid; rw [h]; simp [insTsO], HI.out, HC.out.1, sq, HMJ.out, HN2, HC.out.2⟩
end Go.Proofs.YtegdogdlohoheaaGreat
