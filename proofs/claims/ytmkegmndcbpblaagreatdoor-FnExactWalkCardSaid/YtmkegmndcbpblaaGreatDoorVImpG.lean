/- names: how many names lead to each inode. -/
import Derived.Test.YtmkegmndcbpblaaGreatDoorVImpF
namespace Go.Proofs.YtmkegmndcbpblaaGreatDoor
open Go.RowKit Go.Maps
set_option linter.unusedVariables false
theorem zeroI (w : World) : (zeroValue 3).run Tryz.prog w = .ok (.int .i64 0) w := by kernel_rfl
/-- Block cb is a map of numbers that holds G, 0 where there is none. -/
def IM (w : World) (cb : Nat) (G : Int → Nat) (n : Nat) : Prop := ∃ D : DataW Unit, w.ownsMap Tryz.prog 3 (plainElem Tryz.prog 3) cb n D ∧ ∀ id : Int, (Lit.int .i64 id).wf = true → D.atKey (.int .i64 id) (.lit (.int .i64 0)) = .lit (.int .i64 (G id : Nat))
theorem IM.lt {w : World} {cb n : Nat} {G : Int → Nat} (h : IM w cb G n) : cb < w.heap.size := by
 obtain ⟨D, h1, _⟩ := h
 exact h1.lt
theorem IM.kept {w w' : World} {cb n : Nat} {G : Int → Nat} (h : IM w cb G n) (hb : w'.heap[cb]? = w.heap[cb]?) : IM w' cb G n := by
 obtain ⟨D, ⟨es, clock, h1, h2⟩, h3⟩ := h
 exact ⟨D, ⟨es, clock, hb.trans h1, h2⟩, h3⟩
theorem IM.made (w : World) : IM (w.alloc (.map #[] 0)) w.heap.size (fun _ => 0) 0 := ⟨.map [], World.ownsMap_made w _ _ _, fun id _ => rfl⟩
theorem IM.look {w : World} {cb n : Nat} {G : Int → Nat} (h : IM w cb G n) {id : Int} (hw : (Lit.int .i64 id).wf = true) : (Instr.lookup 106 (.map (some cb)) (.int .i64 id) false).run Tryz.prog w = .ok (.int .i64 (G id : Nat)) w := by
 obtain ⟨D, h1, h2⟩ := h
 obtain ⟨c, hrun, hat, _⟩ := h1.lookup_int int_law Tryz.underlying106 Tryz.underlying3 (zeroI w) (key_int hw)
 rw [h2 id hw] at hat
 simp only [DataW.lit.injEq, Lit.int.injEq, true_and] at hat
 rw [hrun, hat]
theorem IM.put {w : World} {cb n : Nat} {G : Int → Nat} (h : IM w cb G n) (hn : n < maxLen) {id : Int} (hw : (Lit.int .i64 id).wf = true) (hg : G id ≤ 1000) : ∃ w', (Instr.mapUpdate 106 (.map (some cb)) (.int .i64 id) (.int .i64 ((G id : Nat) + 1))).run Tryz.prog w = .ok () w' ∧ IM w' cb (fun x => if x = id then G x + 1 else G x) (n + 1) ∧ Only (fun k => k = cb) w w' := by
 obtain ⟨D, h1, h2⟩ := h
 have hv : plainElem (H := Unit) Tryz.prog 3 (.int .i64 ((G id : Nat) + 1 : Int)) = some (.lit (.int .i64 ((G id : Nat) + 1 : Int)), []) := plainElem_int Tryz.underlying3 (wf_i (by omega) (by omega))
 obtain ⟨w', hrun, h4, h5⟩ := h1.update int_law Tryz.underlying106 hn (key_int hw) hv
 have hk : WideAt.IsKeyLit (Lit.int .i64 id) := int_law.key (key_int hw)
 refine ⟨w', hrun, ⟨_, h4, fun x hx => ?_⟩, ⟨h5.os, h5.tape, h5.output, h5.size, fun i hi hs => h5.block i hi (by simpa using fun e => hs e)⟩⟩
 dsimp only
 by_cases e : x = id
 ·subst e
  rw [if_pos rfl, atKey_put_same h1.isMap hk]
  simp
 ·have hne : Lit.int .i64 x ≠ Lit.int .i64 id := fun h => e (by simpa using h)
  rw [if_neg e, atKey_put_other hne]
  exact h2 x hx
/-- How many names of those that are marked lead to an inode. -/
def cntV (L : List Nd) (v : List Bool) (id : Int) : Nat := ((L.zip v).map fun p => if p.2 = true then idsN p.1.names id else 0).sum
theorem cntV_set {id : Int} {L : List Nd} : ∀ {v : List Bool} {x : Nat}, L.length = v.length → (hx : x < L.length) → ¬ isT v x → cntV L (v.set x true) id = cntV L v id + idsN L[x].names id := by
 induction L with
 | nil => intro v x _ hx; simp at hx
 | cons n L ih =>
  intro v x hl hx hn
  cases v with
  | nil => simp at hl
  | cons a v =>
   cases x with
   | zero =>
    have ha : a = false := by
     cases a with
     | false => rfl
     | true => exact absurd rfl hn
    subst ha
    simp [cntV]; omega
   | succ x =>
    have h1 := ih (v := v) (x := x) (by simpa using hl) (by simpa using hx) (by simpa [isT] using hn)
    simp only [cntV, List.set_cons_succ, List.zip_cons_cons, List.map_cons, List.sum_cons, List.getElem_cons_succ] at h1 ⊢
    rw [h1]; omega
theorem cntV_le {id : Int} {L : List Nd} (k : Nat) : ∀ {v : List Bool}, (∀ n ∈ L, n.names.length ≤ k) → cntV L v id ≤ L.length * k := by
 induction L with
 | nil => intro v _; simp [cntV]
 | cons n L ih =>
  intro v h
  cases v with
  | nil => simp [cntV]
  | cons a v =>
   have h1 := ih (v := v) fun m hm => h m (List.mem_cons_of_mem _ hm)
   have h2 := h n (by simp)
   have h3 := idsN_le n.names id
   have e2 : cntV (n :: L) (a :: v) id = (if a = true then idsN n.names id else 0) + cntV L v id := by simp [cntV]
   rw [e2, List.length_cons, Nat.add_mul]
   split <;> omega
theorem cntV_zero (L : List Nd) (id : Int) : cntV L (List.replicate L.length false) id = 0 := by
 induction L with
 | nil => simp [cntV]
 | cons n L ih =>
  simp only [cntV, List.length_cons, List.replicate_succ, List.zip_cons_cons, List.map_cons, List.sum_cons] at ih ⊢
  rw [ih]; simp
theorem cntV_all (L : List Nd) (id : Int) : cntV L (allT L) id = namedN L id := by
 induction L with
 | nil => simp [cntV, namedN]
 | cons n L ih =>
  simp only [cntV, allT, namedN, List.length_cons, List.replicate_succ, List.zip_cons_cons, List.map_cons, List.sum_cons] at ih ⊢
  rw [ih]; simp
theorem idsN_step {nn : List Di} {j : Nat} (h : j < nn.length) (id : Int) : idsN (nn.take (j + 1)) id = idsN (nn.take j) id + if nn[j].id = id then 1 else 0 := by
 rw [List.take_succ_eq_append_getElem h, idsN_snoc]
theorem make_tree (n : Int) (w : World) : (Instr.makeMap 77 (some (.int .i64 n))).run Tryz.prog w = .ok (.map (some w.heap.size)) (w.alloc (.map #[] 0)) := by kernel_rfl
theorem make_ints (n : Int) (w : World) : (Instr.makeMap 106 (some (.int .i64 n))).run Tryz.prog w = .ok (.map (some w.heap.size)) (w.alloc (.map #[] 0)) := by kernel_rfl
set_option maxRecDepth 100000 in
set_option maxHeartbeats 4000000 in
theorem names_any (L : List Np) (tb b off N : Nat) (hI : IdsD (L.map Np.n)) (hn : L.length ≤ 24) (hW : ∀ p ∈ L, IdW p.n.names ∧ p.n.names.length ≤ 12) (w : World) (h : TC w tb b off N L) :
  Calls Tryz.prog 67 #[.map (some tb)] w fun e w' => ∃ cb n, e = .returned (.map (some cb)) ∧ w.heap.size ≤ cb ∧ IM w' cb (namedN (L.map Np.n)) n ∧ Below w.heap.size w w' := by
 have HT := Hid.intro h
 have HW := Hid.intro hW
 have HI := Hid.intro hI
 have HM := Hid.intro h.mapT
 have htl := h.lt
 have hbN := h.bN
 have hNT := h.NT
 have H12 : Hid (∀ n ∈ L.map Np.n, n.names.length ≤ 12) := fun n hn => by
  obtain ⟨p, hp, rfl⟩ := List.mem_map.1 hn
  exact (hW p hp).2
 have hl0 := h.map.len
 obtain ⟨LN, hLN⟩ : ∃ LN, L.map Np.n = LN := ⟨_, rfl⟩
 rw [hLN] at HM HI H12 ⊢
 have HLN := Hid.intro hLN
 have HLEN : Hid (LN.length = L.length) := by unfold Hid; rw [← hLN]; simp
 clear hI hW h hLN
 go_enter Tryz.func67, Tryz.ntmps67
 have hmm := make_ints
 go_upto_region 2 with fail
 have hI0 := IM.made w
 have b1 := (Below.refl w.heap.size w).alloc (Nat.le_refl _) (.map #[] 0)
 have z1 : (w.alloc (.map #[] 0)).heap.size = w.heap.size + 1 := by simp
 generalize w.alloc (.map #[] 0) = w1 at hI0 b1 z1 ⊢
 have HI0 := Hid.intro hI0
 have HB1 := Hid.intro b1
 replace HM := Hid.intro (HM.out.below b1 htl)
 have hlt1 : w.heap.size < w1.heap.size := by omega
 clear hI0 b1 hmm hl0 z1
 go_wp2_with (at_range; refine wpList_range_tree rfl _ rfl HI.out rfl HM.out ?_; intro w2 hTR hB2 hz2; have HTR := Hid.intro hTR; have HB2 := Hid.intro hB2; clear hTR hB2)
 go_frame
 go_loopw [5] (fun _ wr => ∃ (v : List Bool) (cnt n : Nat), Hid (v.length = LN.length) ∧ Hid (n ≤ 12 * v.count true) ∧ Hid (TR wr tb w1.heap.size b off LN (allT LN) v L.length cnt) ∧ Hid (IM wr w.heap.size (cntV LN v) n) ∧ Hid (Below w.heap.size w wr) ∧ Hid (w1.heap.size < wr.heap.size)) (fun _ wr => wr.rangeLeft tb w1.heap.size)
 case atStart =>
  refine ⟨List.replicate LN.length false, _, 0, by unfold Hid; simp, by unfold Hid; omega, HTR, ?_, HB1.out.trans (HB2.out.mono (by omega)), by unfold Hid; omega⟩
  have e : cntV LN (List.replicate LN.length false) = fun _ => 0 := by funext id; exact cntV_zero LN id
  unfold Hid
  rw [e]
  exact HI0.out.kept (HB2.out.block _ (by omega))
 case round =>
  obtain ⟨v, cnt, n, HV, HN, HR, HG, HB, HZ⟩ := hrel
  go_wp2_with (at_next; refine wpList_next_tree rfl _ rfl HI.out HV.out rfl HR.out ?_ ?_)
  ·intro hall
   have hvs : v = allT LN := Sub.anti ⟨by rw [HV.out]; simp [allT], fun y hy => isT_all.2 (by rw [← HV.out]; exact (List.getElem?_eq_some_iff.1 hy).1)⟩ ⟨by rw [HV.out]; simp [allT], fun y hy => hall y (isT_all.1 hy) hy⟩
   have HGE : Hid (IM wr w.heap.size (namedN LN) n) := by
    have e : cntV LN v = namedN LN := by funext id; rw [hvs]; exact cntV_all LN id
    unfold Hid
    rw [← e]
    exact HG.out
   clear hall hvs
   go_wp2_with fail
   go_ret
   exact ⟨_, n, rfl, Nat.le_refl _, HGE.out, HB.out⟩
  ·intro y hy w3 cnt3 hsy hny hTR hlt hO hsz hen
   have hyl : y < L.length := by rw [← HLEN.out]; exact hy
   have hzw := HZ.out
   have hb3 : Below w.heap.size w w3 := HB.out.trans (hO.below HB.out.size (fun k hk e => by omega))
   have htc := HT.out.kept hb3 htl
   have hc := htc.at_ y hyl
   have hmem := List.getElem_mem hyl
   have hLy : LN[y] = L[y].n := by
    have := map_get hyl
    rw [HLN.out, List.getElem?_eq_getElem hy] at this
    exact Option.some.inj this
   have hcs : ∀ id, cntV LN (v.set y true) id = cntV LN v id + idsN L[y].n.names id := fun id => by
    rw [cntV_set HV.out.symm hy hny, hLy]
   have hrow := htc.nms _ hmem
   have hww := HW.out _ hmem
   rw [hLy] at hen ⊢
   generalize L[y] = p at hc hen hcs hrow hww hmem
   obtain ⟨a2, cap2, hv2, l2, m2, hdc⟩ := diE_cell hrow
   have g6 := hc.c6
   rw [hv2] at g6
   have HIW := Hid.intro hww.1
   have h12 := hww.2
   have HCS := Hid.intro hcs
   have HD := Hid.intro hdc
   have HV3 : Hid ((v.set y true).length = LN.length) := by unfold Hid; rw [List.length_set]; exact HV.out
   have HCT : Hid ((v.set y true).count true = v.count true + 1) := count_set (by rw [HV.out]; exact hy) hny
   have HLT : Hid (cnt3 < wr.rangeLeft tb w1.heap.size) := by unfold Hid; rw [HR.out.left]; exact hlt
   have HR3 := Hid.intro hTR
   have HG3 := Hid.intro (HG.out.kept (hO.block w.heap.size HG.out.lt (by omega)))
   have HB3 := Hid.intro hb3
   have hz3 : w1.heap.size < w3.heap.size := by rw [hsz]; exact HZ.out
   have hvc := List.count_le_length (a := true) (l := v)
   rw [HV.out, HLEN.out] at hvc
   have hnn := HN.out
   clear hTR hb3 hO hsz hc hny hsy hlt hLy htc hmem hcs hrow hww hdc hv2
   generalize p.n.names = nn at l2 g6 HIW h12 HCS HD
   obtain ⟨wo, rfl⟩ : ∃ wo : World, wo = wr := ⟨_, rfl⟩
   go_wp2_with fail
   clear g6
   go_loopw [22] (fun q wr => ∃ (j m : Nat), q = .int .i64 j ∧ j ≤ nn.length ∧ m ≤ n + j ∧ Hid (IM wr w.heap.size (fun id => cntV LN v id + idsN (nn.take j) id) m) ∧ Hid (TR wr tb w1.heap.size b off LN (allT LN) (v.set y true) L.length cnt3) ∧ Hid (Below w.heap.size w3 wr)) (fun q _ => nn.length - (intOf q).toNat)
   case atStart => exact ⟨0, n, rfl, Nat.zero_le _, by omega, HG3, HR3, Below.refl _ _⟩
   case round =>
    obtain ⟨j, m, rfl, hj, hm, HGJ, HRJ, HBJ⟩ := hrel
    have hzj := HBJ.out.size
    by_cases hlt : j < nn.length
    ·obtain ⟨b2, o2, rfl, hb2, hdd⟩ := HD.out (by intro h; rw [h] at hlt; simp at hlt)
     obtain ⟨d0, d1⟩ := hdd j hlt
     have hiw := HIW.out _ (List.getElem_mem hlt)
     have hst := fun id => idsN_step hlt id
     have hile := idsN_le (nn.take j) nn[j].id
     rw [List.length_take] at hile
     generalize nn[j] = e at d0 d1 hiw hst hile
     replace d0 := atCell HBJ.out d0 (by omega)
     replace d1 := atCell HBJ.out d1 (by omega)
     have hcl := cntV_le (id := e.id) 12 (v := v) H12.out
     rw [HLEN.out] at hcl
     have hjl : (j : Int) < (nn.length : Int) := by omega
     have i1 : (0 : Int) ≤ (j : Int) ∧ (j : Int) < (nn.length : Int) := by omega
     have HST := Hid.intro hst
     clear hdd hst
     go_upto_region 8 with fail
     obtain ⟨X, hX, bX, zX, cX, fX⟩ := boxed wr #[.string e.nm, .int .i64 e.id] 85
     simp only [hX]
     have hGX := HGJ.out.kept (bX.block w.heap.size HGJ.out.lt)
     have hlk := hGX.look hiw
     obtain ⟨Y, hY, hGY, hOY⟩ := hGX.put (by unfold maxLen; omega) hiw (by omega)
     generalize hgg : cntV LN v e.id + idsN (nn.take j) e.id = g at hlk hY
     have hg1 : g ≤ 1000 := by omega
     have HGY : Hid (IM Y w.heap.size (fun id => cntV LN v id + idsN (nn.take (j + 1)) id) (m + 1)) := by
      have e1 : (fun id => cntV LN v id + idsN (nn.take (j + 1)) id) = fun x => if x = e.id then (cntV LN v x + idsN (nn.take j) x) + 1 else cntV LN v x + idsN (nn.take j) x := by
       funext id
       rw [HST.out id]
       by_cases h : id = e.id
       ·rw [if_pos h.symm, if_pos h]; omega
       ·rw [if_neg (fun h2 => h h2.symm), if_neg h]; omega
      unfold Hid
      rw [e1]
      exact hGY
     have hitr := HRJ.out.iter
     have htw := HRJ.out.tm.lt
     have HRY := Hid.intro ((HRJ.out.kept (bX.block tb htw) (bX.block w1.heap.size hitr.1)).only hOY (by omega) (by omega))
     have HBY : Hid (Below w.heap.size w3 Y) := (HBJ.out.trans (bX.mono (by omega))).trans (hOY.below (by omega) (fun k hk e => by omega))
     have hcbX : w.heap.size < X.heap.size := by omega
     clear hX fX d0 d1 bX hGX hGY hOY hile hcl hgg hitr htw
     go_wp2_with fail
     go_roundw
     case rel => exact ⟨j + 1, m + 1, by go_num, by omega, by omega, HGY, HRY, HBY⟩
     case measure => simp [intOf]; omega
    ·obtain rfl : j = nn.length := by omega
     have HGE : Hid (IM wr w.heap.size (cntV LN (v.set y true)) m) := by
      have e1 : cntV LN (v.set y true) = fun id => cntV LN v id + idsN (nn.take nn.length) id := by
       funext id
       rw [HCS.out id, List.take_length]
      unfold Hid
      rw [e1]
      exact HGJ.out
     have HNE : Hid (m ≤ 12 * (v.set y true).count true) := by unfold Hid; rw [HCT.out]; omega
     go_wp2_with fail
     go_roundw
     case rel => exact ⟨v.set y true, cnt3, m, HV3, HNE, HRJ, HGE, HB3.out.trans HBJ.out, by unfold Hid; omega⟩
     case measure => rw [HRJ.out.left]; exact HLT.out
end Go.Proofs.YtmkegmndcbpblaaGreatDoor
