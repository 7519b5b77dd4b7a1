/- below: what is found below an inode, by a function that calls itself. -/
import Derived.Test.YtknckbedddeijaaGreatVImpB
import Derived.Laws.EntriesVeiled
namespace Go.Proofs.YtknckbedddeijaaGreat
open Go.RowKit
set_option linter.unusedVariables false
/-- So far, of the first names of i: s was there, t is there. -/
structure LookI (L : List Nd) (i : Nat) (nn : List Di) (s t : List Bool) : Prop where
 len : t.length = s.length
 sub : ∀ x, isT s x → isT t x
 sound : ∀ x, isT t x → isT s x ∨ Reach L i x
 kids : ∀ e ∈ nn, ∀ x, atN L e.id = some x → isT t x
 shut : ∀ x, isT t x → ¬ isT s x → ∀ y, Edge L x y → isT t y
theorem LookI.start (L : List Nd) (i : Nat) (s : List Bool) : LookI L i [] s s := ⟨rfl, fun _ h => h, fun _ h => .inl h, fun e he => (by cases he), fun x h1 h2 => absurd h1 h2⟩
theorem LookI.there {L : List Nd} {i x : Nat} {nn : List Di} {s t : List Bool} {e : Di} (h : LookI L i nn s t) (hx : atN L e.id = some x) (ht : isT t x) : LookI L i (nn ++ [e]) s t :=
 ⟨h.len, h.sub, h.sound, fun d hd y hy => by
  rcases List.mem_append.1 hd with hd | hd
  ·exact h.kids d hd y hy
  ·rw [List.mem_singleton.1 hd, hx] at hy
   cases hy
   exact ht, h.shut⟩
theorem LookI.more {L : List Nd} {i x : Nat} {n : Nd} {nn : List Di} {s t u : List Bool} {e : Di} (h : LookI L i nn s t) (hi : L[i]? = some n) (he : e ∈ n.names) (hx : atN L e.id = some x) (hl : x < t.length) (hu : u.length = t.length) (k : Looked L x (isT (t.set x true)) (isT u)) : LookI L i (nn ++ [e]) s u := by
 have hE : Edge L i x := ⟨n, e, hi, he, hx⟩
 have hsx : isT (t.set x true) x := isT_set.2 (.inl ⟨rfl, hl⟩)
 have hst : ∀ y, isT t y → isT u y := fun y hy => k.sub y (isT_set.2 (.inr hy))
 refine ⟨hu.trans h.len, fun y hy => hst y (h.sub y hy), fun y hy => ?_, fun d hd y hy => ?_, fun y hy hny z hz => ?_⟩
 ·rcases k.sound y hy with hy | hy
  ·rcases isT_set.1 hy with ⟨rfl, _⟩ | hy
   ·exact .inr (.one hE)
   ·exact h.sound y hy
  ·exact .inr ((Reach.one hE).trans hy)
 ·rcases List.mem_append.1 hd with hd | hd
  ·exact hst y (h.kids d hd y hy)
  ·rw [List.mem_singleton.1 hd, hx] at hy
   cases hy
   exact k.sub _ hsx
 ·by_cases h1 : isT (t.set x true) y
  ·rcases isT_set.1 h1 with ⟨rfl, _⟩ | h2
   ·exact k.kids z hz
   ·exact hst z (h.shut y h2 hny z hz)
  ·exact k.shut y hy h1 z hz
theorem LookI.looked {L : List Nd} {i : Nat} {n : Nd} {s t : List Bool} (h : LookI L i n.names s t) (hi : L[i]? = some n) : Looked L i (isT s) (isT t) :=
 ⟨h.sub, h.sound, fun x hx => by
  obtain ⟨m, e, hm, he, hx⟩ := hx
  rw [hi] at hm
  cases hm
  exact h.kids e he x hx, h.shut⟩
theorem count_sub {s t : List Bool} (h : Sub s t) : s.count true ≤ t.count true := by
 by_cases e : t = s
 ·rw [e]; exact Nat.le_refl _
 ·exact Nat.le_of_lt (count_lt h e)
/-- All names lead somewhere. -/
def Leads (L : List Np) : Prop := ∀ p ∈ L, ∀ e ∈ p.n.names, (Lit.int .i64 e.id).wf = true ∧ ∃ x, atN (L.map Np.n) e.id = some x
theorem NdAt.only {w w' : World} {b o : Nat} {S : Nat → Prop} {n : Nd} {v : Value} (h : NdAt w b o n v) (hb : Only S w w') (hl : b < w.heap.size) (hS : ¬ S b) : NdAt w' b o n v :=
 ⟨(hb.cell hl hS).trans h.c0, (hb.cell hl hS).trans h.c1, (hb.cell hl hS).trans h.c2, (hb.cell hl hS).trans h.c3, (hb.cell hl hS).trans h.c4, (hb.cell hl hS).trans h.c5, (hb.cell hl hS).trans h.c6, (hb.cell hl hS).trans h.c7, (hb.cell hl hS).trans h.c8⟩
/-- What stands while it is looked: the tree, the boxes of the three variables, the map of what was found. -/
structure LkC (w : World) (tb b off N : Nat) (L : List Np) (tx fb lb mb : Nat) (s : List Bool) : Prop where
 tc : TC w tb b off N L
 ct : w.cell? ⟨tx, 0, none⟩ = some (.map (some tb))
 cf : w.cell? ⟨fb, 0, none⟩ = some (.map (some mb))
 cl : w.cell? ⟨lb, 0, none⟩ = some (.func (.func 102) #[] #[.pointer (some ⟨fb, 0, none⟩), .pointer (some ⟨tx, 0, none⟩), .pointer (some ⟨lb, 0, none⟩)])
 mp : TM w mb b off (FS (L.map Np.n) s) (s.count true) (s.count true)
 len : s.length = L.length
 t1 : tb < mb
 t2 : tx ≠ mb
 t3 : fb ≠ mb
 t4 : lb ≠ mb
 t5 : tx < w.heap.size
 t6 : fb < w.heap.size
 t7 : lb < w.heap.size
theorem LkC.only {w w' : World} {tb b off N tx fb lb mb : Nat} {L : List Np} {s t : List Bool} (h : LkC w tb b off N L tx fb lb mb s) (hb : Only (fun k => k = mb) w w') (hm : TM w' mb b off (FS (L.map Np.n) t) (t.count true) (t.count true)) (hl : t.length = L.length) : LkC w' tb b off N L tx fb lb mb t :=
 ⟨h.tc.kept (hb.below (Nat.le_of_lt h.mp.lt) (fun k hk e => by omega)) h.t1, (hb.cell h.t5 h.t2).trans h.ct, (hb.cell h.t6 h.t3).trans h.cf, (hb.cell h.t7 h.t4).trans h.cl, hm, hl, h.t1, h.t2, h.t3, h.t4, Nat.lt_of_lt_of_le h.t5 hb.size, Nat.lt_of_lt_of_le h.t6 hb.size, Nat.lt_of_lt_of_le h.t7 hb.size⟩
theorem LkC.kept {w w' : World} {tb b off N tx fb lb mb : Nat} {L : List Np} {s : List Bool} (h : LkC w tb b off N L tx fb lb mb s) (hb : Below w.heap.size w w') : LkC w' tb b off N L tx fb lb mb s :=
 h.only ((Below.any hb)) (h.mp.below hb h.mp.lt) h.len
set_option maxRecDepth 100000 in
set_option maxHeartbeats 4000000 in
theorem look_any (L : List Np) (tb b off N tx fb lb mb : Nat) (hI : IdsD (L.map Np.n)) (hLd : Leads L) (hn : L.length ≤ 24) (m : Nat) : ∀ (i : Nat) (hi : i < L.length) (s : List Bool) (w : World), LkC w tb b off N L tx fb lb mb s → L.length - s.count true < m →
  Calls Tryz.prog 102 #[ptrJ b off i, .pointer (some ⟨fb, 0, none⟩), .pointer (some ⟨tx, 0, none⟩), .pointer (some ⟨lb, 0, none⟩)] w fun e w' => ∃ t, e = .returned (.tuple #[]) ∧ LkC w' tb b off N L tx fb lb mb t ∧ Looked (L.map Np.n) i (isT s) (isT t) ∧ Only (fun k => k = mb) w w' := by
 induction m with
 | zero => intro i hi s w _ h; omega
 | succ m ih =>
  intro i hi s w h hm
  have HK := Hid.intro h
  have HI := Hid.intro hI
  have HIH := Hid.intro ih
  have hmem := List.getElem_mem hi
  have HLD := Hid.intro (hLd _ hmem)
  have hc := h.tc.at_ i hi
  have hrow := h.tc.nms _ hmem
  have hget := map_get hi
  generalize L[i] = p at hc hrow hget HLD
  obtain ⟨a2, cap2, hv2, l2, m2, hdc⟩ := diE_cell hrow
  have g6 := hc.c6
  rw [hv2] at g6
  have HD := Hid.intro hdc
  have HG := Hid.intro hget
  have hbN := h.tc.bN
  have hNT := h.tc.NT
  have htl := h.tc.lt
  clear h ih hc hrow hget hdc hv2 hI hLd hmem
  obtain ⟨nn, hnn⟩ : ∃ nn, p.n.names = nn := ⟨_, rfl⟩
  rw [hnn] at HD l2 g6 HLD
  have HNN := Hid.intro hnn
  clear hnn
  go_enter Tryz.func102, Tryz.ntmps102
  go_wp2_with fail
  clear g6
  go_loopw [12] (fun q wr => ∃ (j : Nat) (t : List Bool), q = .int .i64 j ∧ j ≤ nn.length ∧ Hid (LookI (L.map Np.n) i (nn.take j) s t) ∧ Hid (LkC wr tb b off N L tx fb lb mb t) ∧ Hid (Only (fun k => k = mb) w wr)) (fun q _ => nn.length - (intOf q).toNat)
  case atStart => exact ⟨0, s, rfl, Nat.zero_le _, LookI.start _ _ _, HK, Only.refl _ _⟩
  case round =>
   obtain ⟨j, t, rfl, hj, HL, HT, HO⟩ := hrel
   by_cases hlt : j < nn.length
   ·obtain ⟨b2, o2, rfl, hb2, hdd⟩ := HD.out (by intro h; rw [h] at hlt; simp at hlt)
    obtain ⟨d0, d1⟩ := hdd j hlt
    have hld := HLD.out _ (List.getElem_mem hlt)
    have htk : nn.take (j + 1) = nn.take j ++ [nn[j]] := List.take_succ_eq_append_getElem hlt
    have hmn : nn[j] ∈ nn := List.getElem_mem hlt
    generalize nn[j] = e at d0 d1 hld htk hmn
    obtain ⟨hwf, x, hx⟩ := hld
    have hbel : Below mb w wr := HO.out.below (Nat.le_of_lt HK.out.mp.lt) (fun k hk e => by omega)
    have ht1 := HK.out.t1
    have e0 := atCell hbel d0 (by omega)
    have e1 := atCell hbel d1 (by omega)
    have hjl : (j : Int) < (nn.length : Int) := by omega
    have i1 : (0 : Int) ≤ (j : Int) ∧ (j : Int) < (nn.length : Int) := by omega
    have HTK := Hid.intro htk
    have HMN := Hid.intro hmn
    have HX := Hid.intro hx
    clear hdd d0 d1 htk hmn hbel
    go_upto_region 3 with fail
    obtain ⟨X, hX, bX, zX, cX, fX⟩ := boxed wr #[.string e.nm, .int .i64 e.id] 102
    simp only [hX]
    have HTX := Hid.intro (HT.out.kept bX)
    have HOX := Hid.intro (HO.out.trans (Below.any bX))
    have cf := HTX.out.cf
    have ct := HTX.out.ct
    have cl := HTX.out.cl
    have hlk := HTX.out.mp.look hwf
    have hlt := HTX.out.tc.look hwf
    have hxl : x < L.length := by have := atN_lt hx; simpa using this
    clear hX fX e0 e1 bX
    by_cases ht : isT t x
    ·have hF : FS (L.map Np.n) t e.id = some x := FS_some.2 ⟨hx, ht⟩
     rw [hF] at hlk
     simp only [ptrO] at hlk
     have HNX : Hid (LookI (L.map Np.n) i (nn.take (j + 1)) s t) := by unfold Hid; rw [HTK.out]; exact HL.out.there HX.out ht
     clear hF hx ht hlt
     go_wp2_with fail
     go_roundw
     case rel => exact ⟨j + 1, t, by go_num, by omega, HNX, HTX, HOX⟩
     case measure => simp [intOf]; omega
    ·have hF : FS (L.map Np.n) t e.id = none := by
      cases h : FS (L.map Np.n) t e.id with
      | none => rfl
      | some y =>
       have := FS_some.1 h
       rw [hx] at this
       cases this.1
       exact absurd this.2 ht
     rw [hF] at hlk
     rw [hx] at hlt
     simp only [ptrO] at hlk hlt
     have hxn : x < (L.map Np.n).length := atN_lt hx
     have hid : (L.map Np.n)[x].id = e.id := (atN_some.1 hx).2.1
     have htl2 : x < t.length := by rw [HTX.out.len]; exact hxl
     have hct := List.count_le_length (a := true) (l := t.set x true)
     rw [count_set htl2 ht, List.length_set, HTX.out.len] at hct
     have hcs := count_sub (s := s) (t := t) ⟨HL.out.len.symm, HL.out.sub⟩
     obtain ⟨Y, hY, hTM, hOY⟩ := HTX.out.mp.put (j := x) (by unfold maxLen; omega) hwf (by rw [hF]; rfl)
     have hTY : LkC Y tb b off N L tx fb lb mb (t.set x true) := by
      refine HTX.out.only hOY ?_ (by rw [List.length_set]; exact HTX.out.len)
      rw [count_set htl2 ht, ← FS_set HI.out hxn (by rw [HTX.out.len]; simp), hid]
      exact hTM
     have HTY := Hid.intro hTY
     have HOY := Hid.intro (HOX.out.trans hOY)
     have ct2 := hTY.ct
     have cl2 := hTY.cl
     have hlt2 := hTY.tc.look hwf
     rw [hx] at hlt2
     simp only [ptrO] at hlt2
     have hzX : wr.heap.size < X.heap.size := by omega
     have hmbw : mb < wr.heap.size := HT.out.mp.lt
     have cX2 : ∀ o, Y.cell? ⟨wr.heap.size, o, none⟩ = #[.string e.nm, .int .i64 e.id][o]? := fun o => (hOY.cell hzX (by omega)).trans (cX o)
     have hbd : L.length - (t.set x true).count true < m := by rw [count_set htl2 ht]; omega
     have HBD := Hid.intro hbd
     have HHT := Hid.intro ht
     have HTL := Hid.intro htl2
     clear hF hx ht hTM hOY hTY hid hxn hct hcs hbd htl2
     go_wp2_with fail
     refine (HIH.out x hxl (t.set x true) Y HTY.out HBD.out).mono ?_
     rintro e9 w3 ⟨t3, rfl, l3, k3, q3⟩
     have HNX : Hid (LookI (L.map Np.n) i (nn.take (j + 1)) s t3) := by
      unfold Hid
      rw [HTK.out]
      exact HL.out.more HG.out (by rw [HNN.out]; exact HMN.out) HX.out HTL.out (by rw [l3.len, HTX.out.len]) k3
     have HL3 := Hid.intro l3
     have HO3 := Hid.intro (HOY.out.trans q3)
     clear l3 k3 q3 hY hlk hlt hlt2 cf ct cl ct2 cl2 cX cX2
     go_wp2_with fail
     go_roundw
     case rel => exact ⟨j + 1, t3, by go_num, by omega, HNX, HL3, HO3⟩
     case measure => simp [intOf]; omega
   ·obtain rfl : j = nn.length := by omega
    have HLK : Hid (Looked (L.map Np.n) i (isT s) (isT t)) := by
     have h1 := HL.out
     rw [List.take_length, ← HNN.out] at h1
     exact h1.looked HG.out
    go_wp2
    go_end0
    exact ⟨t, rfl, HT.out, HLK.out, HO.out⟩
set_option maxRecDepth 100000 in
set_option maxHeartbeats 4000000 in
theorem below_any (L : List Np) (tb b off N : Nat) (hI : IdsD (L.map Np.n)) (hLd : Leads L) (hn : L.length ≤ 24) (i : Nat) (hi : i < L.length) (w : World) (h : TC w tb b off N L) :
  Calls Tryz.prog 94 #[.map (some tb), ptrJ b off i] w fun e w' => ∃ mb, e = .returned (.map (some mb)) ∧ w.heap.size ≤ mb ∧ TM w' mb b off (FS (L.map Np.n) (belowB (L.map Np.n) i)) ((belowB (L.map Np.n) i).count true) ((belowB (L.map Np.n) i).count true) ∧ Below w.heap.size w w' := by
 have HT := Hid.intro h
 have htl := h.lt
 clear h
 go_enter Tryz.func94, Tryz.ntmps94
 have hmm := @run_makeMap Tryz.prog
 go_wp2_with fail
 obtain ⟨W1, hW1, b1, z1, c1, f1⟩ := boxed w #[.map (some tb)] 109
 simp only [hW1]
 have hT2 := TM.made W1 b off
 have b2 := (Below.refl W1.heap.size W1).alloc (Nat.le_refl _) (.map #[] 0)
 have z2 : (W1.alloc (.map #[] 0)).heap.size = W1.heap.size + 1 := by simp
 generalize W1.alloc (.map #[] 0) = W2 at hT2 b2 z2 ⊢
 obtain ⟨W3, hW3, b3, z3, c3, f3⟩ := boxed W2 #[.map (some (w.heap.size + 1))] 109
 simp only [hW3]
 obtain ⟨W4, hW4, b4, z4, c4, f4⟩ := boxed W3 #[.func (.func 102) #[] #[.pointer (some ⟨w.heap.size + 1 + 1, 0, none⟩), .pointer (some ⟨w.heap.size, 0, none⟩), .pointer (some ⟨w.heap.size + 1 + 1 + 1, 0, none⟩)]] 133
 simp only [hW4]
 have B4 : Below w.heap.size w W4 := b1.trans ((b2.mono (by omega)).trans ((b3.mono (by omega)).trans (b4.mono (by omega))))
 have e1 : W1.heap.size = w.heap.size + 1 := z1
 have e2 : W2.heap.size = w.heap.size + 1 + 1 := by omega
 have e3 : W3.heap.size = w.heap.size + 1 + 1 + 1 := by omega
 rw [e1] at hT2
 rw [e2] at c3
 rw [e3] at c4
 have hs0 : ∀ x, ¬ isT (List.replicate L.length false) x := fun x h => by
  unfold isT at h
  rw [List.getElem?_replicate] at h
  split at h <;> simp at h
 have hcnt : (List.replicate L.length false).count true = 0 := by simp [List.count_replicate]
 have hFS : FS (L.map Np.n) (List.replicate L.length false) = fun _ => none := by
  funext id
  cases h : FS (L.map Np.n) (List.replicate L.length false) id with
  | none => rfl
  | some y => exact absurd (FS_some.1 h).2 (hs0 y)
 have HLK : Hid (LkC W4 tb b off N L w.heap.size (w.heap.size + 1 + 1) (w.heap.size + 1 + 1 + 1) (w.heap.size + 1) (List.replicate L.length false)) := by
  refine ⟨HT.out.kept B4 htl, ?_, ?_, ?_, ?_, by simp, by omega, by omega, by omega, by omega, by omega, by omega, by omega⟩
  ·have := keepC (b2.trans ((b3.mono (by omega)).trans (b4.mono (by omega)))) (by omega) c1 0
   exact this
  ·exact keepC b4 (by omega) c3 0
  ·exact c4 0
  ·rw [hcnt, hFS]
   exact (hT2.below b3 (by omega)).below b4 (by omega)
 have HB4 := Hid.intro B4
 have z5 : W4.heap.size = w.heap.size + 1 + 1 + 1 + 1 := by omega
 have HLO := Hid.intro (look_any L tb b off N w.heap.size (w.heap.size + 1 + 1) (w.heap.size + 1 + 1 + 1) (w.heap.size + 1) hI hLd hn (L.length + 1) i hi _ W4 HLK.out (by omega))
 clear hW1 hW3 hW4 b1 b2 b3 b4 c1 c3 c4 f1 f3 f4 hT2 B4 e1 e2 e3 z1 z2 z3 z4
 refine HLO.out.mono ?_
 rintro e w5 ⟨t, rfl, l5, k5, q5⟩
 have hF : isT (List.replicate L.length false) = fun _ => False := by
  funext x
  exact propext ⟨hs0 x, fun h => h.elim⟩
 rw [hF] at k5
 have ht : t = belowB (L.map Np.n) i := by
  have hl : t.length = (belowB (L.map Np.n) i).length := by rw [l5.len, belowB_len]; simp
  exact Sub.anti ⟨hl, fun x hx => (belowB_iff _ _ _).2 ((k5.all x).1 hx)⟩ ⟨hl.symm, fun x hx => (k5.all x).2 ((belowB_iff _ _ _).1 hx)⟩
 subst ht
 have HM := Hid.intro l5.mp
 have cf := l5.cf
 have HB5 : Hid (Below w.heap.size w w5) := HB4.out.trans (q5.below (by omega) (fun k hk e => by omega))
 clear l5 k5 q5 hF hs0 hcnt hFS HLK HLO hmm
 go_wp2_with fail
 go_ret
 exact ⟨_, rfl, by omega, HM.out, HB5.out⟩
end Go.Proofs.YtknckbedddeijaaGreat
