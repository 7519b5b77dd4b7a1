/- A tenant in memory of its own: (impl.Tenant).owned. -/
import Derived.Test.YtnhjicbgmocilaaGreatXCopyV
import Derived.Test.YtnhjicbgmocilaaGreatXApp
import Derived.Test.YtnhjicbgmocilaaGreatXTen
import Derived.Test.YtnhjicbgmocilaaGreatGSet
import Derived.Deep.MidRow
namespace Go.Proofs.YtnhjicbgmocilaaGreat
open Go.RowKit
set_option linter.unusedVariables false
/-- No session. -/
def seZ : Se := ⟨0, 0, 0, ⟨0, ⟨#[]⟩⟩⟩
abbrev own19 (tk : Int) (va : Value) (nx : Int) (u : Value) (a b c : Se) : Array Value := #[.int .i64 tk, va, .int .i64 nx, u, .int .i64 a.c, .int .i64 a.s, .int .i64 a.i, .int .i64 a.r.c, .string a.r.d, .int .i64 b.c, .int .i64 b.s, .int .i64 b.i, .int .i64 b.r.c, .string b.r.d, .int .i64 c.c, .int .i64 c.s, .int .i64 c.i, .int .i64 c.r.c, .string c.r.d]
abbrev zero19 : Array Value := #[.int .i64 0, .slice none 0 0, .int .i64 0, .slice none 0 0, .int .i64 0, .int .i64 0, .int .i64 0, .int .i64 0, .string ⟨#[]⟩, .int .i64 0, .int .i64 0, .int .i64 0, .int .i64 0, .string ⟨#[]⟩, .int .i64 0, .int .i64 0, .int .i64 0, .int .i64 0, .string ⟨#[]⟩]
/-- The lists that an own tenant holds: where they lie. -/
structure OwL (w : World) (base v0 v1 : Nat) (A : List Nt) (va : Value) (M : List Np) (u : Value) (wc : World) : Prop where
  vol : VolO wc v0 u M
  vt : ∀ k, u.ownBlock = some k → k < v1
  vn : ∀ p ∈ M, ∀ k, p.v.ownBlock = some k → k < v1
  inc : Inc M
  aud : Own ntE 81 wc base va A
  at' : ∀ k, va.ownBlock = some k → k < v0
  ord : base ≤ v0 ∧ v0 ≤ v1 ∧ v1 ≤ wc.heap.size
  bel : Below base w wc
theorem OwL.kept {w wc w2 : World} {base v0 v1 : Nat} {A : List Nt} {va u : Value} {M : List Np} (h : OwL w base v0 v1 A va M u wc) (hb : Below wc.heap.size wc w2) : OwL w base v0 v1 A va M u w2 :=
  ⟨h.vol.kept hb, h.vt, h.vn, h.inc, h.aud.kept hb, h.at', by have := h.ord; have := hb.size; omega, h.bel.trans (hb.mono (by have := h.ord; omega))⟩
theorem OwL.only {w wc w2 : World} {base v0 v1 g : Nat} {A : List Nt} {va u : Value} {M : List Np} (h : OwL w base v0 v1 A va M u wc) (ho : Only (fun k => k = g) wc w2) (hg : base ≤ g) (hv : ¬ (v0 ≤ g ∧ g < v1)) (ha : ¬ va.ownBlock = some g) : OwL w base v0 v1 A va M u w2 := by
  refine ⟨⟨h.vol.own.only ho (fun k hk e => ?_), fun p hp => (h.vol.nms p hp).only ho (fun k hk e => ?_)⟩, h.vt, h.vn, h.inc, h.aud.only ho (fun k hk e => ?_), h.at', by have := h.ord; have := ho.size; omega, h.bel.trans (ho.below (by have := h.ord; omega) (fun k hk e => by omega))⟩
  · have := (h.vol.own.lt k hk).1; have := h.vt k hk; omega
  · have := ((h.vol.nms p hp).lt k hk).1; have := h.vn p hp k hk; omega
  · subst e; exact ha hk
/-- What stands while a tenant is laid in memory of its own. -/
structure Ow (w : World) (g3 v0 v1 : Nat) (tk nx : Int) (A : List Nt) (va : Value) (M : List Np) (u : Value) (a b c : Se) (wc : World) : Prop where
  box : Blk wc g3 (own19 tk va nx u a b c)
  l : OwL w w.heap.size v0 v1 A va M u wc
  g : w.heap.size ≤ g3 ∧ ¬ (v0 ≤ g3 ∧ g3 < v1) ∧ ¬ va.ownBlock = some g3
theorem Ow.kept {w wc w2 : World} {g3 v0 v1 : Nat} {tk nx : Int} {A : List Nt} {va u : Value} {M : List Np} {a b c : Se} (h : Ow w g3 v0 v1 tk nx A va M u a b c wc) (hb : Below wc.heap.size wc w2) : Ow w g3 v0 v1 tk nx A va M u a b c w2 :=
  ⟨h.box.kept hb, h.l.kept hb, h.g⟩
theorem infoNt2' : (Tryz.prog.info? 81).map (fun i => (i.zero, i.size, i.bytes)) = some (some (.agg #[.int .i64 0, .int .i64 0, .int .i64 0, .int .i64 0, .int .i64 0]), 5, 40) := by kernel_rfl
theorem setCells_setC (vs : List Value) : ∀ (w : World) (b o : Nat), w.setCells b o vs = setC w b o vs := by
  induction vs with
  | nil => intro w b o; rfl
  | cons v vs ih => intro w b o; rw [setC, ← ih]; rfl
theorem Blk.there {w : World} {g : Nat} {A : Array Value} (h : Blk w g A) (o n : Nat) (hn : o + n ≤ A.size) : w.there g o n := fun j hj => ⟨by rw [h.cell, Array.getElem?_eq_getElem (by omega)]; rfl, h.fro _⟩
theorem Blk.range {w : World} {g : Nat} {A : Array Value} (h : Blk w g A) : w.rangeAt g 0 A.toList := fun j v hj => by
  rw [Nat.zero_add, h.cell]
  simpa using hj
theorem step_store_mid {w : World} {ops : Array Oper} {o : Oper} {a : Act} {KK : Act → World → Prop} {Q : Exit → Act → World → Prop} {E : Prop} (hgd : o.guard = none) (ty : TypeId) (x y : Operand) (ho : o.op = .store ty x y)
    (b : Nat) (off : Nat) (cells : Array Value) (hx : a.eval x = .pointer (some ⟨b, off, none⟩)) (hy : a.eval y = .agg cells)
    (ht : w.there b off cells.size) (hi : (Tryz.prog.info? ty).map (·.size) = some cells.size) (h1 : cells.all (·.oneCell') = true)
    (h : ∀ V, setC w b off cells.toList = V → KK (a.put o.dst undef) V) : if Region.wanted o (yielded ops a.tmps) = true then Oper.wp Tryz.prog o a w KK Q else E := by
  have hw : Region.wanted o (yielded ops a.tmps) = true := by simp [Region.wanted, hgd]
  rw [if_pos hw]
  refine wp_store_mid ty x y ho b off cells hx hy ht hi h1 ?_
  exact h _ (setCells_setC _ _ _ _).symm
theorem results_cell1 {P : Program} {fn : Func} {a : Tmp} {t : TypeId} (h : fn.results = #[.cell a t]) (tmps : Array Value) (b : Nat) (w : World) (v : Value) (ha : tmps.getD a undef = .pointer (some ⟨b, 0, none⟩)) (hl : (loadVar t ⟨b, 0, none⟩).run P w = .ok v w) :
    (results fn tmps).run P w = .ok v w := by
  rw [Array.getD_eq_getD_getElem?] at ha
  simp [results, h, asAddr, ha, hl]
def STo (b : Nat) (nx : Int) (u : Value) (tk : Int) (va vs : Value) (w' : World) : Prop := w'.cell? ⟨b, 0, none⟩ = some (.int .i64 nx) ∧ w'.cell? ⟨b, 1, none⟩ = some u ∧ w'.cell? ⟨b, 2, none⟩ = some (.int .i64 tk) ∧ w'.cell? ⟨b, 3, none⟩ = some va ∧ w'.cell? ⟨b, 4, none⟩ = some vs
theorem resCopied_any (r : Re) (w : World) (hd : r.d.size ≤ 1048576) :
    Calls Tryz.prog 48 #[reV r] w fun e w' => e = .returned (reV r) ∧ Below w.heap.size w w' := by
  go_enter Tryz.func48, Tryz.ntmps48
  go_wp2_with fail
  obtain ⟨W, hW, bW, zW, c1, f1, c2, f2⟩ := boxed2 w #[.int .i64 r.c, .string r.d] #[.int .i64 0, .string ⟨#[]⟩] 55 55
  simp only [hW]
  refine (clone_any r.d W hd).mono ?_
  rintro e w1 ⟨rfl, b1⟩
  have z1 := b1.size
  replace c1 := keepC b1 (by omega) c1
  replace f1 := keepF b1 (by omega) f1
  replace c2 := keepC b1 (by omega) c2
  replace f2 := keepF b1 (by omega) f2
  have HB := Hid.intro (bW.trans (b1.mono (by omega)))
  have hz1 : w.heap.size + 1 < w1.heap.size := by omega
  clear hW bW b1 zW
  go_wp2
  refine bodyPost_ret (v := reV r) (by simp [results, Tryz.results48, go_sem, c2]) rfl ⟨rfl, ?_⟩
  repeat (refine Below.setCell ?_ (by simp <;> omega) _)
  exact HB.out
theorem own19_one (tk : Int) (a1 : Option Addr) (n1 c1 : Nat) (nx : Int) (a2 : Option Addr) (n2 c2 : Nat) (a b c : Se) : (own19 tk (.slice a1 n1 c1) nx (.slice a2 n2 c2) a b c).all (·.oneCell') = true := by
  simp [Value.oneCell']
theorem seA_one (x : Se) : (seA x).all (·.oneCell') = true := by simp [Value.oneCell']
/-- A session is put into its place. -/
def setS (q : Se × Se × Se) (x : Se) : Se × Se × Se := if x.c = 1 then (x, q.2.1, q.2.2) else if x.c = 2 then (q.1, x, q.2.2) else (q.1, q.2.1, x)
def slots (l : List Se) : Se × Se × Se := l.foldl setS (seZ, seZ, seZ)
theorem slots_snoc (l : List Se) (j : Nat) (h : j < l.length) : slots (l.take (j + 1)) = setS (slots (l.take j)) l[j] := by
  unfold slots
  rw [List.take_succ_eq_append_getElem h, List.foldl_append]
  rfl
theorem OwL.lower {w0 w wc : World} {base base' v0 v1 : Nat} {A : List Nt} {va u : Value} {M : List Np} (h : OwL w base v0 v1 A va M u wc) (hb : base' ≤ base) (hw : Below base' w0 w) : OwL w0 base' v0 v1 A va M u wc :=
  ⟨h.vol, h.vt, h.vn, h.inc, h.aud.lower hb, h.at', by have := h.ord; omega, hw.trans (h.bel.mono hb)⟩
/-- The place of a client's session. -/
theorem sessPtr_any (g : Nat) (c : Int) (k : Nat) (w : World) (hc : c = (k : Int) + 1) (hk : k < 3) :
    Calls Tryz.prog 49 #[.pointer (some ⟨g, 0, none⟩), .int .i64 c] w fun e w' => e = .returned (.pointer (some ⟨g, 4 + 5 * k, none⟩)) ∧ w = w' := by
  subst hc
  match k, hk with
  | 0, _ =>
    go_enter Tryz.func49, Tryz.ntmps49
    go_wp2
    go_ret
    exact ⟨rfl, rfl⟩
  | 1, _ =>
    go_enter Tryz.func49, Tryz.ntmps49
    go_wp2
    go_ret
    exact ⟨rfl, rfl⟩
  | 2, _ =>
    go_enter Tryz.func49, Tryz.ntmps49
    go_wp2
    go_ret
    exact ⟨rfl, rfl⟩
def SSo (yb : Nat) (x : Se) (w' : World) : Prop := w'.cell? ⟨yb, 0, none⟩ = some (.int .i64 x.c) ∧ w'.cell? ⟨yb, 1, none⟩ = some (.int .i64 x.s) ∧ w'.cell? ⟨yb, 2, none⟩ = some (.int .i64 x.i) ∧ w'.cell? ⟨yb, 3, none⟩ = some (.int .i64 x.r.c) ∧ w'.cell? ⟨yb, 4, none⟩ = some (.string x.r.d)
theorem Blk.slot {w : World} {g : Nat} {tk nx : Int} {va u : Value} {a b c : Se} (h : Blk w g (own19 tk va nx u a b c)) (x : Se) :
    Blk (setC w g 4 (seA x).toList) g (own19 tk va nx u x b c) ∧ Blk (setC w g 9 (seA x).toList) g (own19 tk va nx u a x c) ∧ Blk (setC w g 14 (seA x).toList) g (own19 tk va nx u a b x) := by
  refine ⟨?_, ?_, ?_⟩
  · exact ((((h.putI 4 (by simp) (.int .i64 x.c)).putI 5 (by simp) (.int .i64 x.s)).putI 6 (by simp) (.int .i64 x.i)).putI 7 (by simp) (.int .i64 x.r.c)).putI 8 (by simp) (.string x.r.d)
  · exact ((((h.putI 9 (by simp) (.int .i64 x.c)).putI 10 (by simp) (.int .i64 x.s)).putI 11 (by simp) (.int .i64 x.i)).putI 12 (by simp) (.int .i64 x.r.c)).putI 13 (by simp) (.string x.r.d)
  · exact ((((h.putI 14 (by simp) (.int .i64 x.c)).putI 15 (by simp) (.int .i64 x.s)).putI 16 (by simp) (.int .i64 x.i)).putI 17 (by simp) (.int .i64 x.r.c)).putI 18 (by simp) (.string x.r.d)
/-- The cells of one of the three sessions. -/
theorem own19_set (tk : Int) (va : Value) (nx : Int) (u : Value) (a b c x : Se) :
    (((((own19 tk va nx u a b c).setIfInBounds 4 (.int .i64 x.c)).setIfInBounds 5 (.int .i64 x.s)).setIfInBounds 6 (.int .i64 x.i)).setIfInBounds 7 (.int .i64 x.r.c)).setIfInBounds 8 (.string x.r.d) = own19 tk va nx u x b c ∧
    (((((own19 tk va nx u a b c).setIfInBounds 9 (.int .i64 x.c)).setIfInBounds 10 (.int .i64 x.s)).setIfInBounds 11 (.int .i64 x.i)).setIfInBounds 12 (.int .i64 x.r.c)).setIfInBounds 13 (.string x.r.d) = own19 tk va nx u a x c ∧
    (((((own19 tk va nx u a b c).setIfInBounds 14 (.int .i64 x.c)).setIfInBounds 15 (.int .i64 x.s)).setIfInBounds 16 (.int .i64 x.i)).setIfInBounds 17 (.int .i64 x.r.c)).setIfInBounds 18 (.string x.r.d) = own19 tk va nx u a b x := ⟨rfl, rfl, rfl⟩
set_option maxRecDepth 100000 in
set_option maxHeartbeats 8000000 in
/-- The first part: all but the sessions. -/
theorem owned_any (nx : Int) (L : List Np) (ua : Option Addr) (uc : Nat) (tk : Int) (A : List Nt) (aa : Option Addr) (ac : Nat) (Ss : List Se) (sa : Option Addr) (sc : Nat) (N : Nat) (w : World) (hN : N ≤ w.heap.size)
    (hv : VolR w N (.slice ua L.length uc) L) (ha : Row ntE w N (.slice aa A.length ac) A) (hs : Row seE w N (.slice sa Ss.length sc) Ss) (hb : CpB L) (hA : A.length ≤ 20) (hsc : ∀ x ∈ Ss, (x.c = 1 ∨ x.c = 2 ∨ x.c = 3) ∧ x.r.d.size ≤ 1048576) (hsl : Ss.length ≤ 3) :
    Calls Tryz.prog 21 #[.agg #[.int .i64 nx, .slice ua L.length uc, .int .i64 tk, .slice aa A.length ac, .slice sa Ss.length sc]] w fun e w' => ∃ v0 v1 aa' ac' ua' uc' M, e = .returned (.agg (own19 tk (.slice aa' A.length ac') nx (.slice ua' M.length uc') (slots Ss).1 (slots Ss).2.1 (slots Ss).2.2)) ∧ M.map Np.n = L.map Np.n ∧ OwL w w.heap.size v0 v1 A (.slice aa' A.length ac') M (.slice ua' M.length uc') w' := by
  have HV := Hid.intro hv
  have HA := Hid.intro ha
  have HS := Hid.intro hs
  have HB := Hid.intro hb
  have HSC := Hid.intro hsc
  clear hv ha hs hb hsc
  go_enter Tryz.func21, Tryz.ntmps21
  go_upto_region 1 with fail
  obtain ⟨W, hW, bW, zW, c1, f1, c2, f2⟩ := boxed2 w #[.int .i64 nx, .slice ua L.length uc, .int .i64 tk, .slice aa A.length ac, .slice sa Ss.length sc] zero19 36 60
  simp only [hW]
  have hlt1 : w.heap.size + 1 < W.heap.size := by omega
  have HSF : Hid (∀ y, Below W.heap.size W y → STo w.heap.size nx (.slice ua L.length uc) tk (.slice aa A.length ac) (.slice sa Ss.length sc) y) := fun y hy => ⟨keepC hy (by omega) c1 0, keepC hy (by omega) c1 1, keepC hy (by omega) c1 2, keepC hy (by omega) c1 3, keepC hy (by omega) c1 4⟩
  have HRES : Hid (Blk W (w.heap.size + 1) zero19) := ⟨by omega, c2, f2⟩
  have HBW := Hid.intro bW
  clear hW c1 f1 c2 f2 bW
  go_cut [3] from 3 to 16 (fun s wc => ∃ g3 v0 v1 aa' ac' ua' uc' M, s = .pointer (some ⟨g3, 0, none⟩) ∧ Hid (M.map Np.n = L.map Np.n) ∧ Hid (Ow W g3 v0 v1 tk nx A (.slice aa' A.length ac') M (.slice ua' M.length uc') seZ seZ seZ wc))
  case first =>
    refine wp_region_held_drew (S := STo w.heap.size nx (.slice ua L.length uc) tk (.slice aa A.length ac) (.slice sa Ss.length sc)) (by kernel_rfl) (HSF.out _ (Below.refl _ _).drew) (fun hHeld => ?_)
    have BD : Hid (Below W.heap.size W W.drew) := (Below.refl _ _).drew
    generalize W.drew = D at BD hHeld ⊢
    refine take1 (i := 0) (d := some 6) (v := ?_) rfl rfl (by kernel_rfl) (by kernel_rfl) (by kernel_rfl) (fun _ _ _ h => h) (Or.inl ⟨by rfl, ?_⟩) (by assumption) ?_
    rotate_left 1
    · intro w hSw
      obtain ⟨s0, s1, s2, s3, s4⟩ := hSw
      go_simp <;> with_reducible rfl
    simp only [Act.put, List.setIfInBounds_toArray]
    try simp only [List.set_cons_succ]
    try simp only [List.set_cons_zero]
    refine take1 (i := 1) (d := some 7) (v := ?_) rfl rfl (by kernel_rfl) (by kernel_rfl) (by kernel_rfl) (fun _ _ _ h => h) (Or.inl ⟨by rfl, ?_⟩) (by assumption) ?_
    rotate_left 1
    · intro w hSw
      obtain ⟨s0, s1, s2, s3, s4⟩ := hSw
      go_simp <;> with_reducible rfl
    simp only [Act.put, List.setIfInBounds_toArray]
    try simp only [List.set_cons_succ]
    try simp only [List.set_cons_zero]
    refine take1 (i := 2) (d := some 8) (v := ?_) rfl rfl (by kernel_rfl) (by kernel_rfl) (by kernel_rfl) (fun _ _ _ h => h) (Or.inl ⟨by rfl, ?_⟩) (by assumption) ?_
    rotate_left 1
    · intro w hSw
      obtain ⟨s0, s1, s2, s3, s4⟩ := hSw
      go_simp <;> with_reducible rfl
    simp only [Act.put, List.setIfInBounds_toArray]
    try simp only [List.set_cons_succ]
    try simp only [List.set_cons_zero]
    refine take1 (i := 3) (d := some 9) (v := ?_) rfl rfl (by kernel_rfl) (by kernel_rfl) (by kernel_rfl) (fun _ _ _ h => h) (Or.inl ⟨by rfl, ?_⟩) (by assumption) ?_
    rotate_left 1
    · intro w hSw
      obtain ⟨s0, s1, s2, s3, s4⟩ := hSw
      go_simp <;> with_reducible rfl
    simp only [Act.put, List.setIfInBounds_toArray]
    try simp only [List.set_cons_succ]
    try simp only [List.set_cons_zero]
    refine take1 (i := 4) (d := some 10) (v := ?_) rfl rfl (by kernel_rfl) (by kernel_rfl) (by kernel_rfl) (fun _ _ _ h => h) (Or.inl ⟨by rfl, ?_⟩) (by assumption) ?_
    rotate_left 1
    · intro w hSw
      obtain ⟨s0, s1, s2, s3, s4⟩ := hSw
      go_simp <;> with_reducible rfl
    simp only [Act.put, List.setIfInBounds_toArray]
    try simp only [List.set_cons_succ]
    try simp only [List.set_cons_zero]
    refine take1 (i := 7) (d := some 13) (v := ?_) rfl rfl (by kernel_rfl) (by kernel_rfl) (by kernel_rfl) (fun _ _ _ h => h) (Or.inl ⟨by rfl, ?_⟩) (by assumption) ?_
    rotate_left 1
    · intro w hSw
      obtain ⟨s0, s1, s2, s3, s4⟩ := hSw
      go_simp <;> with_reducible rfl
    simp only [Act.put, List.setIfInBounds_toArray]
    try simp only [List.set_cons_succ]
    try simp only [List.set_cons_zero]
    refine take1 (i := 8) (d := some 14) (v := ?_) rfl rfl (by kernel_rfl) (by kernel_rfl) (by kernel_rfl) (fun _ _ _ h => h) (Or.inl ⟨by rfl, ?_⟩) (by assumption) ?_
    rotate_left 1
    · intro w hSw
      obtain ⟨s0, s1, s2, s3, s4⟩ := hSw
      go_simp <;> with_reducible rfl
    simp only [Act.put, List.setIfInBounds_toArray]
    try simp only [List.set_cons_succ]
    try simp only [List.set_cons_zero]
    refine wpAnyH_ready (rs := [5, 11]) (by kernel_rfl) (by simp) ?_
    refine (AllReadyH.cons rfl (fun KK hKK => ?_) (AllReadyH.cons rfl (fun KK hKK => ?_) AllReadyH.nil))
    · skip
      obtain ⟨i0, hi, hz0, hz1, hz2⟩ := info_parts infoNt2'
      have hzc : w.heap.size ≤ D.heap.size := by have := BD.out.size; omega
      refine step_app_all (E := ntE) rfl _ _ rfl i0 (.agg #[.int .i64 0, .int .i64 0, .int .i64 0, .int .i64 0, .int .i64 0]) 40 Tryz.underlying33 hi hz0 hz1 hz2 rfl D.heap.size N (.slice none 0 0) rfl (Own.nil _ _) (.slice aa A.length ac) A rfl (HA.out.kept ((HBW.out.trans (BD.out.mono HBW.out.size)).mono hN)) (by omega) (by omega) (Nat.le_refl _) ?_
      intro aa' ac' w4 hown ho
      have b4 : Below D.heap.size D w4 := ho.below (Nat.le_refl _) (fun k _ e => by cases e)
      have Bw4 : Hid (Below W.heap.size W w4) := BD.out.trans (b4.mono BD.out.size)
      have HO : Hid (Own ntE 81 w4 W.heap.size (.slice aa' A.length ac') A) := hown.lower BD.out.size
      clear hown ho b4 hi hz0 hz1 hz2 hzc
      go_simp
      refine hKK.out _ _ (HSF.out _ Bw4.out) (fun hHeld2 => ?_)
      clear hKK KK hHeld
      have hHeld := hHeld2
      clear hHeld2
      refine take1 (i := 6) (d := some 12) (v := ?_) rfl rfl (by kernel_rfl) (by kernel_rfl) (by kernel_rfl) (fun _ _ _ h => h) (Or.inl ⟨by rfl, ?_⟩) (by assumption) ?_
      rotate_left 1
      · intro w hSw
        obtain ⟨s0, s1, s2, s3, s4⟩ := hSw
        go_simp <;> with_reducible rfl
      simp only [Act.put, List.setIfInBounds_toArray]
      try simp only [List.set_cons_succ]
      try simp only [List.set_cons_zero]
      refine wpAnyH_ready (rs := [9, 11]) (by kernel_rfl) (by simp) ?_
      refine (AllReadyH.cons rfl (fun KK hKK => ?_) (AllReadyH.cons rfl (fun KK hKK => ?_) AllReadyH.nil))
      · skip
        go_simp
        have hzc : w.heap.size ≤ w4.heap.size := by have := Bw4.out.size; omega
        refine (volCopied_any nx L (.slice ua L.length uc) N w4 (by omega) (HV.out.kept ((HBW.out.trans (Bw4.out.mono HBW.out.size)).mono hN)) HB.out).mono ?_
        rintro e x1 ⟨ua', uc', M, rfl, vo, hmn, hinc, b9⟩
        have HMN := Hid.intro hmn
        have Bx1 : Hid (Below W.heap.size W x1) := Bw4.out.trans (b9.mono Bw4.out.size)
        have HOL : Hid (OwL W W.heap.size w4.heap.size x1.heap.size A (.slice aa' A.length ac') M (.slice ua' M.length uc') x1) := ⟨vo, fun k hk => (vo.own.lt k hk).2, fun p hp k hk => ((vo.nms p hp).lt k hk).2, hinc, HO.out.kept b9, fun k hk => (HO.out.lt k hk).2, ⟨Bw4.out.size, b9.size, Nat.le_refl _⟩, Bx1.out⟩
        obtain ⟨v0, hv0⟩ : ∃ v0, w4.heap.size = v0 := ⟨_, rfl⟩
        obtain ⟨v1, hv1⟩ : ∃ v1, x1.heap.size = v1 := ⟨_, rfl⟩
        rw [hv0, hv1] at HOL
        clear vo hmn hinc b9 HO hzc hv1 hv0
        go_simp
        refine hKK.out _ _ (HSF.out _ Bx1.out) (fun hHeld2 => ?_)
        clear hKK KK hHeld
        have hHeld := hHeld2
        clear hHeld2
        refine take1 (i := 10) (d := some 16) (v := ?_) rfl rfl (by kernel_rfl) (by kernel_rfl) (by kernel_rfl) (fun _ _ _ h => h) (Or.inl ⟨by rfl, ?_⟩) (by assumption) ?_
        rotate_left 1
        · intro w hSw
          obtain ⟨s0, s1, s2, s3, s4⟩ := hSw
          go_simp <;> with_reducible rfl
        simp only [Act.put, List.setIfInBounds_toArray]
        try simp only [List.set_cons_succ]
        try simp only [List.set_cons_zero]
        refine wpAnyH_ready (rs := [11]) (by kernel_rfl) (by simp) ?_
        refine (AllReadyH.cons rfl (fun KK hKK => ?_) AllReadyH.nil)
        go_simp
        have bG : Below x1.heap.size x1 (x1.alloc (.cells zero19 60)) := one_below _ _
        have HG : Hid (Blk (x1.alloc (.cells zero19 60)) x1.heap.size zero19) := ⟨by simp, fun o => World.cell?_alloc_at _ _ _ _ rfl, fun o => World.frozen?_alloc_at _ _ _ _ rfl⟩
        have BG : Hid (Below W.heap.size W (x1.alloc (.cells zero19 60))) := Bx1.out.trans (bG.mono Bx1.out.size)
        have HGL : Hid (W.heap.size ≤ x1.heap.size) := Bx1.out.size
        have HNA0 : Hid (¬ (Value.slice aa' A.length ac').ownBlock = some x1.heap.size) := fun e => by have h1 := (HOL.out.aud.lt _ e).2; omega
        have HGV : Hid (¬ (v0 ≤ x1.heap.size ∧ x1.heap.size < v1)) := by have := HOL.out.ord.2.2; unfold Hid; omega
        replace HOL := Hid.intro (HOL.out.kept bG)
        clear bG
        revert HG BG HGL HNA0 HGV HOL
        generalize x1.alloc (.cells zero19 60) = G
        generalize x1.heap.size = g3
        intro HG BG HGL HNA0 HGV HOL
        refine hKK.out _ _ (HSF.out _ BG.out) (fun hHeld2 => ?_)
        clear hKK KK hHeld
        have hHeld := hHeld2
        clear hHeld2
        refine wpAnyH_ready (rs := [12]) (by kernel_rfl) (by simp) ?_
        refine (AllReadyH.cons rfl (fun KK hKK => ?_) AllReadyH.nil)
        have hg : w.heap.size + 1 < g3 := by have := HGL.out; omega
        refine step_store_mid rfl 60 _ _ rfl g3 0 (own19 tk (.slice aa' A.length ac') nx (.slice ua' M.length uc') seZ seZ seZ) rfl rfl (HG.out.there 0 19 (Nat.le_refl _)) (by kernel_rfl) (own19_one _ _ _ _ _ _ _ _ _ _ _) ?_
        intro V hVC
        have BV : Blk V g3 (own19 tk (.slice aa' A.length ac') nx (.slice ua' M.length uc') seZ seZ seZ) := by
          rw [← hVC]
          exact HG.out.all _ rfl
        have OV : Only (fun k => k = g3) G V := by
          rw [← hVC]
          exact only_setC _ _ _ _
        have SV : Hid (STo w.heap.size nx (.slice ua L.length uc) tk (.slice aa A.length ac) (.slice sa Ss.length sc) V) := by
          have h0 := HSF.out _ BG.out
          have hzc : w.heap.size < G.heap.size := by have := BG.out.size; omega
          have hng : ¬ w.heap.size = g3 := by omega
          exact ⟨(OV.cell hzc hng).trans h0.1, (OV.cell hzc hng).trans h0.2.1, (OV.cell hzc hng).trans h0.2.2.1, (OV.cell hzc hng).trans h0.2.2.2.1, (OV.cell hzc hng).trans h0.2.2.2.2⟩
        have HOW : Hid (Ow W g3 v0 v1 tk nx A (.slice aa' A.length ac') M (.slice ua' M.length uc') seZ seZ seZ V) := ⟨BV, HOL.out.only OV HGL.out HGV.out HNA0.out, ⟨HGL.out, HGV.out, HNA0.out⟩⟩
        clear BV OV hVC HG HOL HNA0 HGV HGL hg
        refine hKK.out _ _ (SV.out) (fun hHeld2 => ?_)
        clear hKK KK hHeld
        have hHeld := hHeld2
        clear hHeld2
        refine wpAnyH_done (by kernel_rfl) ?_ _
        clear hHeld SV
        go_wp2_with fail
        go_meet
        case rel => exact ⟨g3, v0, v1, aa', ac', ua', uc', M, rfl, HMN, HOW⟩
      · skip
        go_simp
        have bG : Below w4.heap.size w4 (w4.alloc (.cells zero19 60)) := one_below _ _
        have HG : Hid (Blk (w4.alloc (.cells zero19 60)) w4.heap.size zero19) := ⟨by simp, fun o => World.cell?_alloc_at _ _ _ _ rfl, fun o => World.frozen?_alloc_at _ _ _ _ rfl⟩
        have BG : Hid (Below W.heap.size W (w4.alloc (.cells zero19 60))) := Bw4.out.trans (bG.mono Bw4.out.size)
        have HGL : Hid (W.heap.size ≤ w4.heap.size) := Bw4.out.size
        have HNA0 : Hid (¬ (Value.slice aa' A.length ac').ownBlock = some w4.heap.size) := fun e => by have h1 := (HO.out.lt _ e).2; omega
        replace HO := Hid.intro (HO.out.kept bG)
        clear bG
        revert HG BG HGL HNA0 HO
        generalize w4.alloc (.cells zero19 60) = G
        generalize w4.heap.size = g3
        intro HG BG HGL HNA0 HO
        refine hKK.out _ _ (HSF.out _ BG.out) (fun hHeld2 => ?_)
        clear hKK KK hHeld
        have hHeld := hHeld2
        clear hHeld2
        refine wpAnyH_ready (rs := [9]) (by kernel_rfl) (by simp) ?_
        refine (AllReadyH.cons rfl (fun KK hKK => ?_) AllReadyH.nil)
        go_simp
        have hzc : w.heap.size ≤ G.heap.size := by have := BG.out.size; omega
        refine (volCopied_any nx L (.slice ua L.length uc) N G (by omega) (HV.out.kept ((HBW.out.trans (BG.out.mono HBW.out.size)).mono hN)) HB.out).mono ?_
        rintro e x1 ⟨ua', uc', M, rfl, vo, hmn, hinc, b9⟩
        have HMN := Hid.intro hmn
        have Bx1 : Hid (Below W.heap.size W x1) := BG.out.trans (b9.mono BG.out.size)
        have HOL : Hid (OwL W W.heap.size G.heap.size x1.heap.size A (.slice aa' A.length ac') M (.slice ua' M.length uc') x1) := ⟨vo, fun k hk => (vo.own.lt k hk).2, fun p hp k hk => ((vo.nms p hp).lt k hk).2, hinc, HO.out.kept b9, fun k hk => (HO.out.lt k hk).2, ⟨BG.out.size, b9.size, Nat.le_refl _⟩, Bx1.out⟩
        have HGV : Hid (¬ (G.heap.size ≤ g3 ∧ g3 < x1.heap.size)) := by have := HG.out.hi; unfold Hid; omega
        replace HG := Hid.intro (HG.out.kept b9)
        obtain ⟨v0, hv0⟩ : ∃ v0, G.heap.size = v0 := ⟨_, rfl⟩
        obtain ⟨v1, hv1⟩ : ∃ v1, x1.heap.size = v1 := ⟨_, rfl⟩
        rw [hv0, hv1] at HOL
        rw [hv0, hv1] at HGV
        clear vo hmn hinc b9 HO hzc hv1 hv0
        go_simp
        refine hKK.out _ _ (HSF.out _ Bx1.out) (fun hHeld2 => ?_)
        clear hKK KK hHeld
        have hHeld := hHeld2
        clear hHeld2
        refine take1 (i := 10) (d := some 16) (v := ?_) rfl rfl (by kernel_rfl) (by kernel_rfl) (by kernel_rfl) (fun _ _ _ h => h) (Or.inl ⟨by rfl, ?_⟩) (by assumption) ?_
        rotate_left 1
        · intro w hSw
          obtain ⟨s0, s1, s2, s3, s4⟩ := hSw
          go_simp <;> with_reducible rfl
        simp only [Act.put, List.setIfInBounds_toArray]
        try simp only [List.set_cons_succ]
        try simp only [List.set_cons_zero]
        refine wpAnyH_ready (rs := [12]) (by kernel_rfl) (by simp) ?_
        refine (AllReadyH.cons rfl (fun KK hKK => ?_) AllReadyH.nil)
        have hg : w.heap.size + 1 < g3 := by have := HGL.out; omega
        refine step_store_mid rfl 60 _ _ rfl g3 0 (own19 tk (.slice aa' A.length ac') nx (.slice ua' M.length uc') seZ seZ seZ) rfl rfl (HG.out.there 0 19 (Nat.le_refl _)) (by kernel_rfl) (own19_one _ _ _ _ _ _ _ _ _ _ _) ?_
        intro V hVC
        have BV : Blk V g3 (own19 tk (.slice aa' A.length ac') nx (.slice ua' M.length uc') seZ seZ seZ) := by
          rw [← hVC]
          exact HG.out.all _ rfl
        have OV : Only (fun k => k = g3) x1 V := by
          rw [← hVC]
          exact only_setC _ _ _ _
        have SV : Hid (STo w.heap.size nx (.slice ua L.length uc) tk (.slice aa A.length ac) (.slice sa Ss.length sc) V) := by
          have h0 := HSF.out _ Bx1.out
          have hzc : w.heap.size < x1.heap.size := by have := Bx1.out.size; omega
          have hng : ¬ w.heap.size = g3 := by omega
          exact ⟨(OV.cell hzc hng).trans h0.1, (OV.cell hzc hng).trans h0.2.1, (OV.cell hzc hng).trans h0.2.2.1, (OV.cell hzc hng).trans h0.2.2.2.1, (OV.cell hzc hng).trans h0.2.2.2.2⟩
        have HOW : Hid (Ow W g3 v0 v1 tk nx A (.slice aa' A.length ac') M (.slice ua' M.length uc') seZ seZ seZ V) := ⟨BV, HOL.out.only OV HGL.out HGV.out HNA0.out, ⟨HGL.out, HGV.out, HNA0.out⟩⟩
        clear BV OV hVC HG HOL HNA0 HGV HGL hg
        refine hKK.out _ _ (SV.out) (fun hHeld2 => ?_)
        clear hKK KK hHeld
        have hHeld := hHeld2
        clear hHeld2
        refine wpAnyH_done (by kernel_rfl) ?_ _
        clear hHeld SV
        go_wp2_with fail
        go_meet
        case rel => exact ⟨g3, v0, v1, aa', ac', ua', uc', M, rfl, HMN, HOW⟩
    · skip
      go_simp
      have bG : Below D.heap.size D (D.alloc (.cells zero19 60)) := one_below _ _
      have HG : Hid (Blk (D.alloc (.cells zero19 60)) D.heap.size zero19) := ⟨by simp, fun o => World.cell?_alloc_at _ _ _ _ rfl, fun o => World.frozen?_alloc_at _ _ _ _ rfl⟩
      have BG : Hid (Below W.heap.size W (D.alloc (.cells zero19 60))) := BD.out.trans (bG.mono BD.out.size)
      have HGL : Hid (W.heap.size ≤ D.heap.size) := BD.out.size
      clear bG
      revert HG BG HGL
      generalize D.alloc (.cells zero19 60) = G
      generalize D.heap.size = g3
      intro HG BG HGL
      refine hKK.out _ _ (HSF.out _ BG.out) (fun hHeld2 => ?_)
      clear hKK KK hHeld
      have hHeld := hHeld2
      clear hHeld2
      refine wpAnyH_ready (rs := [5]) (by kernel_rfl) (by simp) ?_
      refine (AllReadyH.cons rfl (fun KK hKK => ?_) AllReadyH.nil)
      obtain ⟨i0, hi, hz0, hz1, hz2⟩ := info_parts infoNt2'
      have hzc : w.heap.size ≤ G.heap.size := by have := BG.out.size; omega
      refine step_app_all (E := ntE) rfl _ _ rfl i0 (.agg #[.int .i64 0, .int .i64 0, .int .i64 0, .int .i64 0, .int .i64 0]) 40 Tryz.underlying33 hi hz0 hz1 hz2 rfl G.heap.size N (.slice none 0 0) rfl (Own.nil _ _) (.slice aa A.length ac) A rfl (HA.out.kept ((HBW.out.trans (BG.out.mono HBW.out.size)).mono hN)) (by omega) (by omega) (Nat.le_refl _) ?_
      intro aa' ac' w4 hown ho
      have b4 : Below G.heap.size G w4 := ho.below (Nat.le_refl _) (fun k _ e => by cases e)
      have Bw4 : Hid (Below W.heap.size W w4) := BG.out.trans (b4.mono BG.out.size)
      have HO : Hid (Own ntE 81 w4 W.heap.size (.slice aa' A.length ac') A) := hown.lower BG.out.size
      have HNA0 : Hid (¬ (Value.slice aa' A.length ac').ownBlock = some g3) := fun e => by have h1 := (hown.lt g3 e).1; have h2 := HG.out.hi; omega
      replace HG := Hid.intro (HG.out.kept b4)
      clear hown ho b4 hi hz0 hz1 hz2 hzc
      go_simp
      refine hKK.out _ _ (HSF.out _ Bw4.out) (fun hHeld2 => ?_)
      clear hKK KK hHeld
      have hHeld := hHeld2
      clear hHeld2
      refine take1 (i := 6) (d := some 12) (v := ?_) rfl rfl (by kernel_rfl) (by kernel_rfl) (by kernel_rfl) (fun _ _ _ h => h) (Or.inl ⟨by rfl, ?_⟩) (by assumption) ?_
      rotate_left 1
      · intro w hSw
        obtain ⟨s0, s1, s2, s3, s4⟩ := hSw
        go_simp <;> with_reducible rfl
      simp only [Act.put, List.setIfInBounds_toArray]
      try simp only [List.set_cons_succ]
      try simp only [List.set_cons_zero]
      refine wpAnyH_ready (rs := [9]) (by kernel_rfl) (by simp) ?_
      refine (AllReadyH.cons rfl (fun KK hKK => ?_) AllReadyH.nil)
      go_simp
      have hzc : w.heap.size ≤ w4.heap.size := by have := Bw4.out.size; omega
      refine (volCopied_any nx L (.slice ua L.length uc) N w4 (by omega) (HV.out.kept ((HBW.out.trans (Bw4.out.mono HBW.out.size)).mono hN)) HB.out).mono ?_
      rintro e x1 ⟨ua', uc', M, rfl, vo, hmn, hinc, b9⟩
      have HMN := Hid.intro hmn
      have Bx1 : Hid (Below W.heap.size W x1) := Bw4.out.trans (b9.mono Bw4.out.size)
      have HOL : Hid (OwL W W.heap.size w4.heap.size x1.heap.size A (.slice aa' A.length ac') M (.slice ua' M.length uc') x1) := ⟨vo, fun k hk => (vo.own.lt k hk).2, fun p hp k hk => ((vo.nms p hp).lt k hk).2, hinc, HO.out.kept b9, fun k hk => (HO.out.lt k hk).2, ⟨Bw4.out.size, b9.size, Nat.le_refl _⟩, Bx1.out⟩
      have HGV : Hid (¬ (w4.heap.size ≤ g3 ∧ g3 < x1.heap.size)) := by have := HG.out.hi; unfold Hid; omega
      replace HG := Hid.intro (HG.out.kept b9)
      obtain ⟨v0, hv0⟩ : ∃ v0, w4.heap.size = v0 := ⟨_, rfl⟩
      obtain ⟨v1, hv1⟩ : ∃ v1, x1.heap.size = v1 := ⟨_, rfl⟩
      rw [hv0, hv1] at HOL
      rw [hv0, hv1] at HGV
      clear vo hmn hinc b9 HO hzc hv1 hv0
      go_simp
      refine hKK.out _ _ (HSF.out _ Bx1.out) (fun hHeld2 => ?_)
      clear hKK KK hHeld
      have hHeld := hHeld2
      clear hHeld2
      refine take1 (i := 10) (d := some 16) (v := ?_) rfl rfl (by kernel_rfl) (by kernel_rfl) (by kernel_rfl) (fun _ _ _ h => h) (Or.inl ⟨by rfl, ?_⟩) (by assumption) ?_
      rotate_left 1
      · intro w hSw
        obtain ⟨s0, s1, s2, s3, s4⟩ := hSw
        go_simp <;> with_reducible rfl
      simp only [Act.put, List.setIfInBounds_toArray]
      try simp only [List.set_cons_succ]
      try simp only [List.set_cons_zero]
      refine wpAnyH_ready (rs := [12]) (by kernel_rfl) (by simp) ?_
      refine (AllReadyH.cons rfl (fun KK hKK => ?_) AllReadyH.nil)
      have hg : w.heap.size + 1 < g3 := by have := HGL.out; omega
      refine step_store_mid rfl 60 _ _ rfl g3 0 (own19 tk (.slice aa' A.length ac') nx (.slice ua' M.length uc') seZ seZ seZ) rfl rfl (HG.out.there 0 19 (Nat.le_refl _)) (by kernel_rfl) (own19_one _ _ _ _ _ _ _ _ _ _ _) ?_
      intro V hVC
      have BV : Blk V g3 (own19 tk (.slice aa' A.length ac') nx (.slice ua' M.length uc') seZ seZ seZ) := by
        rw [← hVC]
        exact HG.out.all _ rfl
      have OV : Only (fun k => k = g3) x1 V := by
        rw [← hVC]
        exact only_setC _ _ _ _
      have SV : Hid (STo w.heap.size nx (.slice ua L.length uc) tk (.slice aa A.length ac) (.slice sa Ss.length sc) V) := by
        have h0 := HSF.out _ Bx1.out
        have hzc : w.heap.size < x1.heap.size := by have := Bx1.out.size; omega
        have hng : ¬ w.heap.size = g3 := by omega
        exact ⟨(OV.cell hzc hng).trans h0.1, (OV.cell hzc hng).trans h0.2.1, (OV.cell hzc hng).trans h0.2.2.1, (OV.cell hzc hng).trans h0.2.2.2.1, (OV.cell hzc hng).trans h0.2.2.2.2⟩
      have HOW : Hid (Ow W g3 v0 v1 tk nx A (.slice aa' A.length ac') M (.slice ua' M.length uc') seZ seZ seZ V) := ⟨BV, HOL.out.only OV HGL.out HGV.out HNA0.out, ⟨HGL.out, HGV.out, HNA0.out⟩⟩
      clear BV OV hVC HG HOL HNA0 HGV HGL hg
      refine hKK.out _ _ (SV.out) (fun hHeld2 => ?_)
      clear hKK KK hHeld
      have hHeld := hHeld2
      clear hHeld2
      refine wpAnyH_done (by kernel_rfl) ?_ _
      clear hHeld SV
      go_wp2_with fail
      go_meet
      case rel => exact ⟨g3, v0, v1, aa', ac', ua', uc', M, rfl, HMN, HOW⟩
  case rest =>
  obtain ⟨g3, v0, v1, aa', ac', ua', uc', M, rfl, HMN, HOW⟩ := hcut
  have k4 := (HSF.out _ HOW.out.l.bel).2.2.2.2
  have HRES2 : Hid (∀ y, Below W.heap.size W y → Blk y (w.heap.size + 1) zero19) := fun y hy => HRES.out.kept hy
  have HCS : Hid (Row seE W N (.slice sa Ss.length sc) Ss) := HS.out.kept (HBW.out.mono hN)
  have hNW : N ≤ W.heap.size := by omega
  obtain ⟨a0, cap0, hsv2, hl, hm, hcells⟩ := seE_cell HCS.out
  simp only [Value.slice.injEq, true_and] at hsv2
  obtain ⟨rfl, rfl⟩ := hsv2
  have HC := Hid.intro hcells
  clear hcells hl hm HRES HCS HV HA HS HB
  go_wp2_with fail
  clear k4
  go_loopw [20] (fun i wr => ∃ j : Nat, i = .int .i64 j ∧ j ≤ Ss.length ∧ Hid (Ow W g3 v0 v1 tk nx A (.slice aa' A.length ac') M (.slice ua' M.length uc') (slots (Ss.take j)).1 (slots (Ss.take j)).2.1 (slots (Ss.take j)).2.2 wr)) (fun i _ => Ss.length - (intOf i).toNat)
  case atStart => exact ⟨0, rfl, Nat.zero_le _, HOW⟩
  case round =>
    obtain ⟨j, rfl, hj, HI⟩ := hrel
    by_cases hlt : j < Ss.length
    · obtain ⟨b, off, hab, hbN, hcc⟩ := HC.out (fun h => by rw [h] at hlt; simp at hlt)
      subst hab
      obtain ⟨d0, d1, d2, d3, d4⟩ := hcc j hlt
      have hst := slots_snoc Ss j hlt
      obtain ⟨hxc, hxd⟩ := HSC.out Ss[j] (List.getElem_mem hlt)
      obtain ⟨q, hq⟩ : ∃ q, slots (Ss.take j) = q := ⟨_, rfl⟩
      rw [hq] at HI hst
      clear hq
      obtain ⟨qa, qb, qc⟩ := q
      dsimp only at HI
      generalize Ss[j] = x at d0 d1 d2 d3 d4 hst hxc hxd
      have hbel := HI.out.l.bel
      replace d0 := atCell hbel d0 (by omega)
      replace d1 := atCell hbel d1 (by omega)
      replace d2 := atCell hbel d2 (by omega)
      replace d3 := atCell hbel d3 (by omega)
      replace d4 := atCell hbel d4 (by omega)
      have hzr := hbel.size
      have hgr : g3 < wr.heap.size := HI.out.box.hi
      have hgW : W.heap.size ≤ g3 := HI.out.g.1
      have hv1r : v1 ≤ wr.heap.size := HI.out.l.ord.2.2
      have HNA : Hid (¬ (Value.slice aa' A.length ac').ownBlock = some wr.heap.size) := fun e => by have := (HI.out.l.aud.lt _ e).2; omega
      have HST := Hid.intro hst
      have hjl : (j : Int) < (Ss.length : Int) := by omega
      have i1' : (0 : Int) ≤ (j : Int) ∧ (j : Int) < (Ss.length : Int) := by omega
      clear hst hcc hbel
      go_upto_region 5 with fail
      obtain ⟨Y, hY, bY, zY, cY, fY⟩ := boxed wr (seA x) 57
      simp only [hY]
      replace HI := Hid.intro (HI.out.kept bY)
      clear hY bY d0 d1 d2 d3 d4
      go_wp2_with fail
      refine (resCopied_any x.r Y hxd).mono ?_
      rintro e Z ⟨rfl, bZ⟩
      have zZ := bZ.size
      have hyZ : wr.heap.size < Z.heap.size := by omega
      have BX : Blk Z wr.heap.size (seA x) := ⟨hyZ, keepC bZ (by omega) cY, keepF bZ (by omega) fY⟩
      replace HI := Hid.intro (HI.out.kept bZ)
      obtain ⟨V, hV⟩ : ∃ V, (Z.setCell ⟨wr.heap.size, 3, none⟩ (.int .i64 x.r.c)).setCell ⟨wr.heap.size, 4, none⟩ (.string x.r.d) = V := ⟨_, rfl⟩
      have OV : Only (fun k => k = wr.heap.size) Z V := by
        rw [← hV]
        exact ((Only.refl (fun k => k = wr.heap.size) Z).setCell (p := ⟨wr.heap.size, 3, none⟩) rfl _).setCell (p := ⟨wr.heap.size, 4, none⟩) rfl _
      have BV : Blk V wr.heap.size (seA x) := by
        rw [← hV]
        exact (BX.putI 3 (by simp) (.int .i64 x.r.c)).putI 4 (by simp) (.string x.r.d)
      have hi2 : Hid (Ow W g3 v0 v1 tk nx A (.slice aa' A.length ac') M (.slice ua' M.length uc') qa qb qc V) := ⟨HI.out.box.only OV (by omega), HI.out.l.only OV (by omega) (by omega) HNA.out, HI.out.g⟩
      have kX := BX.cell
      have fX := BX.fro
      have SV := BV.cell
      have BVhi := BV.hi
      clear BX OV BV HI cY fY bZ
      go_upto_region 6 with fail
      try simp only [hV]
      clear kX fX hV
      have hvV : wr.heap.size < V.heap.size := by have := hi2.out.l.ord; have := hi2.out.box.hi; exact BVhi
      have HSO : Hid (∀ y, Below V.heap.size V y → SSo wr.heap.size x y) := fun y hy => ⟨keepC hy hvV SV 0, keepC hy hvV SV 1, keepC hy hvV SV 2, keepC hy hvV SV 3, keepC hy hvV SV 4⟩
      clear SV BVhi
      rcases hxc with hx1 | hx1 | hx1
      · have HX1 := Hid.intro hx1
        clear hx1
        refine wp_region_held_drew (S := SSo wr.heap.size x) (by kernel_rfl) (HSO.out _ (Below.refl _ _).drew) (fun hHeld => ?_)
        have BD : Hid (Below V.heap.size V V.drew) := (Below.refl _ _).drew
        have hgV : g3 < V.heap.size := hi2.out.box.hi
        generalize V.drew = D at BD hHeld ⊢
        refine take1 (i := 0) (d := some 28) (v := ?_) rfl rfl (by kernel_rfl) (by kernel_rfl) (by kernel_rfl) (fun _ _ _ h => h) (Or.inl ⟨by rfl, ?_⟩) (by assumption) ?_
        rotate_left 1
        · intro w hSw
          obtain ⟨s0, s1, s2, s3, s4⟩ := hSw
          go_simp <;> with_reducible rfl
        simp only [Act.put, List.setIfInBounds_toArray]
        try simp only [List.set_cons_succ]
        try simp only [List.set_cons_zero]
        refine take1 (i := 1) (d := some 29) (v := ?_) rfl rfl (by kernel_rfl) (by kernel_rfl) (by kernel_rfl) (fun _ _ _ h => h) (Or.inl ⟨by rfl, ?_⟩) (by assumption) ?_
        rotate_left 1
        · intro w hSw
          obtain ⟨s0, s1, s2, s3, s4⟩ := hSw
          go_simp <;> with_reducible rfl
        simp only [Act.put, List.setIfInBounds_toArray]
        try simp only [List.set_cons_succ]
        try simp only [List.set_cons_zero]
        refine take1 (i := 3) (d := some 31) (v := ?_) rfl rfl (by kernel_rfl) (by kernel_rfl) (by kernel_rfl) (fun _ _ _ h => h) (Or.inl ⟨by rfl, ?_⟩) (by assumption) ?_
        rotate_left 1
        · intro w hSw
          obtain ⟨s0, s1, s2, s3, s4⟩ := hSw
          go_simp <;> with_reducible rfl
        simp only [Act.put, List.setIfInBounds_toArray]
        try simp only [List.set_cons_succ]
        try simp only [List.set_cons_zero]
        refine wpAnyH_ready (rs := [2]) (by kernel_rfl) (by simp) ?_
        refine (AllReadyH.cons rfl (fun KK hKK => ?_) AllReadyH.nil)
        go_simp
        refine (sessPtr_any g3 x.c 0 D (by have := HX1.out; omega) (by omega)).mono ?_
        rintro e q1 ⟨rfl, rfl⟩
        go_simp
        refine hKK.out _ _ (HSO.out _ BD.out) (fun hHeld2 => ?_)
        clear hKK KK hHeld
        have hHeld := hHeld2
        clear hHeld2
        refine take1 (i := 4) (d := some 32) (v := ?_) rfl rfl (by kernel_rfl) (by kernel_rfl) (by kernel_rfl) (fun _ _ _ h => h) (Or.inl ⟨by rfl, ?_⟩) (by assumption) ?_
        rotate_left 1
        · intro w hSw
          obtain ⟨s0, s1, s2, s3, s4⟩ := hSw
          go_simp <;> with_reducible rfl
        simp only [Act.put, List.setIfInBounds_toArray]
        try simp only [List.set_cons_succ]
        try simp only [List.set_cons_zero]
        refine wpAnyH_ready (rs := [5]) (by kernel_rfl) (by simp) ?_
        refine (AllReadyH.cons rfl (fun KK hKK => ?_) AllReadyH.nil)
        have HD := Hid.intro (hi2.out.kept BD.out)
        refine step_store_mid rfl 57 _ _ rfl g3 4 (seA x) rfl rfl (HD.out.box.there 4 5 (by simp)) (by kernel_rfl) (seA_one x) ?_
        intro V2 hVC
        have BV2 : Blk V2 g3 (own19 tk (.slice aa' A.length ac') nx (.slice ua' M.length uc') x qb qc) := by
          rw [← hVC]
          exact (HD.out.box.slot x).1
        have OV2 : Only (fun k => k = g3) D V2 := by
          rw [← hVC]
          exact only_setC _ _ _ _
        have SV2 : Hid (SSo wr.heap.size x V2) := by
          have h0 := HSO.out _ BD.out
          have hzc : wr.heap.size < D.heap.size := by have := BD.out.size; omega
          have hng : ¬ wr.heap.size = g3 := by omega
          exact ⟨(OV2.cell hzc hng).trans h0.1, (OV2.cell hzc hng).trans h0.2.1, (OV2.cell hzc hng).trans h0.2.2.1, (OV2.cell hzc hng).trans h0.2.2.2.1, (OV2.cell hzc hng).trans h0.2.2.2.2⟩
        have hgg := HD.out.g
        have HI2 : Hid (Ow W g3 v0 v1 tk nx A (.slice aa' A.length ac') M (.slice ua' M.length uc') (slots (Ss.take (j + 1))).1 (slots (Ss.take (j + 1))).2.1 (slots (Ss.take (j + 1))).2.2 V2) := by
          rw [HST.out]
          simp only [setS]
          rw [if_pos HX1.out]
          exact ⟨BV2, HD.out.l.only OV2 hgg.1 hgg.2.1 hgg.2.2, hgg⟩
        clear BV2 OV2 hVC HD hgg
        refine hKK.out _ _ (SV2.out) (fun hHeld2 => ?_)
        clear hKK KK hHeld
        have hHeld := hHeld2
        clear hHeld2
        refine wpAnyH_done (by kernel_rfl) ?_ _
        clear hHeld SV2
        go_wp2
        go_roundw
        case rel => exact ⟨j + 1, by go_num, by omega, HI2⟩
        case measure => simp [intOf]; omega
      · have HX1 := Hid.intro hx1
        clear hx1
        refine wp_region_held_drew (S := SSo wr.heap.size x) (by kernel_rfl) (HSO.out _ (Below.refl _ _).drew) (fun hHeld => ?_)
        have BD : Hid (Below V.heap.size V V.drew) := (Below.refl _ _).drew
        have hgV : g3 < V.heap.size := hi2.out.box.hi
        generalize V.drew = D at BD hHeld ⊢
        refine take1 (i := 0) (d := some 28) (v := ?_) rfl rfl (by kernel_rfl) (by kernel_rfl) (by kernel_rfl) (fun _ _ _ h => h) (Or.inl ⟨by rfl, ?_⟩) (by assumption) ?_
        rotate_left 1
        · intro w hSw
          obtain ⟨s0, s1, s2, s3, s4⟩ := hSw
          go_simp <;> with_reducible rfl
        simp only [Act.put, List.setIfInBounds_toArray]
        try simp only [List.set_cons_succ]
        try simp only [List.set_cons_zero]
        refine take1 (i := 1) (d := some 29) (v := ?_) rfl rfl (by kernel_rfl) (by kernel_rfl) (by kernel_rfl) (fun _ _ _ h => h) (Or.inl ⟨by rfl, ?_⟩) (by assumption) ?_
        rotate_left 1
        · intro w hSw
          obtain ⟨s0, s1, s2, s3, s4⟩ := hSw
          go_simp <;> with_reducible rfl
        simp only [Act.put, List.setIfInBounds_toArray]
        try simp only [List.set_cons_succ]
        try simp only [List.set_cons_zero]
        refine take1 (i := 3) (d := some 31) (v := ?_) rfl rfl (by kernel_rfl) (by kernel_rfl) (by kernel_rfl) (fun _ _ _ h => h) (Or.inl ⟨by rfl, ?_⟩) (by assumption) ?_
        rotate_left 1
        · intro w hSw
          obtain ⟨s0, s1, s2, s3, s4⟩ := hSw
          go_simp <;> with_reducible rfl
        simp only [Act.put, List.setIfInBounds_toArray]
        try simp only [List.set_cons_succ]
        try simp only [List.set_cons_zero]
        refine wpAnyH_ready (rs := [2]) (by kernel_rfl) (by simp) ?_
        refine (AllReadyH.cons rfl (fun KK hKK => ?_) AllReadyH.nil)
        go_simp
        refine (sessPtr_any g3 x.c 1 D (by have := HX1.out; omega) (by omega)).mono ?_
        rintro e q1 ⟨rfl, rfl⟩
        go_simp
        refine hKK.out _ _ (HSO.out _ BD.out) (fun hHeld2 => ?_)
        clear hKK KK hHeld
        have hHeld := hHeld2
        clear hHeld2
        refine take1 (i := 4) (d := some 32) (v := ?_) rfl rfl (by kernel_rfl) (by kernel_rfl) (by kernel_rfl) (fun _ _ _ h => h) (Or.inl ⟨by rfl, ?_⟩) (by assumption) ?_
        rotate_left 1
        · intro w hSw
          obtain ⟨s0, s1, s2, s3, s4⟩ := hSw
          go_simp <;> with_reducible rfl
        simp only [Act.put, List.setIfInBounds_toArray]
        try simp only [List.set_cons_succ]
        try simp only [List.set_cons_zero]
        refine wpAnyH_ready (rs := [5]) (by kernel_rfl) (by simp) ?_
        refine (AllReadyH.cons rfl (fun KK hKK => ?_) AllReadyH.nil)
        have HD := Hid.intro (hi2.out.kept BD.out)
        refine step_store_mid rfl 57 _ _ rfl g3 9 (seA x) rfl rfl (HD.out.box.there 9 5 (by simp)) (by kernel_rfl) (seA_one x) ?_
        intro V2 hVC
        have BV2 : Blk V2 g3 (own19 tk (.slice aa' A.length ac') nx (.slice ua' M.length uc') qa x qc) := by
          rw [← hVC]
          exact (HD.out.box.slot x).2.1
        have OV2 : Only (fun k => k = g3) D V2 := by
          rw [← hVC]
          exact only_setC _ _ _ _
        have SV2 : Hid (SSo wr.heap.size x V2) := by
          have h0 := HSO.out _ BD.out
          have hzc : wr.heap.size < D.heap.size := by have := BD.out.size; omega
          have hng : ¬ wr.heap.size = g3 := by omega
          exact ⟨(OV2.cell hzc hng).trans h0.1, (OV2.cell hzc hng).trans h0.2.1, (OV2.cell hzc hng).trans h0.2.2.1, (OV2.cell hzc hng).trans h0.2.2.2.1, (OV2.cell hzc hng).trans h0.2.2.2.2⟩
        have hgg := HD.out.g
        have HI2 : Hid (Ow W g3 v0 v1 tk nx A (.slice aa' A.length ac') M (.slice ua' M.length uc') (slots (Ss.take (j + 1))).1 (slots (Ss.take (j + 1))).2.1 (slots (Ss.take (j + 1))).2.2 V2) := by
          rw [HST.out]
          simp only [setS]
          rw [if_neg (by have := HX1.out; omega), if_pos HX1.out]
          exact ⟨BV2, HD.out.l.only OV2 hgg.1 hgg.2.1 hgg.2.2, hgg⟩
        clear BV2 OV2 hVC HD hgg
        refine hKK.out _ _ (SV2.out) (fun hHeld2 => ?_)
        clear hKK KK hHeld
        have hHeld := hHeld2
        clear hHeld2
        refine wpAnyH_done (by kernel_rfl) ?_ _
        clear hHeld SV2
        go_wp2
        go_roundw
        case rel => exact ⟨j + 1, by go_num, by omega, HI2⟩
        case measure => simp [intOf]; omega
      · have HX1 := Hid.intro hx1
        clear hx1
        refine wp_region_held_drew (S := SSo wr.heap.size x) (by kernel_rfl) (HSO.out _ (Below.refl _ _).drew) (fun hHeld => ?_)
        have BD : Hid (Below V.heap.size V V.drew) := (Below.refl _ _).drew
        have hgV : g3 < V.heap.size := hi2.out.box.hi
        generalize V.drew = D at BD hHeld ⊢
        refine take1 (i := 0) (d := some 28) (v := ?_) rfl rfl (by kernel_rfl) (by kernel_rfl) (by kernel_rfl) (fun _ _ _ h => h) (Or.inl ⟨by rfl, ?_⟩) (by assumption) ?_
        rotate_left 1
        · intro w hSw
          obtain ⟨s0, s1, s2, s3, s4⟩ := hSw
          go_simp <;> with_reducible rfl
        simp only [Act.put, List.setIfInBounds_toArray]
        try simp only [List.set_cons_succ]
        try simp only [List.set_cons_zero]
        refine take1 (i := 1) (d := some 29) (v := ?_) rfl rfl (by kernel_rfl) (by kernel_rfl) (by kernel_rfl) (fun _ _ _ h => h) (Or.inl ⟨by rfl, ?_⟩) (by assumption) ?_
        rotate_left 1
        · intro w hSw
          obtain ⟨s0, s1, s2, s3, s4⟩ := hSw
          go_simp <;> with_reducible rfl
        simp only [Act.put, List.setIfInBounds_toArray]
        try simp only [List.set_cons_succ]
        try simp only [List.set_cons_zero]
        refine take1 (i := 3) (d := some 31) (v := ?_) rfl rfl (by kernel_rfl) (by kernel_rfl) (by kernel_rfl) (fun _ _ _ h => h) (Or.inl ⟨by rfl, ?_⟩) (by assumption) ?_
        rotate_left 1
        · intro w hSw
          obtain ⟨s0, s1, s2, s3, s4⟩ := hSw
          go_simp <;> with_reducible rfl
        simp only [Act.put, List.setIfInBounds_toArray]
        try simp only [List.set_cons_succ]
        try simp only [List.set_cons_zero]
        refine wpAnyH_ready (rs := [2]) (by kernel_rfl) (by simp) ?_
        refine (AllReadyH.cons rfl (fun KK hKK => ?_) AllReadyH.nil)
        go_simp
        refine (sessPtr_any g3 x.c 2 D (by have := HX1.out; omega) (by omega)).mono ?_
        rintro e q1 ⟨rfl, rfl⟩
        go_simp
        refine hKK.out _ _ (HSO.out _ BD.out) (fun hHeld2 => ?_)
        clear hKK KK hHeld
        have hHeld := hHeld2
        clear hHeld2
        refine take1 (i := 4) (d := some 32) (v := ?_) rfl rfl (by kernel_rfl) (by kernel_rfl) (by kernel_rfl) (fun _ _ _ h => h) (Or.inl ⟨by rfl, ?_⟩) (by assumption) ?_
        rotate_left 1
        · intro w hSw
          obtain ⟨s0, s1, s2, s3, s4⟩ := hSw
          go_simp <;> with_reducible rfl
        simp only [Act.put, List.setIfInBounds_toArray]
        try simp only [List.set_cons_succ]
        try simp only [List.set_cons_zero]
        refine wpAnyH_ready (rs := [5]) (by kernel_rfl) (by simp) ?_
        refine (AllReadyH.cons rfl (fun KK hKK => ?_) AllReadyH.nil)
        have HD := Hid.intro (hi2.out.kept BD.out)
        refine step_store_mid rfl 57 _ _ rfl g3 14 (seA x) rfl rfl (HD.out.box.there 14 5 (by simp)) (by kernel_rfl) (seA_one x) ?_
        intro V2 hVC
        have BV2 : Blk V2 g3 (own19 tk (.slice aa' A.length ac') nx (.slice ua' M.length uc') qa qb x) := by
          rw [← hVC]
          exact (HD.out.box.slot x).2.2
        have OV2 : Only (fun k => k = g3) D V2 := by
          rw [← hVC]
          exact only_setC _ _ _ _
        have SV2 : Hid (SSo wr.heap.size x V2) := by
          have h0 := HSO.out _ BD.out
          have hzc : wr.heap.size < D.heap.size := by have := BD.out.size; omega
          have hng : ¬ wr.heap.size = g3 := by omega
          exact ⟨(OV2.cell hzc hng).trans h0.1, (OV2.cell hzc hng).trans h0.2.1, (OV2.cell hzc hng).trans h0.2.2.1, (OV2.cell hzc hng).trans h0.2.2.2.1, (OV2.cell hzc hng).trans h0.2.2.2.2⟩
        have hgg := HD.out.g
        have HI2 : Hid (Ow W g3 v0 v1 tk nx A (.slice aa' A.length ac') M (.slice ua' M.length uc') (slots (Ss.take (j + 1))).1 (slots (Ss.take (j + 1))).2.1 (slots (Ss.take (j + 1))).2.2 V2) := by
          rw [HST.out]
          simp only [setS]
          rw [if_neg (by have := HX1.out; omega), if_neg (by have := HX1.out; omega)]
          exact ⟨BV2, HD.out.l.only OV2 hgg.1 hgg.2.1 hgg.2.2, hgg⟩
        clear BV2 OV2 hVC HD hgg
        refine hKK.out _ _ (SV2.out) (fun hHeld2 => ?_)
        clear hKK KK hHeld
        have hHeld := hHeld2
        clear hHeld2
        refine wpAnyH_done (by kernel_rfl) ?_ _
        clear hHeld SV2
        go_wp2
        go_roundw
        case rel => exact ⟨j + 1, by go_num, by omega, HI2⟩
        case measure => simp [intOf]; omega
    · obtain rfl : j = Ss.length := by omega
      have e1 : Ss.take Ss.length = Ss := List.take_length
      rw [e1] at HI
      have HRB := Hid.intro (HRES2.out _ HI.out.l.bel)
      obtain ⟨q, hq⟩ : ∃ q, slots Ss = q := ⟨_, rfl⟩
      rw [hq] at HI
      have HQ := Hid.intro hq
      clear hq
      obtain ⟨qa, qb, qc⟩ := q
      dsimp only at HI
      have kB := HI.out.box.cell
      have kR := HRB.out.cell
      have fR := HRB.out.fro
      have hng : ¬ w.heap.size + 1 = g3 := by have := HI.out.g.1; omega
      obtain ⟨V, hVC⟩ : ∃ V, setC wr (w.heap.size + 1) 0 (own19 tk (.slice aa' A.length ac') nx (.slice ua' M.length uc') qa qb qc).toList = V := ⟨_, rfl⟩
      have BV : Blk V (w.heap.size + 1) (own19 tk (.slice aa' A.length ac') nx (.slice ua' M.length uc') qa qb qc) := by
        rw [← hVC]
        exact HRB.out.all _ rfl
      have OV : Only (fun k => k = w.heap.size + 1) wr V := by
        rw [← hVC]
        exact only_setC _ _ _ _
      have hl0 := HI.out.l
      have HFL : Hid (OwL w w.heap.size v0 v1 A (.slice aa' A.length ac') M (.slice ua' M.length uc') V) := by
        have h1 := hl0.lower (w0 := w) (base' := w.heap.size) (by omega) HBW.out
        have h2 := hl0.ord
        exact h1.only OV (by omega) (by omega) (fun e => by have := (hl0.aud.lt _ e).1; omega)
      have HVR := Hid.intro BV.range
      have HRG := Hid.intro HI.out.box.range
      have HTV := Hid.intro (HRB.out.there 0 19 (Nat.le_refl _))
      clear BV OV hl0 HI HRES2 kB kR fR
      have hrg := HRG.out
      have htv := HTV.out
      go_upto_region 8 with fail
      refine wp_region_lit ?_
      refine wpList_load_mid rfl 60 _ rfl g3 0 rfl (own19 tk (.slice aa' A.length ac') nx (.slice ua' M.length uc') qa qb qc).toList _ hrg Tryz.underlying60 rfl (by kernel_rfl) ?_
      refine wpList_store_mid rfl 60 _ _ rfl (w.heap.size + 1) 0 (own19 tk (.slice aa' A.length ac') nx (.slice ua' M.length uc') qa qb qc) rfl rfl htv (by kernel_rfl) (own19_one _ _ _ _ _ _ _ _ _ _ _) ?_
      rw [setCells_setC, hVC]
      clear hVC hrg htv
      go_wp2
      refine bodyPost_ret (v := .agg (own19 tk (.slice aa' A.length ac') nx (.slice ua' M.length uc') qa qb qc)) (results_cell1 Tryz.results21 _ (w.heap.size + 1) V _ rfl (run_loadVar_mid V (w.heap.size + 1) 0 60 (own19 tk (.slice aa' A.length ac') nx (.slice ua' M.length uc') qa qb qc).toList _ HVR.out Tryz.underlying60 rfl (by kernel_rfl))) rfl ⟨v0, v1, aa', ac', ua', uc', M, by rw [HQ.out], HMN.out, HFL.out⟩
end Go.Proofs.YtnhjicbgmocilaaGreat
