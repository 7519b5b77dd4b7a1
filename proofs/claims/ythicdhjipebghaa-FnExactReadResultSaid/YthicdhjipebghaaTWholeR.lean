/- ReadResult of the program: a cursor's panic is recovered. -/
import Derived.Test.YthicdhjipebghaaTCur
import Derived.Test.YthicdhjipebghaaTRes
import Derived.Recover
import Derived.Deep.Cut
namespace Go.Proofs.Ythicdhjipebghaa
open Go.RowKit
set_option linter.unusedVariables false
theorem ob_any {b : Nat} {w w' : World} (h : Below w.heap.size w w') : Only (fun k => k = b) w w' := Below.any h
theorem ob_set (b : Nat) (w : World) (v : Value) : Only (fun k => k = b) w (w.setCell ⟨b, 0, none⟩ v) := (Only.refl (fun k => k = b) w).setCell (p := ⟨b, 0, none⟩) rfl v
theorem toList_go (s : ByteArray) : s.toList = s.data.toList := by rw [ByteArray.toList_eq]
theorem empty_of {d : ByteArray} (h : d.size = 0) : d = ⟨#[]⟩ := by
  obtain ⟨a⟩ := d
  congr
  exact Array.eq_empty_of_size_eq_zero h
theorem bs_mt {d : ByteArray} (h : d.size = 0) : d.toList.isEmpty = true := by rw [empty_of h, toList_go]; rfl
def reZ : Re := ⟨0, ⟨#[]⟩⟩
/-- The result of which s is made. -/
noncomputable def outR (l : List UInt8) : Option Re := (numO l).bind fun x => if resP ⟨x.1, ⟨x.2.toArray⟩⟩ then some ⟨x.1, ⟨x.2.toArray⟩⟩ else none
@[reducible] def ansR (o : Option Re) : Value := .tuple #[reV (o.getD reZ), .bool o.isSome]
theorem ba_of (s : ByteArray) : (⟨s.data.toList.toArray⟩ : ByteArray) = s := by
  obtain ⟨⟨l⟩⟩ := s
  rfl
theorem whole_extract (q : ByteArray) : q.extract 0 q.size = q := by
  have h : (q.extract 0 q.size).data.toList = q.data.toList := by
    rw [extract0_toList]
    exact List.take_of_length_le (by simp)
  have h2 := congrArg (fun l => (⟨l.toArray⟩ : ByteArray)) h
  simp only [ba_of] at h2
  exact h2
theorem rest_extract (q : ByteArray) : (q.extract q.size q.size).size = 0 := by simp
/-- What a cursor's result hands back. -/
def ResC (b : Nat) (q : ByteArray) (w : World) (e : Ending) (w' : World) : Prop :=
  (∃ (x : Nat) (d q' : ByteArray), e = .returned (reV ⟨x, d⟩) ∧ Hid (numO q.data.toList = some (x, d.data.toList)) ∧ q'.size = 0 ∧ CurAt w' b q' ∧ Only (fun k => k = b) w w') ∨ (Lack e ∧ Hid (numO q.data.toList = none) ∧ Only (fun k => k = b) w w')
theorem CurAt.only {w w' : World} {b : Nat} {q : ByteArray} {S : Nat → Prop} (h : CurAt w b q) (ho : Only S w w') (hs : ¬ S b) : CurAt w' b q :=
  ⟨Nat.lt_of_lt_of_le h.lt ho.size, (ho.cell h.lt hs).trans h.cell, (ho.frozen h.lt hs).trans h.fro⟩
theorem num_size {q q' : ByteArray} {x : Nat} (h : Num q.data.toList x q'.data.toList) (hs : q.size ≤ 1048576) : q'.size ≤ 1048576 := by
  have hl : q'.size < q.size := by simpa using num_le h
  omega
set_option maxRecDepth 100000 in
set_option maxHeartbeats 2000000 in
theorem restC_any (b : Nat) (q : ByteArray) (w : World) (hc : CurAt w b q) (s1 : q.size ≤ 1048576) :
    Calls Try.prog 31 #[.pointer (some ⟨b, 0, none⟩)] w fun e w' => ∃ q' : ByteArray, e = .returned (.string q) ∧ q'.size = 0 ∧ CurAt w' b q' ∧ Only (fun k => k = b) w w' := by
  have hlt := hc.lt
  have k1 := hc.cell
  go_enter Try.func31, Try.ntmps31
  go_wp2_with fail
  clear k1
  refine (bytes_any b q q.size _ hc s1).mono ?_
  rintro e w2 (⟨w3, hx, rfl, b3, rfl⟩ | ⟨⟨pv, rfl⟩, hx, rfl⟩)
  rotate_left 1
  · exact absurd (Nat.le_refl _) hx
  rw [whole_extract]
  have c3 : CurAt (w3.setCell ⟨b, 0, none⟩ (.string (q.extract q.size q.size))) b (q.extract q.size q.size) := (hc.kept b3).set
  have b4 : Only (fun k => k = b) w (w3.setCell ⟨b, 0, none⟩ (.string (q.extract q.size q.size))) := (ob_any b3).trans (ob_set _ _ _)
  have hz := rest_extract q
  revert c3 b4 hz
  generalize q.extract q.size q.size = q'
  generalize World.setCell _ ⟨b, 0, none⟩ (.string q') = W3
  intro c3 b4 hz
  clear hc b3 hx
  go_wp2
  go_ret
  exact ⟨q', rfl, hz, c3, b4⟩
set_option maxRecDepth 100000 in
set_option maxHeartbeats 2000000 in
theorem resC_any (b : Nat) (q0 : ByteArray) (w : World) (hc : CurAt w b q0) (s0 : q0.size ≤ 1048576) :
    Calls Try.prog 16 #[.pointer (some ⟨b, 0, none⟩)] w (ResC b q0 w) := by
  have hlt := hc.lt
  go_enter Try.func16, Try.ntmps16
  go_wp2_with fail
  obtain ⟨W0, hW, bW, zW, cW, fW⟩ := boxed w #[.int .i64 0, .string ⟨#[]⟩] 23
  simp only [hW]
  have c0 : CurAt W0 b q0 := hc.kept bW
  have b0 : Only (fun k => k = b) w W0 := ob_any bW
  have X0 : Hid (Blk W0 w.heap.size #[.int .i64 0, .string ⟨#[]⟩]) := ⟨by omega, cW, fW⟩
  have hne : ¬ w.heap.size = b := by omega
  clear hW bW zW cW fW hc
  refine (number_any b q0 _ c0 s0).mono ?_
  rintro e w1 (⟨k, q1, rfl, hn, rfl⟩ | ⟨⟨pv, rfl⟩, hn, rfl⟩)
  rotate_left 1
  · have HP : Hid (numO q0.data.toList = none) := numO_no hn
    clear hn X0
    go_wp2
    exact ⟨rfl, .inr ⟨⟨_, rfl⟩, HP, b0⟩⟩
  have H0 : Hid (numO q0.data.toList = some (k, q1.data.toList)) := numO_yes hn
  have s1 : q1.size ≤ 1048576 := num_size hn s0
  have c1 : CurAt (_) b q1 := c0.set
  have b1 := b0.trans (ob_set b _ (.string q1))
  replace X0 := Hid.intro (X0.out.only (ob_set b _ (.string q1)) hne)
  revert c1 b1 X0
  generalize World.setCell _ ⟨b, 0, none⟩ (.string q1) = W1
  intro c1 b1 X0
  clear hn c0 b0
  go_wp2_with fail
  refine (restC_any b q1 _ c1 s1).mono ?_
  rintro e W3 ⟨q', rfl, hz, c3, o3⟩
  have b4 := b1.trans o3
  replace X0 := Hid.intro (X0.out.only o3 hne)
  clear c1 b1 o3
  have k0 : W3.cell? ⟨w.heap.size, 0, none⟩ = some (.int .i64 0) := X0.out.cell 0
  have f0 : W3.frozen? ⟨w.heap.size, 0, none⟩ = false := X0.out.fro 0
  have k1 : W3.cell? ⟨w.heap.size, 1, none⟩ = some (.string ⟨#[]⟩) := X0.out.cell 1
  have f1 : W3.frozen? ⟨w.heap.size, 1, none⟩ = false := X0.out.fro 1
  have on1 : Only (fun x => x = w.heap.size) W3 ((W3.setCell ⟨w.heap.size, 0, none⟩ (.int .i64 k)).setCell ⟨w.heap.size, 1, none⟩ (.string q1)) := ((Only.refl (fun x => x = w.heap.size) W3).setCell (p := ⟨w.heap.size, 0, none⟩) rfl _).setCell (p := ⟨w.heap.size, 1, none⟩) rfl _
  have c5 := c3.only on1 (fun h => hne h.symm)
  have b5 : Only (fun k => k = b) w ((W3.setCell ⟨w.heap.size, 0, none⟩ (.int .i64 k)).setCell ⟨w.heap.size, 1, none⟩ (.string q1)) := b4.then on1 (fun k hk h => by omega)
  clear c3 b4 on1 X0
  go_wp2
  exact bodyPost_ret (v := reV ⟨k, q1⟩) (by simp [results, Try.results16, go_sem, k0, k1]) rfl (.inl ⟨k, q1, q', rfl, H0, hz, c5, b5⟩)
set_option maxRecDepth 100000 in
set_option maxHeartbeats 1000000 in
theorem catchR_idle (g : Nat) (w : World) :
    CallsD Try.prog 29 #[.pointer (some ⟨g, 0, none⟩), .pointer (some ⟨g + 1, 0, none⟩)] .returning w fun e u' w' => e = .returned (.tuple #[]) ∧ u' = .returning ∧ w' = w := by
  refine callsD_of_wpS Try.func29 rfl fun c₀ cs hu => ?_
  apply wpS_seq
  apply wpS_region
  simp [wpOpsS, go_sem, recoverD, hu, Try.ntmps29, Exit.thenS]
  refine wpS_cond (t := false) (by simp [Act.eval, Array.replicate]) ?_
  simp only [Bool.false_eq_true, if_false]
  refine wpS_of_wp (wp_skip ?_)
  cases c₀
  simp_all [bodyPostS, results, Try.results29]
theorem reset1 {w0 w' : World} (h : ∀ q, w'.cell? q = w0.cell? q) {p : Addr} {v : Value} (hp : w0.cell? p = some v) : ∀ q, (w'.setCell p v).cell? q = w0.cell? q := by
  intro q
  by_cases e : p = q
  · subst e
    rw [World.cell?_setCell_same _ _ _ ((h p).trans hp), hp]
  · rw [World.cell?_setCell_other _ _ _ _ e, h q]
/-- What the caught panic leaves: the zero result, and false. -/
def Caught (g : Nat) (w w' : World) : Prop := Only (fun k => k = g ∨ k = g + 1) w w' ∧ (∀ o, w'.cell? ⟨g, o, none⟩ = (#[.int .i64 0, .string ⟨#[]⟩] : Array Value)[o]?) ∧ w'.cell? ⟨g + 1, 0, none⟩ = some (.bool false)
theorem caught_mk {g : Nat} {w w0 : World} (h0 : Only (fun k => k = g ∨ k = g + 1) w w0) {a0 a1 b0 : Value} (k0 : w0.cell? ⟨g, 0, none⟩ = some a0) (k1 : w0.cell? ⟨g, 1, none⟩ = some a1) (l0 : w0.cell? ⟨g + 1, 0, none⟩ = some b0)
    (W : World) (hW : W = (((w0.setCell ⟨g, 0, none⟩ (a0)).setCell ⟨g, 1, none⟩ (a1))).setCell ⟨g + 1, 0, none⟩ b0) :
    Only (fun k => k = g ∨ k = g + 1) w W ∧ ∀ q, W.cell? q = w0.cell? q := by
  subst hW
  refine ⟨?_, ?_⟩
  · exact ((h0.setCell (p := ⟨g, 0, none⟩) (.inl rfl) a0).setCell (p := ⟨g, 1, none⟩) (.inl rfl) a1).setCell (p := ⟨g + 1, 0, none⟩) (.inr rfl) b0
  · exact reset1 (reset1 (reset1 (fun _ => rfl) k0) k1) l0
abbrev zR : Array Value := #[.int .i64 0, .string ⟨#[]⟩]
set_option maxRecDepth 100000 in
set_option maxHeartbeats 1000000 in
theorem catchR_panicking (g : Nat) (pv : Value) (u : TypeId) (w : World) (X : Blk w g zR) (Y : Blk w (g + 1) #[.bool false]) :
    CallsD Try.prog 29 #[.pointer (some ⟨g, 0, none⟩), .pointer (some ⟨g + 1, 0, none⟩)] (.panicking ({ v := .iface u pv, recovered := false } :: [])) w fun e u' w' => e = .returned (.tuple #[]) ∧ u' = .panicking ({ v := .iface u pv, recovered := true } :: []) ∧ Caught g w w' := by
  refine callsD_of_wpS Try.func29 rfl fun c₀ cs hu => ?_
  apply wpS_seq
  apply wpS_region
  simp [wpOpsS, go_sem, recoverD, hu, Try.ntmps29, Exit.thenS]
  refine wpS_cond (t := true) (by simp [Act.eval, Array.replicate]) ?_
  simp only [if_true]
  refine wpS_of_wp ?_
  have hg := Y.hi
  have hne : ¬ g + 1 = g := by omega
  have hne2 : ¬ g = g + 1 := by omega
  have k0 : (w.alloc (.cells #[.int .i64 0, .string ⟨#[]⟩] 23)).cell? ⟨g, 0, none⟩ = some (.int .i64 0) := (World.cell?_alloc_past _ _ _ (by omega)).trans (X.cell 0)
  have f0 : (w.alloc (.cells #[.int .i64 0, .string ⟨#[]⟩] 23)).frozen? ⟨g, 0, none⟩ = false := (World.frozen?_alloc_past _ _ _ (by omega)).trans (X.fro 0)
  have k1 : (w.alloc (.cells #[.int .i64 0, .string ⟨#[]⟩] 23)).cell? ⟨g, 1, none⟩ = some (.string ⟨#[]⟩) := (World.cell?_alloc_past _ _ _ (by omega)).trans (X.cell 1)
  have f1 : (w.alloc (.cells #[.int .i64 0, .string ⟨#[]⟩] 23)).frozen? ⟨g, 1, none⟩ = false := (World.frozen?_alloc_past _ _ _ (by omega)).trans (X.fro 1)
  have l0 : (w.alloc (.cells #[.int .i64 0, .string ⟨#[]⟩] 23)).cell? ⟨g + 1, 0, none⟩ = some (.bool false) := (World.cell?_alloc_past _ _ _ hg).trans (Y.cell 0)
  have m0 : (w.alloc (.cells #[.int .i64 0, .string ⟨#[]⟩] 23)).frozen? ⟨g + 1, 0, none⟩ = false := (World.frozen?_alloc_past _ _ _ hg).trans (Y.fro 0)
  go_wp2
  obtain ⟨o1, o2⟩ := caught_mk (w := w) (Only.alloc (Only.refl _ _) _) k0 k1 l0 _ rfl
  have HK := Hid.intro (show Caught g w _ from ⟨o1, fun o => (o2 _).trans ((World.cell?_alloc_past _ _ _ (by omega)).trans (X.cell o)), (o2 _).trans l0⟩)
  clear o1 o2
  exact ⟨rfl, _, rfl, .tuple #[], by simp [results, Try.results29, go_sem], rfl, rfl, HK.out⟩
set_option maxRecDepth 100000 in
set_option maxHeartbeats 4000000 in
theorem wholeR_any (s : ByteArray) (w : World) (hs : s.size ≤ 1048576) :
    Calls Try.prog 15 #[.string s, .func (Fn.func 16) #[] #[], .func (Fn.func 17) #[] #[]] w fun e w' => e = .returned (ansR (outR s.data.toList)) ∧ Below w.heap.size w w' := by
  have hmf : ∀ (fn : Fn) (first cap : Array Value) (w : World), (Instr.makeFunc fn first cap).run Try.prog w = .ok (.func fn first cap) w := fun _ _ _ _ => rfl
  go_enter_defers Try.func15, Try.ntmps15
  go_wp2_with fail
  obtain ⟨W, hW, bW, zW, c0, f0, c1, f1, c2, f2⟩ := boxed3 w #[.int .i64 0, .string ⟨#[]⟩] #[.bool false] #[.string s] 23 4 61
  simp only [hW]
  have hC : CurAt W (w.heap.size + 1 + 1) s := ⟨by omega, c2 0, f2 0⟩
  have X : Blk W w.heap.size zR := ⟨by omega, c0, f0⟩
  have Y : Blk W (w.heap.size + 1) #[.bool false] := ⟨by omega, c1, f1⟩
  clear hW c0 f0 c1 f1 c2 f2
  refine (resC_any (w.heap.size + 1 + 1) s W hC hs).mono ?_
  rintro e w1 (⟨xn, xd, q', rfl, HO, hz, hc, hon⟩ | ⟨⟨pv, rfl⟩, HN, hon⟩)
  · obtain ⟨x, hxx⟩ : ∃ x : Re, x = ⟨(xn : Int), xd⟩ := ⟨_, rfl⟩
    have HX := Hid.intro hxx
    have e1 : (xn : Int) = x.c := by rw [hxx]
    have e2 : xd = x.d := by rw [hxx]
    have HO2 : Hid (outR s.data.toList = if resP x then some x else none) := by
      unfold Hid outR
      rw [HO.out]
      simp only [Option.bind_some, ba_of, ← hxx]
    clear HO
    simp only [e1, e2]
    clear e1 e2 hxx
    have X1 := X.only hon (by omega)
    have Y1 := Y.only hon (by omega)
    have B1 : Below w.heap.size w w1 := bW.trans (hon.below (by omega) (fun k hk h => by omega))
    go_upto_region 4 with fail
    obtain ⟨W2, hW2, bW2, zW2, cW2, fW2⟩ := boxed w1 #[.int .i64 x.c, .string x.d] 23
    simp only [hW2]
    have hq := (hc.kept bW2).cell
    have X2 := X1.kept bW2
    have Y2 := Y1.kept bW2
    have B2 := B1.trans (bW2.mono B1.size)
    have hlt1 := hc.lt
    clear X Y hon bW hC hc X1 Y1 B1 hW2 bW2
    have y1 := bs_mt hz
    go_wp2_with fail
    refine (implResultOk_any x _).mono ?_
    rintro e w3 ⟨rfl, b3⟩
    have X3 := X2.kept b3
    have Y3 := Y2.kept b3
    have B3 := B2.trans (b3.mono B2.size)
    have cW3 := keepC b3 (by omega) cW2
    have z3 := b3.size
    clear X2 Y2 B2 b3 cW2 fW2 hq
    cases hcb : resB x with
    | false =>
      have hne : ¬ w.heap.size + 1 = w.heap.size := by omega
      have hne2 : ¬ w.heap.size = w.heap.size + 1 := by omega
      have k0 : (w3.alloc (.cells #[.int .i64 0, .string ⟨#[]⟩] 23)).cell? ⟨w.heap.size, 0, none⟩ = some (.int .i64 0) := (World.cell?_alloc_past _ _ _ (by have := X3.hi; omega)).trans (X3.cell 0)
      have f0 : (w3.alloc (.cells #[.int .i64 0, .string ⟨#[]⟩] 23)).frozen? ⟨w.heap.size, 0, none⟩ = false := (World.frozen?_alloc_past _ _ _ (by have := X3.hi; omega)).trans (X3.fro 0)
      have k1 : (w3.alloc (.cells #[.int .i64 0, .string ⟨#[]⟩] 23)).cell? ⟨w.heap.size, 1, none⟩ = some (.string ⟨#[]⟩) := (World.cell?_alloc_past _ _ _ (by have := X3.hi; omega)).trans (X3.cell 1)
      have f1 : (w3.alloc (.cells #[.int .i64 0, .string ⟨#[]⟩] 23)).frozen? ⟨w.heap.size, 1, none⟩ = false := (World.frozen?_alloc_past _ _ _ (by have := X3.hi; omega)).trans (X3.fro 1)
      have l0 : (w3.alloc (.cells #[.int .i64 0, .string ⟨#[]⟩] 23)).cell? ⟨w.heap.size + 1, 0, none⟩ = some (.bool false) := (World.cell?_alloc_past _ _ _ Y3.hi).trans (Y3.cell 0)
      have m0 : (w3.alloc (.cells #[.int .i64 0, .string ⟨#[]⟩] 23)).frozen? ⟨w.heap.size + 1, 0, none⟩ = false := (World.frozen?_alloc_past _ _ _ Y3.hi).trans (Y3.fro 0)
      go_wp2
      obtain ⟨o1, o2⟩ := caught_mk (w := w3) (Only.alloc (Only.refl _ _) _) k0 k1 l0 _ rfl
      have r0 := (o2 _).trans k0
      have r1 := (o2 _).trans k1
      have rl := (o2 _).trans l0
      have B9 := B3.trans (o1.below B3.size (fun k hk h => by omega))
      clear o1 o2 k0 k1 l0 f0 f1 m0
      generalize ((((w3.alloc (.cells #[.int .i64 0, .string ⟨#[]⟩] 23)).setCell ⟨w.heap.size, 0, none⟩ (.int .i64 0)).setCell ⟨w.heap.size, 1, none⟩ (.string ⟨#[]⟩))).setCell ⟨w.heap.size + 1, 0, none⟩ (.bool false) = V at r0 r1 rl B9 ⊢
      have ho : outR s.data.toList = none := by
        rw [HO2.out, if_neg (fun h => by rw [resB_yes h] at hcb; cases hcb)]
      rw [ho]
      refine leaves_cons (f := 29) (args := #[.pointer (some ⟨w.heap.size, 0, none⟩), .pointer (some ⟨w.heap.size + 1, 0, none⟩)]) (by simp) (by simp [go_sem]) ?_
      refine (catchR_idle w.heap.size V).mono ?_
      rintro e u' w'' ⟨rfl, rfl, rfl⟩
      simp [Leaves, settle, results, Try.results15, go_sem, r0, r1, rl, reZ, B9]
    | true =>
      have hrp : resP x := by
        by_cases h : resP x
        · exact h
        · rw [resB_no h] at hcb; cases hcb
      have ho : outR s.data.toList = some x := by rw [HO2.out, if_pos hrp]
      clear HO2 hcb HX
      have hne : ¬ w.heap.size + 1 = w.heap.size := by omega
      have hne2 : ¬ w.heap.size = w.heap.size + 1 := by omega
      have hne3 : ¬ w.heap.size = w1.heap.size := by omega
      have hne4 : ¬ w.heap.size + 1 = w1.heap.size := by omega
      have e0 : w3.cell? ⟨w1.heap.size, 0, none⟩ = some (.int .i64 x.c) := cW3 0
      have e1 : w3.cell? ⟨w1.heap.size, 1, none⟩ = some (.string x.d) := cW3 1
      have k0 : w3.cell? ⟨w.heap.size, 0, none⟩ = some (.int .i64 0) := X3.cell 0
      have f0 : w3.frozen? ⟨w.heap.size, 0, none⟩ = false := X3.fro 0
      have k1 : w3.cell? ⟨w.heap.size, 1, none⟩ = some (.string ⟨#[]⟩) := X3.cell 1
      have f1 : w3.frozen? ⟨w.heap.size, 1, none⟩ = false := X3.fro 1
      have l0 : w3.cell? ⟨w.heap.size + 1, 0, none⟩ = some (.bool false) := Y3.cell 0
      have m0 : w3.frozen? ⟨w.heap.size + 1, 0, none⟩ = false := Y3.fro 0
      have o1 := (((Only.refl (fun x => x = w.heap.size) w3).setCell (p := ⟨w.heap.size, 0, none⟩) rfl (.int .i64 x.c)).setCell (p := ⟨w.heap.size, 1, none⟩) rfl (.string x.d))
      have B9 : Below w.heap.size w ((((w3.setCell ⟨w.heap.size, 0, none⟩ (.int .i64 x.c)).setCell ⟨w.heap.size, 1, none⟩ (.string x.d))).setCell ⟨w.heap.size + 1, 0, none⟩ (.bool true)) := (B3.trans (o1.below B3.size (fun k hk h => by omega))).setCell (p := ⟨w.heap.size + 1, 0, none⟩) (by simp) _
      clear o1 cW3 X3 Y3
      go_wp2
      rw [ho]
      refine leaves_cons (f := 29) (args := #[.pointer (some ⟨w.heap.size, 0, none⟩), .pointer (some ⟨w.heap.size + 1, 0, none⟩)]) (by simp) (by simp [go_sem]) ?_
      refine (catchR_idle w.heap.size _).mono ?_
      rintro e u' w'' ⟨rfl, rfl, rfl⟩
      simp [Leaves, settle, results, Try.results15, go_sem, k0, k1, l0, B9]
  · have X1 := X.only hon (by omega)
    have Y1 := Y.only hon (by omega)
    have B1 : Below w.heap.size w w1 := bW.trans (hon.below (by omega) (fun k hk h => by omega))
    clear X Y hon bW hC
    go_wp2
    refine leaves_cons (f := 29) (args := #[.pointer (some ⟨w.heap.size, 0, none⟩), .pointer (some ⟨w.heap.size + 1, 0, none⟩)]) (by simp) (by simp [go_sem]) ?_
    refine (catchR_panicking w.heap.size pv 9 w1 X1 Y1).mono ?_
    rintro e u' w'' ⟨rfl, rfl, h1, h2, h3⟩
    have B2 := B1.trans (h1.below B1.size (fun k hk h => by omega))
    have k0 := h2 0
    have k1 := h2 1
    have ho : outR s.data.toList = none := by unfold outR; rw [HN.out]; rfl
    rw [ho]
    simp [Leaves, settle, results, Try.results15, go_sem, k0, k1, h3, reZ, B2]
set_option maxRecDepth 100000 in
set_option maxHeartbeats 1000000 in
theorem implReadResult_any (s : ByteArray) (w : World) (hs : s.size ≤ 1048576) :
    Calls Try.prog 6 #[.string s] w fun e w' => e = .returned (ansR (outR s.data.toList)) ∧ Below w.heap.size w w' := by
  go_enter Try.func6, Try.ntmps6
  go_wp2_with fail
  obtain ⟨W, hW, bW, zW, cW, fW⟩ := boxed w #[.int .i64 0, .string ⟨#[]⟩] 23
  simp only [hW]
  refine (wholeR_any s _ hs).mono ?_
  rintro e w1 ⟨rfl, b1⟩
  have X : Blk w1 w.heap.size zR := ⟨by have := b1.size; omega, keepC b1 (by omega) cW, keepF b1 (by omega) fW⟩
  have B1 := bW.trans (b1.mono (by omega))
  clear hW bW cW fW b1
  generalize ho : outR s.data.toList = o
  generalize hv : o.getD reZ = x
  generalize hb : o.isSome = y
  have k0 : w1.cell? ⟨w.heap.size, 0, none⟩ = some (.int .i64 0) := X.cell 0
  have f0 : w1.frozen? ⟨w.heap.size, 0, none⟩ = false := X.fro 0
  have k1 : w1.cell? ⟨w.heap.size, 1, none⟩ = some (.string ⟨#[]⟩) := X.cell 1
  have f1 : w1.frozen? ⟨w.heap.size, 1, none⟩ = false := X.fro 1
  go_wp2
  have o1 := (((Only.refl (fun x => x = w.heap.size) w1).setCell (p := ⟨w.heap.size, 0, none⟩) rfl (.int .i64 x.c)).setCell (p := ⟨w.heap.size, 1, none⟩) rfl (.string x.d))
  exact bodyPost_ret (v := .tuple #[reV x, .bool y]) (by simp [results, Try.results6, go_sem, k0, k1]) rfl ⟨by subst hv hb ho; rfl, B1.trans (o1.below B1.size (fun k hk h => by omega))⟩
end Go.Proofs.Ythicdhjipebghaa
