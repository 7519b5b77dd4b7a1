/- A cursor's message. -/
import Derived.Test.YtdnngbdkmdphoaaECurL
import Derived.Test.YtdnngbdkmdphoaaTCurV
import Derived.Test.YtdnngbdkmdphoaaEEnt
import Derived.Deep.AppendLies
namespace Go.Proofs.Ytdnngbdkmdphoaa
open Go.RowKit
set_option linter.unusedVariables false
/-- So many entries from the front on, and what is left. -/
noncomputable def ensO : Nat → List UInt8 → Option (List En × List UInt8)
  | 0, l => some ([], l)
  | n + 1, l => (numO l).bind fun a => (pieO a.2).bind fun c => (ensO n c.2).bind fun d => some (⟨(a.1 : Int), ⟨c.1.toArray⟩⟩ :: d.1, d.2)
theorem ensO_no1 {n : Nat} {l : List UInt8} (hn : 0 < n) (h : numO l = none) : ensO n l = none := by
  obtain ⟨m, rfl⟩ : ∃ m, n = m + 1 := ⟨n - 1, by omega⟩
  simp only [ensO, h, Option.bind_none]
theorem ensO_no2 {n x : Nat} {l r : List UInt8} (hn : 0 < n) (h : numO l = some (x, r)) (k : pieO r = none) : ensO n l = none := by
  obtain ⟨m, rfl⟩ : ∃ m, n = m + 1 := ⟨n - 1, by omega⟩
  simp only [ensO, h, k, Option.bind_some, Option.bind_none]
theorem ensO_yes {n x : Nat} {l p r q : List UInt8} (hn : 0 < n) (h : numO l = some (x, r)) (k : pieO r = some (p, q)) : ensO n l = (ensO (n - 1) q).map fun y => (⟨(x : Int), ⟨p.toArray⟩⟩ :: y.1, y.2) := by
  obtain ⟨m, rfl⟩ : ∃ m, n = m + 1 := ⟨n - 1, by omega⟩
  simp only [ensO, h, k, Option.bind_some, Nat.add_sub_cancel]
  cases ensO m q <;> rfl
/-- What is left behind a letter. -/
def letO (c : UInt8) : List UInt8 → Option (List UInt8)
  | [] => none
  | x :: r => if x = c then some r else none
theorem letO_yes (c : UInt8) (r : List UInt8) : letO c (c :: r) = some r := if_pos rfl
theorem letO_no {c : UInt8} {l : List UInt8} (h : ∀ r, l ≠ c :: r) : letO c l = none := by
  cases l with
  | nil => rfl
  | cons x r =>
    refine if_neg ?_
    rintro rfl
    exact h r rfl
/-- A message, whole. -/
noncomputable def msO (l : List UInt8) : Option Ms :=
  (letO 109 l).bind fun z => (numO z).bind fun a => (numO a.2).bind fun b => (numO b.2).bind fun c => (numO c.2).bind fun d => (numO d.2).bind fun e => (numO e.2).bind fun f => (numO f.2).bind fun g => (cntO 1 g.2).bind fun h => (cntO 4 h.2).bind fun n => (ensO n.1 n.2).bind fun s =>
    some ⟨(a.1 : Int), (b.1 : Int), (c.1 : Int), (d.1 : Int), (e.1 : Int), (f.1 : Int), (g.1 : Int), decide (h.1 = 1), s.1, ⟨s.2.toArray⟩⟩
/-- What a cursor's message hands back. -/
def MsgC (b : Nat) (q : ByteArray) (w : World) (e : Ending) (w' : World) : Prop :=
  (∃ (a : Ms) (v : Value) (q' : ByteArray), e = .returned (msV a v) ∧ Hid (msO q.data.toList = some a) ∧ CurAt w' b q' ∧ q'.size = 0 ∧ a.es.length ≤ 4 ∧ Hid (Own enE 49 w' w.heap.size v a.es) ∧ Only (fun k => k = b) w w') ∨ (Lack e ∧ Hid (msO q.data.toList = none) ∧ Only (fun k => k = b) w w')
abbrev zM : Array Value := #[.int .i64 0, .int .i64 0, .int .i64 0, .int .i64 0, .int .i64 0, .int .i64 0, .int .i64 0, .bool false, .slice none 0 0, .string ⟨#[]⟩]
/-- What stands while entries are read. -/
structure InM (w : World) (b g2 g3 : Nat) (n : Ms) (wr : World) (q : ByteArray) (v : Value) (L : List En) : Prop where
  cur : CurAt wr b q
  box : Blk wr g3 (msA n v)
  res : Blk wr g2 zM
  own : Own enE 49 wr (g3 + 1) v L
  only : Only (fun k => k = b) w wr
  lt : b < g2 ∧ g2 < g3 ∧ w.heap.size ≤ g2
theorem InM.step {w : World} {b g2 g3 : Nat} {n : Ms} {wr w2 : World} {q q2 : ByteArray} {v : Value} {L : List En} (h : InM w b g2 g3 n wr q v L) (ho : Only (fun k => k = b) wr w2) (hc : CurAt w2 b q2) : InM w b g2 g3 n w2 q2 v L :=
  ⟨hc, h.box.only ho (by have := h.lt; omega), h.res.only ho (by have := h.lt; omega), h.own.only ho (fun k hk e => by have := (h.own.lt k hk).1; have := h.lt; omega), h.only.trans ho, h.lt⟩
theorem InM.kept {w : World} {b g2 g3 : Nat} {n : Ms} {wr w2 : World} {q : ByteArray} {v : Value} {L : List En} (h : InM w b g2 g3 n wr q v L) (hb : Below wr.heap.size wr w2) : InM w b g2 g3 n w2 q v L :=
  h.step (ob_any hb) (h.cur.kept hb)
theorem set_onlyM (g o : Nat) (w : World) (v : Value) : Only (fun k => k = g) w (w.setCell ⟨g, o, none⟩ v) := (Only.refl (fun k => k = g) w).setCell (p := ⟨g, o, none⟩) rfl v
theorem msA_set (n : Ms) (v v2 : Value) (o : Nat) (h : o ≠ 8) : (msA n v)[o]? = (msA n v2)[o]? := by
  match o, h with
  | 0, _ => rfl
  | 1, _ => rfl
  | 2, _ => rfl
  | 3, _ => rfl
  | 4, _ => rfl
  | 5, _ => rfl
  | 6, _ => rfl
  | 7, _ => rfl
  | 9, _ => rfl
  | o + 10, _ => simp
theorem InM.put {w : World} {b g2 g3 : Nat} {n : Ms} {wr w4 : World} {q : ByteArray} {v : Value} {L L' : List En} {g m cap : Nat} (h : InM w b g2 g3 n wr q v L) (ho : Only (fun k => some k = v.ownBlock) wr w4) (hown : Own enE 49 w4 (g3 + 1) (.slice (some ⟨g, 0, none⟩) m cap) L') :
    InM w b g2 g3 n (w4.setCell ⟨g3, 8, none⟩ (.slice (some ⟨g, 0, none⟩) m cap)) q (.slice (some ⟨g, 0, none⟩) m cap) L' := by
  have hlt := h.lt
  have nb : ∀ k, some k = v.ownBlock → g3 + 1 ≤ k := fun k hk => (h.own.lt k hk.symm).1
  have hb : ¬ some b = v.ownBlock := fun e => by have := nb b e; omega
  have h3 : ¬ some g3 = v.ownBlock := fun e => by have := nb g3 e; omega
  have h2 : ¬ some g2 = v.ownBlock := fun e => by have := nb g2 e; omega
  have bx := h.box.only ho h3
  refine ⟨(h.cur.only ho hb).only (set_onlyM g3 8 w4 _) (by omega), ⟨by simpa using bx.hi, fun o => ?_, fun o => ?_⟩, (h.res.only ho h2).only (set_onlyM g3 8 w4 _) (by omega), hown.only (set_onlyM g3 8 w4 _) (fun k hk e => ?_), ?_, hlt⟩
  · by_cases e : o = 8
    · subst e
      exact World.cell?_setCell_same _ _ _ (bx.cell 8)
    · rw [World.cell?_setCell_other _ _ _ _ (by intro e2; simp at e2 <;> omega), bx.cell o]
      exact msA_set n _ _ o e
  · rw [World.frozen?_setCell]; exact bx.fro o
  · have := (hown.lt k hk).1; omega
  · exact (h.only.then ho (fun k hk e => by have := nb k e; omega)).then (set_onlyM g3 8 w4 _) (fun k hk e => by omega)
theorem Try.infoEnC : (Try.prog.info? 49).map (fun i => (i.zero, i.size, i.bytes)) = some (some (.agg #[.int .i64 0, .string ⟨#[]⟩]), 2, 24) := by kernel_rfl
/-- append of entries onto a row of the call's own, inside a region that draws its order. -/
theorem step_En {w : World} {ops : Array Oper} {o : Oper} {a : Act} {KK : Act → World → Prop} {Q : Exit → Act → World → Prop} {E : Prop} (hgd : o.guard = none) (s x : Operand)
    (ho : o.op = .call { callee := .builtin .append, args := #[s, x], argTypes := #[27, 27] })
    (base : Nat) (v : Value) (L : List En) (d : En) (hs : a.eval s = v) (hown : Own enE 49 w base v L) (ad : Addr) (c : Nat) (hx : a.eval x = .slice (some ad) 1 c)
    (hnews : ∀ j u, (enE.f [d])[j]? = some u → w.cell? (ad.add j) = some u) (hlen : L.length ≤ 2000000) (hbase : base ≤ w.heap.size)
    (h : ∀ g cap' w', Own enE 49 w' base (.slice (some ⟨g, 0, none⟩) (L ++ [d]).length cap') (L ++ [d]) → Only (fun k => some k = v.ownBlock) w w' → (v.ownBlock = some g ∨ g = w.heap.size) → g < w'.heap.size →
      KK (a.put o.dst (.slice (some ⟨g, 0, none⟩) (L.length + 1) cap')) w') : if Region.wanted o (yielded ops a.tmps) = true then Oper.wp Try.prog o a w KK Q else E := by
  obtain ⟨i0, hi, hz0, hz1, hz2⟩ := info_parts Try.infoEnC
  refine step_append_lies w hgd s x 27 ho base 49 i0 (.agg #[.int .i64 0, .string ⟨#[]⟩]) 2 24 Try.underlying27 hi hz0 hz1 hz2 rfl (by decide) v L.length (enE.f L) hs hown ad 1 c (enE.f [d]) hx (enE.f_len [d]) hnews (enE.f_one [d]) (by omega) (by unfold maxLen; omega) (by omega) hbase w.heap.size rfl ?_
  intro g cap' w' hown' hgrow hloc hg
  refine h g cap' w' ?_ (grown_only hgrow) hloc hg
  have e : (L ++ [d]).length = L.length + 1 := by simp
  unfold Own
  rw [e, enE.f_append]
  exact hown'
set_option maxRecDepth 100000 in
set_option maxHeartbeats 1000000 in
theorem yesC_any (b : Nat) (q : ByteArray) (w : World) (hc : CurAt w b q) (hs : q.size ≤ 1048576) :
    Calls Try.prog 57 #[.pointer (some ⟨b, 0, none⟩)] w fun e w' =>
      (∃ (n : Nat) (q' : ByteArray), e = .returned (.bool (decide (n = 1))) ∧ Hid (cntO 1 q.data.toList = some (n, q'.data.toList)) ∧ n ≤ 1 ∧ CurAt w' b q' ∧ q'.size ≤ 1048576 ∧ Only (fun k => k = b) w w') ∨ (Lack e ∧ Hid (cntO 1 q.data.toList = none) ∧ Only (fun k => k = b) w w') := by
  have hlt := hc.lt
  go_enter Try.func57, Try.ntmps57
  go_wp2_with fail
  refine (countC_any b 1 q w hc hs).mono ?_
  rintro e w1 (⟨n, q1, rfl, hn, h1, c1, s1, o1⟩ | ⟨⟨pv, rfl⟩, hn, o1⟩)
  · by_cases h : n = 1
    · subst h
      go_wp2
      go_ret
      exact .inl ⟨1, q1, rfl, hn, h1, c1, s1, o1⟩
    · obtain rfl : n = 0 := by omega
      go_wp2
      go_ret
      exact .inl ⟨0, q1, rfl, hn, h1, c1, s1, o1⟩
  · go_wp2
    exact ⟨rfl, .inr ⟨⟨_, rfl⟩, hn, o1⟩⟩
set_option maxRecDepth 100000 in
set_option maxHeartbeats 8000000 in
theorem msgC_any (b : Nat) (q00 : ByteArray) (w : World) (hc : CurAt w b q00) (s00 : q00.size ≤ 1048576) :
    Calls Try.prog 42 #[.pointer (some ⟨b, 0, none⟩)] w (MsgC b q00 w) := by
  have hlt := hc.lt
  go_enter Try.func42, Try.ntmps42
  go_wp2_with fail
  obtain ⟨W00, hW, bW, zW, cW, fW⟩ := boxed w zM 29
  simp only [hW]
  have c00 : CurAt W00 b q00 := hc.kept bW
  have b00 : Only (fun k => k = b) w W00 := ob_any bW
  have X0 : Hid (Blk W00 w.heap.size zM) := ⟨by omega, cW, fW⟩
  have hne : ¬ w.heap.size = b := by omega
  clear hW bW zW cW fW hc
  refine (letterC_any b q00 109 _ c00 s00).mono ?_
  rintro e W0 (⟨q0, rfl, hl, c0, s0, o0⟩ | ⟨⟨pv, rfl⟩, hl, o0⟩)
  rotate_left 1
  · have HP : Hid (msO q00.data.toList = none) := by
      unfold Hid
      simp only [msO, letO_no hl.out, Option.bind_none]
    have b0 := b00.trans o0
    clear hl X0
    go_wp2
    exact ⟨rfl, .inr ⟨⟨_, rfl⟩, HP, b0⟩⟩
  have HL : Hid (letO 109 q00.data.toList = some q0.data.toList) := by
    unfold Hid
    rw [hl.out, letO_yes]
  have b0 := b00.trans o0
  replace X0 := Hid.intro (X0.out.only o0 hne)
  clear hl o0 b00 c00 s00
  go_wp2_with fail
  refine (number_any b q0 _ c0 s0).mono ?_
  rintro e w1 (⟨k, q1, rfl, hn, rfl⟩ | ⟨⟨pv, rfl⟩, hn, rfl⟩)
  rotate_left 1
  · have HP : Hid (msO q00.data.toList = none) := by
      have e0 := numO_no hn
      unfold Hid
      simp only [msO, HL.out, e0, Option.bind_some, Option.bind_none]
    clear hn X0
    go_wp2
    exact ⟨rfl, .inr ⟨⟨_, rfl⟩, HP, b0⟩⟩
  have H0 : Hid (numO q0.data.toList = some (k, q1.data.toList)) := numO_yes hn
  have s1 : q1.size ≤ 1048576 := num_size hn s0
  have c1 : CurAt (_) b q1 := c0.set
  have b1 := b0.trans (ob_set b _ (.string q1))
  replace X0 := Hid.intro (X0.out.only (ob_set b _ (.string q1)) hne)
  revert c1 b1 X0
  generalize World.setCell _ ⟨b, 0, none⟩ (.string q1) = W1
  intro c1 b1 X0
  clear hn c0 b0 s0
  go_wp2_with fail
  refine (number_any b q1 _ c1 s1).mono ?_
  rintro e w1 (⟨f, q2, rfl, hn, rfl⟩ | ⟨⟨pv, rfl⟩, hn, rfl⟩)
  rotate_left 1
  · have HP : Hid (msO q00.data.toList = none) := by
      have e1 := numO_no hn
      unfold Hid
      simp only [msO, HL.out, H0.out, e1, Option.bind_some, Option.bind_none]
    clear hn X0
    go_wp2
    exact ⟨rfl, .inr ⟨⟨_, rfl⟩, HP, b1⟩⟩
  have H1 : Hid (numO q1.data.toList = some (f, q2.data.toList)) := numO_yes hn
  have s2 : q2.size ≤ 1048576 := num_size hn s1
  have c2 : CurAt (_) b q2 := c1.set
  have b2 := b1.trans (ob_set b _ (.string q2))
  replace X0 := Hid.intro (X0.out.only (ob_set b _ (.string q2)) hne)
  revert c2 b2 X0
  generalize World.setCell _ ⟨b, 0, none⟩ (.string q2) = W2
  intro c2 b2 X0
  clear hn c1 b1 s1
  go_wp2_with fail
  refine (number_any b q2 _ c2 s2).mono ?_
  rintro e w1 (⟨g, q3, rfl, hn, rfl⟩ | ⟨⟨pv, rfl⟩, hn, rfl⟩)
  rotate_left 1
  · have HP : Hid (msO q00.data.toList = none) := by
      have e2 := numO_no hn
      unfold Hid
      simp only [msO, HL.out, H0.out, H1.out, e2, Option.bind_some, Option.bind_none]
    clear hn X0
    go_wp2
    exact ⟨rfl, .inr ⟨⟨_, rfl⟩, HP, b2⟩⟩
  have H2 : Hid (numO q2.data.toList = some (g, q3.data.toList)) := numO_yes hn
  have s3 : q3.size ≤ 1048576 := num_size hn s2
  have c3 : CurAt (_) b q3 := c2.set
  have b3 := b2.trans (ob_set b _ (.string q3))
  replace X0 := Hid.intro (X0.out.only (ob_set b _ (.string q3)) hne)
  revert c3 b3 X0
  generalize World.setCell _ ⟨b, 0, none⟩ (.string q3) = W3
  intro c3 b3 X0
  clear hn c2 b2 s2
  go_wp2_with fail
  refine (number_any b q3 _ c3 s3).mono ?_
  rintro e w1 (⟨m, q4, rfl, hn, rfl⟩ | ⟨⟨pv, rfl⟩, hn, rfl⟩)
  rotate_left 1
  · have HP : Hid (msO q00.data.toList = none) := by
      have e3 := numO_no hn
      unfold Hid
      simp only [msO, HL.out, H0.out, H1.out, H2.out, e3, Option.bind_some, Option.bind_none]
    clear hn X0
    go_wp2
    exact ⟨rfl, .inr ⟨⟨_, rfl⟩, HP, b3⟩⟩
  have H3 : Hid (numO q3.data.toList = some (m, q4.data.toList)) := numO_yes hn
  have s4 : q4.size ≤ 1048576 := num_size hn s3
  have c4 : CurAt (_) b q4 := c3.set
  have b4 := b3.trans (ob_set b _ (.string q4))
  replace X0 := Hid.intro (X0.out.only (ob_set b _ (.string q4)) hne)
  revert c4 b4 X0
  generalize World.setCell _ ⟨b, 0, none⟩ (.string q4) = W4
  intro c4 b4 X0
  clear hn c3 b3 s3
  go_wp2_with fail
  refine (number_any b q4 _ c4 s4).mono ?_
  rintro e w1 (⟨i, q5, rfl, hn, rfl⟩ | ⟨⟨pv, rfl⟩, hn, rfl⟩)
  rotate_left 1
  · have HP : Hid (msO q00.data.toList = none) := by
      have e4 := numO_no hn
      unfold Hid
      simp only [msO, HL.out, H0.out, H1.out, H2.out, H3.out, e4, Option.bind_some, Option.bind_none]
    clear hn X0
    go_wp2
    exact ⟨rfl, .inr ⟨⟨_, rfl⟩, HP, b4⟩⟩
  have H4 : Hid (numO q4.data.toList = some (i, q5.data.toList)) := numO_yes hn
  have s5 : q5.size ≤ 1048576 := num_size hn s4
  have c5 : CurAt (_) b q5 := c4.set
  have b5 := b4.trans (ob_set b _ (.string q5))
  replace X0 := Hid.intro (X0.out.only (ob_set b _ (.string q5)) hne)
  revert c5 b5 X0
  generalize World.setCell _ ⟨b, 0, none⟩ (.string q5) = W5
  intro c5 b5 X0
  clear hn c4 b4 s4
  go_wp2_with fail
  refine (number_any b q5 _ c5 s5).mono ?_
  rintro e w1 (⟨j, q6, rfl, hn, rfl⟩ | ⟨⟨pv, rfl⟩, hn, rfl⟩)
  rotate_left 1
  · have HP : Hid (msO q00.data.toList = none) := by
      have e5 := numO_no hn
      unfold Hid
      simp only [msO, HL.out, H0.out, H1.out, H2.out, H3.out, H4.out, e5, Option.bind_some, Option.bind_none]
    clear hn X0
    go_wp2
    exact ⟨rfl, .inr ⟨⟨_, rfl⟩, HP, b5⟩⟩
  have H5 : Hid (numO q5.data.toList = some (j, q6.data.toList)) := numO_yes hn
  have s6 : q6.size ≤ 1048576 := num_size hn s5
  have c6 : CurAt (_) b q6 := c5.set
  have b6 := b5.trans (ob_set b _ (.string q6))
  replace X0 := Hid.intro (X0.out.only (ob_set b _ (.string q6)) hne)
  revert c6 b6 X0
  generalize World.setCell _ ⟨b, 0, none⟩ (.string q6) = W6
  intro c6 b6 X0
  clear hn c5 b5 s5
  go_wp2_with fail
  refine (number_any b q6 _ c6 s6).mono ?_
  rintro e w1 (⟨c, q7, rfl, hn, rfl⟩ | ⟨⟨pv, rfl⟩, hn, rfl⟩)
  rotate_left 1
  · have HP : Hid (msO q00.data.toList = none) := by
      have e6 := numO_no hn
      unfold Hid
      simp only [msO, HL.out, H0.out, H1.out, H2.out, H3.out, H4.out, H5.out, e6, Option.bind_some, Option.bind_none]
    clear hn X0
    go_wp2
    exact ⟨rfl, .inr ⟨⟨_, rfl⟩, HP, b6⟩⟩
  have H6 : Hid (numO q6.data.toList = some (c, q7.data.toList)) := numO_yes hn
  have s7 : q7.size ≤ 1048576 := num_size hn s6
  have c7 : CurAt (_) b q7 := c6.set
  have b7 := b6.trans (ob_set b _ (.string q7))
  replace X0 := Hid.intro (X0.out.only (ob_set b _ (.string q7)) hne)
  revert c7 b7 X0
  generalize World.setCell _ ⟨b, 0, none⟩ (.string q7) = W7
  intro c7 b7 X0
  clear hn c6 b6 s6
  go_wp2_with fail
  refine (yesC_any b q7 _ c7 s7).mono ?_
  rintro e W8 (⟨yn, q8, rfl, H7, hy1, c8, s8, k8⟩ | ⟨⟨pv, rfl⟩, hn, k8⟩)
  rotate_left 1
  · have HP : Hid (msO q00.data.toList = none) := by
      have e7 := hn.out
      unfold Hid
      simp only [msO, HL.out, H0.out, H1.out, H2.out, H3.out, H4.out, H5.out, H6.out, e7, Option.bind_some, Option.bind_none]
    have b8 := b7.trans k8
    clear hn X0
    go_wp2
    exact ⟨rfl, .inr ⟨⟨_, rfl⟩, HP, b8⟩⟩
  obtain ⟨yb, hyb⟩ : ∃ yb, decide (yn = 1) = yb := ⟨_, rfl⟩
  rw [hyb]
  have b8 := b7.trans k8
  replace X0 := Hid.intro (X0.out.only k8 hne)
  clear c7 b7 k8 s7
  have z8 := X0.out.hi
  go_upto_region 3 with fail
  obtain ⟨Y, hY, bY, zY, cY, fY⟩ := boxed W8 #[.int .i64 (k : Nat), .int .i64 (f : Nat), .int .i64 (g : Nat), .int .i64 (m : Nat), .int .i64 (i : Nat), .int .i64 (j : Nat), .int .i64 (c : Nat), .bool yb, .slice none 0 0, .string ⟨#[]⟩] 29
  simp only [hY]
  have HI : Hid (InM w b w.heap.size W8.heap.size ⟨(k : Nat), (f : Nat), (g : Nat), (m : Nat), (i : Nat), (j : Nat), (c : Nat), yb, [], ⟨#[]⟩⟩ Y q8 (.slice none 0 0) []) :=
    ⟨c8.kept bY, ⟨by omega, cY, fY⟩, X0.out.kept bY, Own.nil _ _, b8.trans (ob_any bY), hlt, z8, Nat.le_refl _⟩
  clear hY bY zY cY fY c8 b8 X0 hne
  generalize W8.heap.size = g3 at HI ⊢
  go_wp2_with fail
  refine (countC_any b 4 q8 _ HI.out.cur s8).mono ?_
  rintro e Z (⟨n, q9, rfl, H8, hn4, c9, s9, k9⟩ | ⟨⟨pv, rfl⟩, hn, k9⟩)
  rotate_left 1
  · have HP : Hid (msO q00.data.toList = none) := by
      have e8 := hn.out
      unfold Hid
      simp only [msO, HL.out, H0.out, H1.out, H2.out, H3.out, H4.out, H5.out, H6.out, H7.out, e8, Option.bind_some, Option.bind_none]
    have b9 := HI.out.only.trans k9
    clear hn HI
    go_wp2
    exact ⟨rfl, .inr ⟨⟨_, rfl⟩, HP, b9⟩⟩
  replace HI := Hid.intro (HI.out.step k9 c9)
  clear c9 k9 s8
  have HIO : Hid (msO q00.data.toList = (ensO n q9.data.toList).bind fun s => some ⟨(k : Nat), (f : Nat), (g : Nat), (m : Nat), (i : Nat), (j : Nat), (c : Nat), yb, s.1, ⟨s.2.toArray⟩⟩) := by
    unfold Hid
    simp only [msO, HL.out, H0.out, H1.out, H2.out, H3.out, H4.out, H5.out, H6.out, H7.out, H8.out, Option.bind_some, hyb]
  clear H0 H1 H2 H3 H4 H5 H6 H7 H8 HL hyb
  go_wp2
  go_loopw [25] (fun i' wr => ∃ (t : Nat) (q : ByteArray) (v : Value) (L : List En), i' = .int .i64 (t : Nat) ∧ t ≤ n ∧ L.length = t ∧ q.size ≤ 1048576 ∧ Hid (ensO n q9.data.toList = (ensO (n - t) q.data.toList).map fun y => (L ++ y.1, y.2)) ∧ Hid (InM w b w.heap.size g3 ⟨(k : Nat), (f : Nat), (g : Nat), (m : Nat), (i : Nat), (j : Nat), (c : Nat), yb, [], ⟨#[]⟩⟩ wr q v L)) (fun i' _ => n - (intOf i').toNat)
  case atStart => exact ⟨0, q9, _, [], rfl, Nat.zero_le _, rfl, s9, by unfold Hid; simp, HI⟩
  case round =>
    obtain ⟨t, q, v, L, rfl, hj, hL, sq, HN, HI⟩ := hrel
    subst hL
    by_cases hlt : L.length < n
    · have hjn : (L.length : Int) < (n : Int) := by omega
      obtain ⟨va, vc, rfl⟩ := HI.out.own.slice
      go_upto_region 5 with fail
      refine wp_region_held_drew (S := fun _ => True) (by kernel_rfl) trivial (fun hHeld => ?_)
      have HD := Hid.intro (HI.out.kept (w2 := wr.drew) (Below.refl _ _).drew)
      clear HI
      generalize wr.drew = D at HD hHeld ⊢
      refine take1 (i := 0) (d := some 27) (v := ?_) rfl rfl (by kernel_rfl) (by kernel_rfl) (by kernel_rfl) (fun _ _ _ h => h) (Or.inl ⟨by rfl, ?_⟩) (by assumption) ?_
      rotate_left 1
      · intro w hSw
        go_simp <;> with_reducible rfl
      simp only [Act.put, List.setIfInBounds_toArray]
      try simp only [List.set_cons_succ]
      try simp only [List.set_cons_zero]
      refine take1 (i := 2) (d := some 29) (v := ?_) rfl rfl (by kernel_rfl) (by kernel_rfl) (by kernel_rfl) (fun _ _ _ h => h) (Or.inl ⟨by rfl, ?_⟩) (by assumption) ?_
      rotate_left 1
      · intro w hSw
        go_simp <;> with_reducible rfl
      simp only [Act.put, List.setIfInBounds_toArray]
      try simp only [List.set_cons_succ]
      try simp only [List.set_cons_zero]
      refine take1 (i := 4) (d := some 31) (v := ?_) rfl rfl (by kernel_rfl) (by kernel_rfl) (by kernel_rfl) (fun _ _ _ h => h) (Or.inl ⟨by rfl, ?_⟩) (by assumption) ?_
      rotate_left 1
      · intro w hSw
        go_simp <;> with_reducible rfl
      simp only [Act.put, List.setIfInBounds_toArray]
      try simp only [List.set_cons_succ]
      try simp only [List.set_cons_zero]
      refine wpAnyH_ready (rs := [1, 3]) (by kernel_rfl) (by simp) ?_
      refine (AllReadyH.cons rfl (fun KK hKK => ?_) (AllReadyH.cons rfl (fun KK hKK => ?_) AllReadyH.nil))
      · skip
        have k6 : D.cell? ⟨g3, 8, none⟩ = some (.slice va L.length vc) := HD.out.box.cell 8
        go_simp
        refine hKK.out _ _ trivial (fun hHeld2 => ?_)
        clear hKK KK hHeld
        have hHeld := hHeld2
        clear hHeld2
        clear k6
        refine wpAnyH_ready (rs := [3]) (by kernel_rfl) (by simp) ?_
        refine (AllReadyH.cons rfl (fun KK hKK => ?_) AllReadyH.nil)
        go_simp
        refine (number_any b q D HD.out.cur sq).mono ?_
        rintro e x1 (⟨x, q1, rfl, hn, rfl⟩ | ⟨⟨pv, rfl⟩, hn, rfl⟩)
        rotate_left 1
        · have HP : Hid (msO q00.data.toList = none) := by
            unfold Hid
            rw [HIO.out, HN.out, ensO_no1 (by omega) (numO_no hn)]
            rfl
          have B9 := HD.out.only
          clear HD hKK hn
          go_simp
          go_wp2
          exact ⟨rfl, .inr ⟨⟨_, rfl⟩, HP, B9⟩⟩
        have G1 : Hid (numO q.data.toList = some (x, q1.data.toList)) := numO_yes hn
        have s1 : q1.size ≤ 1048576 := num_size hn sq
        replace HD := Hid.intro (HD.out.step (ob_set b _ (.string q1)) HD.out.cur.set)
        clear hn
        revert HD
        generalize World.setCell D ⟨b, 0, none⟩ (.string q1) = x1
        intro HD
        go_simp
        refine hKK.out _ _ trivial (fun hHeld2 => ?_)
        clear hKK KK hHeld
        have hHeld := hHeld2
        clear hHeld2
        refine wpAnyH_ready (rs := [5]) (by kernel_rfl) (by simp) ?_
        refine (AllReadyH.cons rfl (fun KK hKK => ?_) AllReadyH.nil)
        go_simp
        refine (pieceC_any b q1 x1 HD.out.cur s1).mono ?_
        rintro e x2 (⟨nm, q2, rfl, G2, c2, s2, o2⟩ | ⟨⟨pv, rfl⟩, G2, o2⟩)
        rotate_left 1
        · have HP : Hid (msO q00.data.toList = none) := by
            unfold Hid
            rw [HIO.out, HN.out, ensO_no2 (by omega) G1.out G2.out]
            rfl
          have B9 := HD.out.only.trans o2
          clear HD hKK
          go_simp
          go_wp2
          exact ⟨rfl, .inr ⟨⟨_, rfl⟩, HP, B9⟩⟩
        have HN2 : Hid (ensO n q9.data.toList = (ensO (n - (L.length + 1)) q2.data.toList).map fun y => ((L ++ [⟨(x : Int), nm⟩]) ++ y.1, y.2)) := by
          unfold Hid
          rw [HN.out, ensO_yes (by omega) G1.out G2.out, Nat.sub_sub, ba_of]
          cases ensO (n - (L.length + 1)) q2.data.toList <;> simp
        replace HD := Hid.intro (HD.out.step o2 c2)
        clear o2 c2 HN
        go_simp
        refine hKK.out _ _ trivial (fun hHeld2 => ?_)
        clear hKK KK hHeld
        have hHeld := hHeld2
        clear hHeld2
        refine take1 (i := 6) (d := some 33) (v := ?_) rfl rfl (by kernel_rfl) (by kernel_rfl) (by kernel_rfl) (fun _ _ _ h => h) (Or.inl ⟨by rfl, ?_⟩) (by assumption) ?_
        rotate_left 1
        · intro w hSw
          go_simp <;> with_reducible rfl
        simp only [Act.put, List.setIfInBounds_toArray]
        try simp only [List.set_cons_succ]
        try simp only [List.set_cons_zero]
        refine wpAnyH_ready (rs := [7]) (by kernel_rfl) (by simp) ?_
        refine (AllReadyH.cons rfl (fun KK hKK => ?_) AllReadyH.nil)
        go_simp
        have bM : Below x2.heap.size x2 (x2.alloc (.cells #[.int .i64 (x : Nat), .string nm] 49)) := one_below _ _
        have cM : ∀ o, (x2.alloc (.cells #[.int .i64 (x : Nat), .string nm] 49)).cell? ⟨x2.heap.size, o, none⟩ = #[Value.int .i64 (x : Nat), .string nm][o]? := fun o => World.cell?_alloc_at _ _ _ _ rfl
        replace HD := Hid.intro (HD.out.kept bM)
        revert HD cM
        generalize x2.alloc (.cells #[.int .i64 (x : Nat), .string nm] 49) = M at bM
        generalize x2.heap.size = sb
        intro cM HD
        refine hKK.out _ _ trivial (fun hHeld2 => ?_)
        clear hKK KK hHeld
        have hHeld := hHeld2
        clear hHeld2
        refine wpAnyH_ready (rs := [8]) (by kernel_rfl) (by simp) ?_
        refine (AllReadyH.cons rfl (fun KK hKK => ?_) AllReadyH.nil)
        have hnews : ∀ j u, (enE.f [⟨(x : Int), nm⟩])[j]? = some u → M.cell? ((⟨sb, 0, none⟩ : Addr).add j) = some u := fun j u hj => by
          rw [add_none, Nat.zero_add, cM]
          simpa [enE, Enc.f] using hj
        have hbase : g3 + 1 ≤ M.heap.size := HD.out.box.hi
        refine step_En rfl _ _ rfl (g3 + 1) (.slice va L.length vc) L ⟨(x : Int), nm⟩ rfl HD.out.own ⟨sb, 0, none⟩ 1 rfl hnews (by omega) hbase ?_
        intro g0 cap2 w4 hown ho hloc hg
        rw [show (L ++ [⟨(x : Int), nm⟩] : List En).length = L.length + 1 by simp] at hown
        have hne3 : ¬ some g3 = (Value.slice va L.length vc).ownBlock := fun e => by have := (HD.out.own.lt g3 e.symm).1; omega
        have k6 := (ho.cell (o := 8) HD.out.box.hi hne3).trans (HD.out.box.cell 8)
        have f6 := (ho.frozen (o := 8) HD.out.box.hi hne3).trans (HD.out.box.fro 8)
        have HE := Hid.intro (HD.out.put ho hown)
        have k6 : w4.cell? ⟨g3, 8, none⟩ = some (.slice va L.length vc) := k6
        clear HD hown ho hloc hg hnews hbase cM hne3 bM
        go_simp
        refine hKK.out _ _ trivial (fun hHeld2 => ?_)
        clear hKK KK hHeld
        have hHeld := hHeld2
        clear hHeld2
        refine take1 (i := 9) (d := some 36) (v := ?_) rfl rfl (by kernel_rfl) (by kernel_rfl) (by kernel_rfl) (fun _ _ _ h => h) (Or.inl ⟨by rfl, ?_⟩) (by assumption) ?_
        rotate_left 1
        · intro w hSw
          go_simp <;> with_reducible rfl
        simp only [Act.put, List.setIfInBounds_toArray]
        try simp only [List.set_cons_succ]
        try simp only [List.set_cons_zero]
        refine wpAnyH_ready (rs := [10]) (by kernel_rfl) (by simp) ?_
        refine (AllReadyH.cons rfl (fun KK hKK => ?_) AllReadyH.nil)
        go_simp
        generalize w4.setCell ⟨g3, 8, none⟩ _ = w5 at HE ⊢
        clear k6 f6
        refine hKK.out _ _ trivial (fun hHeld2 => ?_)
        clear hKK KK hHeld
        have hHeld := hHeld2
        clear hHeld2
        refine wpAnyH_done (by kernel_rfl) ?_ _
        clear hHeld
        go_wp2
        go_roundw
        case rel => exact ⟨L.length + 1, q2, _, L ++ [⟨(x : Int), nm⟩], by go_num, by omega, by simp, s2, HN2, HE⟩
        case measure => simp [intOf]; omega
      · skip
        go_simp
        refine (number_any b q D HD.out.cur sq).mono ?_
        rintro e x1 (⟨x, q1, rfl, hn, rfl⟩ | ⟨⟨pv, rfl⟩, hn, rfl⟩)
        rotate_left 1
        · have HP : Hid (msO q00.data.toList = none) := by
            unfold Hid
            rw [HIO.out, HN.out, ensO_no1 (by omega) (numO_no hn)]
            rfl
          have B9 := HD.out.only
          clear HD hKK hn
          go_simp
          go_wp2
          exact ⟨rfl, .inr ⟨⟨_, rfl⟩, HP, B9⟩⟩
        have G1 : Hid (numO q.data.toList = some (x, q1.data.toList)) := numO_yes hn
        have s1 : q1.size ≤ 1048576 := num_size hn sq
        replace HD := Hid.intro (HD.out.step (ob_set b _ (.string q1)) HD.out.cur.set)
        clear hn
        revert HD
        generalize World.setCell D ⟨b, 0, none⟩ (.string q1) = x1
        intro HD
        go_simp
        refine hKK.out _ _ trivial (fun hHeld2 => ?_)
        clear hKK KK hHeld
        have hHeld := hHeld2
        clear hHeld2
        refine wpAnyH_ready (rs := [1, 5]) (by kernel_rfl) (by simp) ?_
        refine (AllReadyH.cons rfl (fun KK hKK => ?_) (AllReadyH.cons rfl (fun KK hKK => ?_) AllReadyH.nil))
        · skip
          have k6 : x1.cell? ⟨g3, 8, none⟩ = some (.slice va L.length vc) := HD.out.box.cell 8
          go_simp
          refine hKK.out _ _ trivial (fun hHeld2 => ?_)
          clear hKK KK hHeld
          have hHeld := hHeld2
          clear hHeld2
          clear k6
          refine wpAnyH_ready (rs := [5]) (by kernel_rfl) (by simp) ?_
          refine (AllReadyH.cons rfl (fun KK hKK => ?_) AllReadyH.nil)
          go_simp
          refine (pieceC_any b q1 x1 HD.out.cur s1).mono ?_
          rintro e x2 (⟨nm, q2, rfl, G2, c2, s2, o2⟩ | ⟨⟨pv, rfl⟩, G2, o2⟩)
          rotate_left 1
          · have HP : Hid (msO q00.data.toList = none) := by
              unfold Hid
              rw [HIO.out, HN.out, ensO_no2 (by omega) G1.out G2.out]
              rfl
            have B9 := HD.out.only.trans o2
            clear HD hKK
            go_simp
            go_wp2
            exact ⟨rfl, .inr ⟨⟨_, rfl⟩, HP, B9⟩⟩
          have HN2 : Hid (ensO n q9.data.toList = (ensO (n - (L.length + 1)) q2.data.toList).map fun y => ((L ++ [⟨(x : Int), nm⟩]) ++ y.1, y.2)) := by
            unfold Hid
            rw [HN.out, ensO_yes (by omega) G1.out G2.out, Nat.sub_sub, ba_of]
            cases ensO (n - (L.length + 1)) q2.data.toList <;> simp
          replace HD := Hid.intro (HD.out.step o2 c2)
          clear o2 c2 HN
          go_simp
          refine hKK.out _ _ trivial (fun hHeld2 => ?_)
          clear hKK KK hHeld
          have hHeld := hHeld2
          clear hHeld2
          refine take1 (i := 6) (d := some 33) (v := ?_) rfl rfl (by kernel_rfl) (by kernel_rfl) (by kernel_rfl) (fun _ _ _ h => h) (Or.inl ⟨by rfl, ?_⟩) (by assumption) ?_
          rotate_left 1
          · intro w hSw
            go_simp <;> with_reducible rfl
          simp only [Act.put, List.setIfInBounds_toArray]
          try simp only [List.set_cons_succ]
          try simp only [List.set_cons_zero]
          refine wpAnyH_ready (rs := [7]) (by kernel_rfl) (by simp) ?_
          refine (AllReadyH.cons rfl (fun KK hKK => ?_) AllReadyH.nil)
          go_simp
          have bM : Below x2.heap.size x2 (x2.alloc (.cells #[.int .i64 (x : Nat), .string nm] 49)) := one_below _ _
          have cM : ∀ o, (x2.alloc (.cells #[.int .i64 (x : Nat), .string nm] 49)).cell? ⟨x2.heap.size, o, none⟩ = #[Value.int .i64 (x : Nat), .string nm][o]? := fun o => World.cell?_alloc_at _ _ _ _ rfl
          replace HD := Hid.intro (HD.out.kept bM)
          revert HD cM
          generalize x2.alloc (.cells #[.int .i64 (x : Nat), .string nm] 49) = M at bM
          generalize x2.heap.size = sb
          intro cM HD
          refine hKK.out _ _ trivial (fun hHeld2 => ?_)
          clear hKK KK hHeld
          have hHeld := hHeld2
          clear hHeld2
          refine wpAnyH_ready (rs := [8]) (by kernel_rfl) (by simp) ?_
          refine (AllReadyH.cons rfl (fun KK hKK => ?_) AllReadyH.nil)
          have hnews : ∀ j u, (enE.f [⟨(x : Int), nm⟩])[j]? = some u → M.cell? ((⟨sb, 0, none⟩ : Addr).add j) = some u := fun j u hj => by
            rw [add_none, Nat.zero_add, cM]
            simpa [enE, Enc.f] using hj
          have hbase : g3 + 1 ≤ M.heap.size := HD.out.box.hi
          refine step_En rfl _ _ rfl (g3 + 1) (.slice va L.length vc) L ⟨(x : Int), nm⟩ rfl HD.out.own ⟨sb, 0, none⟩ 1 rfl hnews (by omega) hbase ?_
          intro g0 cap2 w4 hown ho hloc hg
          rw [show (L ++ [⟨(x : Int), nm⟩] : List En).length = L.length + 1 by simp] at hown
          have hne3 : ¬ some g3 = (Value.slice va L.length vc).ownBlock := fun e => by have := (HD.out.own.lt g3 e.symm).1; omega
          have k6 := (ho.cell (o := 8) HD.out.box.hi hne3).trans (HD.out.box.cell 8)
          have f6 := (ho.frozen (o := 8) HD.out.box.hi hne3).trans (HD.out.box.fro 8)
          have HE := Hid.intro (HD.out.put ho hown)
          have k6 : w4.cell? ⟨g3, 8, none⟩ = some (.slice va L.length vc) := k6
          clear HD hown ho hloc hg hnews hbase cM hne3 bM
          go_simp
          refine hKK.out _ _ trivial (fun hHeld2 => ?_)
          clear hKK KK hHeld
          have hHeld := hHeld2
          clear hHeld2
          refine take1 (i := 9) (d := some 36) (v := ?_) rfl rfl (by kernel_rfl) (by kernel_rfl) (by kernel_rfl) (fun _ _ _ h => h) (Or.inl ⟨by rfl, ?_⟩) (by assumption) ?_
          rotate_left 1
          · intro w hSw
            go_simp <;> with_reducible rfl
          simp only [Act.put, List.setIfInBounds_toArray]
          try simp only [List.set_cons_succ]
          try simp only [List.set_cons_zero]
          refine wpAnyH_ready (rs := [10]) (by kernel_rfl) (by simp) ?_
          refine (AllReadyH.cons rfl (fun KK hKK => ?_) AllReadyH.nil)
          go_simp
          generalize w4.setCell ⟨g3, 8, none⟩ _ = w5 at HE ⊢
          clear k6 f6
          refine hKK.out _ _ trivial (fun hHeld2 => ?_)
          clear hKK KK hHeld
          have hHeld := hHeld2
          clear hHeld2
          refine wpAnyH_done (by kernel_rfl) ?_ _
          clear hHeld
          go_wp2
          go_roundw
          case rel => exact ⟨L.length + 1, q2, _, L ++ [⟨(x : Int), nm⟩], by go_num, by omega, by simp, s2, HN2, HE⟩
          case measure => simp [intOf]; omega
        · skip
          go_simp
          refine (pieceC_any b q1 x1 HD.out.cur s1).mono ?_
          rintro e x2 (⟨nm, q2, rfl, G2, c2, s2, o2⟩ | ⟨⟨pv, rfl⟩, G2, o2⟩)
          rotate_left 1
          · have HP : Hid (msO q00.data.toList = none) := by
              unfold Hid
              rw [HIO.out, HN.out, ensO_no2 (by omega) G1.out G2.out]
              rfl
            have B9 := HD.out.only.trans o2
            clear HD hKK
            go_simp
            go_wp2
            exact ⟨rfl, .inr ⟨⟨_, rfl⟩, HP, B9⟩⟩
          have HN2 : Hid (ensO n q9.data.toList = (ensO (n - (L.length + 1)) q2.data.toList).map fun y => ((L ++ [⟨(x : Int), nm⟩]) ++ y.1, y.2)) := by
            unfold Hid
            rw [HN.out, ensO_yes (by omega) G1.out G2.out, Nat.sub_sub, ba_of]
            cases ensO (n - (L.length + 1)) q2.data.toList <;> simp
          replace HD := Hid.intro (HD.out.step o2 c2)
          clear o2 c2 HN
          go_simp
          refine hKK.out _ _ trivial (fun hHeld2 => ?_)
          clear hKK KK hHeld
          have hHeld := hHeld2
          clear hHeld2
          refine take1 (i := 6) (d := some 33) (v := ?_) rfl rfl (by kernel_rfl) (by kernel_rfl) (by kernel_rfl) (fun _ _ _ h => h) (Or.inl ⟨by rfl, ?_⟩) (by assumption) ?_
          rotate_left 1
          · intro w hSw
            go_simp <;> with_reducible rfl
          simp only [Act.put, List.setIfInBounds_toArray]
          try simp only [List.set_cons_succ]
          try simp only [List.set_cons_zero]
          refine wpAnyH_ready (rs := [1, 7]) (by kernel_rfl) (by simp) ?_
          refine (AllReadyH.cons rfl (fun KK hKK => ?_) (AllReadyH.cons rfl (fun KK hKK => ?_) AllReadyH.nil))
          · skip
            have k6 : x2.cell? ⟨g3, 8, none⟩ = some (.slice va L.length vc) := HD.out.box.cell 8
            go_simp
            refine hKK.out _ _ trivial (fun hHeld2 => ?_)
            clear hKK KK hHeld
            have hHeld := hHeld2
            clear hHeld2
            clear k6
            refine wpAnyH_ready (rs := [7]) (by kernel_rfl) (by simp) ?_
            refine (AllReadyH.cons rfl (fun KK hKK => ?_) AllReadyH.nil)
            go_simp
            have bM : Below x2.heap.size x2 (x2.alloc (.cells #[.int .i64 (x : Nat), .string nm] 49)) := one_below _ _
            have cM : ∀ o, (x2.alloc (.cells #[.int .i64 (x : Nat), .string nm] 49)).cell? ⟨x2.heap.size, o, none⟩ = #[Value.int .i64 (x : Nat), .string nm][o]? := fun o => World.cell?_alloc_at _ _ _ _ rfl
            replace HD := Hid.intro (HD.out.kept bM)
            revert HD cM
            generalize x2.alloc (.cells #[.int .i64 (x : Nat), .string nm] 49) = M at bM
            generalize x2.heap.size = sb
            intro cM HD
            refine hKK.out _ _ trivial (fun hHeld2 => ?_)
            clear hKK KK hHeld
            have hHeld := hHeld2
            clear hHeld2
            refine wpAnyH_ready (rs := [8]) (by kernel_rfl) (by simp) ?_
            refine (AllReadyH.cons rfl (fun KK hKK => ?_) AllReadyH.nil)
            have hnews : ∀ j u, (enE.f [⟨(x : Int), nm⟩])[j]? = some u → M.cell? ((⟨sb, 0, none⟩ : Addr).add j) = some u := fun j u hj => by
              rw [add_none, Nat.zero_add, cM]
              simpa [enE, Enc.f] using hj
            have hbase : g3 + 1 ≤ M.heap.size := HD.out.box.hi
            refine step_En rfl _ _ rfl (g3 + 1) (.slice va L.length vc) L ⟨(x : Int), nm⟩ rfl HD.out.own ⟨sb, 0, none⟩ 1 rfl hnews (by omega) hbase ?_
            intro g0 cap2 w4 hown ho hloc hg
            rw [show (L ++ [⟨(x : Int), nm⟩] : List En).length = L.length + 1 by simp] at hown
            have hne3 : ¬ some g3 = (Value.slice va L.length vc).ownBlock := fun e => by have := (HD.out.own.lt g3 e.symm).1; omega
            have k6 := (ho.cell (o := 8) HD.out.box.hi hne3).trans (HD.out.box.cell 8)
            have f6 := (ho.frozen (o := 8) HD.out.box.hi hne3).trans (HD.out.box.fro 8)
            have HE := Hid.intro (HD.out.put ho hown)
            have k6 : w4.cell? ⟨g3, 8, none⟩ = some (.slice va L.length vc) := k6
            clear HD hown ho hloc hg hnews hbase cM hne3 bM
            go_simp
            refine hKK.out _ _ trivial (fun hHeld2 => ?_)
            clear hKK KK hHeld
            have hHeld := hHeld2
            clear hHeld2
            refine take1 (i := 9) (d := some 36) (v := ?_) rfl rfl (by kernel_rfl) (by kernel_rfl) (by kernel_rfl) (fun _ _ _ h => h) (Or.inl ⟨by rfl, ?_⟩) (by assumption) ?_
            rotate_left 1
            · intro w hSw
              go_simp <;> with_reducible rfl
            simp only [Act.put, List.setIfInBounds_toArray]
            try simp only [List.set_cons_succ]
            try simp only [List.set_cons_zero]
            refine wpAnyH_ready (rs := [10]) (by kernel_rfl) (by simp) ?_
            refine (AllReadyH.cons rfl (fun KK hKK => ?_) AllReadyH.nil)
            go_simp
            generalize w4.setCell ⟨g3, 8, none⟩ _ = w5 at HE ⊢
            clear k6 f6
            refine hKK.out _ _ trivial (fun hHeld2 => ?_)
            clear hKK KK hHeld
            have hHeld := hHeld2
            clear hHeld2
            refine wpAnyH_done (by kernel_rfl) ?_ _
            clear hHeld
            go_wp2
            go_roundw
            case rel => exact ⟨L.length + 1, q2, _, L ++ [⟨(x : Int), nm⟩], by go_num, by omega, by simp, s2, HN2, HE⟩
            case measure => simp [intOf]; omega
          · skip
            go_simp
            have bM : Below x2.heap.size x2 (x2.alloc (.cells #[.int .i64 (x : Nat), .string nm] 49)) := one_below _ _
            have cM : ∀ o, (x2.alloc (.cells #[.int .i64 (x : Nat), .string nm] 49)).cell? ⟨x2.heap.size, o, none⟩ = #[Value.int .i64 (x : Nat), .string nm][o]? := fun o => World.cell?_alloc_at _ _ _ _ rfl
            replace HD := Hid.intro (HD.out.kept bM)
            revert HD cM
            generalize x2.alloc (.cells #[.int .i64 (x : Nat), .string nm] 49) = M at bM
            generalize x2.heap.size = sb
            intro cM HD
            refine hKK.out _ _ trivial (fun hHeld2 => ?_)
            clear hKK KK hHeld
            have hHeld := hHeld2
            clear hHeld2
            refine wpAnyH_ready (rs := [1]) (by kernel_rfl) (by simp) ?_
            refine (AllReadyH.cons rfl (fun KK hKK => ?_) AllReadyH.nil)
            have k6 : M.cell? ⟨g3, 8, none⟩ = some (.slice va L.length vc) := HD.out.box.cell 8
            go_simp
            refine hKK.out _ _ trivial (fun hHeld2 => ?_)
            clear hKK KK hHeld
            have hHeld := hHeld2
            clear hHeld2
            clear k6
            refine wpAnyH_ready (rs := [8]) (by kernel_rfl) (by simp) ?_
            refine (AllReadyH.cons rfl (fun KK hKK => ?_) AllReadyH.nil)
            have hnews : ∀ j u, (enE.f [⟨(x : Int), nm⟩])[j]? = some u → M.cell? ((⟨sb, 0, none⟩ : Addr).add j) = some u := fun j u hj => by
              rw [add_none, Nat.zero_add, cM]
              simpa [enE, Enc.f] using hj
            have hbase : g3 + 1 ≤ M.heap.size := HD.out.box.hi
            refine step_En rfl _ _ rfl (g3 + 1) (.slice va L.length vc) L ⟨(x : Int), nm⟩ rfl HD.out.own ⟨sb, 0, none⟩ 1 rfl hnews (by omega) hbase ?_
            intro g0 cap2 w4 hown ho hloc hg
            rw [show (L ++ [⟨(x : Int), nm⟩] : List En).length = L.length + 1 by simp] at hown
            have hne3 : ¬ some g3 = (Value.slice va L.length vc).ownBlock := fun e => by have := (HD.out.own.lt g3 e.symm).1; omega
            have k6 := (ho.cell (o := 8) HD.out.box.hi hne3).trans (HD.out.box.cell 8)
            have f6 := (ho.frozen (o := 8) HD.out.box.hi hne3).trans (HD.out.box.fro 8)
            have HE := Hid.intro (HD.out.put ho hown)
            have k6 : w4.cell? ⟨g3, 8, none⟩ = some (.slice va L.length vc) := k6
            clear HD hown ho hloc hg hnews hbase cM hne3 bM
            go_simp
            refine hKK.out _ _ trivial (fun hHeld2 => ?_)
            clear hKK KK hHeld
            have hHeld := hHeld2
            clear hHeld2
            refine take1 (i := 9) (d := some 36) (v := ?_) rfl rfl (by kernel_rfl) (by kernel_rfl) (by kernel_rfl) (fun _ _ _ h => h) (Or.inl ⟨by rfl, ?_⟩) (by assumption) ?_
            rotate_left 1
            · intro w hSw
              go_simp <;> with_reducible rfl
            simp only [Act.put, List.setIfInBounds_toArray]
            try simp only [List.set_cons_succ]
            try simp only [List.set_cons_zero]
            refine wpAnyH_ready (rs := [10]) (by kernel_rfl) (by simp) ?_
            refine (AllReadyH.cons rfl (fun KK hKK => ?_) AllReadyH.nil)
            go_simp
            generalize w4.setCell ⟨g3, 8, none⟩ _ = w5 at HE ⊢
            clear k6 f6
            refine hKK.out _ _ trivial (fun hHeld2 => ?_)
            clear hKK KK hHeld
            have hHeld := hHeld2
            clear hHeld2
            refine wpAnyH_done (by kernel_rfl) ?_ _
            clear hHeld
            go_wp2
            go_roundw
            case rel => exact ⟨L.length + 1, q2, _, L ++ [⟨(x : Int), nm⟩], by go_num, by omega, by simp, s2, HN2, HE⟩
            case measure => simp [intOf]; omega
    · have hjn : ¬ (L.length : Int) < (n : Int) := by omega
      have e0 : n - L.length = 0 := by omega
      have HP : Hid (msO q00.data.toList = some ⟨(k : Nat), (f : Nat), (g : Nat), (m : Nat), (i : Nat), (j : Nat), (c : Nat), yb, L, q⟩) := by
        unfold Hid
        rw [HIO.out, HN.out, e0]
        simp [ensO]
      obtain ⟨va, vc, rfl⟩ := HI.out.own.slice
      clear HIO HN
      go_wp2_with fail
      refine (restC_any b q wr HI.out.cur sq).mono ?_
      rintro e W9 ⟨q', rfl, hz, c9, o9⟩
      replace HI := Hid.intro (HI.out.step o9 c9)
      clear c9 o9
      have k0 : W9.cell? ⟨g3, 0, none⟩ = some (.int .i64 (k : Nat)) := HI.out.box.cell 0
      have r0 : W9.cell? ⟨w.heap.size, 0, none⟩ = some (.int .i64 0) := HI.out.res.cell 0
      have f0 : W9.frozen? ⟨w.heap.size, 0, none⟩ = false := HI.out.res.fro 0
      have k1 : W9.cell? ⟨g3, 1, none⟩ = some (.int .i64 (f : Nat)) := HI.out.box.cell 1
      have r1 : W9.cell? ⟨w.heap.size, 1, none⟩ = some (.int .i64 0) := HI.out.res.cell 1
      have f1 : W9.frozen? ⟨w.heap.size, 1, none⟩ = false := HI.out.res.fro 1
      have k2 : W9.cell? ⟨g3, 2, none⟩ = some (.int .i64 (g : Nat)) := HI.out.box.cell 2
      have r2 : W9.cell? ⟨w.heap.size, 2, none⟩ = some (.int .i64 0) := HI.out.res.cell 2
      have f2 : W9.frozen? ⟨w.heap.size, 2, none⟩ = false := HI.out.res.fro 2
      have k3 : W9.cell? ⟨g3, 3, none⟩ = some (.int .i64 (m : Nat)) := HI.out.box.cell 3
      have r3 : W9.cell? ⟨w.heap.size, 3, none⟩ = some (.int .i64 0) := HI.out.res.cell 3
      have f3 : W9.frozen? ⟨w.heap.size, 3, none⟩ = false := HI.out.res.fro 3
      have k4 : W9.cell? ⟨g3, 4, none⟩ = some (.int .i64 (i : Nat)) := HI.out.box.cell 4
      have r4 : W9.cell? ⟨w.heap.size, 4, none⟩ = some (.int .i64 0) := HI.out.res.cell 4
      have f4 : W9.frozen? ⟨w.heap.size, 4, none⟩ = false := HI.out.res.fro 4
      have k5 : W9.cell? ⟨g3, 5, none⟩ = some (.int .i64 (j : Nat)) := HI.out.box.cell 5
      have r5 : W9.cell? ⟨w.heap.size, 5, none⟩ = some (.int .i64 0) := HI.out.res.cell 5
      have f5 : W9.frozen? ⟨w.heap.size, 5, none⟩ = false := HI.out.res.fro 5
      have k6 : W9.cell? ⟨g3, 6, none⟩ = some (.int .i64 (c : Nat)) := HI.out.box.cell 6
      have r6 : W9.cell? ⟨w.heap.size, 6, none⟩ = some (.int .i64 0) := HI.out.res.cell 6
      have f6 : W9.frozen? ⟨w.heap.size, 6, none⟩ = false := HI.out.res.fro 6
      have k7 : W9.cell? ⟨g3, 7, none⟩ = some (.bool yb) := HI.out.box.cell 7
      have r7 : W9.cell? ⟨w.heap.size, 7, none⟩ = some (.bool false) := HI.out.res.cell 7
      have f7 : W9.frozen? ⟨w.heap.size, 7, none⟩ = false := HI.out.res.fro 7
      have k8 : W9.cell? ⟨g3, 8, none⟩ = some (.slice va L.length vc) := HI.out.box.cell 8
      have r8 : W9.cell? ⟨w.heap.size, 8, none⟩ = some (.slice none 0 0) := HI.out.res.cell 8
      have f8 : W9.frozen? ⟨w.heap.size, 8, none⟩ = false := HI.out.res.fro 8
      have k9 : W9.cell? ⟨g3, 9, none⟩ = some (.string ⟨#[]⟩) := HI.out.box.cell 9
      have r9 : W9.cell? ⟨w.heap.size, 9, none⟩ = some (.string ⟨#[]⟩) := HI.out.res.cell 9
      have f9 : W9.frozen? ⟨w.heap.size, 9, none⟩ = false := HI.out.res.fro 9
      have f10 : W9.frozen? ⟨g3, 9, none⟩ = false := HI.out.box.fro 9
      have hlt3 := HI.out.lt
      have hne3 : ¬ w.heap.size = g3 := by omega
      have hne4 : ¬ g3 = w.heap.size := by omega
      have OE : Hid (∀ Z, Only (fun x => x = g3 ∨ x = w.heap.size) W9 Z → CurAt Z b q' ∧ Own enE 49 Z w.heap.size (.slice va L.length vc) L ∧ Only (fun k => k = b) w Z) := fun Z hZ => ⟨HI.out.cur.only hZ (fun e => by omega), (HI.out.own.only hZ (fun k hk e => by have := (HI.out.own.lt k hk).1; omega)).lower (by omega), HI.out.only.then hZ (fun x hx e => by omega)⟩
      have hL4 : L.length ≤ 4 := by omega
      clear HI
      go_wp2
      refine bodyPost_ret (v := msV ⟨(k : Nat), (f : Nat), (g : Nat), (m : Nat), (i : Nat), (j : Nat), (c : Nat), yb, L, q⟩ (.slice va L.length vc)) (by simp [results, Try.results42, go_sem, r0, r1, r2, r3, r4, r5, r6, r7, r8, r9]) rfl (.inl ⟨_, _, q', rfl, HP, (OE.out _ ?_).1, hz, hL4, (OE.out _ ?_).2.1, (OE.out _ ?_).2.2⟩)
      all_goals (repeat (refine Only.setCell ?_ (by simp) _))
      all_goals exact Only.refl _ _
end Go.Proofs.Ytdnngbdkmdphoaa
