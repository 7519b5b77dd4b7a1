/- A cursor's piece and call; a number that was laid between the others. -/
import Derived.Test.YthicdhjipebghaaTCur
import Derived.Test.YthicdhjipebghaaTCallShow
namespace Go.Proofs.Ythicdhjipebghaa
open Go.RowKit
/-- The number that is laid at z. -/
def unfoldI (z : Nat) : Int := if z % 2 = 1 then -(((z : Int) + 1) / 2) else (z : Int) / 2
theorem fold_unfold (z : Nat) : foldN (unfoldI z) = z := by
  unfold unfoldI foldN
  split <;> split <;> omega
/-- What a call is made of. -/
structure Cn where
  k : Nat
  p : List UInt8
  to : List UInt8
  n : Nat
  m : Nat
  d : List UInt8
def caOf (c : Cn) : Ca := ⟨c.k, ⟨c.p.toArray⟩, ⟨c.to.toArray⟩, unfoldI c.n, unfoldI c.m, ⟨c.d.toArray⟩⟩
/-- A call at the front, and what is left. -/
noncomputable def callO (l : List UInt8) : Option (Cn × List UInt8) :=
  (numO l).bind fun a => (pieO a.2).bind fun b => (pieO b.2).bind fun c => (numO c.2).bind fun d => (numO d.2).bind fun e => (pieO e.2).bind fun f => some (⟨a.1, b.1, c.1, d.1, e.1, f.1⟩, f.2)
theorem ob_any {b : Nat} {w w' : World} (h : Below w.heap.size w w') : Only (fun k => k = b) w w' := Below.any h
theorem ob_set (b : Nat) (w : World) (v : Value) : Only (fun k => k = b) w (w.setCell ⟨b, 0, none⟩ v) := (Only.refl (fun k => k = b) w).setCell (p := ⟨b, 0, none⟩) rfl v
theorem CurAt.only {w w' : World} {b : Nat} {q : ByteArray} {S : Nat → Prop} (h : CurAt w b q) (ho : Only S w w') (hs : ¬ S b) : CurAt w' b q :=
  ⟨Nat.lt_of_lt_of_le h.lt ho.size, (ho.cell h.lt hs).trans h.cell, (ho.frozen h.lt hs).trans h.fro⟩
theorem set6_only (g : Nat) (w : World) (a b c d e f : Value) : Only (fun x => x = g) w ((((((w.setCell ⟨g, 0, none⟩ a).setCell ⟨g, 1, none⟩ b).setCell ⟨g, 2, none⟩ c).setCell ⟨g, 3, none⟩ d).setCell ⟨g, 4, none⟩ e).setCell ⟨g, 5, none⟩ f) :=
  ((((((Only.refl (fun x => x = g) w).setCell (p := ⟨g, 0, none⟩) rfl a).setCell (p := ⟨g, 1, none⟩) rfl b).setCell (p := ⟨g, 2, none⟩) rfl c).setCell (p := ⟨g, 3, none⟩) rfl d).setCell (p := ⟨g, 4, none⟩) rfl e).setCell (p := ⟨g, 5, none⟩) rfl f
theorem num_size {q q' : ByteArray} {x : Nat} (h : Num q.data.toList x q'.data.toList) (hs : q.size ≤ 1048576) : q'.size ≤ 1048576 := by
  have hl : q'.size < q.size := by simpa using num_le h
  omega
theorem ba_of (s : ByteArray) : (⟨s.data.toList.toArray⟩ : ByteArray) = s := by
  obtain ⟨⟨l⟩⟩ := s
  rfl
set_option linter.unusedVariables false
set_option maxRecDepth 100000 in
set_option maxHeartbeats 800000 in
theorem pieceC_any (b : Nat) (q : ByteArray) (w : World) (hc : CurAt w b q) (hs : q.size ≤ 1048576) :
    Calls Try.prog 54 #[.pointer (some ⟨b, 0, none⟩)] w fun e w' =>
      (∃ (p q' : ByteArray), e = .returned (.string p) ∧ Hid (pieO q.data.toList = some (p.data.toList, q'.data.toList)) ∧ CurAt w' b q' ∧ q'.size ≤ 1048576 ∧ Only (fun k => k = b) w w') ∨ (Lack e ∧ Hid (pieO q.data.toList = none) ∧ Only (fun k => k = b) w w') := by
  have hlt := hc.lt
  go_enter Try.func54, Try.ntmps54
  go_wp2_with fail
  refine (number_any b q _ hc hs).mono ?_
  rintro e w1 (⟨x, q1, rfl, hn, rfl⟩ | ⟨⟨pv, rfl⟩, hn, rfl⟩)
  · have HN := Hid.intro hn
    have hl : q1.size < q.size := by simpa using num_le hn
    have c1 : CurAt (w.setCell ⟨b, 0, none⟩ (.string q1)) b q1 := hc.set
    have b1 : Only (fun k => k = b) w (w.setCell ⟨b, 0, none⟩ (.string q1)) := ob_set _ _ _
    generalize w.setCell ⟨b, 0, none⟩ (.string q1) = w1 at c1 b1 ⊢
    clear hn hc
    go_wp2_with fail
    refine (bytes_any b q1 x _ c1 (by omega)).mono ?_
    rintro e w2 (⟨w3, hx, rfl, b3, rfl⟩ | ⟨⟨pv, rfl⟩, hx, rfl⟩)
    · have c3 : CurAt (w3.setCell ⟨b, 0, none⟩ (.string (q1.extract x q1.size))) b (q1.extract x q1.size) := (c1.kept b3).set
      have b4 : Only (fun k => k = b) w (w3.setCell ⟨b, 0, none⟩ (.string (q1.extract x q1.size))) := (b1.trans (ob_any b3)).trans (ob_set _ _ _)
      have hz : (q1.extract x q1.size).size ≤ 1048576 := by simp; omega
      have HP : Hid (pieO q.data.toList = some ((q1.extract 0 x).data.toList, (q1.extract x q1.size).data.toList)) := by
        rw [extract_toList, extract0_toList]
        exact pieO_yes (pie_of HN.out (by simpa using hx))
      clear c1 b1 b3 HN
      go_wp2
      go_ret
      exact .inl ⟨_, _, rfl, HP, c3, hz, b4⟩
    · have HP : Hid (pieO q.data.toList = none) := pieO_no (no_pie_short HN.out (by simpa using hx))
      clear HN
      go_wp2
      exact ⟨rfl, .inr ⟨⟨_, rfl⟩, HP, b1⟩⟩
  · have HP : Hid (pieO q.data.toList = none) := pieO_no (no_pie_num hn)
    clear hn
    go_wp2
    exact ⟨rfl, .inr ⟨⟨_, rfl⟩, HP, Only.refl _ _⟩⟩
set_option maxRecDepth 100000 in
set_option maxHeartbeats 800000 in
theorem unfolded_any (z : Nat) (w : World) (hz : z ≤ 562949953421311) :
    Calls Try.prog 55 #[.int .i64 (z : Nat)] w fun e w' => e = .returned (.int .i64 (unfoldI z)) ∧ w = w' := by
  by_cases h : z % 2 = 1
  · have h1 : ((z : Int).tmod 2 == 1) = true := by
      have : (z : Int).tmod 2 = ((z % 2 : Nat) : Int) := rfl
      rw [this, h]; rfl
    have e1 : unfoldI z = -(((z : Int) + 1) / 2) := if_pos h
    rw [e1]
    have e2 : (-((z : Int) + 1)).tdiv 2 = -(((z : Int) + 1) / 2) := by rw [Int.neg_tdiv, Int.tdiv_eq_ediv_of_nonneg (by omega)]
    have e3 : wrap64 (-(((z : Int) + 1) / 2)) = -(((z : Int) + 1) / 2) := IntWalk.wrap64_in _ ⟨by omega, by omega⟩
    go_enter Try.func55, Try.ntmps55
    go_wp2
    go_ret
    exact ⟨ret_int (by first | rfl | (rw [e2, e3]) | (rw [e3]) | omega), rfl⟩
  · have h1 : ((z : Int).tmod 2 == 1) = false := by
      have : (z : Int).tmod 2 = ((z % 2 : Nat) : Int) := rfl
      have h2 : z % 2 = 0 := by omega
      rw [this, h2]; rfl
    have e1 : unfoldI z = (z : Int) / 2 := if_neg h
    rw [e1]
    have e2 : (z : Int).tdiv 2 = (z : Int) / 2 := Int.tdiv_eq_ediv_of_nonneg (by omega)
    have e3 : wrap64 ((z : Int) / 2) = (z : Int) / 2 := IntWalk.wrap64_in _ ⟨by omega, by omega⟩
    go_enter Try.func55, Try.ntmps55
    go_wp2
    go_ret
    exact ⟨ret_int (by first | rfl | (rw [e2, e3]) | (rw [e3]) | omega), rfl⟩
/-- What a cursor's call hands back. -/
def CallC (b : Nat) (q : ByteArray) (w : World) (e : Ending) (w' : World) : Prop :=
  (∃ (c : Cn) (q' : ByteArray), e = .returned (caV (caOf c)) ∧ Hid (callO q.data.toList = some (c, q'.data.toList)) ∧ CurAt w' b q' ∧ Only (fun k => k = b) w w') ∨ (Lack e ∧ Hid (callO q.data.toList = none) ∧ Only (fun k => k = b) w w')
set_option maxRecDepth 100000 in
set_option maxHeartbeats 4000000 in
theorem callC_any (b : Nat) (q0 : ByteArray) (w : World) (hc : CurAt w b q0) (s0 : q0.size ≤ 1048576) :
    Calls Try.prog 50 #[.pointer (some ⟨b, 0, none⟩)] w (CallC b q0 w) := by
  have hlt := hc.lt
  go_enter Try.func50, Try.ntmps50
  go_wp2_with fail
  obtain ⟨W0, hW, bW, zW, cW, fW⟩ := boxed w #[.int .i64 0, .string ⟨#[]⟩, .string ⟨#[]⟩, .int .i64 0, .int .i64 0, .string ⟨#[]⟩] 45
  simp only [hW]
  have c0 : CurAt W0 b q0 := hc.kept bW
  have b0 : Only (fun k => k = b) w W0 := ob_any bW
  have X0 : Hid (Blk W0 w.heap.size #[.int .i64 0, .string ⟨#[]⟩, .string ⟨#[]⟩, .int .i64 0, .int .i64 0, .string ⟨#[]⟩]) := ⟨by omega, cW, fW⟩
  have hne : ¬ w.heap.size = b := by omega
  clear hW bW zW cW fW hc
  refine (number_any b q0 _ c0 s0).mono ?_
  rintro e w1 (⟨k, q1, rfl, hn, rfl⟩ | ⟨⟨pv, rfl⟩, hn, rfl⟩)
  rotate_left 1
  · have HP : Hid (callO q0.data.toList = none) := by
      have e0 := numO_no hn
      unfold Hid
      simp only [callO, e0, Option.bind_none]
    clear hn X0
    go_wp2
    exact ⟨rfl, .inr ⟨⟨_, rfl⟩, HP, b0⟩⟩
  have H0 : Hid (numO q0.data.toList = some (k, q1.data.toList)) := numO_yes hn
  have hx0 : k ≤ 562949953421311 := hn.1
  have s1 : q1.size ≤ 1048576 := num_size hn s0
  have c1 : CurAt (_) b q1 := c0.set
  have b1 := b0.trans (ob_set b _ (.string q1))
  replace X0 := Hid.intro (X0.out.only (ob_set b _ (.string q1)) hne)
  revert c1 b1 X0
  generalize World.setCell _ ⟨b, 0, none⟩ (.string q1) = W1
  intro c1 b1 X0
  clear hn c0 b0
  go_wp2_with fail
  refine (pieceC_any b q1 _ c1 s1).mono ?_
  rintro e W2 (⟨p, q2, rfl, H1, c2, s2, k2⟩ | ⟨⟨pv, rfl⟩, hn, k2⟩)
  rotate_left 1
  · have HP : Hid (callO q0.data.toList = none) := by
      have e1 := hn.out
      unfold Hid
      simp only [callO, H0.out, e1, Option.bind_some, Option.bind_none]
    have b2 := b1.trans k2
    clear hn X0
    go_wp2
    exact ⟨rfl, .inr ⟨⟨_, rfl⟩, HP, b2⟩⟩
  have b2 := b1.trans k2
  replace X0 := Hid.intro (X0.out.only k2 hne)
  clear c1 b1 k2
  go_wp2_with fail
  refine (pieceC_any b q2 _ c2 s2).mono ?_
  rintro e W3 (⟨to, q3, rfl, H2, c3, s3, k3⟩ | ⟨⟨pv, rfl⟩, hn, k3⟩)
  rotate_left 1
  · have HP : Hid (callO q0.data.toList = none) := by
      have e2 := hn.out
      unfold Hid
      simp only [callO, H0.out, H1.out, e2, Option.bind_some, Option.bind_none]
    have b3 := b2.trans k3
    clear hn X0
    go_wp2
    exact ⟨rfl, .inr ⟨⟨_, rfl⟩, HP, b3⟩⟩
  have b3 := b2.trans k3
  replace X0 := Hid.intro (X0.out.only k3 hne)
  clear c2 b2 k3
  go_wp2_with fail
  refine (number_any b q3 _ c3 s3).mono ?_
  rintro e w1 (⟨n, q4, rfl, hn, rfl⟩ | ⟨⟨pv, rfl⟩, hn, rfl⟩)
  rotate_left 1
  · have HP : Hid (callO q0.data.toList = none) := by
      have e3 := numO_no hn
      unfold Hid
      simp only [callO, H0.out, H1.out, H2.out, e3, Option.bind_some, Option.bind_none]
    clear hn X0
    go_wp2
    exact ⟨rfl, .inr ⟨⟨_, rfl⟩, HP, b3⟩⟩
  have H3 : Hid (numO q3.data.toList = some (n, q4.data.toList)) := numO_yes hn
  have hx3 : n ≤ 562949953421311 := hn.1
  have s4 : q4.size ≤ 1048576 := num_size hn s3
  have c4 : CurAt (_) b q4 := c3.set
  have b4 := b3.trans (ob_set b _ (.string q4))
  replace X0 := Hid.intro (X0.out.only (ob_set b _ (.string q4)) hne)
  revert c4 b4 X0
  generalize World.setCell _ ⟨b, 0, none⟩ (.string q4) = W4
  intro c4 b4 X0
  clear hn c3 b3
  go_wp2_with fail
  refine (unfolded_any n _ hx3).mono ?_
  rintro e wq ⟨rfl, rfl⟩
  go_wp2_with fail
  refine (number_any b q4 _ c4 s4).mono ?_
  rintro e w1 (⟨m, q5, rfl, hn, rfl⟩ | ⟨⟨pv, rfl⟩, hn, rfl⟩)
  rotate_left 1
  · have HP : Hid (callO q0.data.toList = none) := by
      have e4 := numO_no hn
      unfold Hid
      simp only [callO, H0.out, H1.out, H2.out, H3.out, e4, Option.bind_some, Option.bind_none]
    clear hn X0
    go_wp2
    exact ⟨rfl, .inr ⟨⟨_, rfl⟩, HP, b4⟩⟩
  have H4 : Hid (numO q4.data.toList = some (m, q5.data.toList)) := numO_yes hn
  have hx4 : m ≤ 562949953421311 := hn.1
  have s5 : q5.size ≤ 1048576 := num_size hn s4
  have c5 : CurAt (_) b q5 := c4.set
  have b5 := b4.trans (ob_set b _ (.string q5))
  replace X0 := Hid.intro (X0.out.only (ob_set b _ (.string q5)) hne)
  revert c5 b5 X0
  generalize World.setCell _ ⟨b, 0, none⟩ (.string q5) = W5
  intro c5 b5 X0
  clear hn c4 b4
  go_wp2_with fail
  refine (unfolded_any m _ hx4).mono ?_
  rintro e wq ⟨rfl, rfl⟩
  go_wp2_with fail
  refine (pieceC_any b q5 _ c5 s5).mono ?_
  rintro e W6 (⟨d, q6, rfl, H5, c6, s6, k6⟩ | ⟨⟨pv, rfl⟩, hn, k6⟩)
  rotate_left 1
  · have HP : Hid (callO q0.data.toList = none) := by
      have e5 := hn.out
      unfold Hid
      simp only [callO, H0.out, H1.out, H2.out, H3.out, H4.out, e5, Option.bind_some, Option.bind_none]
    have b6 := b5.trans k6
    clear hn X0
    go_wp2
    exact ⟨rfl, .inr ⟨⟨_, rfl⟩, HP, b6⟩⟩
  have b6 := b5.trans k6
  replace X0 := Hid.intro (X0.out.only k6 hne)
  clear c5 b5 k6
  have HP : Hid (callO q0.data.toList = some (⟨k, p.data.toList, to.data.toList, n, m, d.data.toList⟩, q6.data.toList)) := by
    unfold Hid
    simp only [callO, H0.out, H1.out, H2.out, H3.out, H4.out, H5.out, Option.bind_some]
  have hg := X0.out.hi
  have k0 : W6.cell? ⟨w.heap.size, 0, none⟩ = some (.int .i64 0) := X0.out.cell 0
  have f0 : W6.frozen? ⟨w.heap.size, 0, none⟩ = false := X0.out.fro 0
  have k1 : W6.cell? ⟨w.heap.size, 1, none⟩ = some (.string ⟨#[]⟩) := X0.out.cell 1
  have f1 : W6.frozen? ⟨w.heap.size, 1, none⟩ = false := X0.out.fro 1
  have k2 : W6.cell? ⟨w.heap.size, 2, none⟩ = some (.string ⟨#[]⟩) := X0.out.cell 2
  have f2 : W6.frozen? ⟨w.heap.size, 2, none⟩ = false := X0.out.fro 2
  have k3 : W6.cell? ⟨w.heap.size, 3, none⟩ = some (.int .i64 0) := X0.out.cell 3
  have f3 : W6.frozen? ⟨w.heap.size, 3, none⟩ = false := X0.out.fro 3
  have k4 : W6.cell? ⟨w.heap.size, 4, none⟩ = some (.int .i64 0) := X0.out.cell 4
  have f4 : W6.frozen? ⟨w.heap.size, 4, none⟩ = false := X0.out.fro 4
  have k5 : W6.cell? ⟨w.heap.size, 5, none⟩ = some (.string ⟨#[]⟩) := X0.out.cell 5
  have f5 : W6.frozen? ⟨w.heap.size, 5, none⟩ = false := X0.out.fro 5
  have HB := Hid.intro b6
  have HC := Hid.intro c6
  clear X0 b6 c6 H0 H1 H2 H3 H4 H5
  have HV : caV (caOf ⟨k, p.data.toList, to.data.toList, n, m, d.data.toList⟩) = .agg #[.int .i64 k, .string p, .string to, .int .i64 (unfoldI n), .int .i64 (unfoldI m), .string d] := by
    simp only [caV, caOf, ba_of]
  go_wp2
  have HO := set6_only w.heap.size W6 (.int .i64 k) (.string p) (.string to) (.int .i64 (unfoldI n)) (.int .i64 (unfoldI m)) (.string d)
  refine bodyPost_ret (v := .agg #[.int .i64 k, .string p, .string to, .int .i64 (unfoldI n), .int .i64 (unfoldI m), .string d]) (by simp [results, Try.results50, go_sem, k0, k1, k2, k3, k4, k5]) rfl (.inl ⟨_, _, congrArg _ HV.symm, HP, HC.out.only HO (fun h => hne h.symm), HB.out.then HO (fun x hx h => by omega)⟩)
end Go.Proofs.Ythicdhjipebghaa
