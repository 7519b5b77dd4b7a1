/- A cursor's piece and call; a number that was laid between the others. -/
import Derived.Test.YtdnngbdkmdphoaaTCur
import Derived.Test.YtdnngbdkmdphoaaTCallShow
namespace Go.Proofs.Ytdnngbdkmdphoaa
open Go.RowKit
/-- The number that is laid at z. -/
def unfoldI (z : Nat) : Int := if z % 2 = 1 then -(((z : Int) + 1) / 2) else (z : Int) / 2
theorem fold_unfold (z : Nat) : foldN (unfoldI z) = z := by
  unfold unfoldI foldN
  split <;> split <;> omega
/-- What a call is made of. -/
structure Cn where
  k : Nat
  p : List UInt8
  to : List UInt8
  n : Nat
  m : Nat
  d : List UInt8
def caOf (c : Cn) : Ca := ⟨c.k, ⟨c.p.toArray⟩, ⟨c.to.toArray⟩, unfoldI c.n, unfoldI c.m, ⟨c.d.toArray⟩⟩
/-- A call at the front, and what is left. -/
noncomputable def callO (l : List UInt8) : Option (Cn × List UInt8) :=
  (numO l).bind fun a => (pieO a.2).bind fun b => (pieO b.2).bind fun c => (numO c.2).bind fun d => (numO d.2).bind fun e => (pieO e.2).bind fun f => some (⟨a.1, b.1, c.1, d.1, e.1, f.1⟩, f.2)
theorem ob_any {b : Nat} {w w' : World} (h : Below w.heap.size w w') : Only (fun k => k = b) w w' := Below.any h
theorem ob_set (b : Nat) (w : World) (v : Value) : Only (fun k => k = b) w (w.setCell ⟨b, 0, none⟩ v) := (Only.refl (fun k => k = b) w).setCell (p := ⟨b, 0, none⟩) rfl v
theorem CurAt.only {w w' : World} {b : Nat} {q : ByteArray} {S : Nat → Prop} (h : CurAt w b q) (ho : Only S w w') (hs : ¬ S b) : CurAt w' b q :=
  ⟨Nat.lt_of_lt_of_le h.lt ho.size, (ho.cell h.lt hs).trans h.cell, (ho.frozen h.lt hs).trans h.fro⟩
theorem set6_only (g : Nat) (w : World) (a b c d e f : Value) : Only (fun x => x = g) w ((((((w.setCell ⟨g, 0, none⟩ a).setCell ⟨g, 1, none⟩ b).setCell ⟨g, 2, none⟩ c).setCell ⟨g, 3, none⟩ d).setCell ⟨g, 4, none⟩ e).setCell ⟨g, 5, none⟩ f) :=
  ((((((Only.refl (fun x => x = g) w).setCell (p := ⟨g, 0, none⟩) rfl a).setCell (p := ⟨g, 1, none⟩) rfl b).setCell (p := ⟨g, 2, none⟩) rfl c).setCell (p := ⟨g, 3, none⟩) rfl d).setCell (p := ⟨g, 4, none⟩) rfl e).setCell (p := ⟨g, 5, none⟩) rfl f
theorem num_size {q q' : ByteArray} {x : Nat} (h : Num q.data.toList x q'.data.toList) (hs : q.size ≤ 1048576) : q'.size ≤ 1048576 := by
  have hl : q'.size < q.size := by simpa using num_le h
  omega
theorem ba_of (s : ByteArray) : (⟨s.data.toList.toArray⟩ : ByteArray) = s := by
  obtain ⟨⟨l⟩⟩ := s
  rfl
set_option linter.unusedVariables false
set_option maxRecDepth 100000 in
set_option maxHeartbeats 800000 in
theorem pieceC_any (b : Nat) (q : ByteArray) (w : World) (hc : CurAt w b q) (hs : q.size ≤ 1048576) :
    Calls Try.prog 59 #[.pointer (some ⟨b, 0, none⟩)] w fun e w' =>
      (∃ (p q' : ByteArray), e = .returned (.string p) ∧ Hid (pieO q.data.toList = some (p.data.toList, q'.data.toList)) ∧ CurAt w' b q' ∧ q'.size ≤ 1048576 ∧ Only (fun k => k = b) w w') ∨ (Lack e ∧ Hid (pieO q.data.toList = none) ∧ Only (fun k => k = b) w w') := by
  have hlt := hc.lt
  go_enter Try.func59, Try.ntmps59
  go_wp2_with fail
  refine (number_any b q _ hc hs).mono ?_
  rintro e w1 (⟨x, q1, rfl, hn, rfl⟩ | ⟨⟨pv, rfl⟩, hn, rfl⟩)
  · have HN := Hid.intro hn
    have hl : q1.size < q.size := by simpa using num_le hn
    have c1 : CurAt (w.setCell ⟨b, 0, none⟩ (.string q1)) b q1 := hc.set
    have b1 : Only (fun k => k = b) w (w.setCell ⟨b, 0, none⟩ (.string q1)) := ob_set _ _ _
    generalize w.setCell ⟨b, 0, none⟩ (.string q1) = w1 at c1 b1 ⊢
    clear hn hc
    go_wp2_with fail
    refine (bytes_any b q1 x _ c1 (by omega)).mono ?_
    rintro e w2 (⟨w3, hx, rfl, b3, rfl⟩ | ⟨⟨pv, rfl⟩, hx, rfl⟩)
    · have c3 : CurAt (w3.setCell ⟨b, 0, none⟩ (.string (q1.extract x q1.size))) b (q1.extract x q1.size) := (c1.kept b3).set
      have b4 : Only (fun k => k = b) w (w3.setCell ⟨b, 0, none⟩ (.string (q1.extract x q1.size))) := (b1.trans (ob_any b3)).trans (ob_set _ _ _)
      have hz : (q1.extract x q1.size).size ≤ 1048576 := by simp; omega
      have HP : Hid (pieO q.data.toList = some ((q1.extract 0 x).data.toList, (q1.extract x q1.size).data.toList)) := by
        rw [extract_toList, extract0_toList]
        exact pieO_yes (pie_of HN.out (by simpa using hx))
      clear c1 b1 b3 HN
      go_wp2
      go_ret
      exact .inl ⟨_, _, rfl, HP, c3, hz, b4⟩
    · have HP : Hid (pieO q.data.toList = none) := pieO_no (no_pie_short HN.out (by simpa using hx))
      clear HN
      go_wp2
      exact ⟨rfl, .inr ⟨⟨_, rfl⟩, HP, b1⟩⟩
  · have HP : Hid (pieO q.data.toList = none) := pieO_no (no_pie_num hn)
    clear hn
    go_wp2
    exact ⟨rfl, .inr ⟨⟨_, rfl⟩, HP, Only.refl _ _⟩⟩
/-- What a cursor's call hands back. -/
def CallC (b : Nat) (q : ByteArray) (w : World) (e : Ending) (w' : World) : Prop :=
  (∃ (c : Cn) (q' : ByteArray), e = .returned (caV (caOf c)) ∧ Hid (callO q.data.toList = some (c, q'.data.toList)) ∧ CurAt w' b q' ∧ Only (fun k => k = b) w w') ∨ (Lack e ∧ Hid (callO q.data.toList = none) ∧ Only (fun k => k = b) w w')
end Go.Proofs.Ytdnngbdkmdphoaa
