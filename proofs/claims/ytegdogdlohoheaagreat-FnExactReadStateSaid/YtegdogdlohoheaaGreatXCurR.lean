/- A cursor's result. -/
import Derived.Test.YtegdogdlohoheaaGreatTCurP
import Derived.Test.YtegdogdlohoheaaGreatTRes
import Derived.Deep.Cut
namespace Go.Proofs.YtegdogdlohoheaaGreat
open Go.RowKit
set_option linter.unusedVariables false
theorem whole_extract (q : ByteArray) : q.extract 0 q.size = q := by
 have h : (q.extract 0 q.size).data.toList = q.data.toList := by
  rw [extract0_toList]
  exact List.take_of_length_le (by simp)
 have h2 := congrArg (fun l => (⟨l.toArray⟩ : ByteArray)) h
 simp only [ba_of] at h2
 exact h2
theorem rest_extract (q : ByteArray) : (q.extract q.size q.size).size = 0 := by simp
/-- What a cursor's result hands back. -/
def ResC (b : Nat) (q : ByteArray) (w : World) (e : Ending) (w' : World) : Prop :=
 (∃ (x : Nat) (d q' : ByteArray), e = .returned (reV ⟨x, d⟩) ∧ Hid (numO q.data.toList = some (x, d.data.toList)) ∧ q'.size = 0 ∧ CurAt w' b q' ∧ Only (fun k => k = b) w w') ∨ (Lack e ∧ Hid (numO q.data.toList = none) ∧ Only (fun k => k = b) w w')
set_option maxRecDepth 100000 in
set_option maxHeartbeats 2000000 in
theorem resC_any (b : Nat) (q0 : ByteArray) (w : World) (hc : CurAt w b q0) (s0 : q0.size ≤ 1048576) :
  Calls Tryz.prog 66 #[.pointer (some ⟨b, 0, none⟩)] w (ResC b q0 w) := by
 have hlt := hc.lt
 go_enter Tryz.func66, Tryz.ntmps66
 go_wp2_with fail
 obtain ⟨W0, hW, bW, zW, cW, fW⟩ := boxed w #[.int .i64 0, .string ⟨#[]⟩] 57
 simp only [hW]
 have c0 : CurAt W0 b q0 := hc.kept bW
 have b0 : Only (fun k => k = b) w W0 := ob_any bW
 have X0 : Hid (Blk W0 w.heap.size #[.int .i64 0, .string ⟨#[]⟩]) := ⟨by omega, cW, fW⟩
 have hne : ¬ w.heap.size = b := by omega
 clear hW bW zW cW fW hc
 refine (number_any b q0 _ c0 s0).mono ?_
 rintro e w1 (⟨k, q1, rfl, hn, rfl⟩ | ⟨⟨pv, rfl⟩, hn, rfl⟩)
 rotate_left 1
 ·have HP : Hid (numO q0.data.toList = none) := numO_no hn
  clear hn X0
  go_wp2
  exact ⟨rfl, .inr ⟨⟨_, rfl⟩, HP, b0⟩⟩
 have H0 : Hid (numO q0.data.toList = some (k, q1.data.toList)) := numO_yes hn
 have s1 : q1.size ≤ 1048576 := num_size hn s0
 have c1 : CurAt (_) b q1 := c0.set
 have b1 := b0.trans (ob_set b _ (.string q1))
 replace X0 := Hid.intro (X0.out.only (ob_set b _ (.string q1)) hne)
 revert c1 b1 X0
 generalize World.setCell _ ⟨b, 0, none⟩ (.string q1) = W1
 intro c1 b1 X0
 clear hn c0 b0
 have k1 := c1.cell
 go_wp2_with fail
 clear k1
 refine (bytes_any b q1 q1.size _ c1 s1).mono ?_
 rintro e w2 (⟨w3, hx, rfl, b3, rfl⟩ | ⟨⟨pv, rfl⟩, hx, rfl⟩)
 rotate_left 1
 ·exact absurd (Nat.le_refl _) hx
 rw [whole_extract]
 have c3 : CurAt (w3.setCell ⟨b, 0, none⟩ (.string (q1.extract q1.size q1.size))) b (q1.extract q1.size q1.size) := (c1.kept b3).set
 have b4 : Only (fun k => k = b) w (w3.setCell ⟨b, 0, none⟩ (.string (q1.extract q1.size q1.size))) := (b1.trans (ob_any b3)).trans (ob_set _ _ _)
 replace X0 := Hid.intro ((X0.out.kept b3).only (ob_set b _ (.string (q1.extract q1.size q1.size))) hne)
 have hz := rest_extract q1
 revert c3 b4 X0 hz
 generalize q1.extract q1.size q1.size = q'
 generalize World.setCell _ ⟨b, 0, none⟩ (.string q') = W3
 intro c3 b4 X0 hz
 clear c1 b1 b3 hx
 have k0 : W3.cell? ⟨w.heap.size, 0, none⟩ = some (.int .i64 0) := X0.out.cell 0
 have f0 : W3.frozen? ⟨w.heap.size, 0, none⟩ = false := X0.out.fro 0
 have k1 : W3.cell? ⟨w.heap.size, 1, none⟩ = some (.string ⟨#[]⟩) := X0.out.cell 1
 have f1 : W3.frozen? ⟨w.heap.size, 1, none⟩ = false := X0.out.fro 1
 have on1 : Only (fun x => x = w.heap.size) W3 ((W3.setCell ⟨w.heap.size, 0, none⟩ (.int .i64 k)).setCell ⟨w.heap.size, 1, none⟩ (.string q1)) := ((Only.refl (fun x => x = w.heap.size) W3).setCell (p := ⟨w.heap.size, 0, none⟩) rfl _).setCell (p := ⟨w.heap.size, 1, none⟩) rfl _
 have c5 := c3.only on1 (fun h => hne h.symm)
 have b5 : Only (fun k => k = b) w ((W3.setCell ⟨w.heap.size, 0, none⟩ (.int .i64 k)).setCell ⟨w.heap.size, 1, none⟩ (.string q1)) := b4.then on1 (fun k hk h => by omega)
 clear c3 b4 on1 X0
 go_wp2
 exact bodyPost_ret (v := reV ⟨k, q1⟩) (by simp [results, Tryz.results66, go_sem, k0, k1]) rfl (.inl ⟨k, q1, q', rfl, H0, hz, c5, b5⟩)
end Go.Proofs.YtegdogdlohoheaaGreat
