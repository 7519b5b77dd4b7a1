/- A cursor over a text: its number, its bytes. Where a part lacks it panics. -/
import Derived.Test.YtdnngbdkmdphoaaTVar
import Derived.Test.YtdnngbdkmdphoaaTNum
import Derived.Test.YtdnngbdkmdphoaaTClone
import Derived.Defers
namespace Go.Proofs.Ytdnngbdkmdphoaa
open Go.RowKit
set_option linter.unusedVariables false
/-- The panic of a cursor. -/
def Lack (e : Ending) : Prop := ∃ pv : Value, e = .panicked [{ v := .iface 9 pv, recovered := false }]
/-- The cursor in block b stands ahead of q. -/
structure CurAt (w : World) (b : Nat) (q : ByteArray) : Prop where
  lt : b < w.heap.size
  cell : w.cell? ⟨b, 0, none⟩ = some (.string q)
  fro : w.frozen? ⟨b, 0, none⟩ = false
set_option maxRecDepth 100000 in
set_option maxHeartbeats 800000 in
theorem number_any (b : Nat) (q : ByteArray) (w : World) (hc : CurAt w b q) (hs : q.size ≤ 1048576) :
    Calls Try.prog 56 #[.pointer (some ⟨b, 0, none⟩)] w fun e w' =>
      (∃ (x : Nat) (q' : ByteArray), e = .returned (.int .i64 x) ∧ Num q.data.toList x q'.data.toList ∧ w' = w.setCell ⟨b, 0, none⟩ (.string q')) ∨ (Lack e ∧ (∀ x r, ¬ Num q.data.toList x r) ∧ w' = w) := by
  obtain ⟨hlt, hcell, hfro⟩ := hc
  go_enter Try.func56, Try.ntmps56
  go_wp2_with fail
  refine (implReadVar_any q _ hs).mono ?_
  rintro e w1 ⟨x, k, rfl, hrv, rfl⟩
  have HR := Hid.intro hrv
  have hk : k ≤ q.size := by
    rcases hrv with ⟨_, _, h, _⟩ | ⟨_, h, _⟩
    · simpa using h
    · omega
  clear hrv
  by_cases h0 : k = 0
  · subst h0
    go_wp2
    first | exact ⟨rfl, .inr ⟨⟨_, rfl⟩, rv_none_num HR.out, rfl⟩⟩ | exact .inr ⟨⟨_, rfl⟩, rv_none_num HR.out, rfl⟩ | (simp [bodyPost]; exact .inr ⟨⟨_, rfl⟩, rv_none_num HR.out, rfl⟩)
  · have h0' : ((k : Int) == 0) = false := by simp; omega
    have h1 : (0 : Int) ≤ (k : Int) ∧ (k : Int) ≤ (q.size : Int) := by omega
    go_wp2
    go_ret
    exact .inl ⟨x, q.extract k q.size, rfl, by rw [extract_toList]; exact num_of_rv HR.out (by omega), rfl⟩
theorem lack_bytes {q : ByteArray} {n : Nat} (h : ¬ n ≤ q.size) : ¬ n ≤ q.data.toList.length := by simpa using h
set_option maxRecDepth 100000 in
set_option maxHeartbeats 800000 in
theorem bytes_any (b : Nat) (q : ByteArray) (n : Nat) (w : World) (hc : CurAt w b q) (hs : q.size ≤ 1048576) :
    Calls Try.prog 63 #[.pointer (some ⟨b, 0, none⟩), .int .i64 (n : Nat)] w fun e w' =>
      (∃ (w1 : World), n ≤ q.size ∧ e = .returned (.string (q.extract 0 n)) ∧ Below w.heap.size w w1 ∧ w' = w1.setCell ⟨b, 0, none⟩ (.string (q.extract n q.size))) ∨ (Lack e ∧ ¬ n ≤ q.size ∧ w' = w) := by
  obtain ⟨hlt, hcell, hfro⟩ := hc
  by_cases hn : n ≤ q.size
  · have hn1 : ¬ (q.size : Int) < (n : Int) := by omega
    have h1 : (0 : Int) ≤ (n : Int) ∧ (n : Int) ≤ (q.size : Int) := by omega
    go_enter Try.func63, Try.ntmps63
    go_wp2_with fail
    refine (clone_any (q.extract 0 n) _ (by simp; omega)).mono ?_
    rintro e w1 ⟨rfl, b1⟩
    have c1 := (b1.cell (p := ⟨b, 0, none⟩) hlt).trans hcell
    have f1 := (b1.frozen (p := ⟨b, 0, none⟩) hlt).trans hfro
    clear hcell hfro
    go_wp2
    go_ret
    exact .inl ⟨w1, hn, rfl, b1, rfl⟩
  · have hn1 : (q.size : Int) < (n : Int) := by omega
    go_enter Try.func63, Try.ntmps63
    go_wp2
    first | exact ⟨rfl, .inr ⟨⟨_, rfl⟩, hn, rfl⟩⟩ | exact .inr ⟨⟨_, rfl⟩, hn, rfl⟩ | (simp [bodyPost]; exact .inr ⟨⟨_, rfl⟩, hn, rfl⟩)
theorem CurAt.set {w : World} {b : Nat} {q q' : ByteArray} (h : CurAt w b q) : CurAt (w.setCell ⟨b, 0, none⟩ (.string q')) b q' := by
  obtain ⟨h1, h2, h3⟩ := h
  refine ⟨by simpa using h1, ?_, ?_⟩
  · rw [World.cell?_setCell_same _ _ _ h2]
  · rw [World.frozen?_setCell]; exact h3
theorem CurAt.kept {w w' : World} {b : Nat} {q : ByteArray} (h : CurAt w b q) (hb : Below w.heap.size w w') : CurAt w' b q :=
  ⟨Nat.lt_of_lt_of_le h.lt hb.size, (hb.cell (p := ⟨b, 0, none⟩) h.lt).trans h.cell, (hb.frozen (p := ⟨b, 0, none⟩) h.lt).trans h.fro⟩
theorem CurAt.inB {w : World} {b : Nat} {q q' : ByteArray} (h : CurAt w b q) : Below b w (w.setCell ⟨b, 0, none⟩ (.string q')) := (Below.refl b w).setCell (p := ⟨b, 0, none⟩) (Nat.le_refl _) _
end Go.Proofs.Ytdnngbdkmdphoaa
