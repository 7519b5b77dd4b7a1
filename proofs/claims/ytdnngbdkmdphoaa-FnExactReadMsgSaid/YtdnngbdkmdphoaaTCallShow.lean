/- What is shown of a call, on both sides. -/
import Derived.Test.YtdnngbdkmdphoaaTCall
import Derived.Test.YtdnngbdkmdphoaaTShow
import Derived.Test.YtdnngbdkmdphoaaPReg
namespace Go.Proofs.Ytdnngbdkmdphoaa
open Go.RowKit
set_option linter.unusedVariables false
/-- What is shown of a call. -/
def shC (c : Ca) : ByteArray := if callP c then varS c.k.toNat ++ piece c.p ++ piece c.to ++ varS (foldN c.n) ++ varS (foldN c.m) ++ piece c.d else ByteArray.empty
theorem shC_yes {c : Ca} (h : callP c) : shC c = varS c.k.toNat ++ piece c.p ++ piece c.to ++ varS (foldN c.n) ++ varS (foldN c.m) ++ piece c.d := if_pos h
theorem shC_no {c : Ca} (h : ¬ callP c) : shC c = ByteArray.empty := if_neg h
theorem stepB {w a b : World} (h : Below w.heap.size w a) (k : Below a.heap.size a b) : Below w.heap.size w b := h.trans (k.mono h.size)
def SC (n : Nat) (p to : ByteArray) (x y : Int) (d : ByteArray) (b : Nat) (w' : World) : Prop := w'.cell? ⟨b, 0, none⟩ = some (.int .i64 n) ∧ w'.cell? ⟨b, 1, none⟩ = some (.string p) ∧ w'.cell? ⟨b, 2, none⟩ = some (.string to) ∧ w'.cell? ⟨b, 3, none⟩ = some (.int .i64 x) ∧ w'.cell? ⟨b, 4, none⟩ = some (.int .i64 y) ∧ w'.cell? ⟨b, 5, none⟩ = some (.string d)
theorem two_vars (a b : Nat) : (⟨(varsL [a, b]).toArray⟩ : ByteArray) = varS a ++ varS b := by
  unfold varS
  show _ = (ByteArray.mk (varL a).toArray ++ ByteArray.mk (varL b).toArray)
  rw [ByteArray.mk_append_mk]
  congr 1
  simp [varsL]
theorem varsL2_le (a b : Nat) : (⟨(varsL [a, b]).toArray⟩ : ByteArray).size ≤ 14 := by
  have h1 := varS_le a
  have h2 := varS_le b
  rw [two_vars, ByteArray.size_append]; omega
theorem two_at {a b : Nat} (p : Nat → Prop) (ha : p a) (hb : p b) (j : Nat) (h : j < [a, b].length) : p [a, b][j] := by
  match j, h with
  | 0, _ => exact ha
  | 1, _ => exact hb
theorem two_cells {w : World} {g : Nat} {a b : Nat} (hc : ∀ o, w.cell? ⟨g, o, none⟩ = #[Value.int .i64 (a : Nat), .int .i64 (b : Nat)][o]?) (j : Nat) (h : j < [a, b].length) : w.cell? ⟨g, 0 + j, none⟩ = some (.int .i64 ([a, b][j] : Nat)) := by
  rw [Nat.zero_add, hc]
  match j, h with
  | 0, _ => rfl
  | 1, _ => rfl
end Go.Proofs.Ytdnngbdkmdphoaa
