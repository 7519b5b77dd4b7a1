/- A cursor's count; one more name at the end of a row of the call's own. -/
import Derived.Test.YtegdogdlohoheaaGreatTCurP
import Derived.Test.YtegdogdlohoheaaGreatPReg
import Derived.Test.YtegdogdlohoheaaGreatVRow
import Derived.Test.YtegdogdlohoheaaGreatTVars
import Derived.Deep.AppendLies
import Derived.Deep.Cut
namespace Go.Proofs.YtegdogdlohoheaaGreat
open Go.RowKit
set_option linter.unusedVariables false
/-- A count at the front that is not above most. -/
noncomputable def cntO (most : Nat) (l : List UInt8) : Option (Nat × List UInt8) := (numO l).bind fun x => if x.1 ≤ most then some x else none
set_option maxRecDepth 100000 in
set_option maxHeartbeats 800000 in
theorem countC_any (b most : Nat) (q : ByteArray) (w : World) (hc : CurAt w b q) (hs : q.size ≤ 1048576) :
  Calls Tryz.prog 48 #[.pointer (some ⟨b, 0, none⟩), .int .i64 (most : Nat)] w fun e w' =>
   (∃ (n : Nat) (q' : ByteArray), e = .returned (.int .i64 (n : Nat)) ∧ Hid (cntO most q.data.toList = some (n, q'.data.toList)) ∧ n ≤ most ∧ CurAt w' b q' ∧ q'.size ≤ 1048576 ∧ Only (fun k => k = b) w w') ∨ (Lack e ∧ Hid (cntO most q.data.toList = none) ∧ Only (fun k => k = b) w w') := by
 have hlt := hc.lt
 go_enter Tryz.func48, Tryz.ntmps48
 go_wp2_with fail
 refine (number_any b q _ hc hs).mono ?_
 rintro e w1 (⟨x, q1, rfl, hn, rfl⟩ | ⟨⟨pv, rfl⟩, hn, rfl⟩)
 ·have hsz := num_size hn hs
  have c1 : CurAt (w.setCell ⟨b, 0, none⟩ (.string q1)) b q1 := hc.set
  have b1 : Only (fun k => k = b) w (w.setCell ⟨b, 0, none⟩ (.string q1)) := ob_set _ _ _
  have e1 := numO_yes hn
  by_cases hm : x ≤ most
  ·have g1 : ¬ (most : Int) < (x : Int) := by omega
   have HP : Hid (cntO most q.data.toList = some (x, q1.data.toList)) := by
    unfold Hid cntO
    rw [e1, Option.bind_some, if_pos hm]
   clear e1 hn hc
   generalize w.setCell ⟨b, 0, none⟩ (.string q1) = w1 at c1 b1 ⊢
   go_wp2
   go_ret
   exact .inl ⟨x, q1, rfl, HP, hm, c1, hsz, b1⟩
  ·have g1 : (most : Int) < (x : Int) := by omega
   have HP : Hid (cntO most q.data.toList = none) := by
    unfold Hid cntO
    rw [e1, Option.bind_some, if_neg hm]
   clear e1 hn hc
   generalize w.setCell ⟨b, 0, none⟩ (.string q1) = w1 at c1 b1 ⊢
   go_wp2
   exact ⟨rfl, .inr ⟨⟨_, rfl⟩, HP, b1⟩⟩
 ·have HP : Hid (cntO most q.data.toList = none) := by
   unfold Hid cntO
   rw [numO_no hn]
   rfl
  clear hn
  go_wp2
  exact ⟨rfl, .inr ⟨⟨_, rfl⟩, HP, Only.refl _ _⟩⟩
theorem Tryz.infoDi : (Tryz.prog.info? 102).map (fun i => (i.zero, i.size, i.bytes)) = some (some (.agg #[.string ⟨#[]⟩, .int .i64 0]), 2, 24) := by kernel_rfl
/-- append of names onto a row of the call's own, inside a region that draws its order. -/
theorem step_Di {w : World} {ops : Array Oper} {o : Oper} {a : Act} {KK : Act → World → Prop} {Q : Exit → Act → World → Prop} {E : Prop} (hgd : o.guard = none) (s x : Operand)
  (ho : o.op = .call { callee := .builtin .append, args := #[s, x], argTypes := #[74, 74] })
  (base : Nat) (v : Value) (L : List Di) (d : Di) (hs : a.eval s = v) (hown : Own diE 102 w base v L) (ad : Addr) (c : Nat) (hx : a.eval x = .slice (some ad) 1 c)
  (hnews : ∀ j u, (diE.f [d])[j]? = some u → w.cell? (ad.add j) = some u) (hlen : L.length ≤ 2000000) (hbase : base ≤ w.heap.size)
  (h : ∀ g cap' w', Own diE 102 w' base (.slice (some ⟨g, 0, none⟩) (L ++ [d]).length cap') (L ++ [d]) → Only (fun k => some k = v.ownBlock) w w' → (v.ownBlock = some g ∨ g = w.heap.size) → g < w'.heap.size →
   KK (a.put o.dst (.slice (some ⟨g, 0, none⟩) (L.length + 1) cap')) w') : if Region.wanted o (yielded ops a.tmps) = true then Oper.wp Tryz.prog o a w KK Q else E := by
 obtain ⟨i0, hi, hz0, hz1, hz2⟩ := info_parts Tryz.infoDi
 refine step_append_lies w hgd s x 74 ho base 102 i0 (.agg #[.string ⟨#[]⟩, .int .i64 0]) 2 24 Tryz.underlying74 hi hz0 hz1 hz2 rfl (by decide) v L.length (diE.f L) hs hown ad 1 c (diE.f [d]) hx (diE.f_len [d]) hnews (diE.f_one [d]) (by omega) (by unfold maxLen; omega) (by omega) hbase w.heap.size rfl ?_
 intro g cap' w' hown' hgrow hloc hg
 refine h g cap' w' ?_ (grown_only hgrow) hloc hg
 have e : (L ++ [d]).length = L.length + 1 := by simp
 unfold Own
 rw [e, diE.f_append]
 exact hown'
end Go.Proofs.YtegdogdlohoheaaGreat
