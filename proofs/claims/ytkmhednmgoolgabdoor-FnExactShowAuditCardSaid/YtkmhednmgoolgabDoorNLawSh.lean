/- The law ShowAudit. -/
import Derived.Test.YtkmhednmgoolgabDoorNLawN
import Derived.Test.YtkmhednmgoolgabDoorNShowS
import Derived.Test.YtkmhednmgoolgabDoorNShowI
namespace Go.Proofs.YtkmhednmgoolgabDoor
open Go.RowKit
set_option linter.unusedVariables false
theorem New.row {α : Type} {E : Enc α} {T : TypeId} {w w' : World} {v : Value} {L : List α} (h : New E T w w' v L) : Row E w' w'.heap.size v L := h.own.rowAll
theorem Row.on {α : Type} {E : Enc α} {u u' : World} {v : Value} {L : List α} (h : Row E u u.heap.size v L) (hb : Below u.heap.size u u') : Row E u' u'.heap.size v L := (h.kept hb).up hb.size
set_option maxRecDepth 100000 in
set_option maxHeartbeats 8000000 in
theorem showAudit_law (L : List Nt) (v : Value) (fr : Int) (w : World) (hr : Row ntE w w.heap.size v L) (hlo : -9223372036854775808 ≤ fr) (hhi : fr ≤ 9223372036854775807) (ht : ∀ w', Below w.heap.size w w' → tabOk w') :
    Calls Tryd.prog 3 #[v, .int .i64 fr] w fun e w' => e = .returned (.bool true) ∧ Below w.heap.size w w' := by
  obtain ⟨a, cap, rfl, -⟩ := hr.slice
  have HR := Hid.intro hr
  have HT := Hid.intro ht
  clear hr ht
  go_enter Tryd.func3, Tryd.ntmps3
  go_wp2_with fail
  refine (szNoteS_any L _ w.heap.size _ _ HR.out (by omega) (by omega)).mono ?_
  rintro e w1 ⟨⟨n, rfl, hn, hn1, hn2⟩, rfl⟩
  by_cases hneg : n < 0
  · clear hn hn1 hn2
    go_wp2_with fail
    go_ret
    exact ⟨rfl, Below.refl _ _⟩
  · have HL : Hid (L.length ≤ 1048576) := by have := hn2 (by omega); unfold Hid; omega
    clear hn hn1 hn2
    go_wp2_with fail
    refine (toNoteS_any L _ w.heap.size _ (Nat.le_refl _) HR.out HL.out).mono ?_
    rintro e w2 ⟨v2, rfl, n2⟩
    have R2 := Hid.intro n2.row
    have HB := Hid.intro n2.bel
    replace HR := Hid.intro (HR.out.on n2.bel)
    clear n2
    go_wp2_with fail
    refine (specShowAudit_any L v2 fr w2.heap.size _ (Nat.le_refl _) R2.out hlo hhi).mono ?_
    rintro e w3 ⟨rfl, b3⟩
    replace HB := Hid.intro (HB.out.trans (b3.mono HB.out.size))
    replace HR := Hid.intro (HR.out.on b3)
    clear b3 R2
    go_wp2_with fail
    refine (toNoteS_any L _ w3.heap.size _ (Nat.le_refl _) HR.out HL.out).mono ?_
    rintro e w4 ⟨v4, rfl, n4⟩
    obtain ⟨a4, cap4, rfl, -⟩ := n4.row.slice
    have R4 := Hid.intro n4.row
    replace HB := Hid.intro (HB.out.trans (n4.bel.mono HB.out.size))
    replace HR := Hid.intro (HR.out.on n4.bel)
    clear n4
    go_wp2_with fail
    refine (implShowAudit_any L _ fr w4.heap.size _ (Nat.le_refl _) R4.out hlo hhi (fun w' hb => HT.out w' (HB.out.trans (hb.mono HB.out.size)))).mono ?_
    rintro e w5 ⟨rfl, b5⟩
    replace HB := Hid.intro (HB.out.trans (b5.mono HB.out.size))
    replace HR := Hid.intro (HR.out.on b5)
    replace R4 := Hid.intro (R4.out.on b5)
    clear b5
    generalize showS L fr = r
    have hne : (r.toList == r.toList) = true := beq_self_eq_true _
    go_wp2_with fail
    refine (toNoteS_any L _ w5.heap.size _ (Nat.le_refl _) HR.out HL.out).mono ?_
    rintro e w6 ⟨v6, rfl, n6⟩
    have R6 := Hid.intro n6.row
    replace HB := Hid.intro (HB.out.trans (n6.bel.mono HB.out.size))
    replace R4 := Hid.intro (R4.out.on n6.bel)
    clear n6
    go_wp2_with fail
    refine (eqNoteS_any L _ _ w6.heap.size _ (Nat.le_refl _) R4.out R6.out).mono ?_
    rintro e w7 ⟨rfl, b7⟩
    replace HB := Hid.intro (HB.out.trans (b7.mono HB.out.size))
    clear b7
    go_wp2_with fail
    go_ret
    exact ⟨rfl, HB.out⟩
end Go.Proofs.YtkmhednmgoolgabDoor
