/- What is proved: at every argument the law FnExactShowState answers true and leaves its arguments as they were (Rows.FnExactShowStateSaid); no condition. -/
import Derived.Test.YtegdogdlohoheaaGOpen
import Derived.Test.YtegdogdlohoheaaXNote
import Derived.Test.YtegdogdlohoheaaVOpen
import Derived.Test.YtegdogdlohoheaaXTen
import Derived.Test.YtegdogdlohoheaaXSta
import Derived.Test.YtegdogdlohoheaaRows
import Derived.Test.YtegdogdlohoheaaXShowSt
import Derived.WalkKit
import Derived.ProofKit
import Derived.OpenShut
import Derived.ShutString
import Derived.ChangeOld
import Derived.Below
namespace Go.Proofs.Ytegdogdlohoheaa
open Go.ChangeShapes Go.WideShapes Go.ChangeAt Go.RowKit Go.Joins Go.Deep
set_option linter.unusedVariables false
theorem cells_ni : Try.prog.cellsOf 3 = 1 := by kernel_rfl
theorem cells_Note : Try.prog.cellsOf 152 = 5 := by kernel_rfl
theorem list5 {α : Type} {cs : List α} (h : cs.length = 5) : ∃ c0 c1 c2 c3 c4, cs = [c0, c1, c2, c3, c4] := by
  match cs, h with
  | [c0, c1, c2, c3, c4], _ => exact ⟨c0, c1, c2, c3, c4, rfl⟩
section
variable {H : Type} {enc : TypeId × Value → H} {W : World} {sp : Nat → Bool} {held : Bool}
theorem note_cells {fuel : Nat} {cs : List Value} {x : DataW H × List MemPlace} (h : DataW.trod enc Try.prog W 0 sp held fuel 152 cs = some x) : ∃ a : Nt, cs = ntE.c a ∧ True := by
  obtain ⟨xs, n, _, rfl, hl, hlen, hf⟩ := DataW.trod_struct Try.underlying152 h
  rw [cells_Note] at hl
  obtain ⟨c0, c1, c2, c3, c4, rfl⟩ := list5 hl
  have hlen' : xs.length = 5 := by simpa using hlen
  obtain ⟨y0, y1, y2, y3, y4, rfl⟩ := list5 hlen'
  have h0 := hf 0 _ rfl
  have h1 := hf 1 _ rfl
  have h2 := hf 2 _ rfl
  have h3 := hf 3 _ rfl
  have h4 := hf 4 _ rfl
  simp [cells_ni] at h0 h1 h2 h3 h4
  obtain ⟨x0, e0, _⟩ := DataW.trod_int Try.underlying3 h0
  obtain ⟨x1, e1, _⟩ := DataW.trod_int Try.underlying3 h1
  obtain ⟨x2, e2, _⟩ := DataW.trod_int Try.underlying3 h2
  obtain ⟨x3, e3, _⟩ := DataW.trod_int Try.underlying3 h3
  obtain ⟨x4, e4, _⟩ := DataW.trod_int Try.underlying3 h4
  simp only [List.cons.injEq, and_true] at e0 e1 e2 e3 e4
  subst e0 e1 e2 e3 e4
  exact ⟨⟨x0, x1, x2, x3, x4⟩, rfl, trivial⟩
set_option maxRecDepth 100000 in
theorem open_NoteS {r0 : Go.Reach} {b0 : Nat} {v : Value} {d : DataW H} {p : List MemPlace} (hval : Value.okWide Try.prog W r0 b0 76 v) (h : DataW.Trod enc Try.prog W 0 sp held 76 v d p) : ∃ L : List Nt, Row ntE W W.heap.size v L := by
  obtain ⟨fuel, hf⟩ := h
  obtain ⟨a, n, cap, rfl⟩ := okWide_slice Try.underlying76 hval
  obtain ⟨L, hL, _⟩ := open_row ntE (fun _ => True) Try.underlying76 cells_Note (fun _ _ _ h => note_cells h) (c := .slice a n cap) (by simpa [Value.cells] using hf)
  exact ⟨L, hL⟩
end
end Go.Proofs.Ytegdogdlohoheaa
namespace Go.Proofs.Ytegdogdlohoheaa
open Go.ChangeShapes Go.WideShapes Go.ChangeAt Go.RowKit Go.Joins Go.Deep
set_option linter.unusedVariables false
theorem cells_Session : Try.prog.cellsOf 145 = 5 := by kernel_rfl
theorem cells_NoteS : Try.prog.cellsOf 76 = 1 := by kernel_rfl
theorem cells_SessionS : Try.prog.cellsOf 77 = 1 := by kernel_rfl
theorem cells_Tenant : Try.prog.cellsOf 79 = 5 := by kernel_rfl
theorem list4 {α : Type} {cs : List α} (h : cs.length = 4) : ∃ c0 c1 c2 c3, cs = [c0, c1, c2, c3] := by
  match cs, h with
  | [c0, c1, c2, c3], _ => exact ⟨c0, c1, c2, c3, rfl⟩
section
variable {H : Type} {enc : TypeId × Value → H} {W : World} {sp : Nat → Bool} {held : Bool}
theorem ses_cells {fuel : Nat} {cs : List Value} {x : DataW H × List MemPlace} (h : DataW.trod enc Try.prog W 0 sp held fuel 145 cs = some x) : ∃ a : Se, cs = seE.c a ∧ a.r.d.size ≤ 9223372036854775807 := by
  obtain ⟨xs, n, _, rfl, hl, hlen, hf⟩ := DataW.trod_struct Try.underlying145 h
  rw [cells_Session] at hl
  obtain ⟨c0, c1, c2, c3, c4, rfl⟩ := list5 hl
  have hlen' : xs.length = 4 := by simpa using hlen
  obtain ⟨y0, y1, y2, y3, rfl⟩ := list4 hlen'
  have h0 := hf 0 _ rfl
  have h1 := hf 1 _ rfl
  have h2 := hf 2 _ rfl
  have h3 := hf 3 _ rfl
  simp [cells_ni, cells_Result] at h0 h1 h2 h3
  obtain ⟨x0, e0, _⟩ := DataW.trod_int Try.underlying3 h0
  obtain ⟨x1, e1, _⟩ := DataW.trod_int Try.underlying3 h1
  obtain ⟨x2, e2, _⟩ := DataW.trod_int Try.underlying3 h2
  obtain ⟨r, e3, hr⟩ := res_cells h3
  simp only [List.cons.injEq, and_true] at e0 e1 e2 e3
  obtain ⟨e3, e4⟩ := e3
  subst e0 e1 e2 e3 e4
  exact ⟨⟨x0, x1, x2, r⟩, rfl, hr⟩
theorem open_noteRow {fuel : Nat} {c : Value} {x : DataW H × List MemPlace} (h : DataW.trod enc Try.prog W 0 sp held fuel 76 [c] = some x) : ∃ L : List Nt, Row ntE W W.heap.size c L ∧ ∀ a ∈ L, True :=
  open_row ntE _ Try.underlying76 cells_Note (fun _ _ _ h => note_cells h) h
theorem open_sesRow {fuel : Nat} {c : Value} {x : DataW H × List MemPlace} (h : DataW.trod enc Try.prog W 0 sp held fuel 77 [c] = some x) : ∃ L : List Se, Row seE W W.heap.size c L ∧ ∀ a ∈ L, a.r.d.size ≤ 9223372036854775807 :=
  open_row seE _ Try.underlying77 cells_Session (fun _ _ _ h => ses_cells h) h
theorem tenant_cells {fuel : Nat} {cs : List Value} {x : DataW H × List MemPlace} (h : DataW.trod enc Try.prog W 0 sp held fuel 79 cs = some x) :
    ∃ t : Ten, cs = t.arr.toList ∧ TenR W W.heap.size t ∧ TenW t := by
  obtain ⟨xs, n, _, rfl, hl, hlen, hf⟩ := DataW.trod_struct Try.underlying79 h
  rw [cells_Tenant] at hl
  obtain ⟨c0, c1, c2, c3, c4, rfl⟩ := list5 hl
  have hlen' : xs.length = 4 := by simpa using hlen
  obtain ⟨y0, y1, y2, y3, rfl⟩ := list4 hlen'
  have h0 := hf 0 _ rfl
  have h1 := hf 1 _ rfl
  have h2 := hf 2 _ rfl
  have h3 := hf 3 _ rfl
  simp [cells_ni, cells_Vol, cells_NoteS, cells_SessionS] at h0 h1 h2 h3
  obtain ⟨nx, u, L, e0, hL, hw⟩ := vol_cells h0
  obtain ⟨tk, e1, _⟩ := DataW.trod_int Try.underlying3 h1
  obtain ⟨A, hA, _⟩ := open_noteRow h2
  obtain ⟨S, hS, hd⟩ := open_sesRow h3
  simp only [List.cons.injEq, and_true] at e0 e1
  obtain ⟨e0, e00⟩ := e0
  subst e0 e00 e1
  obtain ⟨ua, uc, rfl, _⟩ := hL.row.slice
  obtain ⟨aa, ac, rfl, _⟩ := hA.slice
  obtain ⟨sa, sc, rfl, _⟩ := hS.slice
  exact ⟨⟨nx, L, ua, uc, tk, A, aa, ac, S, sa, sc⟩, rfl, ⟨hL, hA, hS⟩, ⟨hw, hd⟩⟩
set_option maxRecDepth 100000 in
theorem open_Tenant {r0 : Go.Reach} {b0 : Nat} {v : Value} {d : DataW H} {p : List MemPlace} (hval : Value.okWide Try.prog W r0 b0 79 v) (h : DataW.Trod enc Try.prog W 0 sp held 79 v d p) :
    ∃ t : Ten, v = t.v ∧ TenR W W.heap.size t ∧ TenW t := by
  obtain ⟨cs, rfl, hsz⟩ := okWide_struct Try.underlying79 hval
  obtain ⟨fuel, hf⟩ := h
  obtain ⟨t, hr, h1⟩ := tenant_cells hf
  refine ⟨t, ?_, h1⟩
  have e : cs.toList = t.arr.toList := by simpa [Value.cells] using hr
  rw [Ten.v, ← Array.toArray_toList (xs := cs), e]
end
end Go.Proofs.Ytegdogdlohoheaa
namespace Go.Proofs.Ytegdogdlohoheaa
open Go.ChangeShapes Go.WideShapes Go.ChangeAt Go.RowKit Go.Joins Go.Deep
set_option linter.unusedVariables false
section
variable {H : Type} {enc : TypeId × Value → H} {W : World} {sp : Nat → Bool} {held : Bool}
set_option maxRecDepth 100000 in
theorem open_TenantS {r0 : Go.Reach} {b0 : Nat} {v : Value} {d : DataW H} {p : List MemPlace} (hval : Value.okWide Try.prog W r0 b0 34 v) (h : DataW.Trod enc Try.prog W 0 sp held 34 v d p) : ∃ L : List Ten, StR W W.heap.size v L ∧ ∀ t ∈ L, TenW t := by
  obtain ⟨fuel, hf⟩ := h
  obtain ⟨a, n, cap, rfl⟩ := okWide_slice Try.underlying34 hval
  obtain ⟨L, hL, hP⟩ := open_row tnE (fun t => TenR W W.heap.size t ∧ TenW t) Try.underlying34 cells_Tenant (fun _ _ _ h => by obtain ⟨t, e, h1, h2⟩ := tenant_cells h; exact ⟨t, e, h1, h2⟩) (c := .slice a n cap) (by simpa [Value.cells] using hf)
  exact ⟨L, ⟨hL, fun t ht => (hP t ht).1⟩, fun t ht => (hP t ht).2⟩
end
end Go.Proofs.Ytegdogdlohoheaa
namespace Go.Proofs.Ytegdogdlohoheaa
open Go.ChangeShapes Go.WideShapes Go.ChangeAt Go.RowKit
open Go.ChangeMaps (open_string shut_string)
set_option linter.unusedVariables false

theorem fnExactShowState_own : ownKnob Try.prog.godebug = none := by kernel_rfl
theorem fnExactShowState_laidOut : laidOutB Try.prog = true := by kernel_rfl

set_option maxRecDepth 100000 in
theorem fnExactShowState_lifted (os : Os) (started : os.Started) (H : Type) (enc : TypeId × Value → H) :
  ReturnsInHanded {} Try.checked os 6 .any (Rows.fnExactShowStateSpec.pre6 enc Try.prog Try.f6 Rows.fnExactShowStateRow.domain false) (Rows.fnExactShowStateSpec.post enc Try.prog Try.f6 false true false false) := by
 refine returnsInHanded_of_change (C := Try.checked) fnExactShowState_own started (by kernel_rfl) Try.func6
  (ChangeSpec.witness6 (enc := enc) (C := Try.checked) false ⟨#[], #[.slice none 0 0], []⟩ 8 (by kernel_rfl) (by kernel_rfl) (by kernel_rfl) (by kernel_rfl)) ?_
 intro W base args ds gs before hval0 hW hcnd _
 have hval : ∀ (j : Nat) t v, Try.f6.params[j]? = some t → args[j]? = some v → Value.okWide Try.prog W .any base t v := hval0
 have hW' := hW
 obtain ⟨p, q, hA0, hV, rfl, hfz, hnd⟩ := hW
 have hA : DataW.TrodAll enc Try.prog W 0 (fun _ => true) true Try.f6.params.toList args.toList ds p := hA0
 rw [Try.params6] at hA hval
 obtain ⟨v0, vs0, d0, ds0, p0, q0, hargs0, rfl, rfl, h0, r0⟩ := trodAll_cons hA
 obtain ⟨rfl, rfl, rfl⟩ := trodAll_nil r0
 obtain rfl : args = #[v0] := by cases args; simp_all
 obtain ⟨rfl, rfl⟩ := trodVars_none hV
 have k0 := h0
 have lt0 : ∀ x ∈ p0, x.block < W.heap.size := by obtain ⟨m, hm⟩ := k0; exact DataW.trod_lt m _ _ _ hm
 obtain ⟨L0, e0, z0⟩ := open_TenantS (hval 0 34 v0 rfl rfl) h0
 clear hA0 hval0
 refine (showState_law L0 v0 W e0 z0).mono fun e W' ⟨he, bel⟩ => ?_
 subst he
 exact ⟨_, rfl, _, _, _, [], _, [], hW', trodAll_mk1 (shut_bool Try.underlying4 _), (trodAll_cons_mk (Below.trod fnExactShowState_laidOut (by kernel_rfl) (of_decide_eq_true (by kernel_rfl)) k0 bel lt0) trodAll_mk0), rfl, bel.frame _, fun h => by cases h⟩

theorem fnExactShowState_over : Rows.fnExactShowStateRow.holds Try.pinned (OpenSpec.ofChange Rows.fnExactShowStateSpec) :=
 OpenClaim.holds_of_wide 6 Try.f6 rfl rfl rfl rfl rfl rfl rfl ⟨rfl, rfl, rfl, rfl, rfl⟩ rfl rfl rfl rfl rfl (by kernel_rfl) Try.func6 (by kernel_rfl)
  (of_decide_eq_true (by kernel_rfl)) (by unfold Func.isWrapper; first | (rw [if_pos (by decide +kernel)]; kernel_rfl) | (rw [if_neg (by decide +kernel)]; exact ⟨rfl, rfl⟩))
  (fun os started H enc _ => fnExactShowState_lifted os started H enc)

theorem fnExactShowState_proved : Rows.FnExactShowStateSaid := fnExactShowState_over
#print axioms fnExactShowState_proved
end Go.Proofs.Ytegdogdlohoheaa
