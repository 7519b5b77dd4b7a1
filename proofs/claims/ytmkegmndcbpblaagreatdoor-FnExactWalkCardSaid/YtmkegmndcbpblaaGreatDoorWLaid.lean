/- What the row's list gives: six errors, all different; the variables read again. -/
import Derived.Test.YtmkegmndcbpblaaGreatDoorRows
import Derived.Test.YtmkegmndcbpblaaGreatDoorWIs
import Derived.Stop.LaidTwo
import Derived.LaidMore
import Derived.Below
namespace Go.Proofs.YtmkegmndcbpblaaGreatDoor
open Go.RowKit Go.ChangeShapes Go.WideShapes Go.ChangeAt
set_option linter.unusedVariables false
theorem laidVars_sub {P : Program} {w : World} {l1 l2 : List (String × DataW Unit)} (h : l1.Sublist l2) : ∀ ps, DataW.LaidVars P w l2 ps → ∃ qs, DataW.LaidVars P w l1 qs ∧ qs.Sublist ps := by
 induction h with
 | slnil => exact fun ps hv => ⟨ps, hv, List.Sublist.refl _⟩
 | cons a _ ih =>
  obtain ⟨n, d⟩ := a
  rintro ps ⟨g, t, cs, fuel, p, q, _, _, _, _, hq, rfl⟩
  obtain ⟨qs, h1, h2⟩ := ih q hq
  exact ⟨qs, h1, h2.trans (List.sublist_append_right _ _)⟩
 | cons_cons a _ ih =>
  obtain ⟨n, d⟩ := a
  rintro ps ⟨g, t, cs, fuel, p, q, e1, e2, e3, e4, hq, rfl⟩
  obtain ⟨qs, h1, h2⟩ := ih q hq
  exact ⟨_, ⟨g, t, cs, fuel, p, qs, e1, e2, e3, e4, h1, rfl⟩, (List.Sublist.refl _).append h2⟩
theorem laidMet_sub {P : Program} {w : World} {l1 l2 : List (String × DataW Unit)} (hl : laidMet P l2 w) (h : l1.Sublist l2) : laidMet P l1 w := by
 obtain ⟨ps, hv, hnd, hrows⟩ := hl
 obtain ⟨qs, h1, h2⟩ := laidVars_sub h ps hv
 exact ⟨qs, h1, hnd.sublist h2, fun b off hm => hrows b off (h2.subset hm)⟩
theorem es_cells : Tryz.prog.cellsOf 161 = 1 := by kernel_rfl
theorem es_scells : Tryz.prog.cellsOf 9 = 1 := by kernel_rfl
theorem es_star : "*" ++ "errors.errorString" = "*errors.errorString" := by decide
theorem es_row (u : TypeId) (h : Tryz.prog.typeName? 3 u = some "*errors.errorString") : u = 135 :=
 typeName_ptr_named (nm := "errors.errorString") (by rw [es_star]; kernel_rfl) (by kernel_rfl) (by decide) u (by rw [es_star]; exact h)
theorem gWrong : Tryz.prog.globalNamed "loop.example/g00757/impl.errWrong" = some 0 := by kernel_rfl
theorem tWrong : (Tryz.prog.globals[0]?).map (·.type) = some 51 := by kernel_rfl
theorem gAccess : Tryz.prog.globalNamed "loop.example/g00757/impl.errAccess" = some 1 := by kernel_rfl
theorem tAccess : (Tryz.prog.globals[1]?).map (·.type) = some 51 := by kernel_rfl
theorem gLoop : Tryz.prog.globalNamed "loop.example/g00757/impl.errLoop" = some 2 := by kernel_rfl
theorem tLoop : (Tryz.prog.globals[2]?).map (·.type) = some 51 := by kernel_rfl
theorem gMissing : Tryz.prog.globalNamed "loop.example/g00757/impl.errMissing" = some 3 := by kernel_rfl
theorem tMissing : (Tryz.prog.globals[3]?).map (·.type) = some 51 := by kernel_rfl
theorem gNotDir : Tryz.prog.globalNamed "loop.example/g00757/impl.errNotDir" = some 4 := by kernel_rfl
theorem tNotDir : (Tryz.prog.globals[4]?).map (·.type) = some 51 := by kernel_rfl
theorem gTooLong : Tryz.prog.globalNamed "loop.example/g00757/impl.errTooLong" = some 5 := by kernel_rfl
theorem tTooLong : (Tryz.prog.globals[5]?).map (·.type) = some 51 := by kernel_rfl
/-- A variable that holds an error of its own. -/
def errIs (W : World) (n : String) (a : Addr) : Prop := W.var? Tryz.prog n = some #[.iface 135 (.pointer (some a))]
theorem errIs.one {W : World} {n : String} {a b : Addr} (h : errIs W n a) (h2 : errIs W n b) : a = b := by
 have := h.symm.trans h2
 simpa using this
theorem laid_two {n0 n1 : String} {x0 x1 : List UInt8} {g0 g1 : Nat} {W : World} (h : laidMet Tryz.prog [(n0, .iface "*errors.errorString" (.ptr (.agg [.lit (.string x0)]))), (n1, .iface "*errors.errorString" (.ptr (.agg [.lit (.string x1)])))] W)
  (hg0 : Tryz.prog.globalNamed n0 = some g0) (ht0 : (Tryz.prog.globals[g0]?).map (·.type) = some 51) (hg1 : Tryz.prog.globalNamed n1 = some g1) (ht1 : (Tryz.prog.globals[g1]?).map (·.type) = some 51) :
  ∃ a0 a1 : Addr, errIs W n0 a0 ∧ errIs W n1 a1 ∧ a0 ≠ a1 ∧ (∃ c t, W.heap[a0.block]? = some (.cells c t (0, 0))) ∧ ∃ c t, W.heap[a1.block]? = some (.cells c t (0, 0)) := by
 obtain ⟨a0, a1, s0, s1, c0, c1, t0, t1, hv0, hv1, _, _, _, _, _, _, hne, hb0, hb1⟩ := laid_sentinels2 h hg0 ht0 hg1 ht1 Tryz.underlying51 es_row Tryz.underlying135 Tryz.underlying161 rfl rfl Tryz.underlying9 es_cells es_scells
 exact ⟨a0, a1, hv0, hv1, hne, ⟨c0, t0, hb0⟩, ⟨c1, t1, hb1⟩⟩
/-- The row's list gives six errors. -/
theorem laid_six {W : World} (h0 : laidMetH Tryz.prog Rows.fnExactWalkRow.laid W) : ∃ E : Nat → Addr, ErrW W E ∧ errIs W "loop.example/g00757/impl.errWrong" (E 0) ∧ errIs W "loop.example/g00757/impl.errAccess" (E 1) ∧ errIs W "loop.example/g00757/impl.errLoop" (E 2) ∧ errIs W "loop.example/g00757/impl.errMissing" (E 3) ∧ errIs W "loop.example/g00757/impl.errNotDir" (E 4) ∧ errIs W "loop.example/g00757/impl.errTooLong" (E 5) := by
 rw [MakeChecks.laidMetH_plain _ _ _ (by kernel_rfl)] at h0
 have h : laidMet Tryz.prog [("loop.example/g00757/impl.errAccess", Rows.laid_loop_example_g00757_impl_errAccess), ("loop.example/g00757/impl.errLoop", Rows.laid_loop_example_g00757_impl_errLoop), ("loop.example/g00757/impl.errMissing", Rows.laid_loop_example_g00757_impl_errMissing), ("loop.example/g00757/impl.errNotDir", Rows.laid_loop_example_g00757_impl_errNotDir), ("loop.example/g00757/impl.errTooLong", Rows.laid_loop_example_g00757_impl_errTooLong), ("loop.example/g00757/impl.errWrong", Rows.laid_loop_example_g00757_impl_errWrong)] W := h0
 clear h0
 obtain ⟨a01, b01, u01, v01, n01, x01, y01⟩ := laid_two (laidMet_sub h (.cons_cons _ (.cons_cons _ (.cons _ (.cons _ (.cons _ (.cons _ List.Sublist.slnil))))))) gAccess tAccess gLoop tLoop
 obtain ⟨a02, b02, u02, v02, n02, x02, y02⟩ := laid_two (laidMet_sub h (.cons_cons _ (.cons _ (.cons_cons _ (.cons _ (.cons _ (.cons _ List.Sublist.slnil))))))) gAccess tAccess gMissing tMissing
 obtain ⟨a03, b03, u03, v03, n03, x03, y03⟩ := laid_two (laidMet_sub h (.cons_cons _ (.cons _ (.cons _ (.cons_cons _ (.cons _ (.cons _ List.Sublist.slnil))))))) gAccess tAccess gNotDir tNotDir
 obtain ⟨a04, b04, u04, v04, n04, x04, y04⟩ := laid_two (laidMet_sub h (.cons_cons _ (.cons _ (.cons _ (.cons _ (.cons_cons _ (.cons _ List.Sublist.slnil))))))) gAccess tAccess gTooLong tTooLong
 obtain ⟨a05, b05, u05, v05, n05, x05, y05⟩ := laid_two (laidMet_sub h (.cons_cons _ (.cons _ (.cons _ (.cons _ (.cons _ (.cons_cons _ List.Sublist.slnil))))))) gAccess tAccess gWrong tWrong
 obtain ⟨a12, b12, u12, v12, n12, x12, y12⟩ := laid_two (laidMet_sub h (.cons _ (.cons_cons _ (.cons_cons _ (.cons _ (.cons _ (.cons _ List.Sublist.slnil))))))) gLoop tLoop gMissing tMissing
 obtain ⟨a13, b13, u13, v13, n13, x13, y13⟩ := laid_two (laidMet_sub h (.cons _ (.cons_cons _ (.cons _ (.cons_cons _ (.cons _ (.cons _ List.Sublist.slnil))))))) gLoop tLoop gNotDir tNotDir
 obtain ⟨a14, b14, u14, v14, n14, x14, y14⟩ := laid_two (laidMet_sub h (.cons _ (.cons_cons _ (.cons _ (.cons _ (.cons_cons _ (.cons _ List.Sublist.slnil))))))) gLoop tLoop gTooLong tTooLong
 obtain ⟨a15, b15, u15, v15, n15, x15, y15⟩ := laid_two (laidMet_sub h (.cons _ (.cons_cons _ (.cons _ (.cons _ (.cons _ (.cons_cons _ List.Sublist.slnil))))))) gLoop tLoop gWrong tWrong
 obtain ⟨a23, b23, u23, v23, n23, x23, y23⟩ := laid_two (laidMet_sub h (.cons _ (.cons _ (.cons_cons _ (.cons_cons _ (.cons _ (.cons _ List.Sublist.slnil))))))) gMissing tMissing gNotDir tNotDir
 obtain ⟨a24, b24, u24, v24, n24, x24, y24⟩ := laid_two (laidMet_sub h (.cons _ (.cons _ (.cons_cons _ (.cons _ (.cons_cons _ (.cons _ List.Sublist.slnil))))))) gMissing tMissing gTooLong tTooLong
 obtain ⟨a25, b25, u25, v25, n25, x25, y25⟩ := laid_two (laidMet_sub h (.cons _ (.cons _ (.cons_cons _ (.cons _ (.cons _ (.cons_cons _ List.Sublist.slnil))))))) gMissing tMissing gWrong tWrong
 obtain ⟨a34, b34, u34, v34, n34, x34, y34⟩ := laid_two (laidMet_sub h (.cons _ (.cons _ (.cons _ (.cons_cons _ (.cons_cons _ (.cons _ List.Sublist.slnil))))))) gNotDir tNotDir gTooLong tTooLong
 obtain ⟨a35, b35, u35, v35, n35, x35, y35⟩ := laid_two (laidMet_sub h (.cons _ (.cons _ (.cons _ (.cons_cons _ (.cons _ (.cons_cons _ List.Sublist.slnil))))))) gNotDir tNotDir gWrong tWrong
 obtain ⟨a45, b45, u45, v45, n45, x45, y45⟩ := laid_two (laidMet_sub h (.cons _ (.cons _ (.cons _ (.cons _ (.cons_cons _ (.cons_cons _ List.Sublist.slnil))))))) gTooLong tTooLong gWrong tWrong
 have ea02 : a02 = a01 := u02.one u01
 rw [ea02] at n02
 have ea03 : a03 = a01 := u03.one u01
 rw [ea03] at n03
 have ea04 : a04 = a01 := u04.one u01
 rw [ea04] at n04
 have ea05 : a05 = a01 := u05.one u01
 rw [ea05] at n05
 have ea12 : a12 = b01 := u12.one v01
 rw [ea12] at n12
 have eb12 : b12 = b02 := v12.one v02
 rw [eb12] at n12
 have ea13 : a13 = b01 := u13.one v01
 rw [ea13] at n13
 have eb13 : b13 = b03 := v13.one v03
 rw [eb13] at n13
 have ea14 : a14 = b01 := u14.one v01
 rw [ea14] at n14
 have eb14 : b14 = b04 := v14.one v04
 rw [eb14] at n14
 have ea15 : a15 = b01 := u15.one v01
 rw [ea15] at n15
 have eb15 : b15 = b05 := v15.one v05
 rw [eb15] at n15
 have ea23 : a23 = b02 := u23.one v02
 rw [ea23] at n23
 have eb23 : b23 = b03 := v23.one v03
 rw [eb23] at n23
 have ea24 : a24 = b02 := u24.one v02
 rw [ea24] at n24
 have eb24 : b24 = b04 := v24.one v04
 rw [eb24] at n24
 have ea25 : a25 = b02 := u25.one v02
 rw [ea25] at n25
 have eb25 : b25 = b05 := v25.one v05
 rw [eb25] at n25
 have ea34 : a34 = b03 := u34.one v03
 rw [ea34] at n34
 have eb34 : b34 = b04 := v34.one v04
 rw [eb34] at n34
 have ea35 : a35 = b03 := u35.one v03
 rw [ea35] at n35
 have eb35 : b35 = b05 := v35.one v05
 rw [eb35] at n35
 have ea45 : a45 = b04 := u45.one v04
 rw [ea45] at n45
 have eb45 : b45 = b05 := v45.one v05
 rw [eb45] at n45
 refine ⟨fun k => if k = 0 then b05 else if k = 1 then a01 else if k = 2 then b01 else if k = 3 then b02 else if k = 4 then b03 else b04, ⟨?_, ?_, ?_⟩, ?_, ?_, ?_, ?_, ?_, ?_⟩
 ·intro g hg
  rcases (show g = 0 ∨ g = 1 ∨ g = 2 ∨ g = 3 ∨ g = 4 ∨ g = 5 by omega) with rfl | rfl | rfl | rfl | rfl | rfl
  ·simpa using World.var?_cell gWrong v05 0
  ·simpa using World.var?_cell gAccess u01 0
  ·simpa using World.var?_cell gLoop v01 0
  ·simpa using World.var?_cell gMissing v02 0
  ·simpa using World.var?_cell gNotDir v03 0
  ·simpa using World.var?_cell gTooLong v04 0
 ·intro g hg
  rcases (show g = 0 ∨ g = 1 ∨ g = 2 ∨ g = 3 ∨ g = 4 ∨ g = 5 by omega) with rfl | rfl | rfl | rfl | rfl | rfl
  ·exact y05
  ·exact x01
  ·exact y01
  ·exact y02
  ·exact y03
  ·exact y04
 ·intro g hg k hk hne
  rcases (show g = 0 ∨ g = 1 ∨ g = 2 ∨ g = 3 ∨ g = 4 ∨ g = 5 by omega) with rfl | rfl | rfl | rfl | rfl | rfl
  ·rcases (show k = 0 ∨ k = 1 ∨ k = 2 ∨ k = 3 ∨ k = 4 ∨ k = 5 by omega) with rfl | rfl | rfl | rfl | rfl | rfl
   ·exact absurd rfl hne
   ·exact n05.symm
   ·exact n15.symm
   ·exact n25.symm
   ·exact n35.symm
   ·exact n45.symm
  ·rcases (show k = 0 ∨ k = 1 ∨ k = 2 ∨ k = 3 ∨ k = 4 ∨ k = 5 by omega) with rfl | rfl | rfl | rfl | rfl | rfl
   ·exact n05
   ·exact absurd rfl hne
   ·exact n01
   ·exact n02
   ·exact n03
   ·exact n04
  ·rcases (show k = 0 ∨ k = 1 ∨ k = 2 ∨ k = 3 ∨ k = 4 ∨ k = 5 by omega) with rfl | rfl | rfl | rfl | rfl | rfl
   ·exact n15
   ·exact n01.symm
   ·exact absurd rfl hne
   ·exact n12
   ·exact n13
   ·exact n14
  ·rcases (show k = 0 ∨ k = 1 ∨ k = 2 ∨ k = 3 ∨ k = 4 ∨ k = 5 by omega) with rfl | rfl | rfl | rfl | rfl | rfl
   ·exact n25
   ·exact n02.symm
   ·exact n12.symm
   ·exact absurd rfl hne
   ·exact n23
   ·exact n24
  ·rcases (show k = 0 ∨ k = 1 ∨ k = 2 ∨ k = 3 ∨ k = 4 ∨ k = 5 by omega) with rfl | rfl | rfl | rfl | rfl | rfl
   ·exact n35
   ·exact n03.symm
   ·exact n13.symm
   ·exact n23.symm
   ·exact absurd rfl hne
   ·exact n34
  ·rcases (show k = 0 ∨ k = 1 ∨ k = 2 ∨ k = 3 ∨ k = 4 ∨ k = 5 by omega) with rfl | rfl | rfl | rfl | rfl | rfl
   ·exact n45
   ·exact n04.symm
   ·exact n14.symm
   ·exact n24.symm
   ·exact n34.symm
   ·exact absurd rfl hne
 ·exact v05
 ·exact u01
 ·exact v01
 ·exact v02
 ·exact v03
 ·exact v04
theorem laid_low {W : World} {a : Addr} (h : errIs W "loop.example/g00757/impl.errTooLong" a) : 6 ≤ W.heap.size := by
 have h5 : W.cell? ⟨5, 0, none⟩ = some (.iface 135 (.pointer (some a))) := by simpa using World.var?_cell gTooLong h 0
 exact World.block_lt_of_cell? W _ h5
theorem vars_cons {H : Type} (enc : TypeId × Value → H) {P : Program} {W : World} {n : String} {g : Nat} {ti : TypeId} {ms : Array (String × TypeId)} {x : Value} {r : List String} {gs : List (DataW H)} {ps : List MemPlace} {sp : Nat → Bool}
  (hg : P.globalNamed n = some g) (ht : (P.globals[g]?).map (·.type) = some ti) (hi : P.underlying ti = some (.interface ms)) (h : W.var? P n = some #[x]) (ix : IsIface x) (hr : DataW.TrodVars enc P W sp r gs ps) :
  DataW.TrodVars enc P W sp (n :: r) (tok enc x :: gs) (.cell g 0 :: ps) :=
 ⟨g, ti, #[x], 1, [], ps, hg, ht, h, trod_held hi ix 0, hr, rfl⟩
/-- The six variables, read as tokens. -/
def sixTok {H : Type} (enc : TypeId × Value → H) (E : Nat → Addr) : List (DataW H) := [tok enc (.iface 135 (.pointer (some (E 0)))), tok enc (.iface 135 (.pointer (some (E 1)))), tok enc (.iface 135 (.pointer (some (E 5)))), tok enc (.iface 135 (.pointer (some (E 3)))), tok enc (.iface 135 (.pointer (some (E 4)))), tok enc (.iface 135 (.pointer (some (E 2))))]
def sixPl : List MemPlace := [.cell 0 0, .cell 1 0, .cell 5 0, .cell 3 0, .cell 4 0, .cell 2 0]
theorem vars_read6 {H : Type} (enc : TypeId × Value → H) {W : World} (E : Nat → Addr) (sp : Nat → Bool) (hWrong : errIs W "loop.example/g00757/impl.errWrong" (E 0)) (hAccess : errIs W "loop.example/g00757/impl.errAccess" (E 1)) (hLoop : errIs W "loop.example/g00757/impl.errLoop" (E 2)) (hMissing : errIs W "loop.example/g00757/impl.errMissing" (E 3)) (hNotDir : errIs W "loop.example/g00757/impl.errNotDir" (E 4)) (hTooLong : errIs W "loop.example/g00757/impl.errTooLong" (E 5)) :
  DataW.TrodVars enc Tryz.prog W sp Rows.fnExactWalkSpec.vars (sixTok enc E) sixPl :=
 vars_cons enc gWrong tWrong Tryz.underlying51 hWrong trivial (vars_cons enc gAccess tAccess Tryz.underlying51 hAccess trivial (vars_cons enc gTooLong tTooLong Tryz.underlying51 hTooLong trivial (vars_cons enc gMissing tMissing Tryz.underlying51 hMissing trivial (vars_cons enc gNotDir tNotDir Tryz.underlying51 hNotDir trivial (vars_cons enc gLoop tLoop Tryz.underlying51 hLoop trivial (((rfl) : DataW.TrodVars enc Tryz.prog W sp [] [] [])))))))
end Go.Proofs.YtmkegmndcbpblaaGreatDoor
