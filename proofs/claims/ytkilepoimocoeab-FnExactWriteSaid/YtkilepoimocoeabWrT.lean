/- Write of the model. -/
import Derived.Test.YtkilepoimocoeabWrS
import Derived.Test.YtkilepoimocoeabCopyT
import Derived.Test.YtkilepoimocoeabStoreS
namespace Go.Proofs.Ytkilepoimocoeab
open Go.RowKit
set_option linter.unusedVariables false
theorem one_below9 (w : World) (A : Obj) : Below w.heap.size w (w.alloc A) := (Below.refl _ _).alloc (Nat.le_refl _) _
set_option maxRecDepth 100000 in
set_option maxHeartbeats 4000000 in
theorem specWrite_any (S : Sto) (v u : Value) (L : List Rc) (x : Value) (N : Nat) (n : Int) (w : World) (hN : N ≤ w.heap.size) (hr : RowE w N v S.k.e) (hu : RowR w N u S.l) (hx : RowR w N x L) (hl : L.length ≤ 1048576) :
    Calls Try.prog 24 #[stV S v u, x, .int .i64 n] w fun e w' => ∃ v' u', e = .returned (.tuple #[stV (wrS S L n) v' u', .int .i64 (wrN S L n)]) ∧ NewS w w' v' u' (wrS S L n) := by
  have HR := Hid.intro hr
  have HU := Hid.intro hu
  have HX := Hid.intro hx
  obtain ⟨av, cv, rfl, -, -, -⟩ := hr
  obtain ⟨au, cu, rfl, -, -, -⟩ := hu
  obtain ⟨ax, cx, rfl, -, -, -⟩ := hx
  go_enter Try.func24, Try.ntmps24
  go_wp2_with fail
  obtain ⟨W, hW, bW, zW, c1, f1, c2, f2⟩ := boxed2 w (sA S (.slice av S.k.e.length cv) (.slice au S.l.length cu)) zS 38 38
  try simp only [hW]
  refine (specStoreOk_any S _ _ N W (by omega) (HR.out.kept (bW.mono hN)) (HU.out.kept (bW.mono hN))).mono ?_
  rintro e w1 ⟨rfl, b1⟩
  have S1 : Hid (Blk w1 w.heap.size (sA S (.slice av S.k.e.length cv) (.slice au S.l.length cu))) := (Blk.mk (by omega) c1 f1 : Blk W _ _).kept b1
  have R1 : Hid (Blk w1 (w.heap.size + 1) zS) := (Blk.mk (by omega) c2 f2 : Blk W _ _).kept b1
  have HB : Hid (Below w.heap.size w w1) := bW.trans (b1.mono (by omega))
  have z1 : w.heap.size + 1 < w1.heap.size := by have := b1.size; omega
  clear hW bW zW c1 f1 c2 f2 b1
  cases hst : storeB S with
  | false =>
    have dr := R1.out.cell
    have fr := R1.out.fro
    clear S1
    go_wp2
    refine bodyPost_ret (v := .tuple #[stV ⟨kpZ, []⟩ (.slice none 0 0) (.slice none 0 0), .int .i64 0]) (by simp [results, Try.results24, go_sem, dr, kpZ]) rfl ?_
    rw [wrS_no hst, wrN_no hst]
    refine ⟨_, _, rfl, OwnE.nil _ _, OwnR.nil _ _, (fun k hk => by cases hk), ?_⟩
    repeat (refine Below.setCell ?_ (by simp <;> omega) _)
    exact HB.out
  | true =>
    have hk80 := (storeB_out hst).2.1
    have hke : S.k.e.length ≤ 60 := (Sm.of (storeB_out hst).1).2.2
    have ds := S1.out.cell
    go_wp2_with fail
    refine (l3CopyStore_any S _ _ N w1 (by omega) (HR.out.kept (HB.out.mono hN)) (HU.out.kept (HB.out.mono hN)) hke hk80).mono ?_
    rintro e w2 ⟨v2, u2, rfl, n2⟩
    have b2 := n2.bel
    replace R1 := Hid.intro (R1.out.kept b2)
    have HN2 := Hid.intro n2
    have HB2 := Hid.intro (HB.out.trans (b2.mono HB.out.size))
    have z2 : w1.heap.size ≤ w2.heap.size := b2.size
    clear ds b2 n2 S1 HB
    go_wp2_with fail
    refine (l3Write_any S v2 u2 w1.heap.size L _ N n w2 hst z2 (by omega) HN2.out.e HN2.out.r HN2.out.dis (HX.out.kept (HB2.out.mono hN)) hl).mono ?_
    rintro e w3 ⟨u3, rfl, p3⟩
    obtain ⟨av2, cv2, rfl⟩ := HN2.out.e.slice
    obtain ⟨au3, m3, cu3, rfl⟩ : ∃ a m c, u3 = .slice a m c := by obtain ⟨a, c, h⟩ := p3.ru.slice; exact ⟨a, _, c, h⟩
    have HBU : Hid (∀ k, u2.ownBlock = some k → w1.heap.size ≤ k ∧ k < w2.heap.size) := HN2.out.r.lt
    have R3 : Hid (Blk w3 (w.heap.size + 1) zS) := R1.out.only p3.o (fun e => by have := HBU.out _ e.symm; omega)
    have HB3 : Hid (Below w.heap.size w w3) := HB2.out.trans (p3.o.below HB2.out.size (fun k hk e => by have := HBU.out _ e.symm; omega))
    have HP3 := Hid.intro p3
    have z3 := p3.o.size
    have HM := Hid.intro (show wrS S L n = ⟨S.k, S.l ++ L.take (wrN S L n)⟩ from wrS_yes hst)
    clear p3 R1 HB2 HBU HN2
    generalize hmm : wrN S L n = m at *
    have HMM := Hid.intro hmm
    clear hmm
    go_upto_region 4 with fail
    obtain ⟨X, hX, bX, zX, cX, fX⟩ := boxed w3 (sA ⟨S.k, S.l ++ L.take m⟩ (.slice av2 S.k.e.length cv2) (.slice au3 m3 cu3)) 38
    try simp only [hX]
    replace R3 := Hid.intro (R3.out.kept bX)
    replace HB3 := Hid.intro (HB3.out.trans (bX.mono HB3.out.size))
    have HEV := Hid.intro (HP3.out.ev.kept bX)
    have HRU := Hid.intro (HP3.out.ru.kept bX)
    have HDI := Hid.intro HP3.out.dis
    have dr := R3.out.cell
    have fr := R3.out.fro
    have zr := R3.out.hi
    clear hX bX fX HP3
    go_wp2
    have o9 : ∀ y : World, Only (fun k => k = w.heap.size + 1) X y → NewS w y (.slice av2 S.k.e.length cv2) (.slice au3 m3 cu3) ⟨S.k, S.l ++ L.take m⟩ := fun y ho =>
      ⟨(HEV.out.only ho (fun k hk e => by have := HEV.out.lt k hk; omega)).lower (by omega), (HRU.out.only ho (fun k hk e => by have := HRU.out.lt k hk; omega)).lower (by omega), HDI.out, HB3.out.trans (ho.below HB3.out.size (fun k hk e => by omega))⟩
    have H9 := Hid.intro o9
    clear o9
    refine bodyPost_ret (v := .tuple #[stV ⟨S.k, S.l ++ L.take m⟩ (.slice av2 S.k.e.length cv2) (.slice au3 m3 cu3), .int .i64 m]) (by simp [results, Try.results24, go_sem, dr]) rfl ?_
    rw [HM.out, HMM.out]
    refine ⟨_, _, rfl, H9.out _ ?_⟩
    repeat (refine Only.setCell ?_ (by simp) _)
    exact Only.refl _ _
end Go.Proofs.Ytkilepoimocoeab
