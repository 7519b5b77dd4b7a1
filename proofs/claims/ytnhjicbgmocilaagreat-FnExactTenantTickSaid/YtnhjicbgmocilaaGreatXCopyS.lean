/- The sentence's copy of a volume. -/
import Derived.Test.YtnhjicbgmocilaaGreatXCopyV
import Derived.Test.YtnhjicbgmocilaaGreatXApp
namespace Go.Proofs.YtnhjicbgmocilaaGreat
open Go.RowKit
set_option linter.unusedVariables false
theorem infoDiC : (Tryz.prog.info? 126).map (fun i => (i.zero, i.size, i.bytes)) = some (some (.agg #[.string ⟨#[]⟩, .int .i64 0]), 2, 24) := by kernel_rfl
set_option maxRecDepth 100000 in
set_option maxHeartbeats 8000000 in
theorem l4Copy_any (nx : Int) (L : List Np) (u : Value) (N : Nat) (w : World) (hN : N ≤ w.heap.size) (hr : VolR w N u L) (hl : L.length ≤ 1048576) (hm : NmL L 1048576) :
    Calls Tryz.prog 39 #[volV nx u] w fun e w' => ∃ a c M, e = .returned (volV nx (.slice a M.length c)) ∧ VolO w' w.heap.size (.slice a M.length c) M ∧ M.map Np.n = L.map Np.n ∧ Below w.heap.size w w' := by
  obtain ⟨ra, rc, rfl, hl', hm', hcells⟩ := ndE_cell hr.row
  have HC := Hid.intro hcells
  have HN := Hid.intro hr.nms
  have HB := Hid.intro hm
  have HL := Hid.intro hl
  clear hcells hr hm
  go_enter Tryz.func39, Tryz.ntmps39
  go_upto_region 2 with fail
  obtain ⟨Y, hY, bY, zY, c1, f1, c2, f2, c3, f3⟩ := boxed3 w #[.int .i64 nx, .slice ra L.length rc] #[.int .i64 0, .slice none 0 0] #[.int .i64 nx, .slice none 0 0] 32 32 32
  simp only [hY]
  have HI : Hid (CpV w (w.heap.size + 1) (w.heap.size + 1 + 1) nx Y (.slice none 0 0) []) := ⟨⟨by omega, c3, f3⟩, ⟨by omega, c2, f2⟩, ⟨Own.nil _ _, fun p hp => by cases hp⟩, fun i j _ hj => by simp at hj, bY, ⟨by omega, by omega⟩⟩
  have HBX : Hid (Blk Y w.heap.size #[.int .i64 nx, .slice ra L.length rc]) := ⟨by omega, c1, f1⟩
  clear hY bY c2 f2 c3 f3 f1
  go_wp2_with fail
  clear c1
  go_loopw [4] (fun i wr => ∃ (M : List Np) (v : Value), i = .int .i64 (M.length : Nat) ∧ M.length ≤ L.length ∧ Hid (M.map Np.n = (L.take M.length).map Np.n) ∧ Hid (Blk wr w.heap.size #[.int .i64 nx, .slice ra L.length rc]) ∧ Hid (CpV w (w.heap.size + 1) (w.heap.size + 1 + 1) nx wr v M)) (fun i _ => L.length - (intOf i).toNat)
  case atStart => exact ⟨[], _, rfl, Nat.zero_le _, by unfold Hid; simp, HBX, HI⟩
  case round =>
    clear HBX
    obtain ⟨M, v, rfl, hj, HE, HBX, HI⟩ := hrel
    have kx1 : wr.cell? ⟨w.heap.size, 1, none⟩ = some (.slice ra L.length rc) := HBX.out.cell 1
    by_cases hlt : M.length < L.length
    · obtain ⟨bb, off, hab, hbN, hcc⟩ := HC.out (by intro h; rw [h] at hlt; simp at hlt)
      subst hab
      have hc := (hcc M.length hlt).kept HI.out.bel (by omega)
      have hnm := (HN.out _ (List.getElem_mem hlt))
      have hn := HB.out _ (List.getElem_mem hlt)
      have hst : L.take (M.length + 1) = L.take M.length ++ [L[M.length]] := List.take_succ_eq_append_getElem hlt
      generalize L[M.length] = p at hc hnm hn hst
      have HST := Hid.intro hst
      have HNM := Hid.intro hnm
      have hzr : bb < wr.heap.size := by have := HI.out.bel.size; omega
      have hjn : (M.length : Int) < (L.length : Int) := by omega
      have i1 : (0 : Int) ≤ (M.length : Int) ∧ (M.length : Int) < (L.length : Int) := by omega
      obtain ⟨va, vc, rfl⟩ := HI.out.own.own.slice
      obtain ⟨g0, g1, g2, g3, g4, g5, g6, g7, g8⟩ := hc
      have hwN : w.heap.size ≤ wr.heap.size := HI.out.bel.size
      clear hcc hst hnm
      go_upto_region 6 with fail
      obtain ⟨Y2, hY, bY, zY2, cY, fY⟩ := boxed wr (ndA p.n p.v) 104
      simp only [hY]
      have HR := Hid.intro (HNM.out.kept ((HI.out.bel.trans (bY.mono hwN)).mono hN))
      have hyl : wr.heap.size < Y2.heap.size := by omega
      have hYN : N ≤ Y2.heap.size := by omega
      have HXB : Hid (Blk Y2 wr.heap.size (ndA p.n p.v)) := ⟨hyl, cY, fY⟩
      have HBY := Hid.intro bY
      clear hY bY cY fY g0 g1 g2 g3 g4 g5 g6 g7 g8 kx1
      have k6 : Y2.cell? ⟨wr.heap.size, 6, none⟩ = some p.v := HXB.out.cell 6
      obtain ⟨MZ, hMZ⟩ : ∃ MZ, Y2.alloc (.cells #[] 126) = MZ := ⟨_, rfl⟩
      have bMZ : Below Y2.heap.size Y2 MZ := by rw [← hMZ]; exact one_below _ _
      have zMZ : MZ.heap.size = Y2.heap.size + 1 := by rw [← hMZ]; simp
      have HOW : Hid (Own diE 126 MZ Y2.heap.size (.slice (some ⟨wr.heap.size + 1, 0, none⟩) 0 0) []) := by
        unfold Hid
        rw [← hMZ, ← zY2]
        exact World.ownsRow_lit (base := Y2.heap.size) (e := 126) (size := 2) Y2 #[] 0 (Nat.le_refl _) (by decide) rfl
      replace HR := Hid.intro (HR.out.kept (bMZ.mono hYN))
      have HMZ := Hid.intro hMZ
      have HBM := Hid.intro bMZ
      clear hMZ bMZ
      obtain ⟨i0, hi, hz0, hz1, hz2⟩ := info_parts infoDiC
      have hnN : p.n.names.length ≤ 1048576 := by omega
      have HHi := Hid.intro hi
      have HZ0 := Hid.intro hz0
      have HZ1 : Hid (i0.size = diE.n ∧ i0.bytes = 24) := ⟨hz1, hz2⟩
      clear hi hz0 hz1 hz2
      go_upto_region 7 with (at_builtin; (rw [HMZ.out]; refine wpList_app_all (E := diE) (T := 126) (TS := 102) rfl _ _ rfl i0 (.agg #[.string ⟨#[]⟩, .int .i64 0]) 24 Tryz.underlying102 HHi.out HZ0.out HZ1.out.1 HZ1.out.2 rfl Y2.heap.size N (.slice (some ⟨wr.heap.size + 1, 0, none⟩) 0 0) rfl HOW.out p.v p.n.names rfl HR.out hnN (by decide) (by omega) ?_); intro a' c' w5 hown hol; have ho5 : Only (fun k => k = Y2.heap.size) MZ w5 := hol.mono (fun k _ h => (by (have h2 : k = wr.heap.size + 1 := (by (simpa [Value.ownBlock] using h)); omega))); have B5 : Below Y2.heap.size Y2 w5 := HBM.out.trans (ho5.below (by omega) (fun k hk e => (by omega))); have HXB5 := Hid.intro (HXB.out.kept B5); have e6 : w5.cell? ⟨wr.heap.size, 6, none⟩ = some p.v := HXB5.out.cell 6; have f6 : w5.frozen? ⟨wr.heap.size, 6, none⟩ = false := HXB5.out.fro 6; have HB5 := Hid.intro B5; have HON := Hid.intro hown; clear hol ho5 B5 hown)
      have hh5 := HXB5.out.hi
      have z5 : Y2.heap.size ≤ w5.heap.size := HB5.out.size
      obtain ⟨W6, hW6⟩ : ∃ W6, w5.setCell ⟨wr.heap.size, 6, none⟩ (.slice a' p.n.names.length c') = W6 := ⟨_, rfl⟩
      simp only [hW6]
      have HX6 : Blk W6 wr.heap.size (ndA p.n (.slice a' p.n.names.length c')) := by
        rw [← hW6]
        exact HXB5.out.putI 6 (by simp) (.slice a' p.n.names.length c')
      have O6 : Only (fun k => k = wr.heap.size) w5 W6 := by rw [← hW6]; exact setO _ 6 w5 _
      have HON6 : Hid (Own diE 126 W6 Y2.heap.size (.slice a' p.n.names.length c') p.n.names) := HON.out.only O6 (fun k hk e => by have := (HON.out.lt k hk).1; omega)
      have B6 : Below wr.heap.size wr W6 := (HBY.out.trans (HB5.out.mono (by omega))).trans (O6.below (by omega) (fun k hk e => by omega))
      have HI6 := Hid.intro (HI.out.kept B6)
      have HBX6 := Hid.intro (HBX.out.kept B6)
      have z6 : w5.heap.size ≤ W6.heap.size := O6.size
      obtain ⟨i1', hi, hz0, hz1, hz2⟩ := info_parts Tryz.infoInC
      obtain ⟨p', hp'⟩ : ∃ p' : Np, Np.mk p.n a' c' = p' := ⟨_, rfl⟩
      have hpn : p'.n = p.n := by rw [← hp']
      have hpv : p'.v = .slice a' p.n.names.length c' := by rw [← hp']
      obtain ⟨Mw, hMw⟩ : ∃ Mw, W6.alloc (.cells (ndA p.n (.slice a' p.n.names.length c')) 104) = Mw := ⟨_, rfl⟩
      have bM : Below W6.heap.size W6 Mw := by rw [← hMw]; exact one_below _ _
      have zMw : MZ.heap.size ≤ Mw.heap.size ∨ True := Or.inr trivial
      have hnews : ∀ j u, (ndE.f [p'])[j]? = some u → Mw.cell? ((⟨W6.heap.size, 0, none⟩ : Addr).add j) = some u := fun j u hj => by
        rw [add_none, Nat.zero_add, ← hMw, World.cell?_alloc_at _ _ _ _ rfl]
        simpa [ndE, Enc.f, hpn, hpv] using hj
      have HM := Hid.intro (HI6.out.kept bM)
      have HBXM := Hid.intro (HBX6.out.kept bM)
      have HPM : Hid (Own diE 126 Mw Y2.heap.size p'.v p'.n.names) := by unfold Hid; rw [hpn, hpv]; exact HON6.out.kept bM
      have HMX : Hid (∀ x ∈ M, ∀ k, x.v.ownBlock = some k → k < Y2.heap.size) := fun x hx k hk => by have := ((HI.out.own.nms x hx).lt k hk).2; omega
      have HEE : Hid ((M ++ [p']).map Np.n = (L.take (M.length + 1)).map Np.n) := by unfold Hid; rw [HST.out, List.map_append, List.map_append, HE.out, List.map_singleton, List.map_singleton, hpn]
      have kx := HX6.cell
      have k1 : W6.cell? ⟨w.heap.size + 1 + 1, 1, none⟩ = some (.slice va M.length vc) := HI6.out.box.cell 1
      have HNW := Hid.intro hnews
      have HHi2 := Hid.intro hi
      have HZ2 : Hid (i1'.zero = some (.agg #[.int .i64 0, .int .i64 0, .int .i64 0, .int .i64 0, .int .i64 0, .string ⟨#[]⟩, .slice none 0 0, .int .i64 0, .int .i64 0]) ∧ i1'.size = 9 ∧ i1'.bytes = 96) := ⟨hz0, hz1, hz2⟩
      have HGY : Hid (w.heap.size + 1 + 1 + 1 ≤ Y2.heap.size) := by have := HI.out.box.hi; unfold Hid; omega
      clear hnews hi hz0 hz1 hz2 bM HI HBX HBX6 HI6 HXB HXB5 HB5 HON HON6 HX6 O6 B6 hW6 hpn hpv hp' e6 f6 HHi HZ0 HZ1 HOW HR HMZ HBM HNM HBY k6 HST HE
      go_wp2_with (at_builtin; go_loud (refine wpList_append_lies _ rfl _ _ 30 rfl (w.heap.size + 1 + 1 + 1) 104 i1' (.agg #[.int .i64 0, .int .i64 0, .int .i64 0, .int .i64 0, .int .i64 0, .string ⟨#[]⟩, .slice none 0 0, .int .i64 0, .int .i64 0]) 9 96 Tryz.underlying30 HHi2.out HZ2.out.1 HZ2.out.2.1 HZ2.out.2.2 rfl (by decide) (.slice va M.length vc) M.length (ndE.f M) rfl HM.out.own.own ⟨W6.heap.size, 0, none⟩ 1 1 (ndE.f [p']) rfl (ndE.f_len [p']) HNW.out (ndE.f_one [p']) (by omega) (by unfold maxLen; omega) (by omega) HM.out.box.hi _ rfl ?_); intro g' cap' w7 hown hgrow hloc hg5; have ho7 : Only (fun k => some k = (Value.slice va M.length vc).ownBlock) Mw w7 := grown_only hgrow; have hne : ¬ some (w.heap.size + 1 + 1) = (Value.slice va M.length vc).ownBlock := (fun e => (by (have := (HM.out.own.own.lt _ e.symm).1; omega))); have hne0 : ¬ some w.heap.size = (Value.slice va M.length vc).ownBlock := (fun e => (by (have := (HM.out.own.own.lt _ e.symm).1; omega))); have k5 : w7.cell? ⟨w.heap.size + 1 + 1, 1, none⟩ = some (.slice va M.length vc) := (ho7.cell (o := 1) HM.out.box.hi hne).trans (HM.out.box.cell 1); have f5 : w7.frozen? ⟨w.heap.size + 1 + 1, 1, none⟩ = false := (ho7.frozen (o := 1) HM.out.box.hi hne).trans (HM.out.box.fro 1); have HE2 : Hid (CpV w (w.heap.size + 1) (w.heap.size + 1 + 1) nx (w7.setCell ⟨w.heap.size + 1 + 1, 1, none⟩ (.slice (some ⟨g', 0, none⟩) (M.length + 1) cap')) (.slice (some ⟨g', 0, none⟩) (M.length + 1) cap') (M ++ [p'])) := HM.out.put ho7 (Own.mk hown (by simp) (by rw [ndE.f_append])) HPM.out HGY.out HMX.out; have HB2 : Hid (Blk (w7.setCell ⟨w.heap.size + 1 + 1, 1, none⟩ (.slice (some ⟨g', 0, none⟩) (M.length + 1) cap')) w.heap.size #[.int .i64 nx, .slice (some ⟨bb, off, none⟩) L.length rc]) := (HBXM.out.only ho7 hne0).only (setO _ 1 w7 _) (by omega); clear hown hgrow hloc hg5 ho7 hne hne0)
      go_roundw
      case rel => exact ⟨M ++ [p'], _, by rw [List.length_append]; go_num, by rw [List.length_append, List.length_singleton]; omega, by unfold Hid; rw [List.length_append, List.length_singleton]; exact HEE.out, HB2, HE2⟩
      case measure => simp [intOf]; omega
    · have hjn : ¬ (M.length : Int) < (L.length : Int) := by omega
      have hML : M.length = L.length := by omega
      have HM : Hid (M.map Np.n = L.map Np.n) := by
        have := HE.out
        rw [hML, List.take_length] at this
        exact this
      obtain ⟨va, vc, rfl⟩ := HI.out.own.own.slice
      have k0 : wr.cell? ⟨w.heap.size + 1 + 1, 0, none⟩ = some (.int .i64 nx) := HI.out.box.cell 0
      have k1 : wr.cell? ⟨w.heap.size + 1 + 1, 1, none⟩ = some (.slice va M.length vc) := HI.out.box.cell 1
      have r0 : wr.cell? ⟨w.heap.size + 1, 0, none⟩ = some (.int .i64 0) := HI.out.res.cell 0
      have r1 : wr.cell? ⟨w.heap.size + 1, 1, none⟩ = some (.slice none 0 0) := HI.out.res.cell 1
      have f0 : wr.frozen? ⟨w.heap.size + 1, 0, none⟩ = false := HI.out.res.fro 0
      have f1 : wr.frozen? ⟨w.heap.size + 1, 1, none⟩ = false := HI.out.res.fro 1
      have HO : Only (fun x => x = w.heap.size + 1) wr ((wr.setCell ⟨w.heap.size + 1, 0, none⟩ (.int .i64 nx)).setCell ⟨w.heap.size + 1, 1, none⟩ (.slice va M.length vc)) := (setO (w.heap.size + 1) 0 wr (.int .i64 nx)).setCell (p := ⟨w.heap.size + 1, 1, none⟩) rfl (.slice va M.length vc)
      have hlt3 := HI.out.lt
      have HFB := HI.out.bel.trans (HO.below HI.out.bel.size (fun k hk e => by omega))
      have HFO : VolO ((wr.setCell ⟨w.heap.size + 1, 0, none⟩ (.int .i64 nx)).setCell ⟨w.heap.size + 1, 1, none⟩ (.slice va M.length vc)) w.heap.size (.slice va M.length vc) M := (HI.out.own.only HO (fun k hk e => by omega)).lower (by omega)
      clear HI hML
      go_wp2
      refine bodyPost_ret (v := volV nx (.slice va M.length vc)) (by simp [results, Tryz.results39, go_sem, r0, r1]) rfl ⟨va, vc, M, rfl, HFO, HM.out, HFB⟩
end Go.Proofs.YtnhjicbgmocilaaGreat
