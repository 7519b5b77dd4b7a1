/- An own tenant: its tokens refilled; the tenant that it is handed on as. -/
import Derived.Test.YtnhjicbgmocilaaGreatXOwned
import Derived.Test.YtnhjicbgmocilaaGreatXSmall
namespace Go.Proofs.YtnhjicbgmocilaaGreat
open Go.RowKit
set_option linter.unusedVariables false
theorem infoSe2' : (Tryz.prog.info? 57).map (fun i => (i.zero, i.size, i.bytes)) = some (some (.agg #[.int .i64 0, .int .i64 0, .int .i64 0, .int .i64 0, .string ⟨#[]⟩]), 5, 48) := by kernel_rfl
theorem refillM_any (g : Nat) (tk nx : Int) (va u : Value) (a b c : Se) (w : World) (h : Blk w g (own19 tk va nx u a b c)) :
    Calls Tryz.prog 22 #[.pointer (some ⟨g, 0, none⟩)] w fun e w' => e = .returned (.tuple #[]) ∧ Blk w' g (own19 (refI tk) va nx u a b c) ∧ ∃ w1, Below w.heap.size w w1 ∧ Only (fun k => k = g) w1 w' := by
  have k0 : w.cell? ⟨g, 0, none⟩ = some (.int .i64 tk) := h.cell 0
  have HB := Hid.intro h
  have hg := h.hi
  clear h
  go_enter Tryz.func22, Tryz.ntmps22
  go_wp2_with fail
  refine (implRefill_any tk w).mono ?_
  rintro e w1 ⟨rfl, b1⟩
  have hb1 := HB.out.kept b1
  have k0 : w1.cell? ⟨g, 0, none⟩ = some (.int .i64 tk) := hb1.cell 0
  have f0 := hb1.fro 0
  have HF : Hid (Blk (w1.setCell ⟨g, 0, none⟩ (.int .i64 (refI tk))) g (own19 (refI tk) va nx u a b c)) := hb1.putI 0 (by simp) (.int .i64 (refI tk))
  have HO := Hid.intro (setO g 0 w1 (.int .i64 (refI tk)))
  have HB1 := Hid.intro b1
  clear hb1 b1
  generalize hrr : refI tk = r at HF HO ⊢
  have HRR := Hid.intro hrr
  clear hrr
  go_wp2
  refine bodyPost_end (v := .tuple #[]) (by simp [results, Tryz.results22, go_sem]) rfl ⟨rfl, by first | exact HF.out | (rw [HRR.out]; exact HF.out), w1, HB1.out, HO.out⟩
abbrev zeroT : Array Value := #[.int .i64 0, .slice none 0 0, .int .i64 0, .slice none 0 0, .slice none 0 0]
/-- What stands while the sessions are gathered. -/
structure TnI (w : World) (nx tk : Int) (va u : Value) (wr : World) (vs : Value) (S : List Se) : Prop where
  box : Blk wr (w.heap.size + 1) #[.int .i64 nx, u, .int .i64 tk, va, vs]
  res : Blk wr w.heap.size zeroT
  own : Own seE 57 wr (w.heap.size + 1 + 1) vs S
  bel : Below w.heap.size w wr
theorem TnI.kept {w : World} {nx tk : Int} {va u vs : Value} {wr w2 : World} {S : List Se} (h : TnI w nx tk va u wr vs S) (hb : Below wr.heap.size wr w2) : TnI w nx tk va u w2 vs S :=
  ⟨h.box.kept hb, h.res.kept hb, h.own.kept hb, h.bel.trans (hb.mono h.bel.size)⟩
theorem TnI.put {w : World} {nx tk : Int} {va u vs : Value} {wr w4 : World} {S S' : List Se} {g m cap : Nat} (h : TnI w nx tk va u wr vs S) (ho : Only (fun k => some k = vs.ownBlock) wr w4) (hown : Own seE 57 w4 (w.heap.size + 1 + 1) (.slice (some ⟨g, 0, none⟩) m cap) S') :
    TnI w nx tk va u (w4.setCell ⟨w.heap.size + 1, 4, none⟩ (.slice (some ⟨g, 0, none⟩) m cap)) (.slice (some ⟨g, 0, none⟩) m cap) S' := by
  have nb : ∀ k, some k = vs.ownBlock → w.heap.size + 1 + 1 ≤ k := fun k hk => (h.own.lt k hk.symm).1
  have h3 : ¬ some (w.heap.size + 1) = vs.ownBlock := fun e => by have := nb _ e; omega
  have h2 : ¬ some w.heap.size = vs.ownBlock := fun e => by have := nb _ e; omega
  refine ⟨(h.box.only ho h3).putI 4 (by simp) _, (h.res.only ho h2).only (setO _ 4 w4 _) (by omega), hown.only (setO _ 4 w4 _) (fun k hk e => by have := (hown.lt k hk).1; omega), ?_⟩
  exact (h.bel.trans (ho.below h.bel.size (fun k hk e => by have := nb k e; omega))).trans ((setO _ 4 w4 _).below (Nat.le_trans h.bel.size ho.size) (fun k hk e => by omega))
abbrev arr15 (a b c : Se) : Array Value := #[.int .i64 a.c, .int .i64 a.s, .int .i64 a.i, .int .i64 a.r.c, .string a.r.d, .int .i64 b.c, .int .i64 b.s, .int .i64 b.i, .int .i64 b.r.c, .string b.r.d, .int .i64 c.c, .int .i64 c.s, .int .i64 c.i, .int .i64 c.r.c, .string c.r.d]
theorem idx_any (a b c x : Se) (k : Nat) (w : World) (h : (k = 0 ∧ x = a) ∨ (k = 1 ∧ x = b) ∨ (k = 2 ∧ x = c)) :
    (Instr.index 58 (.agg (arr15 a b c)) (.int .i64 (k : Nat))).run Tryz.prog w = .ok (.agg (seA x)) w := by
  rcases h with ⟨rfl, rfl⟩ | ⟨rfl, rfl⟩ | ⟨rfl, rfl⟩ <;>
    simp [Instr.index, part, asIntOf, run_underlying Tryz.underlying58, Tryz.sizeOf57, Tryz.isAgg57]
def filt (a b c : Se) (k : Nat) : List Se := ([a, b, c].take k).filter fun s => decide (0 < s.s)
theorem filt_len (a b c : Se) (k : Nat) : (filt a b c k).length ≤ k := Nat.le_trans (List.length_filter_le _ _) (List.length_take_le _ _)
theorem filt1 (a b c : Se) : filt a b c 1 = filt a b c 0 ++ (if 0 < a.s then [a] else []) := by
  by_cases h : 0 < a.s <;> simp [filt, h]
theorem filt2 (a b c : Se) : filt a b c 2 = filt a b c 1 ++ (if 0 < b.s then [b] else []) := by
  by_cases h : 0 < a.s <;> by_cases h2 : 0 < b.s <;> simp [filt, h, h2]
theorem filt3 (a b c : Se) : filt a b c 3 = filt a b c 2 ++ (if 0 < c.s then [c] else []) := by
  by_cases h : 0 < a.s <;> by_cases h2 : 0 < b.s <;> by_cases h3 : 0 < c.s <;> simp [filt, h, h2, h3]
set_option maxRecDepth 100000 in
set_option maxHeartbeats 8000000 in
theorem tenantI_any (g : Nat) (tk nx : Int) (aa : Option Addr) (na ca : Nat) (ua : Option Addr) (nu cu : Nat) (a b c : Se) (w : World) (h : Blk w g (own19 tk (.slice aa na ca) nx (.slice ua nu cu) a b c)) :
    Calls Tryz.prog 23 #[.pointer (some ⟨g, 0, none⟩)] w fun e w' => ∃ sa sc, e = .returned (.agg #[.int .i64 nx, .slice ua nu cu, .int .i64 tk, .slice aa na ca, .slice sa (filt a b c 3).length sc]) ∧ Own seE 57 w' (w.heap.size + 1 + 1) (.slice sa (filt a b c 3).length sc) (filt a b c 3) ∧ Below w.heap.size w w' := by
  have HB := Hid.intro h
  have hg := h.hi
  clear h
  go_enter Tryz.func23, Tryz.ntmps23
  go_upto_region 1 with fail
  obtain ⟨W, hW, bW, zW, c1, f1⟩ := boxed w zeroT 36
  simp only [hW]
  have HR : Hid (Blk W w.heap.size zeroT) := ⟨by omega, c1, f1⟩
  replace HB := Hid.intro (HB.out.kept bW)
  have HBW := Hid.intro bW
  clear hW c1 f1 bW
  have HSF : Hid (∀ y, Below W.heap.size W y → STo g nx (.slice ua nu cu) tk (.slice aa na ca) (.slice none 0 0) y → True) := fun _ _ _ => trivial
  clear HSF
  have HSF : Hid (∀ y, Below W.heap.size W y → (y.cell? ⟨g, 0, none⟩ = some (.int .i64 tk) ∧ y.cell? ⟨g, 1, none⟩ = some (.slice aa na ca) ∧ y.cell? ⟨g, 2, none⟩ = some (.int .i64 nx) ∧ y.cell? ⟨g, 3, none⟩ = some (.slice ua nu cu))) := fun y hy => ⟨(HB.out.kept hy).cell 0, (HB.out.kept hy).cell 1, (HB.out.kept hy).cell 2, (HB.out.kept hy).cell 3⟩
  refine wp_region_held_drew (S := fun y => y.cell? ⟨g, 0, none⟩ = some (.int .i64 tk) ∧ y.cell? ⟨g, 1, none⟩ = some (.slice aa na ca) ∧ y.cell? ⟨g, 2, none⟩ = some (.int .i64 nx) ∧ y.cell? ⟨g, 3, none⟩ = some (.slice ua nu cu)) (by kernel_rfl) (HSF.out _ (Below.refl _ _).drew) (fun hHeld => ?_)
  have BD : Hid (Below W.heap.size W W.drew) := (Below.refl _ _).drew
  have zD : W.drew.heap.size = W.heap.size := rfl
  generalize W.drew = D at BD zD hHeld ⊢
  refine take1 (i := 0) (d := some 6) (v := ?_) rfl rfl (by kernel_rfl) (by kernel_rfl) (by kernel_rfl) (fun _ _ _ h => h) (Or.inl ⟨by rfl, ?_⟩) (by assumption) ?_
  rotate_left 1
  · intro w hSw
    obtain ⟨s0, s1, s2, s3⟩ := hSw
    go_simp <;> with_reducible rfl
  simp only [Act.put, List.setIfInBounds_toArray]
  try simp only [List.set_cons_succ]
  try simp only [List.set_cons_zero]
  refine take1 (i := 1) (d := some 7) (v := ?_) rfl rfl (by kernel_rfl) (by kernel_rfl) (by kernel_rfl) (fun _ _ _ h => h) (Or.inl ⟨by rfl, ?_⟩) (by assumption) ?_
  rotate_left 1
  · intro w hSw
    obtain ⟨s0, s1, s2, s3⟩ := hSw
    go_simp <;> with_reducible rfl
  simp only [Act.put, List.setIfInBounds_toArray]
  try simp only [List.set_cons_succ]
  try simp only [List.set_cons_zero]
  refine take1 (i := 2) (d := some 8) (v := ?_) rfl rfl (by kernel_rfl) (by kernel_rfl) (by kernel_rfl) (fun _ _ _ h => h) (Or.inl ⟨by rfl, ?_⟩) (by assumption) ?_
  rotate_left 1
  · intro w hSw
    obtain ⟨s0, s1, s2, s3⟩ := hSw
    go_simp <;> with_reducible rfl
  simp only [Act.put, List.setIfInBounds_toArray]
  try simp only [List.set_cons_succ]
  try simp only [List.set_cons_zero]
  refine take1 (i := 3) (d := some 9) (v := ?_) rfl rfl (by kernel_rfl) (by kernel_rfl) (by kernel_rfl) (fun _ _ _ h => h) (Or.inl ⟨by rfl, ?_⟩) (by assumption) ?_
  rotate_left 1
  · intro w hSw
    obtain ⟨s0, s1, s2, s3⟩ := hSw
    go_simp <;> with_reducible rfl
  simp only [Act.put, List.setIfInBounds_toArray]
  try simp only [List.set_cons_succ]
  try simp only [List.set_cons_zero]
  refine take1 (i := 4) (d := some 10) (v := ?_) rfl rfl (by kernel_rfl) (by kernel_rfl) (by kernel_rfl) (fun _ _ _ h => h) (Or.inl ⟨by rfl, ?_⟩) (by assumption) ?_
  rotate_left 1
  · intro w hSw
    obtain ⟨s0, s1, s2, s3⟩ := hSw
    go_simp <;> with_reducible rfl
  simp only [Act.put, List.setIfInBounds_toArray]
  try simp only [List.set_cons_succ]
  try simp only [List.set_cons_zero]
  refine take1 (i := 5) (d := some 11) (v := ?_) rfl rfl (by kernel_rfl) (by kernel_rfl) (by kernel_rfl) (fun _ _ _ h => h) (Or.inl ⟨by rfl, ?_⟩) (by assumption) ?_
  rotate_left 1
  · intro w hSw
    obtain ⟨s0, s1, s2, s3⟩ := hSw
    go_simp <;> with_reducible rfl
  simp only [Act.put, List.setIfInBounds_toArray]
  try simp only [List.set_cons_succ]
  try simp only [List.set_cons_zero]
  refine take1 (i := 6) (d := some 12) (v := ?_) rfl rfl (by kernel_rfl) (by kernel_rfl) (by kernel_rfl) (fun _ _ _ h => h) (Or.inl ⟨by rfl, ?_⟩) (by assumption) ?_
  rotate_left 1
  · intro w hSw
    obtain ⟨s0, s1, s2, s3⟩ := hSw
    go_simp <;> with_reducible rfl
  simp only [Act.put, List.setIfInBounds_toArray]
  try simp only [List.set_cons_succ]
  try simp only [List.set_cons_zero]
  refine take1 (i := 7) (d := some 13) (v := ?_) rfl rfl (by kernel_rfl) (by kernel_rfl) (by kernel_rfl) (fun _ _ _ h => h) (Or.inl ⟨by rfl, ?_⟩) (by assumption) ?_
  rotate_left 1
  · intro w hSw
    obtain ⟨s0, s1, s2, s3⟩ := hSw
    go_simp <;> with_reducible rfl
  simp only [Act.put, List.setIfInBounds_toArray]
  try simp only [List.set_cons_succ]
  try simp only [List.set_cons_zero]
  refine take1 (i := 8) (d := some 14) (v := ?_) rfl rfl (by kernel_rfl) (by kernel_rfl) (by kernel_rfl) (fun _ _ _ h => h) (Or.inl ⟨by rfl, ?_⟩) (by assumption) ?_
  rotate_left 1
  · intro w hSw
    obtain ⟨s0, s1, s2, s3⟩ := hSw
    go_simp <;> with_reducible rfl
  simp only [Act.put, List.setIfInBounds_toArray]
  try simp only [List.set_cons_succ]
  try simp only [List.set_cons_zero]
  refine take1 (i := 9) (d := some 15) (v := ?_) rfl rfl (by kernel_rfl) (by kernel_rfl) (by kernel_rfl) (fun _ _ _ h => h) (Or.inl ⟨by rfl, ?_⟩) (by assumption) ?_
  rotate_left 1
  · intro w hSw
    obtain ⟨s0, s1, s2, s3⟩ := hSw
    go_simp <;> with_reducible rfl
  simp only [Act.put, List.setIfInBounds_toArray]
  try simp only [List.set_cons_succ]
  try simp only [List.set_cons_zero]
  refine take1 (i := 10) (d := some 16) (v := ?_) rfl rfl (by kernel_rfl) (by kernel_rfl) (by kernel_rfl) (fun _ _ _ h => h) (Or.inl ⟨by rfl, ?_⟩) (by assumption) ?_
  rotate_left 1
  · intro w hSw
    obtain ⟨s0, s1, s2, s3⟩ := hSw
    go_simp <;> with_reducible rfl
  simp only [Act.put, List.setIfInBounds_toArray]
  try simp only [List.set_cons_succ]
  try simp only [List.set_cons_zero]
  refine take1 (i := 11) (d := some 17) (v := ?_) rfl rfl (by kernel_rfl) (by kernel_rfl) (by kernel_rfl) (fun _ _ _ h => h) (Or.inl ⟨by rfl, ?_⟩) (by assumption) ?_
  rotate_left 1
  · intro w hSw
    obtain ⟨s0, s1, s2, s3⟩ := hSw
    go_simp <;> with_reducible rfl
  simp only [Act.put, List.setIfInBounds_toArray]
  try simp only [List.set_cons_succ]
  try simp only [List.set_cons_zero]
  refine take1 (i := 12) (d := some 18) (v := ?_) rfl rfl (by kernel_rfl) (by kernel_rfl) (by kernel_rfl) (fun _ _ _ h => h) (Or.inl ⟨by rfl, ?_⟩) (by assumption) ?_
  rotate_left 1
  · intro w hSw
    obtain ⟨s0, s1, s2, s3⟩ := hSw
    go_simp <;> with_reducible rfl
  simp only [Act.put, List.setIfInBounds_toArray]
  try simp only [List.set_cons_succ]
  try simp only [List.set_cons_zero]
  refine take1 (i := 13) (d := some 19) (v := ?_) rfl rfl (by kernel_rfl) (by kernel_rfl) (by kernel_rfl) (fun _ _ _ h => h) (Or.inl ⟨by rfl, ?_⟩) (by assumption) ?_
  rotate_left 1
  · intro w hSw
    obtain ⟨s0, s1, s2, s3⟩ := hSw
    go_simp <;> with_reducible rfl
  simp only [Act.put, List.setIfInBounds_toArray]
  try simp only [List.set_cons_succ]
  try simp only [List.set_cons_zero]
  refine take1 (i := 14) (d := some 20) (v := ?_) rfl rfl (by kernel_rfl) (by kernel_rfl) (by kernel_rfl) (fun _ _ _ h => h) (Or.inl ⟨by rfl, ?_⟩) (by assumption) ?_
  rotate_left 1
  · intro w hSw
    obtain ⟨s0, s1, s2, s3⟩ := hSw
    go_simp <;> with_reducible rfl
  simp only [Act.put, List.setIfInBounds_toArray]
  try simp only [List.set_cons_succ]
  try simp only [List.set_cons_zero]
  refine wpAnyH_ready (rs := [15]) (by kernel_rfl) (by simp) ?_
  refine (AllReadyH.cons rfl (fun KK hKK => ?_) AllReadyH.nil)
  go_simp
  obtain ⟨G, hG, bG, zG, cG, fG⟩ := boxed D zeroT 36
  rw [zD, zW] at cG fG
  simp only [hG]
  have BG : Hid (Below W.heap.size W G) := BD.out.trans (bG.mono BD.out.size)
  have HGB : Hid (Blk G (w.heap.size + 1) zeroT) := ⟨by omega, cG, fG⟩
  clear hG bG
  refine hKK.out _ _ (HSF.out _ BG.out) (fun hHeld2 => ?_)
  clear hKK KK hHeld
  have hHeld := hHeld2
  clear hHeld2
  refine wpAnyH_ready (rs := [16]) (by kernel_rfl) (by simp) ?_
  refine (AllReadyH.cons rfl (fun KK hKK => ?_) AllReadyH.nil)
  refine step_store_mid rfl 36 _ _ rfl (w.heap.size + 1) 0 #[.int .i64 nx, .slice ua nu cu, .int .i64 tk, .slice aa na ca, .slice none 0 0] rfl rfl (HGB.out.there 0 5 (Nat.le_refl _)) (by kernel_rfl) (by simp [Value.oneCell']) ?_
  intro V hVC
  have BV : Blk V (w.heap.size + 1) #[.int .i64 nx, .slice ua nu cu, .int .i64 tk, .slice aa na ca, .slice none 0 0] := by
    rw [← hVC]
    exact HGB.out.all _ rfl
  have OV : Only (fun k => k = w.heap.size + 1) G V := by
    rw [← hVC]
    exact only_setC _ _ _ _
  have hgG : g < G.heap.size := by have := BG.out.size; omega
  have HGV : Hid (Blk V g (own19 tk (.slice aa na ca) nx (.slice ua nu cu) a b c)) := (HB.out.kept BG.out).only OV (by omega)
  have SV := Hid.intro (show _ ∧ _ ∧ _ ∧ _ from ⟨HGV.out.cell 0, HGV.out.cell 1, HGV.out.cell 2, HGV.out.cell 3⟩)
  have HI : Hid (TnI w nx tk (.slice aa na ca) (.slice ua nu cu) V (.slice none 0 0) []) := ⟨BV, (HR.out.kept BG.out).only OV (by omega), Own.nil _ _, (HBW.out.trans (BG.out.mono HBW.out.size)).trans (OV.below (by have := BG.out.size; omega) (fun k hk e => by omega))⟩
  clear BV OV hVC HGB HSF HB HR HBW
  refine hKK.out _ _ (SV.out) (fun hHeld2 => ?_)
  clear hKK KK hHeld
  have hHeld := hHeld2
  clear hHeld2
  refine wpAnyH_done (by kernel_rfl) ?_ _
  clear hHeld SV BD zD BG cG fG zG
  have hgV : g < V.heap.size := HGV.out.hi
  have kx := HGV.out.cell
  go_wp2_with fail
  clear kx
  go_loopw [25] (fun i wr => ∃ (k : Nat) (S : List Se) (v : Value), i = .int .i64 (k : Nat) ∧ k ≤ 3 ∧ Hid (S = filt a b c k) ∧ S.length ≤ 3 ∧ Hid (TnI w nx tk (.slice aa na ca) (.slice ua nu cu) wr v S)) (fun i _ => 3 - (intOf i).toNat)
  case atStart => exact ⟨0, [], _, rfl, Nat.zero_le _, by unfold Hid; simp [filt], by simp, HI⟩
  case round =>
    obtain ⟨k, S, v, rfl, hk, HS, hS3, HI⟩ := hrel
    rcases (show k = 0 ∨ k = 1 ∨ k = 2 ∨ k = 3 by omega) with rfl | rfl | rfl | rfl
    · have hidx : (Instr.index 58 (.agg (arr15 a b c)) (.int .i64 0)).run Tryz.prog wr = .ok (.agg (seA a)) wr := idx_any a b c a 0 wr (by simp)
      go_upto_region 5 with fail
      clear hidx
      obtain ⟨Y, hY, bY, zY, cY, fY⟩ := boxed wr (seA a) 57
      simp only [hY]
      replace HI := Hid.intro (HI.out.kept bY)
      have hyl : wr.heap.size < Y.heap.size := by omega
      clear hY bY fY zY
      by_cases hs : 0 < a.s
      · obtain ⟨i0, hi, hz0, hz1, hz2⟩ := info_parts infoSe2'
        obtain ⟨va, vc, rfl⟩ := HI.out.own.slice
        obtain ⟨Mw, hMw⟩ : ∃ Mw, Y.alloc (.cells (seA a) 57) = Mw := ⟨_, rfl⟩
        have bM : Below Y.heap.size Y Mw := by rw [← hMw]; exact one_below _ _
        have hnews : ∀ j u, (seE.f [a])[j]? = some u → Mw.cell? ((⟨Y.heap.size, 0, none⟩ : Addr).add j) = some u := fun j u hj => by
          rw [add_none, Nat.zero_add, ← hMw, World.cell?_alloc_at _ _ _ _ rfl]
          simpa [seE, Enc.f] using hj
        have HM := Hid.intro (HI.out.kept bM)
        have k4 : Y.cell? ⟨w.heap.size + 1, 4, none⟩ = some (.slice va S.length vc) := HI.out.box.cell 4
        have HNW := Hid.intro hnews
        have HHi := Hid.intro hi
        have HZ : Hid (i0.zero = some (.agg #[.int .i64 0, .int .i64 0, .int .i64 0, .int .i64 0, .string ⟨#[]⟩]) ∧ i0.size = 5 ∧ i0.bytes = 48) := ⟨hz0, hz1, hz2⟩
        clear hnews hi hz0 hz1 hz2 bM
        go_wp2_with (at_builtin; (refine wpList_append_lies _ rfl _ _ 34 rfl (w.heap.size + 1 + 1) 57 i0 (.agg #[.int .i64 0, .int .i64 0, .int .i64 0, .int .i64 0, .string ⟨#[]⟩]) 5 48 Tryz.underlying34 HHi.out HZ.out.1 HZ.out.2.1 HZ.out.2.2 rfl (by decide) (.slice va S.length vc) S.length (seE.f S) rfl HM.out.own ⟨Y.heap.size, 0, none⟩ 1 1 (seE.f [a]) rfl (seE.f_len [a]) HNW.out (seE.f_one [a]) (by omega) (by unfold maxLen; omega) (by omega) HM.out.box.hi _ rfl ?_); intro g' cap' w5 hown hgrow hloc hg5; have ho5 : Only (fun k => some k = (Value.slice va S.length vc).ownBlock) Mw w5 := grown_only hgrow; have hne : ¬ some (w.heap.size + 1) = (Value.slice va S.length vc).ownBlock := (fun e => (by (have := (HM.out.own.lt _ e.symm).1; omega))); have k5 : w5.cell? ⟨w.heap.size + 1, 4, none⟩ = some (.slice va S.length vc) := (ho5.cell (o := 4) HM.out.box.hi hne).trans (HM.out.box.cell 4); have f5 : w5.frozen? ⟨w.heap.size + 1, 4, none⟩ = false := (ho5.frozen (o := 4) HM.out.box.hi hne).trans (HM.out.box.fro 4); have HE : Hid (TnI w nx tk (.slice aa na ca) (.slice ua nu cu) (w5.setCell ⟨w.heap.size + 1, 4, none⟩ (.slice (some ⟨g', 0, none⟩) (S.length + 1) cap')) (.slice (some ⟨g', 0, none⟩) (S.length + 1) cap') (S ++ [a])) := HM.out.put ho5 (Own.mk hown (by simp) (by rw [seE.f_append])); clear hown hgrow hloc hg5 ho5 hne)
        go_roundw
        case rel => exact ⟨1, S ++ [a], _, by go_num, by omega, by unfold Hid; rw [filt1, if_pos hs, HS.out], by have := filt_len a b c 0; rw [List.length_append, HS.out]; simp only [List.length_cons, List.length_nil]; omega, HE⟩
        case measure => simp [intOf]
      · go_wp2
        go_roundw
        case rel => exact ⟨1, S, _, by go_num, by omega, by unfold Hid; rw [filt1, if_neg hs, List.append_nil, HS.out], hS3, HI⟩
        case measure => simp [intOf]
    · have hidx : (Instr.index 58 (.agg (arr15 a b c)) (.int .i64 1)).run Tryz.prog wr = .ok (.agg (seA b)) wr := idx_any a b c b 1 wr (by simp)
      go_upto_region 5 with fail
      clear hidx
      obtain ⟨Y, hY, bY, zY, cY, fY⟩ := boxed wr (seA b) 57
      simp only [hY]
      replace HI := Hid.intro (HI.out.kept bY)
      have hyl : wr.heap.size < Y.heap.size := by omega
      clear hY bY fY zY
      by_cases hs : 0 < b.s
      · obtain ⟨i0, hi, hz0, hz1, hz2⟩ := info_parts infoSe2'
        obtain ⟨va, vc, rfl⟩ := HI.out.own.slice
        obtain ⟨Mw, hMw⟩ : ∃ Mw, Y.alloc (.cells (seA b) 57) = Mw := ⟨_, rfl⟩
        have bM : Below Y.heap.size Y Mw := by rw [← hMw]; exact one_below _ _
        have hnews : ∀ j u, (seE.f [b])[j]? = some u → Mw.cell? ((⟨Y.heap.size, 0, none⟩ : Addr).add j) = some u := fun j u hj => by
          rw [add_none, Nat.zero_add, ← hMw, World.cell?_alloc_at _ _ _ _ rfl]
          simpa [seE, Enc.f] using hj
        have HM := Hid.intro (HI.out.kept bM)
        have k4 : Y.cell? ⟨w.heap.size + 1, 4, none⟩ = some (.slice va S.length vc) := HI.out.box.cell 4
        have HNW := Hid.intro hnews
        have HHi := Hid.intro hi
        have HZ : Hid (i0.zero = some (.agg #[.int .i64 0, .int .i64 0, .int .i64 0, .int .i64 0, .string ⟨#[]⟩]) ∧ i0.size = 5 ∧ i0.bytes = 48) := ⟨hz0, hz1, hz2⟩
        clear hnews hi hz0 hz1 hz2 bM
        go_wp2_with (at_builtin; (refine wpList_append_lies _ rfl _ _ 34 rfl (w.heap.size + 1 + 1) 57 i0 (.agg #[.int .i64 0, .int .i64 0, .int .i64 0, .int .i64 0, .string ⟨#[]⟩]) 5 48 Tryz.underlying34 HHi.out HZ.out.1 HZ.out.2.1 HZ.out.2.2 rfl (by decide) (.slice va S.length vc) S.length (seE.f S) rfl HM.out.own ⟨Y.heap.size, 0, none⟩ 1 1 (seE.f [b]) rfl (seE.f_len [b]) HNW.out (seE.f_one [b]) (by omega) (by unfold maxLen; omega) (by omega) HM.out.box.hi _ rfl ?_); intro g' cap' w5 hown hgrow hloc hg5; have ho5 : Only (fun k => some k = (Value.slice va S.length vc).ownBlock) Mw w5 := grown_only hgrow; have hne : ¬ some (w.heap.size + 1) = (Value.slice va S.length vc).ownBlock := (fun e => (by (have := (HM.out.own.lt _ e.symm).1; omega))); have k5 : w5.cell? ⟨w.heap.size + 1, 4, none⟩ = some (.slice va S.length vc) := (ho5.cell (o := 4) HM.out.box.hi hne).trans (HM.out.box.cell 4); have f5 : w5.frozen? ⟨w.heap.size + 1, 4, none⟩ = false := (ho5.frozen (o := 4) HM.out.box.hi hne).trans (HM.out.box.fro 4); have HE : Hid (TnI w nx tk (.slice aa na ca) (.slice ua nu cu) (w5.setCell ⟨w.heap.size + 1, 4, none⟩ (.slice (some ⟨g', 0, none⟩) (S.length + 1) cap')) (.slice (some ⟨g', 0, none⟩) (S.length + 1) cap') (S ++ [b])) := HM.out.put ho5 (Own.mk hown (by simp) (by rw [seE.f_append])); clear hown hgrow hloc hg5 ho5 hne)
        go_roundw
        case rel => exact ⟨2, S ++ [b], _, by go_num, by omega, by unfold Hid; rw [filt2, if_pos hs, HS.out], by have := filt_len a b c 1; rw [List.length_append, HS.out]; simp only [List.length_cons, List.length_nil]; omega, HE⟩
        case measure => simp [intOf]
      · go_wp2
        go_roundw
        case rel => exact ⟨2, S, _, by go_num, by omega, by unfold Hid; rw [filt2, if_neg hs, List.append_nil, HS.out], hS3, HI⟩
        case measure => simp [intOf]
    · have hidx : (Instr.index 58 (.agg (arr15 a b c)) (.int .i64 2)).run Tryz.prog wr = .ok (.agg (seA c)) wr := idx_any a b c c 2 wr (by simp)
      go_upto_region 5 with fail
      clear hidx
      obtain ⟨Y, hY, bY, zY, cY, fY⟩ := boxed wr (seA c) 57
      simp only [hY]
      replace HI := Hid.intro (HI.out.kept bY)
      have hyl : wr.heap.size < Y.heap.size := by omega
      clear hY bY fY zY
      by_cases hs : 0 < c.s
      · obtain ⟨i0, hi, hz0, hz1, hz2⟩ := info_parts infoSe2'
        obtain ⟨va, vc, rfl⟩ := HI.out.own.slice
        obtain ⟨Mw, hMw⟩ : ∃ Mw, Y.alloc (.cells (seA c) 57) = Mw := ⟨_, rfl⟩
        have bM : Below Y.heap.size Y Mw := by rw [← hMw]; exact one_below _ _
        have hnews : ∀ j u, (seE.f [c])[j]? = some u → Mw.cell? ((⟨Y.heap.size, 0, none⟩ : Addr).add j) = some u := fun j u hj => by
          rw [add_none, Nat.zero_add, ← hMw, World.cell?_alloc_at _ _ _ _ rfl]
          simpa [seE, Enc.f] using hj
        have HM := Hid.intro (HI.out.kept bM)
        have k4 : Y.cell? ⟨w.heap.size + 1, 4, none⟩ = some (.slice va S.length vc) := HI.out.box.cell 4
        have HNW := Hid.intro hnews
        have HHi := Hid.intro hi
        have HZ : Hid (i0.zero = some (.agg #[.int .i64 0, .int .i64 0, .int .i64 0, .int .i64 0, .string ⟨#[]⟩]) ∧ i0.size = 5 ∧ i0.bytes = 48) := ⟨hz0, hz1, hz2⟩
        clear hnews hi hz0 hz1 hz2 bM
        go_wp2_with (at_builtin; (refine wpList_append_lies _ rfl _ _ 34 rfl (w.heap.size + 1 + 1) 57 i0 (.agg #[.int .i64 0, .int .i64 0, .int .i64 0, .int .i64 0, .string ⟨#[]⟩]) 5 48 Tryz.underlying34 HHi.out HZ.out.1 HZ.out.2.1 HZ.out.2.2 rfl (by decide) (.slice va S.length vc) S.length (seE.f S) rfl HM.out.own ⟨Y.heap.size, 0, none⟩ 1 1 (seE.f [c]) rfl (seE.f_len [c]) HNW.out (seE.f_one [c]) (by omega) (by unfold maxLen; omega) (by omega) HM.out.box.hi _ rfl ?_); intro g' cap' w5 hown hgrow hloc hg5; have ho5 : Only (fun k => some k = (Value.slice va S.length vc).ownBlock) Mw w5 := grown_only hgrow; have hne : ¬ some (w.heap.size + 1) = (Value.slice va S.length vc).ownBlock := (fun e => (by (have := (HM.out.own.lt _ e.symm).1; omega))); have k5 : w5.cell? ⟨w.heap.size + 1, 4, none⟩ = some (.slice va S.length vc) := (ho5.cell (o := 4) HM.out.box.hi hne).trans (HM.out.box.cell 4); have f5 : w5.frozen? ⟨w.heap.size + 1, 4, none⟩ = false := (ho5.frozen (o := 4) HM.out.box.hi hne).trans (HM.out.box.fro 4); have HE : Hid (TnI w nx tk (.slice aa na ca) (.slice ua nu cu) (w5.setCell ⟨w.heap.size + 1, 4, none⟩ (.slice (some ⟨g', 0, none⟩) (S.length + 1) cap')) (.slice (some ⟨g', 0, none⟩) (S.length + 1) cap') (S ++ [c])) := HM.out.put ho5 (Own.mk hown (by simp) (by rw [seE.f_append])); clear hown hgrow hloc hg5 ho5 hne)
        go_roundw
        case rel => exact ⟨3, S ++ [c], _, by go_num, by omega, by unfold Hid; rw [filt3, if_pos hs, HS.out], by have := filt_len a b c 2; rw [List.length_append, HS.out]; simp only [List.length_cons, List.length_nil]; omega, HE⟩
        case measure => simp [intOf]
      · go_wp2
        go_roundw
        case rel => exact ⟨3, S, _, by go_num, by omega, by unfold Hid; rw [filt3, if_neg hs, List.append_nil, HS.out], hS3, HI⟩
        case measure => simp [intOf]
    · obtain ⟨va, vc, rfl⟩ := HI.out.own.slice
      have e3 := HS.out
      clear HS
      subst e3
      have kB := HI.out.box.cell
      have kR := HI.out.res.cell
      have fR := HI.out.res.fro
      have hrl : w.heap.size < wr.heap.size := HI.out.res.hi
      have hbl : w.heap.size + 1 < wr.heap.size := HI.out.box.hi
      have OE : Hid (∀ Z, Only (fun k => k = w.heap.size) wr Z → Own seE 57 Z (w.heap.size + 1 + 1) (.slice va (filt a b c 3).length vc) (filt a b c 3) ∧ Below w.heap.size w Z) := fun Z hZ => ⟨HI.out.own.only hZ (fun k hk e => by have := (HI.out.own.lt k hk).1; omega), HI.out.bel.trans (hZ.below HI.out.bel.size (fun k hk e => by omega))⟩
      go_upto_region 2 with fail
      have r0 : wr.cell? ⟨w.heap.size, 0, none⟩ = some (.int .i64 0) := kR 0
      have r1 : wr.cell? ⟨w.heap.size, 1, none⟩ = some (.slice none 0 0) := kR 1
      have r2 : wr.cell? ⟨w.heap.size, 2, none⟩ = some (.int .i64 0) := kR 2
      have r3 : wr.cell? ⟨w.heap.size, 3, none⟩ = some (.slice none 0 0) := kR 3
      have r4 : wr.cell? ⟨w.heap.size, 4, none⟩ = some (.slice none 0 0) := kR 4
      clear kB kR fR
      refine bodyPost_ret (v := .agg #[.int .i64 nx, .slice ua nu cu, .int .i64 tk, .slice aa na ca, .slice va (filt a b c 3).length vc]) (by simp [results, Tryz.results23, go_sem, r0, r1, r2, r3, r4]) rfl ⟨va, vc, rfl, (OE.out _ ?_).1, (OE.out _ ?_).2⟩
      · repeat (refine Only.setCell ?_ (by simp) _)
        exact Only.refl _ _
      · repeat (refine Only.setCell ?_ (by simp) _)
        exact Only.refl _ _
end Go.Proofs.YtnhjicbgmocilaaGreat
