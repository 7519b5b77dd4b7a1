/- wayTo: where a path leads, asked of a right volume's inodes. -/
import Derived.Test.YtmkegmndcbpblaaGreatDoorWLead
import Derived.Test.YtmkegmndcbpblaaGreatDoorWCode
import Derived.Test.YtmkegmndcbpblaaGreatDoorGSet
import Derived.Test.YtmkegmndcbpblaaGreatDoorWPath
namespace Go.Proofs.YtmkegmndcbpblaaGreatDoor
open Go.RowKit Go.Maps
set_option linter.unusedVariables false
set_option linter.unusedSimpArgs false
theorem ErrW.kept {w w' : World} {E : Nat → Addr} (h : ErrW w E) (h6 : 6 ≤ w.heap.size) (hb : Below w.heap.size w w') : ErrW w' E := by
 have ho : Only (fun _ => False) w w' := onlyW_any hb
 refine ⟨fun k hk => ?_, fun k hk => ?_, h.two⟩
 ·rw [ho.cell (by omega) (by simp)]
  exact h.var k hk
 ·obtain ⟨c, t, hb⟩ := h.box k hk
  have hlt : (E k).block < w.heap.size := by
   rcases Nat.lt_or_ge (E k).block w.heap.size with h' | h'
   ·exact h'
   ·rw [Array.getElem?_eq_none h'] at hb; cases hb
  exact ⟨c, t, by rw [ho.block _ hlt (by simp)]; exact hb⟩
theorem ErrW.box_at {w w' : World} {E : Nat → Addr} {g : Nat} (h : ErrW w E) (h6 : 6 ≤ w.heap.size) (hb : Below w.heap.size w w') (hg : w.heap.size ≤ g) (hg' : g < w'.heap.size) : ErrB w' g E := by
 refine ⟨h.kept h6 hb, by omega, hg', fun k hk => ?_⟩
 obtain ⟨c, t, hc⟩ := h.box k hk
 rcases Nat.lt_or_ge (E k).block w.heap.size with h' | h'
 ·omega
 ·rw [Array.getElem?_eq_none h'] at hc; cases hc
abbrev way0 : Array Value := #[.map none, .int .i64 0, .int .i64 0, .slice none 0 0, .bool false, .pointer none, .slice none 0 0, .int .i64 0]
theorem box_way {w0 Y : World} {g tb b off r0 : Nat} {c : Cr} {cv lv : Value} {follow : Bool} (h : Below w0.heap.size w0 Y) (hg : w0.heap.size ≤ g) (X : Blk Y g way0) : Blk ((((((((Y.setCell ⟨g, 0, none⟩ (.map (some tb))).setCell ⟨g, 1, none⟩ (.int .i64 c.u)).setCell ⟨g, 2, none⟩ (.int .i64 c.g)).setCell ⟨g, 3, none⟩ cv).setCell ⟨g, 4, none⟩ (.bool follow)).setCell ⟨g, 5, none⟩ (ptrJ b off r0)).setCell ⟨g, 6, none⟩ lv).setCell ⟨g, 7, none⟩ (.int .i64 0)) g (wayA tb c cv follow b off r0 lv 0) ∧ Only (fun k => k = g) Y ((((((((Y.setCell ⟨g, 0, none⟩ (.map (some tb))).setCell ⟨g, 1, none⟩ (.int .i64 c.u)).setCell ⟨g, 2, none⟩ (.int .i64 c.g)).setCell ⟨g, 3, none⟩ cv).setCell ⟨g, 4, none⟩ (.bool follow)).setCell ⟨g, 5, none⟩ (ptrJ b off r0)).setCell ⟨g, 6, none⟩ lv).setCell ⟨g, 7, none⟩ (.int .i64 0)) ∧ Below w0.heap.size w0 ((((((((Y.setCell ⟨g, 0, none⟩ (.map (some tb))).setCell ⟨g, 1, none⟩ (.int .i64 c.u)).setCell ⟨g, 2, none⟩ (.int .i64 c.g)).setCell ⟨g, 3, none⟩ cv).setCell ⟨g, 4, none⟩ (.bool follow)).setCell ⟨g, 5, none⟩ (ptrJ b off r0)).setCell ⟨g, 6, none⟩ lv).setCell ⟨g, 7, none⟩ (.int .i64 0)) := by
 have hx := X.all [.map (some tb), .int .i64 c.u, .int .i64 c.g, cv, .bool follow, ptrJ b off r0, lv, .int .i64 0] (by rfl)
 have ho := only_setC Y g 0 [.map (some tb), .int .i64 c.u, .int .i64 c.g, cv, .bool follow, ptrJ b off r0, lv, .int .i64 0]
 have hb := h.trans (ho.below h.size (fun k hk e => by omega))
 have h9 := And.intro hx (And.intro ho hb)
 simp only [setC] at h9
 exact h9
theorem pathB_leW {s : ByteArray} (h : pathB s.data.toList = true) : s.size ≤ 60 := by
 simp only [pathB, Bool.and_eq_true, decide_eq_true_eq, size_data] at h
 omega
theorem spot_belowW {B g : Nat} {w wr : World} {a b c d : Value} (h : Below B w wr) (hg : B ≤ g) : Below B w ((((wr.setCell ⟨g, 0, none⟩ a).setCell ⟨g, 1, none⟩ b).setCell ⟨g, 2, none⟩ c).setCell ⟨g, 3, none⟩ d) :=
 (((h.setCell (p := ⟨g, 0, none⟩) hg _).setCell (p := ⟨g, 1, none⟩) hg _).setCell (p := ⟨g, 2, none⟩) hg _).setCell (p := ⟨g, 3, none⟩) hg _
/-- Where a path leads in a right volume. -/
def toA (L : List Nd) (c : Cr) (follow : Bool) (path : ByteArray) : Sp := if pathB path.data.toList = true then walkW L (fun n => mayB c n 1) follow 1 (partsL path.data.toList) 0 else sp0 22
set_option maxRecDepth 100000 in
set_option maxHeartbeats 40000000 in
theorem twayTo_any (L : List Np) (tb b off N : Nat) (c : Cr) (cv : Value) (follow : Bool) (path : ByteArray) (E : Nat → Addr) (w : World)
  (hG : Good L) (hW : WOk (L.map Np.n)) (hT : TC w tb b off N L) (hC : Row intE w N cv c.l) (hE : ErrW w E) (h6 : 6 ≤ w.heap.size) (hN : N ≤ w.heap.size) (r0 : Nat) (hroot : dirO (L.map Np.n) 1 = some r0) (hp : path.size ≤ 9223372036854775807) :
  Calls Tryz.prog 41 #[.map (some tb), .agg #[.int .i64 c.u, .int .i64 c.g, cv], .string path, .bool follow] w fun e w' => e = .returned (.tuple #[spW (toA (L.map Np.n) c follow path), erV E (toA (L.map Np.n) c follow path).code]) ∧ Below w.heap.size w w' ∧ EndC (toA (L.map Np.n) c follow path).code := by
 have hbN := hT.bN
 have hNT := hT.NT
 have htl := hT.lt
 obtain ⟨ca, cc, rfl, _, _⟩ := hC.slice
 obtain ⟨ans, hans⟩ : ∃ ans, toA (L.map Np.n) c follow path = ans := ⟨_, rfl⟩
 rw [hans]
 have HA0 := Hid.intro hans
 clear hans
 have HT := Hid.intro hT
 have HC := Hid.intro hC
 have HE := Hid.intro hE
 have HG := Hid.intro hG
 have HW := Hid.intro hW
 have HRT := Hid.intro hroot
 clear hT hC hE hG hW hroot
 go_enter Tryz.func41, Tryz.ntmps41
 go_upto_region 1 with fail
 obtain ⟨W, hW, bW, zW, c0, f0, c1, f1⟩ := boxed2 w #[.int .i64 c.u, .int .i64 c.g, .slice ca c.l.length cc] spot0 37 31
 simp only [spot0] at hW
 try simp only [hW]
 have HS : Hid (Blk W (w.heap.size + 1) spot0) := ⟨by omega, c1, f1⟩
 have HW0 : Hid (Below w.heap.size w W) := bW
 have HY : Hid (∀ y, Below W.heap.size W y → (∀ o, y.cell? ⟨w.heap.size, o, none⟩ = (#[.int .i64 c.u, .int .i64 c.g, .slice ca c.l.length cc] : Array Value)[o]?) ∧ Blk y (w.heap.size + 1) spot0 ∧ TC y tb b off N L ∧ Row intE y N (.slice ca c.l.length cc) c.l ∧ Below w.heap.size w y) := fun y hy => by
  have hb := bW.trans (hy.mono (by omega))
  exact ⟨keepC hy (by omega) c0, HS.out.kept hy, HT.out.kept hb (by omega), HC.out.kept (hb.mono (by omega)), hb⟩
 have hws : w.heap.size < W.heap.size := by omega
 have hws2 : w.heap.size + 1 < W.heap.size := by omega
 clear hW bW zW c0 f0 c1 f1
 go_wp2_with fail
 refine (implPathOk_any path _ hp).mono ?_
 rintro e w9 ⟨rfl, rfl⟩
 cases hpb : pathB path.data.toList with
 | false =>
  have HEA : Hid (ans = sp0 22) := HA0.out.symm.trans (if_neg (by rw [hpb]; simp))
  have v0 := (HE.out.kept h6 HW0.out).var 0 (by decide)
  have z0 : W.cell? ⟨w.heap.size + 1, 0, none⟩ = some (.int .i64 0) := HS.out.cell 0
  have f0 := HS.out.fro 0
  have z1 : W.cell? ⟨w.heap.size + 1, 1, none⟩ = some (.string ⟨#[]⟩) := HS.out.cell 1
  have f1 := HS.out.fro 1
  have z2 : W.cell? ⟨w.heap.size + 1, 2, none⟩ = some (.int .i64 0) := HS.out.cell 2
  have f2 := HS.out.fro 2
  have z3 : W.cell? ⟨w.heap.size + 1, 3, none⟩ = some (.int .i64 0) := HS.out.cell 3
  have f3 := HS.out.fro 3
  go_upto_region 2 with fail
  go_region
  all_goals
   go_wp2_with fail
   refine bodyPost_ret (v := .tuple #[spW (sp0 22), erV E 22]) (by simp [results, Tryz.results41, go_sem, z0, z1, z2, z3, spW, sp0, sVal, erV, erX]) rfl ?_
   rw [HEA.out]
   exact ⟨rfl, (spot_belowW HW0.out (by omega)).drew, by unfold EndC sp0; simp⟩
 | true =>
  have hp60 := pathB_leW hpb
  have HEA : Hid (ans = walkW (L.map Np.n) (fun n => mayB c n 1) follow 1 (partsL path.data.toList) 0) := HA0.out.symm.trans (if_pos hpb)
  clear hpb
  have HLE : Hid ((partsL path.data.toList).length ≤ 60) := parts_leW path hp60
  go_upto_region 3 with fail
  refine wp_region_held_drew (S := (fun y => Below W.heap.size W y)) (by kernel_rfl) (Below.refl _ _).drew (fun hHeld => ?_)
  generalize W.drew = D at hHeld ⊢
  refine tkk 0 16 (v := ?_) ?_ ?_
  rotate_left 1
  ·intro y hSw
   go_simp <;> with_reducible rfl
  simp only [Act.put, List.setIfInBounds_toArray]
  try simp only [List.set_cons_succ]
  try simp only [List.set_cons_zero]
  refine tkk 1 17 (v := ?_) ?_ ?_
  rotate_left 1
  ·intro y hSw
   have cr0 : y.cell? ⟨w.heap.size, 0, none⟩ = some (.int .i64 c.u) := (HY.out y hSw).1 0
   have cr1 : y.cell? ⟨w.heap.size, 1, none⟩ = some (.int .i64 c.g) := (HY.out y hSw).1 1
   have cr2 : y.cell? ⟨w.heap.size, 2, none⟩ = some (.slice ca c.l.length cc) := (HY.out y hSw).1 2
   go_simp <;> with_reducible rfl
  simp only [Act.put, List.setIfInBounds_toArray]
  try simp only [List.set_cons_succ]
  try simp only [List.set_cons_zero]
  refine tkk 2 18 (v := ?_) ?_ ?_
  rotate_left 1
  ·intro y hSw
   go_simp <;> with_reducible rfl
  simp only [Act.put, List.setIfInBounds_toArray]
  try simp only [List.set_cons_succ]
  try simp only [List.set_cons_zero]
  refine tkk 3 19 (v := ?_) ?_ ?_
  rotate_left 1
  ·intro y hSw
   go_simp <;> with_reducible rfl
  simp only [Act.put, List.setIfInBounds_toArray]
  try simp only [List.set_cons_succ]
  try simp only [List.set_cons_zero]
  refine tkk 4 20 (v := ?_) ?_ ?_
  rotate_left 1
  ·intro y hSw
   have hlk := (HY.out y hSw).2.2.1.look (id := 1) (by decide)
   obtain ⟨_, hr1, _⟩ := dirO_atW HRT.out
   rw [hr1] at hlk
   simp only [ptrO] at hlk
   go_simp <;> with_reducible rfl
  simp only [Act.put, List.setIfInBounds_toArray]
  try simp only [List.set_cons_succ]
  try simp only [List.set_cons_zero]
  refine tkk 5 21 (v := ?_) ?_ ?_
  rotate_left 1
  ·intro y hSw
   go_simp <;> with_reducible rfl
  simp only [Act.put, List.setIfInBounds_toArray]
  try simp only [List.set_cons_succ]
  try simp only [List.set_cons_zero]
  refine wpAnyH_ready (rs := [6, 8]) (by kernel_rfl) (by simp) ?_
  refine (AllReadyH.cons rfl (fun KK hKK => ?_) (AllReadyH.cons rfl (fun KK hKK => ?_) AllReadyH.nil))
  ·skip
   go_simp
   refine (between_any path D hp60).mono ?_
   rintro e w7 ⟨lv, rfl, own, b7⟩
   have h7 : Below W.heap.size W w7 := Below.trans hHeld (b7.mono (Below.size hHeld))
   have OWN := Hid.intro own.own
   obtain ⟨la, lcap, rfl⟩ := OWN.out.slice
   clear own
   go_simp
   refine hKK.out _ _ h7 (fun hHeld2 => ?_)
   clear hKK KK hHeld
   have hHeld := hHeld2
   clear hHeld2
   refine tkk 7 23 (v := ?_) ?_ ?_
   rotate_left 1
   ·intro y hSw
    go_simp <;> with_reducible rfl
   simp only [Act.put, List.setIfInBounds_toArray]
   try simp only [List.set_cons_succ]
   try simp only [List.set_cons_zero]
   refine wpAnyH_ready (rs := [8]) (by kernel_rfl) (by simp) ?_
   refine (AllReadyH.cons rfl (fun KK hKK => ?_) AllReadyH.nil)
   obtain ⟨Y, hY, bY, zY, cY, fY⟩ := boxed w7 way0 94
   simp only [way0] at hY
   go_simp
   try simp only [hY]
   have BX : Blk Y w7.heap.size way0 := ⟨by omega, cY, fY⟩
   have hBY : Below W.heap.size W Y := Below.trans hHeld (bY.mono (Below.size hHeld))
   have hgg : W.heap.size ≤ w7.heap.size := Below.size hHeld
   have hRL : RowL Y w7.heap.size (.slice la (partsL path.data.toList).length lcap) (partsL path.data.toList) := by
    have h1 := OWN.out.kept bY
    exact ⟨h1.rowAll, fun e => by have := (OWN.out.lt _ e).2; omega⟩
   clear hY bY zY cY fY
   generalize w7.heap.size = gb at BX hgg hRL ⊢
   refine hKK.out _ _ hBY (fun hHeld2 => ?_)
   clear hKK KK hHeld
   have hHeld := hHeld2
   clear hHeld2
   refine wpAnyH_ready (rs := [9]) (by kernel_rfl) (by simp) ?_
   refine (AllReadyH.cons rfl (fun KK hKK => ?_) AllReadyH.nil)
   have x0 : Y.cell? ⟨gb, 0, none⟩ = some (.map none) := BX.cell 0
   have s0 := BX.fro 0
   have x1 : Y.cell? ⟨gb, 1, none⟩ = some (.int .i64 0) := BX.cell 1
   have s1 := BX.fro 1
   have x2 : Y.cell? ⟨gb, 2, none⟩ = some (.int .i64 0) := BX.cell 2
   have s2 := BX.fro 2
   have x3 : Y.cell? ⟨gb, 3, none⟩ = some (.slice none 0 0) := BX.cell 3
   have s3 := BX.fro 3
   have x4 : Y.cell? ⟨gb, 4, none⟩ = some (.bool false) := BX.cell 4
   have s4 := BX.fro 4
   have x5 : Y.cell? ⟨gb, 5, none⟩ = some (.pointer none) := BX.cell 5
   have s5 := BX.fro 5
   have x6 : Y.cell? ⟨gb, 6, none⟩ = some (.slice none 0 0) := BX.cell 6
   have s6 := BX.fro 6
   have x7 : Y.cell? ⟨gb, 7, none⟩ = some (.int .i64 0) := BX.cell 7
   have s7 := BX.fro 7
   have hfin := box_way (tb := tb) (b := b) (off := off) (r0 := r0) (c := c) (cv := .slice ca c.l.length cc) (lv := .slice la (partsL path.data.toList).length lcap) (follow := follow) hBY hgg BX
   go_simp
   clear x0 x1 x2 x3 x4 x5 x6 x7 s0 s1 s2 s3 s4 s5 s6 s7
   revert hfin
   generalize World.setCell _ ⟨gb, 7, none⟩ _ = w8
   intro hfin
   refine hKK.out _ _ hfin.2.2 (fun hHeld2 => ?_)
   clear hKK KK hHeld
   have hHeld := hHeld2
   clear hHeld2
   refine wpAnyH_done (by kernel_rfl) ?_ _
   clear hHeld
   obtain ⟨HX8, ho8, hb8⟩ := hfin
   have hb0 : Below w.heap.size w w8 := HW0.out.trans (hb8.mono (by omega))
   have hT8 := HT.out.kept hb0 (by omega)
   have hC8 := HC.out.kept (hb0.mono (by omega))
   have hE8 : ErrB w8 gb E := HE.out.box_at h6 hb0 (by omega) HX8.hi
   have hR8 : RowL w8 gb (.slice la (partsL path.data.toList).length lcap) (partsL path.data.toList) := RowL.only hRL ho8
   have HY8 := Hid.intro hb8
   go_wp2_with fail
   obtain ⟨hr0, hr1, hr2⟩ := dirO_atW HRT.out
   refine (wlead_any L tb b off N gb c (.slice ca c.l.length cc) follow r0 0 _ (partsL path.data.toList) E w8 HG.out HW.out hT8 (by omega) HX8 hR8 hC8 hE8 r0 HRT.out hr0 (by rw [hr2, HRT.out]; rfl) (by omega) HLE.out).mono ?_
   rintro e wA ⟨rfl, hoA, heA⟩
   rw [hr2] at heA ⊢
   rw [← HEA.out] at heA ⊢
   have HEC := Hid.intro heA
   clear heA HEA hT8 hC8 hE8 hR8 HX8
   clear HA0
   obtain ⟨sd, sn, si, sc⟩ := ans
   have hSA : Blk wA (w.heap.size + 1) spot0 := (HS.out.kept (HY8.out.mono (by omega))).only hoA (by omega)
   have hbA : Below w.heap.size w wA := hb0.trans (hoA.below (by have := hb0.size; omega) (fun k hk e => by omega))
   have HBA := Hid.intro hbA
   have HSA := Hid.intro hSA
   clear hSA hbA hb0 ho8 hb8 hoA HY8
   have z0 : wA.cell? ⟨w.heap.size + 1, 0, none⟩ = some (.int .i64 0) := HSA.out.cell 0
   have f0 := HSA.out.fro 0
   have z1 : wA.cell? ⟨w.heap.size + 1, 1, none⟩ = some (.string ⟨#[]⟩) := HSA.out.cell 1
   have f1 := HSA.out.fro 1
   have z2 : wA.cell? ⟨w.heap.size + 1, 2, none⟩ = some (.int .i64 0) := HSA.out.cell 2
   have f2 := HSA.out.fro 2
   have z3 : wA.cell? ⟨w.heap.size + 1, 3, none⟩ = some (.int .i64 0) := HSA.out.cell 3
   have f3 := HSA.out.fro 3
   simp only [spW, sVal]
   go_wp2_with fail
   refine bodyPost_ret (v := .tuple #[spW ⟨sd, sn, si, sc⟩, erV E sc]) (by simp [results, Tryz.results41, go_sem, z0, z1, z2, z3, spW, sVal]) rfl ?_
   exact ⟨rfl, spot_belowW HBA.out (by omega), HEC.out⟩
  ·skip
   obtain ⟨Y, hY, bY, zY, cY, fY⟩ := boxed D way0 94
   simp only [way0] at hY
   go_simp
   try simp only [hY]
   have BX : Blk Y D.heap.size way0 := ⟨by omega, cY, fY⟩
   have hBY : Below W.heap.size W Y := Below.trans hHeld (bY.mono (Below.size hHeld))
   have hgg : W.heap.size ≤ D.heap.size := Below.size hHeld
   have hgs : D.heap.size < Y.heap.size := by omega
   clear hY bY zY cY fY
   generalize D.heap.size = gb at BX hgg hgs ⊢
   refine hKK.out _ _ hBY (fun hHeld2 => ?_)
   clear hKK KK hHeld
   have hHeld := hHeld2
   clear hHeld2
   refine wpAnyH_ready (rs := [6]) (by kernel_rfl) (by simp) ?_
   refine (AllReadyH.cons rfl (fun KK hKK => ?_) AllReadyH.nil)
   go_simp
   refine (between_any path Y hp60).mono ?_
   rintro e w7 ⟨lv, rfl, own, b7⟩
   replace BX := BX.kept b7
   have h7 : Below W.heap.size W w7 := Below.trans hHeld (b7.mono (Below.size hHeld))
   have OWN := Hid.intro own.own
   obtain ⟨la, lcap, rfl⟩ := OWN.out.slice
   clear own
   go_simp
   refine hKK.out _ _ h7 (fun hHeld2 => ?_)
   clear hKK KK hHeld hBY
   have hHeld := hHeld2
   clear hHeld2
   refine tkk 7 23 (v := ?_) ?_ ?_
   rotate_left 1
   ·intro y hSw
    go_simp <;> with_reducible rfl
   simp only [Act.put, List.setIfInBounds_toArray]
   try simp only [List.set_cons_succ]
   try simp only [List.set_cons_zero]
   have hBY := hHeld
   have hRL : RowL w7 gb (.slice la (partsL path.data.toList).length lcap) (partsL path.data.toList) := ⟨OWN.out.rowAll, fun e => by have := (OWN.out.lt _ e).1; omega⟩
   refine wpAnyH_ready (rs := [9]) (by kernel_rfl) (by simp) ?_
   refine (AllReadyH.cons rfl (fun KK hKK => ?_) AllReadyH.nil)
   have x0 : w7.cell? ⟨gb, 0, none⟩ = some (.map none) := BX.cell 0
   have s0 := BX.fro 0
   have x1 : w7.cell? ⟨gb, 1, none⟩ = some (.int .i64 0) := BX.cell 1
   have s1 := BX.fro 1
   have x2 : w7.cell? ⟨gb, 2, none⟩ = some (.int .i64 0) := BX.cell 2
   have s2 := BX.fro 2
   have x3 : w7.cell? ⟨gb, 3, none⟩ = some (.slice none 0 0) := BX.cell 3
   have s3 := BX.fro 3
   have x4 : w7.cell? ⟨gb, 4, none⟩ = some (.bool false) := BX.cell 4
   have s4 := BX.fro 4
   have x5 : w7.cell? ⟨gb, 5, none⟩ = some (.pointer none) := BX.cell 5
   have s5 := BX.fro 5
   have x6 : w7.cell? ⟨gb, 6, none⟩ = some (.slice none 0 0) := BX.cell 6
   have s6 := BX.fro 6
   have x7 : w7.cell? ⟨gb, 7, none⟩ = some (.int .i64 0) := BX.cell 7
   have s7 := BX.fro 7
   have hfin := box_way (tb := tb) (b := b) (off := off) (r0 := r0) (c := c) (cv := .slice ca c.l.length cc) (lv := .slice la (partsL path.data.toList).length lcap) (follow := follow) hBY hgg BX
   go_simp
   clear x0 x1 x2 x3 x4 x5 x6 x7 s0 s1 s2 s3 s4 s5 s6 s7
   revert hfin
   generalize World.setCell _ ⟨gb, 7, none⟩ _ = w8
   intro hfin
   refine hKK.out _ _ hfin.2.2 (fun hHeld2 => ?_)
   clear hKK KK hHeld
   have hHeld := hHeld2
   clear hHeld2
   refine wpAnyH_done (by kernel_rfl) ?_ _
   clear hHeld
   obtain ⟨HX8, ho8, hb8⟩ := hfin
   have hb0 : Below w.heap.size w w8 := HW0.out.trans (hb8.mono (by omega))
   have hT8 := HT.out.kept hb0 (by omega)
   have hC8 := HC.out.kept (hb0.mono (by omega))
   have hE8 : ErrB w8 gb E := HE.out.box_at h6 hb0 (by omega) HX8.hi
   have hR8 : RowL w8 gb (.slice la (partsL path.data.toList).length lcap) (partsL path.data.toList) := RowL.only hRL ho8
   have HY8 := Hid.intro hb8
   go_wp2_with fail
   obtain ⟨hr0, hr1, hr2⟩ := dirO_atW HRT.out
   refine (wlead_any L tb b off N gb c (.slice ca c.l.length cc) follow r0 0 _ (partsL path.data.toList) E w8 HG.out HW.out hT8 (by omega) HX8 hR8 hC8 hE8 r0 HRT.out hr0 (by rw [hr2, HRT.out]; rfl) (by omega) HLE.out).mono ?_
   rintro e wA ⟨rfl, hoA, heA⟩
   rw [hr2] at heA ⊢
   rw [← HEA.out] at heA ⊢
   have HEC := Hid.intro heA
   clear heA HEA hT8 hC8 hE8 hR8 HX8
   clear HA0
   obtain ⟨sd, sn, si, sc⟩ := ans
   have hSA : Blk wA (w.heap.size + 1) spot0 := (HS.out.kept (HY8.out.mono (by omega))).only hoA (by omega)
   have hbA : Below w.heap.size w wA := hb0.trans (hoA.below (by have := hb0.size; omega) (fun k hk e => by omega))
   have HBA := Hid.intro hbA
   have HSA := Hid.intro hSA
   clear hSA hbA hb0 ho8 hb8 hoA HY8
   have z0 : wA.cell? ⟨w.heap.size + 1, 0, none⟩ = some (.int .i64 0) := HSA.out.cell 0
   have f0 := HSA.out.fro 0
   have z1 : wA.cell? ⟨w.heap.size + 1, 1, none⟩ = some (.string ⟨#[]⟩) := HSA.out.cell 1
   have f1 := HSA.out.fro 1
   have z2 : wA.cell? ⟨w.heap.size + 1, 2, none⟩ = some (.int .i64 0) := HSA.out.cell 2
   have f2 := HSA.out.fro 2
   have z3 : wA.cell? ⟨w.heap.size + 1, 3, none⟩ = some (.int .i64 0) := HSA.out.cell 3
   have f3 := HSA.out.fro 3
   simp only [spW, sVal]
   go_wp2_with fail
   refine bodyPost_ret (v := .tuple #[spW ⟨sd, sn, si, sc⟩, erV E sc]) (by simp [results, Tryz.results41, go_sem, z0, z1, z2, z3, spW, sVal]) rfl ?_
   exact ⟨rfl, spot_belowW HBA.out (by omega), HEC.out⟩
end Go.Proofs.YtmkegmndcbpblaaGreatDoor
