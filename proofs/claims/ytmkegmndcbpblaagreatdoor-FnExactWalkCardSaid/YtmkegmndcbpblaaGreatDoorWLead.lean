/- lead: where a way leads. -/
import Derived.Test.YtmkegmndcbpblaaGreatDoorWTurn
import Derived.Test.YtmkegmndcbpblaaGreatDoorWLeft
import Derived.Test.YtmkegmndcbpblaaGreatDoorPMayI
import Derived.Test.YtmkegmndcbpblaaGreatDoorVPar
import Derived.WalkMore
namespace Go.Proofs.YtmkegmndcbpblaaGreatDoor
open Go.RowKit Go.Maps
set_option linter.unusedVariables false
set_option linter.unusedSimpArgs false
abbrev spot0 : Array Value := #[.int .i64 0, .string ⟨#[]⟩, .int .i64 0, .int .i64 0]
/-- An end without its code. -/
def spW (s : Sp) : Value := .agg #[.int .i64 s.dir, sVal s.nm, .int .i64 s.id, .int .i64 0]
/-- The codes that a walk ends with. -/
def EndC (k : Int) : Prop := k = 0 ∨ k = 13 ∨ k = 40 ∨ k = 2 ∨ k = 20 ∨ k = 36 ∨ k = 22
/-- How a lead ends. -/
def LeadP (E : Nat → Addr) (g : Nat) (ans : Sp) (w : World) (e : Ending) (w' : World) : Prop := e = .returned (.tuple #[spW ans, erV E ans.code]) ∧ Only (fun k => k = g) w w' ∧ EndC ans.code
/-- How far a way has to go yet, read off its box. -/
def muC (g : Nat) (w : World) : Nat := match w.cell? ⟨g, 6, none⟩, w.cell? ⟨g, 7, none⟩ with
 | some (.slice _ n _), some (.int _ t) => (8 - t.toNat) * 41 + n + 1
 | _, _ => 0
theorem muC_is {w : World} {g tb b off x times cap : Nat} {c : Cr} {cv : Value} {follow : Bool} {a : Option Addr} {T : List (List UInt8)} (h : Blk w g (wayA tb c cv follow b off x (.slice a T.length cap) (times : Int))) : muC g w = muW T times := by
 have h6 : w.cell? ⟨g, 6, none⟩ = some (.slice a T.length cap) := h.cell 6
 have h7 : w.cell? ⟨g, 7, none⟩ = some (.int .i64 (times : Int)) := h.cell 7
 unfold muC muW
 rw [h6, h7]
 simp
theorem spot_only {w wr : World} {g s : Nat} {p q r t : Value} (h : Only (fun k => k = g) w wr) (hs : w.heap.size ≤ s) : Only (fun k => k = g) w ((((wr.setCell ⟨s, 0, none⟩ p).setCell ⟨s, 1, none⟩ q).setCell ⟨s, 2, none⟩ r).setCell ⟨s, 3, none⟩ t) :=
 h.then ((((setW_only s 0 wr p).trans (setW_only s 1 _ q)).trans (setW_only s 2 _ r)).trans (setW_only s 3 _ t)) (fun k hk e => by omega)
theorem spot_onlyD {w wr : World} {g s : Nat} {p q r t : Value} (h : Only (fun k => k = g) w wr) (hs : w.heap.size ≤ s) : Only (fun k => k = g) w ((((wr.setCell ⟨s, 0, none⟩ p).setCell ⟨s, 1, none⟩ q).setCell ⟨s, 2, none⟩ r).setCell ⟨s, 3, none⟩ t).drew := (spot_only h hs).drew
theorem names_kindW {M : List Nd} {n : Nd} (h : nodeB M n = true) {d : Di} (hd : d ∈ n.names) : n.kind = 2 := by
 unfold nodeB at h
 simp only [Bool.and_eq_true] at h
 have hb2 := h.2
 split at hb2
 ·simp only [plainB, Bool.and_eq_true, decide_eq_true_eq] at hb2
  rw [List.eq_nil_of_length_eq_zero hb2.1.1.1] at hd
  cases hd
 ·split at hb2
  ·simp only [plainB, Bool.and_eq_true, decide_eq_true_eq] at hb2
   rw [List.eq_nil_of_length_eq_zero hb2.1.1.1.1] at hd
   cases hd
  ·split at hb2
   ·assumption
   ·cases hb2
theorem par_dirW {L : List Np} (hG : Good L) {r0 : Nat} (h1 : dirO (L.map Np.n) 1 = some r0) (id : Int) : (dirO (L.map Np.n) (parI (L.map Np.n) id)).isSome = true := by
 cases hp : parX (L.map Np.n) id with
 | none => rw [parI_miss hp, h1]; rfl
 | some z =>
  have hp2 := hp
  unfold parX at hp2
  rw [List.findIdx?_eq_some_iff_getElem] at hp2
  obtain ⟨hz, hz2, _⟩ := hp2
  have hzl : z < L.length := by simpa using hz
  rw [parI_hit hzl hp]
  have hat := hG.ids.at_ z hz
  rw [List.getElem_map] at hat
  have hk : L[z].n.kind = 2 := by
   rw [List.getElem_map] at hz2
   unfold hasE at hz2
   rw [List.any_eq_true] at hz2
   obtain ⟨e, he, _⟩ := hz2
   exact names_kindW (each_node hG.each _ (List.getElem_mem hzl)) he
  rw [dirO_some hat (map_get hzl), if_pos hk]
  rfl
theorem ndAt_rowW {L : List Np} {id : Int} (h : (ndAt (L.map Np.n) id).isSome = true) : ∃ (z : Nat) (hz : z < L.length), atN (L.map Np.n) id = some z ∧ ndAt (L.map Np.n) id = some L[z].n ∧ L[z].n.id = id := by
 unfold ndAt at h ⊢
 cases ha : atN (L.map Np.n) id with
 | none => rw [ha] at h; cases h
 | some z =>
  obtain ⟨h1, h2, _⟩ := atN_some.1 ha
  have hz : z < L.length := by simpa using h1
  refine ⟨z, hz, rfl, ?_, by simpa using h2⟩
  rw [Option.bind_some]
  exact map_get hz
theorem dirO_atW {L : List Np} {id : Int} {z : Nat} (h : dirO (L.map Np.n) id = some z) : ∃ (hz : z < L.length), atN (L.map Np.n) id = some z ∧ L[z].n.id = id := by
 unfold dirO at h
 cases ha : atN (L.map Np.n) id with
 | none => rw [ha] at h; cases h
 | some y =>
  rw [ha, Option.bind_some] at h
  split at h
  ·cases h
   obtain ⟨h1, h2, _⟩ := atN_some.1 ha
   have hz : z < L.length := by simpa using h1
   exact ⟨hz, rfl, by simpa using h2⟩
  ·cases h
set_option maxRecDepth 100000 in
set_option maxHeartbeats 40000000 in
theorem wlead_any (L : List Np) (tb b off N g : Nat) (c : Cr) (cv : Value) (follow : Bool) (x0 t0 : Nat) (lv0 : Value) (T0 : List (List UInt8)) (E : Nat → Addr) (w : World)
  (hG : Good L) (hW : WOk (L.map Np.n)) (hT : TC w tb b off N L) (hg : tb < g) (hX : Blk w g (wayA tb c cv follow b off x0 lv0 (t0 : Int))) (hR : RowL w g lv0 T0) (hC : Row intE w N cv c.l) (hE : ErrB w g E) (r0 : Nat) (hroot : dirO (L.map Np.n) 1 = some r0) (hx : x0 < L.length) (hd : (dirO (L.map Np.n) L[x0].n.id).isSome = true) (ht : t0 ≤ 8) (hl : T0.length ≤ 60) :
  Calls Tryz.prog 58 #[.pointer (some ⟨g, 0, none⟩)] w (LeadP E g (walkW (L.map Np.n) (fun n => mayB c n 1) follow L[x0].n.id T0 t0) w) := by
 have hgl := hX.hi
 have h6g := hE.six
 have hbN := hT.bN
 have hNT := hT.NT
 obtain ⟨ca, cc, rfl, _, _⟩ := hC.slice
 obtain ⟨ans, hans⟩ : ∃ ans, walkW (L.map Np.n) (fun n => mayB c n 1) follow L[x0].n.id T0 t0 = ans := ⟨_, rfl⟩
 rw [hans]
 have HA0 := Hid.intro hans
 have HX0 := Hid.intro hX
 have HR0 := Hid.intro hR
 have HT := Hid.intro hT
 have HC := Hid.intro hC
 have HE := Hid.intro hE
 have HG := Hid.intro hG
 have HW := Hid.intro hW
 have HD0 := Hid.intro hd
 have HRT := Hid.intro hroot
 clear hX hR hT hC hE hG hW hd hans hroot
 go_enter Tryz.func58, Tryz.ntmps58
 go_upto_region 1 with fail
 obtain ⟨W, hW, bW, zW, cW, fW⟩ := boxed w spot0 31
 simp only [spot0] at hW
 try simp only [hW]
 have HXS : Hid (Blk W w.heap.size spot0) := ⟨by omega, cW, fW⟩
 have HX1 := Hid.intro (HX0.out.kept bW)
 have HR1 := Hid.intro (HR0.out.only (onlyW_any bW))
 have HO1 : Hid (Only (fun k => k = g) w W) := onlyW_any bW
 clear hW bW zW cW fW HX0 HR0
 go_wp2_with fail
 go_step3
 go_wp2_with fail
 go_step3
 go_wp2_with fail
 go_loopw [3] (fun e3 wr => ∃ (x times : Nat) (lv : Value) (T : List (List UInt8)) (hx : x < L.length), e3 = .nilIface ∧ times ≤ 8 ∧ T.length ≤ 60 ∧ Hid ((dirO (L.map Np.n) L[x].n.id).isSome = true) ∧ Hid (walkW (L.map Np.n) (fun n => mayB c n 1) follow L[x].n.id T times = ans) ∧ Hid (Blk wr g (wayA tb c (.slice ca c.l.length cc) follow b off x lv (times : Int))) ∧ Hid (RowL wr g lv T) ∧ Hid (Blk wr w.heap.size spot0) ∧ Hid (Only (fun k => k = g) w wr)) (fun _ wr => muC g wr)
 case atStart => exact ⟨x0, t0, lv0, T0, hx, rfl, ht, hl, HD0, HA0, HX1, HR1, HXS, HO1⟩
 case round =>
  clear HXS HX1 HR1 HO1 HA0 HD0
  obtain ⟨x, times, lv, T, hx2, rfl, ht8, hT60, HD, HA, HX, HR, HS, HO⟩ := hrel
  obtain ⟨ta, tc, rfl, htc, _⟩ := HR.out.row.slice
  have HMU := Hid.intro (muC_is HX.out)
  have HY : Hid (∀ y, Below wr.heap.size wr y → Blk y g (wayA tb c (.slice ca c.l.length cc) follow b off x (.slice ta T.length tc) (times : Int)) ∧ TC y tb b off N L ∧ RowL y g (.slice ta T.length tc) T ∧ Blk y w.heap.size spot0 ∧ Only (fun k => k = g) w y ∧ N ≤ y.heap.size ∧ Row intE y N (.slice ca c.l.length cc) c.l ∧ ErrB y g E) := fun y hy => by
   have hb := HO.out.trans (onlyW_any hy)
   have hgb : Below g w y := hb.below (by omega) (fun k hk e => by omega)
   exact ⟨HX.out.kept hy, HT.out.kept hgb hg, HR.out.only (onlyW_any hy), HS.out.kept hy, hb, by have := hb.size; omega, HC.out.kept (hgb.mono (by omega)), HE.out.only hb⟩
  have HNX : Hid (∀ y, Below wr.heap.size wr y → NdAt y b (off + x * 9) L[x].n L[x].v) := fun y hy => (HY.out y hy).2.1.at_ x hx2
  have hrx := (HY.out wr (Below.refl _ _)).2.1.nms _ (List.getElem_mem hx2)
  have HND : Hid (ndAt (L.map Np.n) L[x].n.id = some L[x].n) := by
   unfold Hid ndAt
   have h := HG.out.ids.at_ x (by simpa using hx2)
   rw [List.getElem_map] at h
   rw [h, Option.bind_some]
   simp [List.getElem?_eq_getElem hx2]
  have HNM : Hid (∀ (q : ByteArray) y, Below wr.heap.size wr y → Calls Tryz.prog 75 #[.map (some tb), ptrJ b off x, .string q] y fun e w' => e = .returned (ptrO b off (namO (L.map Np.n) (lookL L[x].n.names q.data.toList))) ∧ Below y.heap.size y w') := fun q y hy => named_any L tb b off N HW.out HG.out.ld x hx2 q y (HY.out y hy).2.1
  have HLX : Hid (∀ p, lookN L[x].n p ≠ 0 → (ndAt (L.map Np.n) (lookN L[x].n p)).isSome = true) := fun p hp => HW.out.look (List.mem_map_of_mem (List.getElem_mem hx2)) hp
  have HZO : Hid (∀ y, Only (fun k => k = g) w y → TC y tb b off N L ∧ N ≤ y.heap.size ∧ Row intE y N (.slice ca c.l.length cc) c.l ∧ ErrB y g E ∧ NdAt y b (off + x * 9) L[x].n L[x].v ∧ (∀ q, Calls Tryz.prog 75 #[.map (some tb), ptrJ b off x, .string q] y fun e w' => e = .returned (ptrO b off (namO (L.map Np.n) (lookL L[x].n.names q.data.toList))) ∧ Below y.heap.size y w')) := fun y hy => by
   have hgb : Below g w y := hy.below (by omega) (fun k hk e => by omega)
   have htc := HT.out.kept hgb hg
   exact ⟨htc, by have := hy.size; omega, HC.out.kept (hgb.mono (by omega)), HE.out.only hy, htc.at_ x hx2, fun q => named_any L tb b off N HW.out HG.out.ld x hx2 q y htc⟩
  generalize hex : L[x] = ex at HNX HD HA hrx HND HNM HLX HZO
  obtain ⟨a2, cap2, hv2, l2, m2, -⟩ := diE_cell hrx
  have c0 := (HNX.out wr (Below.refl _ _)).c0
  rw [hv2] at HNX HZO
  clear hrx
  have k6 : wr.cell? ⟨g, 6, none⟩ = some (.slice ta T.length tc) := HX.out.cell 6
  have k5 : wr.cell? ⟨g, 5, none⟩ = some (ptrJ b off x) := HX.out.cell 5
  cases T with
  | nil =>
   have HEA : Hid (ans = ⟨0, [], ex.n.id, 0⟩) := by have h := HA.out; rw [walkW_nil] at h; exact h.symm
   have z0 : wr.cell? ⟨w.heap.size, 0, none⟩ = some (.int .i64 0) := HS.out.cell 0
   have z1 : wr.cell? ⟨w.heap.size, 1, none⟩ = some (.string ⟨#[]⟩) := HS.out.cell 1
   have z2 : wr.cell? ⟨w.heap.size, 2, none⟩ = some (.int .i64 0) := HS.out.cell 2
   have z3 : wr.cell? ⟨w.heap.size, 3, none⟩ = some (.int .i64 0) := HS.out.cell 3
   have f0 := HS.out.fro 0
   have f1 := HS.out.fro 1
   have f2 := HS.out.fro 2
   have f3 := HS.out.fro 3
   go_wp2_with fail
   refine bodyPost_ret (v := .tuple #[spW ⟨0, [], ex.n.id, 0⟩, .nilIface]) (by simp [results, Tryz.results58, go_sem, z0, z1, z2, z3, spW, sVal]) rfl ?_
   unfold LeadP
   rw [HEA.out]
   exact ⟨rfl, spot_only HO.out (Nat.le_refl _), .inl rfl⟩
  | cons p rest =>
   obtain ⟨q, hq⟩ : ∃ q : ByteArray, q.data.toList = p := ⟨⟨p.toArray⟩, by simp⟩
   have hsv : sVal p = .string q := by rw [← hq]; unfold sVal; rw [Array.toArray_toList]
   obtain ⟨bb, oo, rfl, hcell⟩ : ∃ bb oo, ta = some ⟨bb, oo, none⟩ ∧ wr.cell? ⟨bb, oo, none⟩ = some (.string q) := by
    rw [← hsv]
    obtain ⟨a', cap', hv, h1, h2, h3⟩ := HR.out.row
    obtain ⟨bb, oo, hb, hbN, hc⟩ := h3 (by simp)
    simp only [Value.slice.injEq] at hv
    obtain ⟨rfl, -, rfl⟩ := hv
    subst hb
    exact ⟨bb, oo, rfl, todo_head HR.out.row⟩
   have hl1 : (0 : Int) < ((p :: rest).length : Int) := by simp
   go_upto_region 2 with fail
   clear k5 k6 c0
   refine wp_region_held_drew (S := (fun y => Below wr.heap.size wr y)) (by kernel_rfl) (Below.refl _ _).drew (fun hHeld => ?_)
   generalize wr.drew = D at hHeld ⊢
   refine tkk 0 14 (v := ?_) ?_ ?_
   rotate_left 1
   ·intro y hSw
    go_simp <;> with_reducible rfl
   simp only [Act.put, List.setIfInBounds_toArray]
   try simp only [List.set_cons_succ]
   try simp only [List.set_cons_zero]
   refine tkk 1 15 (v := ?_) ?_ ?_
   rotate_left 1
   ·intro y hSw
    go_simp <;> with_reducible rfl
   simp only [Act.put, List.setIfInBounds_toArray]
   try simp only [List.set_cons_succ]
   try simp only [List.set_cons_zero]
   refine tkk 2 16 (v := ?_) ?_ ?_
   rotate_left 1
   ·intro y hSw
    go_simp <;> with_reducible rfl
   simp only [Act.put, List.setIfInBounds_toArray]
   try simp only [List.set_cons_succ]
   try simp only [List.set_cons_zero]
   refine tkk 3 17 (v := ?_) ?_ ?_
   rotate_left 1
   ·intro y hSw
    have q1 : y.cell? ⟨g, 1, none⟩ = some (.int .i64 c.u) := (HY.out y hSw).1.cell 1
    have q2 : y.cell? ⟨g, 2, none⟩ = some (.int .i64 c.g) := (HY.out y hSw).1.cell 2
    have q3 : y.cell? ⟨g, 3, none⟩ = some (.slice ca c.l.length cc) := (HY.out y hSw).1.cell 3
    go_simp <;> with_reducible rfl
   simp only [Act.put, List.setIfInBounds_toArray]
   try simp only [List.set_cons_succ]
   try simp only [List.set_cons_zero]
   refine tkk 4 18 (v := ?_) ?_ ?_
   rotate_left 1
   ·intro y hSw
    go_simp <;> with_reducible rfl
   simp only [Act.put, List.setIfInBounds_toArray]
   try simp only [List.set_cons_succ]
   try simp only [List.set_cons_zero]
   refine tkk 5 19 (v := ?_) ?_ ?_
   rotate_left 1
   ·intro y hSw
    go_simp <;> with_reducible rfl
   simp only [Act.put, List.setIfInBounds_toArray]
   try simp only [List.set_cons_succ]
   try simp only [List.set_cons_zero]
   refine tkk 6 20 (v := ?_) ?_ ?_
   rotate_left 1
   ·intro y hSw
    go_simp <;> with_reducible rfl
   simp only [Act.put, List.setIfInBounds_toArray]
   try simp only [List.set_cons_succ]
   try simp only [List.set_cons_zero]
   refine tkk 7 21 (v := ?_) ?_ ?_
   rotate_left 1
   ·intro y hSw
    have q5 : y.cell? ⟨g, 5, none⟩ = some (ptrJ b off x) := (HY.out y hSw).1.cell 5
    go_simp <;> with_reducible rfl
   simp only [Act.put, List.setIfInBounds_toArray]
   try simp only [List.set_cons_succ]
   try simp only [List.set_cons_zero]
   refine tkk 8 22 (v := ?_) ?_ ?_
   rotate_left 1
   ·intro y hSw
    go_simp <;> with_reducible rfl
   simp only [Act.put, List.setIfInBounds_toArray]
   try simp only [List.set_cons_succ]
   try simp only [List.set_cons_zero]
   refine tkk 9 23 (v := ?_) ?_ ?_
   rotate_left 1
   ·intro y hSw
    obtain ⟨n0, n1, n2, n3, n4, n5, n6, n7, n8⟩ := HNX.out y hSw
    go_simp <;> with_reducible rfl
   simp only [Act.put, List.setIfInBounds_toArray]
   try simp only [List.set_cons_succ]
   try simp only [List.set_cons_zero]
   refine wpAnyH_ready (rs := [10]) (by kernel_rfl) (by simp) ?_
   refine (AllReadyH.cons rfl (fun KK hKK => ?_) AllReadyH.nil)
   go_simp
   refine (implMay_any c (.slice ca c.l.length cc) _ ex.n 1 N D (HY.out D hHeld).2.2.2.2.2.1 (HY.out D hHeld).2.2.2.2.2.2.1).mono ?_
   rintro e w5 ⟨rfl, b5⟩
   have h5 : Below wr.heap.size wr w5 := Below.trans hHeld (b5.mono (Below.size hHeld))
   go_simp
   refine hKK.out _ _ h5 (fun hHeld2 => ?_)
   clear hKK KK hHeld
   have hHeld := hHeld2
   clear hHeld2
   refine tkk 11 25 (v := ?_) ?_ ?_
   rotate_left 1
   ·intro y hSw
    go_simp <;> with_reducible rfl
   simp only [Act.put, List.setIfInBounds_toArray]
   try simp only [List.set_cons_succ]
   try simp only [List.set_cons_zero]
   refine wpAnyH_done (by kernel_rfl) ?_ _
   clear hHeld b5
   cases hmay : mayB c ex.n 1 with
   | false =>
    have HEA : Hid (ans = sp0 13) := by
     have h := HA.out
     rw [walkW_end (s := sp0 13) (by unfold wStep; rw [HND.out]; simp only [hmay, if_true])] at h
     exact h.symm
    have v1 := (HY.out w5 h5).2.2.2.2.2.2.2.err.var 1 (by decide)
    have hZ := (HY.out w5 h5).2.2.2.1
    have z0 : w5.cell? ⟨w.heap.size, 0, none⟩ = some (.int .i64 0) := hZ.cell 0
    have f0 := hZ.fro 0
    have z1 : w5.cell? ⟨w.heap.size, 1, none⟩ = some (.string ⟨#[]⟩) := hZ.cell 1
    have f1 := hZ.fro 1
    have z2 : w5.cell? ⟨w.heap.size, 2, none⟩ = some (.int .i64 0) := hZ.cell 2
    have f2 := hZ.fro 2
    have z3 : w5.cell? ⟨w.heap.size, 3, none⟩ = some (.int .i64 0) := hZ.cell 3
    have f3 := hZ.fro 3
    clear hZ
    go_upto_region 3 with fail
    go_region
    all_goals
     go_wp2_with fail
     refine bodyPost_ret (v := .tuple #[spW (sp0 13), erV E 13]) (by simp [results, Tryz.results58, go_sem, z0, z1, z2, z3, spW, sp0, sVal, erV, erX]) rfl ?_
     unfold LeadP
     rw [HEA.out]
     exact ⟨rfl, spot_onlyD (HY.out w5 h5).2.2.2.2.1 (Nat.le_refl _), .inr (.inl rfl)⟩
   | true =>
    have HST : Hid (wStep (L.map Np.n) (fun n => mayB c n 1) follow ex.n.id p rest times = if p = [46] then .inr (ex.n.id, rest, times) else if p = [46, 46] then .inr (parI (L.map Np.n) ex.n.id, rest, times) else if 8 < p.length then .inl (sp0 36) else if lookN ex.n p = 0 then (if rest = [] then .inl ⟨ex.n.id, p, 0, 2⟩ else .inl (sp0 2)) else match ndAt (L.map Np.n) (lookN ex.n p) with
     | none => .inl (sp0 22)
     | some m =>
      if m.kind = 3 ∧ (rest ≠ [] ∨ follow = true) then
       if 8 ≤ times then .inl (sp0 40)
       else if 40 < (partsL m.data.data.toList ++ rest).length then .inl (sp0 36)
       else .inr (if m.data.data.toList.head? = some 47 then 1 else ex.n.id, partsL m.data.data.toList ++ rest, times + 1)
      else if rest = [] then .inl ⟨ex.n.id, p, lookN ex.n p, 0⟩
      else if m.kind ≠ 2 then .inl (sp0 20)
      else .inr (lookN ex.n p, rest, times)) := by
     unfold Hid wStep
     rw [HND.out]
     simp only [hmay, Bool.true_eq_false, if_false]
     rfl
    clear hmay
    have HQL : Hid (q.data.toList = p) := hq
    have hlen : p.length = q.size := by rw [← hq]; simp
    have HSV := Hid.intro hsv
    have hbb : bb < wr.heap.size := by
     have h := HR.out.row
     obtain ⟨a', cap', hv, h1, h2, h3⟩ := h
     obtain ⟨b', o', hb, hbN, hc⟩ := h3 (by simp)
     simp only [Value.slice.injEq] at hv
     obtain ⟨rfl, -, rfl⟩ := hv
     cases hb
     exact hbN
    have e0 : w5.cell? ⟨bb, oo, none⟩ = some (.string q) := (Below.cell (p := ⟨bb, oo, none⟩) h5 hbb).trans hcell
    clear hq hsv hcell
    have HX5 := Hid.intro (HY.out w5 h5).1
    have HR5 := Hid.intro (HY.out w5 h5).2.2.1
    have HS5 := Hid.intro (HY.out w5 h5).2.2.2.1
    have HO5 := Hid.intro (HY.out w5 h5).2.2.2.2.1
    have k6 : w5.cell? ⟨g, 6, none⟩ = some (.slice (some ⟨bb, oo, none⟩) (p :: rest).length tc) := HX5.out.cell 6
    have f6 := HX5.out.fro 6
    have HRW2 : Hid (RowL w5 g (.slice (if tc = 1 then (some ⟨bb, oo, none⟩ : Option Addr) else some ⟨bb, oo + 1, none⟩) rest.length (tc - 1)) rest) := by
     have h := (show Row stE w5 w5.heap.size (.slice (some ⟨bb, oo, none⟩) (p :: rest).length tc) (p :: rest) from HR5.out.row).drop (k := 1) (by simp)
     have hoff := HR5.out.off
     by_cases h1 : tc = 1
     ·rw [if_pos h1]
      have hr : rest = [] := List.eq_nil_of_length_eq_zero (by simp at htc; omega)
      subst hr
      exact ⟨⟨_, _, rfl, Nat.zero_le _, by omega, fun h => absurd rfl h⟩, hoff⟩
     ·rw [if_neg h1]
      exact ⟨by simpa [stE] using h, hoff⟩
    go_upto_region 6 with fail
    generalize hgen : (if tc = 1 then (some ⟨bb, oo, none⟩ : Option Addr) else some ⟨bb, oo + 1, none⟩) = ta2 at HRW2 ⊢
    have HTA : Hid (∃ ad n m, Value.slice ta2 rest.length (tc - 1) = .slice (some ad) n m) := by unfold Hid; rw [← hgen]; split <;> exact ⟨_, _, _, rfl⟩
    clear hgen
    have HX6 : Hid (Blk (w5.setCell ⟨g, 6, none⟩ (.slice ta2 rest.length (tc - 1))) g (wayA tb c (.slice ca c.l.length cc) follow b off x (.slice ta2 rest.length (tc - 1)) (times : Int))) := HX5.out.setW 6 (by simp [wayA]) _
    have HO6 := Hid.intro (HO5.out.trans (setW_only g 6 w5 (.slice ta2 rest.length (tc - 1))))
    have HR6 := Hid.intro (HRW2.out.only (setW_only g 6 w5 (.slice ta2 rest.length (tc - 1))))
    have HS6 := Hid.intro (HS5.out.only (setW_only g 6 w5 (.slice ta2 rest.length (tc - 1))) (by omega))
    clear HRW2 HX5 HO5 HR5 HS5 k6 f6 e0 HY HNX HNM HX HR HS HO h5 hbb
    revert HX6 HO6 HR6 HS6
    generalize w5.setCell ⟨g, 6, none⟩ (.slice ta2 rest.length (tc - 1)) = w6
    intro HX6 HO6 HR6 HS6
    have hr59 : rest.length ≤ 59 := by simp at hT60; omega
    by_cases h1 : p = [46]
    ·have y1 : (q.toList == [46]) = true := by rw [toList_data, HQL.out, h1]; rfl
     have HN : Hid (walkW (L.map Np.n) (fun n => mayB c n 1) follow ex.n.id rest times = ans) := by
      have h := HA.out
      rw [walkW_on (cur' := ex.n.id) (rest' := rest) (times' := times) (by rw [HST.out, if_pos h1])] at h
      exact h
     clear h1 HST
     go_wp2_with fail
     go_roundw
     case rel =>
      subst hex
      exact ⟨x, times, _, rest, hx2, rfl, ht8, by omega, HD, HN, HX6, HR6, HS6, HO6⟩
     case measure => rw [muC_is HX6.out, HMU.out]; unfold muW; simp
    ·have y1 : (q.toList == [46]) = false := by rw [toList_data, HQL.out, beq_eq_false_iff_ne]; exact h1
     have HST1 : Hid (wStep (L.map Np.n) (fun n => mayB c n 1) follow ex.n.id p rest times = _) := HST.out.trans (if_neg h1)
     clear h1 HST
     have HY6 : Hid (∀ y, Below w6.heap.size w6 y → Blk y g (wayA tb c (.slice ca c.l.length cc) follow b off x (.slice ta2 rest.length (tc - 1)) (times : Int)) ∧ RowL y g (.slice ta2 rest.length (tc - 1)) rest ∧ Blk y w.heap.size spot0 ∧ Only (fun k => k = g) w y) := fun y hy => ⟨HX6.out.kept hy, HR6.out.only (onlyW_any hy), HS6.out.kept hy, HO6.out.trans (onlyW_any hy)⟩
     by_cases h2 : p = [46, 46]
     ·have y2 : (q.toList == [46, 46]) = true := by rw [toList_data, HQL.out, h2]; rfl
      have HN : Hid (walkW (L.map Np.n) (fun n => mayB c n 1) follow (parI (L.map Np.n) ex.n.id) rest times = ans) := by
       have h := HA.out
       rw [walkW_on (cur' := parI (L.map Np.n) ex.n.id) (rest' := rest) (times' := times) (by rw [HST1.out, if_pos h2])] at h
       exact h
      clear h2 HST1
      go_upto_region 8 with fail
      refine wp_region_held_drew (S := fun _ => True) (by kernel_rfl) trivial (fun hHeld => ?_)
      have hD : Below w6.heap.size w6 w6.drew := (Below.refl _ _).drew
      generalize w6.drew = D at hHeld hD ⊢
      have k0 : D.cell? ⟨g, 0, none⟩ = some (.map (some tb)) := (HY6.out D hD).1.cell 0
      have k5 : D.cell? ⟨g, 5, none⟩ = some (ptrJ b off x) := (HY6.out D hD).1.cell 5
      have n0 := (HZO.out D (HY6.out D hD).2.2.2).2.2.2.2.1.c0
      refine tkk 0 48 (v := ?_) ?_ ?_
      rotate_left 1
      ·intro y hSw
       go_simp <;> with_reducible rfl
      simp only [Act.put, List.setIfInBounds_toArray]
      try simp only [List.set_cons_succ]
      try simp only [List.set_cons_zero]
      refine tkk 1 49 (v := ?_) ?_ ?_
      rotate_left 1
      ·intro y hSw
       go_simp <;> with_reducible rfl
      simp only [Act.put, List.setIfInBounds_toArray]
      try simp only [List.set_cons_succ]
      try simp only [List.set_cons_zero]
      refine tkk 2 50 (v := ?_) ?_ ?_
      rotate_left 1
      ·intro y hSw
       go_simp <;> with_reducible rfl
      simp only [Act.put, List.setIfInBounds_toArray]
      try simp only [List.set_cons_succ]
      try simp only [List.set_cons_zero]
      refine tkk 3 51 (v := ?_) ?_ ?_
      rotate_left 1
      ·intro y hSw
       go_simp <;> with_reducible rfl
      simp only [Act.put, List.setIfInBounds_toArray]
      try simp only [List.set_cons_succ]
      try simp only [List.set_cons_zero]
      refine tkk 5 53 (v := ?_) ?_ ?_
      rotate_left 1
      ·intro y hSw
       go_simp <;> with_reducible rfl
      simp only [Act.put, List.setIfInBounds_toArray]
      try simp only [List.set_cons_succ]
      try simp only [List.set_cons_zero]
      refine tkk 6 54 (v := ?_) ?_ ?_
      rotate_left 1
      ·intro y hSw
       go_simp <;> with_reducible rfl
      simp only [Act.put, List.setIfInBounds_toArray]
      try simp only [List.set_cons_succ]
      try simp only [List.set_cons_zero]
      refine tkk 7 55 (v := ?_) ?_ ?_
      rotate_left 1
      ·intro y hSw
       go_simp <;> with_reducible rfl
      simp only [Act.put, List.setIfInBounds_toArray]
      try simp only [List.set_cons_succ]
      try simp only [List.set_cons_zero]
      refine wpAnyH_ready (rs := [4, 8]) (by kernel_rfl) (by simp) ?_
      refine (AllReadyH.cons rfl (fun KK hKK => ?_) (AllReadyH.cons rfl (fun KK hKK => ?_) AllReadyH.nil))
      ·skip
       go_simp
       refine hKK.out _ _ trivial (fun hHeld2 => ?_)
       clear hKK KK hHeld
       have hHeld := hHeld2
       clear hHeld2
       refine wpAnyH_ready (rs := [8]) (by kernel_rfl) (by simp) ?_
       refine (AllReadyH.cons rfl (fun KK hKK => ?_) AllReadyH.nil)
       go_simp
       refine hKK.out _ _ trivial (fun hHeld2 => ?_)
       clear hKK KK hHeld
       have hHeld := hHeld2
       clear hHeld2
       refine tkk 9 57 (v := ?_) ?_ ?_
       rotate_left 1
       ·intro y hSw
        go_simp <;> with_reducible rfl
       simp only [Act.put, List.setIfInBounds_toArray]
       try simp only [List.set_cons_succ]
       try simp only [List.set_cons_zero]
       refine tkk 10 58 (v := ?_) ?_ ?_
       rotate_left 1
       ·intro y hSw
        go_simp <;> with_reducible rfl
       simp only [Act.put, List.setIfInBounds_toArray]
       try simp only [List.set_cons_succ]
       try simp only [List.set_cons_zero]
       refine wpAnyH_ready (rs := [11]) (by kernel_rfl) (by simp) ?_
       refine (AllReadyH.cons rfl (fun KK hKK => ?_) AllReadyH.nil)
       go_simp
       refine hKK.out _ _ trivial (fun hHeld2 => ?_)
       clear hKK KK hHeld
       have hHeld := hHeld2
       clear hHeld2
       clear k0 k5 n0
       refine wpAnyH_ready (rs := [12]) (by kernel_rfl) (by simp) ?_
       refine (AllReadyH.cons rfl (fun KK hKK => ?_) AllReadyH.nil)
       go_simp
       refine (parent_any L tb b off N HG.out.ids ex.n.id HG.out.pos (HG.out.root HG.out.pos) (good_one HG.out HD.out) D (HZO.out D (HY6.out D hD).2.2.2).1).mono ?_
       rintro e w7 ⟨x7, hx7, rfl, hp7, b7⟩
       have h7 : Below w6.heap.size w6 w7 := Below.trans hD (b7.mono (Below.size hD))
       go_simp
       refine hKK.out _ _ trivial (fun hHeld2 => ?_)
       clear hKK KK hHeld
       have hHeld := hHeld2
       clear hHeld2
       refine tkk 13 61 (v := ?_) ?_ ?_
       rotate_left 1
       ·intro y hSw
        go_simp <;> with_reducible rfl
       simp only [Act.put, List.setIfInBounds_toArray]
       try simp only [List.set_cons_succ]
       try simp only [List.set_cons_zero]
       refine tkk 14 62 (v := ?_) ?_ ?_
       rotate_left 1
       ·intro y hSw
        go_simp <;> with_reducible rfl
       simp only [Act.put, List.setIfInBounds_toArray]
       try simp only [List.set_cons_succ]
       try simp only [List.set_cons_zero]
       have HX7 := Hid.intro (HY6.out w7 h7).1
       have HX8 : Hid (Blk (w7.setCell ⟨g, 5, none⟩ (ptrJ b off x7)) g (wayA tb c (.slice ca c.l.length cc) follow b off x7 (.slice ta2 rest.length (tc - 1)) (times : Int))) := HX7.out.setW 5 (by simp [wayA]) _
       have HO8 := Hid.intro ((HY6.out w7 h7).2.2.2.trans (setW_only g 5 w7 (ptrJ b off x7)))
       have HR8 := Hid.intro ((HY6.out w7 h7).2.1.only (setW_only g 5 w7 (ptrJ b off x7)))
       have HS8 := Hid.intro ((HY6.out w7 h7).2.2.1.only (setW_only g 5 w7 (ptrJ b off x7)) (by omega))
       have k5 : w7.cell? ⟨g, 5, none⟩ = some (ptrJ b off x) := HX7.out.cell 5
       have f5 := HX7.out.fro 5
       clear HX7
       refine wpAnyH_ready (rs := [15]) (by kernel_rfl) (by simp) ?_
       refine (AllReadyH.cons rfl (fun KK hKK => ?_) AllReadyH.nil)
       go_simp
       revert HX8 HO8 HR8 HS8
       generalize w7.setCell ⟨g, 5, none⟩ (ptrJ b off x7) = w8
       intro HX8 HO8 HR8 HS8
       clear k5 f5
       refine hKK.out _ _ trivial (fun hHeld2 => ?_)
       clear hKK KK hHeld
       have hHeld := hHeld2
       clear hHeld2
       refine wpAnyH_done (by kernel_rfl) ?_ _
       clear hHeld
       have HD8 : Hid ((dirO (L.map Np.n) L[x7].n.id).isSome = true) := by unfold Hid; rw [hp7]; exact par_dirW HG.out HRT.out _
       have HN8 : Hid (walkW (L.map Np.n) (fun n => mayB c n 1) follow L[x7].n.id rest times = ans) := by unfold Hid; rw [hp7]; exact HN.out
       go_wp2_with fail
       go_roundw
       case rel => exact ⟨x7, times, _, rest, hx7, rfl, ht8, by omega, HD8, HN8, HX8, HR8, HS8, HO8⟩
       case measure => rw [muC_is HX8.out, HMU.out]; unfold muW; simp
      ·skip
       go_simp
       refine hKK.out _ _ trivial (fun hHeld2 => ?_)
       clear hKK KK hHeld
       have hHeld := hHeld2
       clear hHeld2
       refine tkk 9 57 (v := ?_) ?_ ?_
       rotate_left 1
       ·intro y hSw
        go_simp <;> with_reducible rfl
       simp only [Act.put, List.setIfInBounds_toArray]
       try simp only [List.set_cons_succ]
       try simp only [List.set_cons_zero]
       refine tkk 10 58 (v := ?_) ?_ ?_
       rotate_left 1
       ·intro y hSw
        go_simp <;> with_reducible rfl
       simp only [Act.put, List.setIfInBounds_toArray]
       try simp only [List.set_cons_succ]
       try simp only [List.set_cons_zero]
       refine wpAnyH_ready (rs := [4, 11]) (by kernel_rfl) (by simp) ?_
       refine (AllReadyH.cons rfl (fun KK hKK => ?_) (AllReadyH.cons rfl (fun KK hKK => ?_) AllReadyH.nil))
       ·skip
        go_simp
        refine hKK.out _ _ trivial (fun hHeld2 => ?_)
        clear hKK KK hHeld
        have hHeld := hHeld2
        clear hHeld2
        refine wpAnyH_ready (rs := [11]) (by kernel_rfl) (by simp) ?_
        refine (AllReadyH.cons rfl (fun KK hKK => ?_) AllReadyH.nil)
        go_simp
        refine hKK.out _ _ trivial (fun hHeld2 => ?_)
        clear hKK KK hHeld
        have hHeld := hHeld2
        clear hHeld2
        clear k0 k5 n0
        refine wpAnyH_ready (rs := [12]) (by kernel_rfl) (by simp) ?_
        refine (AllReadyH.cons rfl (fun KK hKK => ?_) AllReadyH.nil)
        go_simp
        refine (parent_any L tb b off N HG.out.ids ex.n.id HG.out.pos (HG.out.root HG.out.pos) (good_one HG.out HD.out) D (HZO.out D (HY6.out D hD).2.2.2).1).mono ?_
        rintro e w7 ⟨x7, hx7, rfl, hp7, b7⟩
        have h7 : Below w6.heap.size w6 w7 := Below.trans hD (b7.mono (Below.size hD))
        go_simp
        refine hKK.out _ _ trivial (fun hHeld2 => ?_)
        clear hKK KK hHeld
        have hHeld := hHeld2
        clear hHeld2
        refine tkk 13 61 (v := ?_) ?_ ?_
        rotate_left 1
        ·intro y hSw
         go_simp <;> with_reducible rfl
        simp only [Act.put, List.setIfInBounds_toArray]
        try simp only [List.set_cons_succ]
        try simp only [List.set_cons_zero]
        refine tkk 14 62 (v := ?_) ?_ ?_
        rotate_left 1
        ·intro y hSw
         go_simp <;> with_reducible rfl
        simp only [Act.put, List.setIfInBounds_toArray]
        try simp only [List.set_cons_succ]
        try simp only [List.set_cons_zero]
        have HX7 := Hid.intro (HY6.out w7 h7).1
        have HX8 : Hid (Blk (w7.setCell ⟨g, 5, none⟩ (ptrJ b off x7)) g (wayA tb c (.slice ca c.l.length cc) follow b off x7 (.slice ta2 rest.length (tc - 1)) (times : Int))) := HX7.out.setW 5 (by simp [wayA]) _
        have HO8 := Hid.intro ((HY6.out w7 h7).2.2.2.trans (setW_only g 5 w7 (ptrJ b off x7)))
        have HR8 := Hid.intro ((HY6.out w7 h7).2.1.only (setW_only g 5 w7 (ptrJ b off x7)))
        have HS8 := Hid.intro ((HY6.out w7 h7).2.2.1.only (setW_only g 5 w7 (ptrJ b off x7)) (by omega))
        have k5 : w7.cell? ⟨g, 5, none⟩ = some (ptrJ b off x) := HX7.out.cell 5
        have f5 := HX7.out.fro 5
        clear HX7
        refine wpAnyH_ready (rs := [15]) (by kernel_rfl) (by simp) ?_
        refine (AllReadyH.cons rfl (fun KK hKK => ?_) AllReadyH.nil)
        go_simp
        revert HX8 HO8 HR8 HS8
        generalize w7.setCell ⟨g, 5, none⟩ (ptrJ b off x7) = w8
        intro HX8 HO8 HR8 HS8
        clear k5 f5
        refine hKK.out _ _ trivial (fun hHeld2 => ?_)
        clear hKK KK hHeld
        have hHeld := hHeld2
        clear hHeld2
        refine wpAnyH_done (by kernel_rfl) ?_ _
        clear hHeld
        have HD8 : Hid ((dirO (L.map Np.n) L[x7].n.id).isSome = true) := by unfold Hid; rw [hp7]; exact par_dirW HG.out HRT.out _
        have HN8 : Hid (walkW (L.map Np.n) (fun n => mayB c n 1) follow L[x7].n.id rest times = ans) := by unfold Hid; rw [hp7]; exact HN.out
        go_wp2_with fail
        go_roundw
        case rel => exact ⟨x7, times, _, rest, hx7, rfl, ht8, by omega, HD8, HN8, HX8, HR8, HS8, HO8⟩
        case measure => rw [muC_is HX8.out, HMU.out]; unfold muW; simp
       ·skip
        go_simp
        refine hKK.out _ _ trivial (fun hHeld2 => ?_)
        clear hKK KK hHeld
        have hHeld := hHeld2
        clear hHeld2
        refine wpAnyH_ready (rs := [4]) (by kernel_rfl) (by simp) ?_
        refine (AllReadyH.cons rfl (fun KK hKK => ?_) AllReadyH.nil)
        go_simp
        refine hKK.out _ _ trivial (fun hHeld2 => ?_)
        clear hKK KK hHeld
        have hHeld := hHeld2
        clear hHeld2
        clear k0 k5 n0
        refine wpAnyH_ready (rs := [12]) (by kernel_rfl) (by simp) ?_
        refine (AllReadyH.cons rfl (fun KK hKK => ?_) AllReadyH.nil)
        go_simp
        refine (parent_any L tb b off N HG.out.ids ex.n.id HG.out.pos (HG.out.root HG.out.pos) (good_one HG.out HD.out) D (HZO.out D (HY6.out D hD).2.2.2).1).mono ?_
        rintro e w7 ⟨x7, hx7, rfl, hp7, b7⟩
        have h7 : Below w6.heap.size w6 w7 := Below.trans hD (b7.mono (Below.size hD))
        go_simp
        refine hKK.out _ _ trivial (fun hHeld2 => ?_)
        clear hKK KK hHeld
        have hHeld := hHeld2
        clear hHeld2
        refine tkk 13 61 (v := ?_) ?_ ?_
        rotate_left 1
        ·intro y hSw
         go_simp <;> with_reducible rfl
        simp only [Act.put, List.setIfInBounds_toArray]
        try simp only [List.set_cons_succ]
        try simp only [List.set_cons_zero]
        refine tkk 14 62 (v := ?_) ?_ ?_
        rotate_left 1
        ·intro y hSw
         go_simp <;> with_reducible rfl
        simp only [Act.put, List.setIfInBounds_toArray]
        try simp only [List.set_cons_succ]
        try simp only [List.set_cons_zero]
        have HX7 := Hid.intro (HY6.out w7 h7).1
        have HX8 : Hid (Blk (w7.setCell ⟨g, 5, none⟩ (ptrJ b off x7)) g (wayA tb c (.slice ca c.l.length cc) follow b off x7 (.slice ta2 rest.length (tc - 1)) (times : Int))) := HX7.out.setW 5 (by simp [wayA]) _
        have HO8 := Hid.intro ((HY6.out w7 h7).2.2.2.trans (setW_only g 5 w7 (ptrJ b off x7)))
        have HR8 := Hid.intro ((HY6.out w7 h7).2.1.only (setW_only g 5 w7 (ptrJ b off x7)))
        have HS8 := Hid.intro ((HY6.out w7 h7).2.2.1.only (setW_only g 5 w7 (ptrJ b off x7)) (by omega))
        have k5 : w7.cell? ⟨g, 5, none⟩ = some (ptrJ b off x) := HX7.out.cell 5
        have f5 := HX7.out.fro 5
        clear HX7
        refine wpAnyH_ready (rs := [15]) (by kernel_rfl) (by simp) ?_
        refine (AllReadyH.cons rfl (fun KK hKK => ?_) AllReadyH.nil)
        go_simp
        revert HX8 HO8 HR8 HS8
        generalize w7.setCell ⟨g, 5, none⟩ (ptrJ b off x7) = w8
        intro HX8 HO8 HR8 HS8
        clear k5 f5
        refine hKK.out _ _ trivial (fun hHeld2 => ?_)
        clear hKK KK hHeld
        have hHeld := hHeld2
        clear hHeld2
        refine wpAnyH_done (by kernel_rfl) ?_ _
        clear hHeld
        have HD8 : Hid ((dirO (L.map Np.n) L[x7].n.id).isSome = true) := by unfold Hid; rw [hp7]; exact par_dirW HG.out HRT.out _
        have HN8 : Hid (walkW (L.map Np.n) (fun n => mayB c n 1) follow L[x7].n.id rest times = ans) := by unfold Hid; rw [hp7]; exact HN.out
        go_wp2_with fail
        go_roundw
        case rel => exact ⟨x7, times, _, rest, hx7, rfl, ht8, by omega, HD8, HN8, HX8, HR8, HS8, HO8⟩
        case measure => rw [muC_is HX8.out, HMU.out]; unfold muW; simp
     ·have y2 : (q.toList == [46, 46]) = false := by rw [toList_data, HQL.out, beq_eq_false_iff_ne]; exact h2
      have HST2 : Hid (wStep (L.map Np.n) (fun n => mayB c n 1) follow ex.n.id p rest times = _) := HST1.out.trans (if_neg h2)
      clear h2 HST1
      by_cases h3 : 8 < p.length
      ·have y3 : (8 : Int) < (q.size : Int) := by omega
       have HEA : Hid (ans = sp0 36) := by
        have h := HA.out
        rw [walkW_end (s := sp0 36) (by rw [HST2.out, if_pos h3])] at h
        exact h.symm
       clear h3 HST2
       have v5 := (HZO.out w6 HO6.out).2.2.2.1.err.var 5 (by decide)
       have z0 : w6.cell? ⟨w.heap.size, 0, none⟩ = some (.int .i64 0) := HS6.out.cell 0
       have f0 := HS6.out.fro 0
       have z1 : w6.cell? ⟨w.heap.size, 1, none⟩ = some (.string ⟨#[]⟩) := HS6.out.cell 1
       have f1 := HS6.out.fro 1
       have z2 : w6.cell? ⟨w.heap.size, 2, none⟩ = some (.int .i64 0) := HS6.out.cell 2
       have f2 := HS6.out.fro 2
       have z3 : w6.cell? ⟨w.heap.size, 3, none⟩ = some (.int .i64 0) := HS6.out.cell 3
       have f3 := HS6.out.fro 3
       go_upto_region 10 with fail
       go_region
       all_goals
        go_wp2_with fail
        refine bodyPost_ret (v := .tuple #[spW (sp0 36), erV E 36]) (by simp [results, Tryz.results58, go_sem, z0, z1, z2, z3, spW, sp0, sVal, erV, erX]) rfl ?_
        unfold LeadP
        rw [HEA.out]
        exact ⟨rfl, spot_onlyD HO6.out (Nat.le_refl _), .inr (.inr (.inr (.inr (.inr (.inl rfl)))))⟩
      ·have y3 : ¬ (8 : Int) < (q.size : Int) := by omega
       have HST3 : Hid (wStep (L.map Np.n) (fun n => mayB c n 1) follow ex.n.id p rest times = _) := HST2.out.trans (if_neg h3)
       clear h3 HST2
       go_upto_region 11 with fail
       refine wp_region_held_drew (S := (fun y => Below w6.heap.size w6 y)) (by kernel_rfl) (Below.refl _ _).drew (fun hHeld => ?_)
       generalize w6.drew = D at hHeld ⊢
       refine tkk 0 69 (v := ?_) ?_ ?_
       rotate_left 1
       ·intro y hSw
        go_simp <;> with_reducible rfl
       simp only [Act.put, List.setIfInBounds_toArray]
       try simp only [List.set_cons_succ]
       try simp only [List.set_cons_zero]
       refine tkk 1 70 (v := ?_) ?_ ?_
       rotate_left 1
       ·intro y hSw
        go_simp <;> with_reducible rfl
       simp only [Act.put, List.setIfInBounds_toArray]
       try simp only [List.set_cons_succ]
       try simp only [List.set_cons_zero]
       refine tkk 2 71 (v := ?_) ?_ ?_
       rotate_left 1
       ·intro y hSw
        go_simp <;> with_reducible rfl
       simp only [Act.put, List.setIfInBounds_toArray]
       try simp only [List.set_cons_succ]
       try simp only [List.set_cons_zero]
       refine tkk 3 72 (v := ?_) ?_ ?_
       rotate_left 1
       ·intro y hSw
        have q0 : y.cell? ⟨g, 0, none⟩ = some (.map (some tb)) := (HY6.out y hSw).1.cell 0
        go_simp <;> with_reducible rfl
       simp only [Act.put, List.setIfInBounds_toArray]
       try simp only [List.set_cons_succ]
       try simp only [List.set_cons_zero]
       refine tkk 4 73 (v := ?_) ?_ ?_
       rotate_left 1
       ·intro y hSw
        go_simp <;> with_reducible rfl
       simp only [Act.put, List.setIfInBounds_toArray]
       try simp only [List.set_cons_succ]
       try simp only [List.set_cons_zero]
       refine tkk 5 74 (v := ?_) ?_ ?_
       rotate_left 1
       ·intro y hSw
        go_simp <;> with_reducible rfl
       simp only [Act.put, List.setIfInBounds_toArray]
       try simp only [List.set_cons_succ]
       try simp only [List.set_cons_zero]
       refine tkk 6 75 (v := ?_) ?_ ?_
       rotate_left 1
       ·intro y hSw
        go_simp <;> with_reducible rfl
       simp only [Act.put, List.setIfInBounds_toArray]
       try simp only [List.set_cons_succ]
       try simp only [List.set_cons_zero]
       refine tkk 7 76 (v := ?_) ?_ ?_
       rotate_left 1
       ·intro y hSw
        have q5 : y.cell? ⟨g, 5, none⟩ = some (ptrJ b off x) := (HY6.out y hSw).1.cell 5
        go_simp <;> with_reducible rfl
       simp only [Act.put, List.setIfInBounds_toArray]
       try simp only [List.set_cons_succ]
       try simp only [List.set_cons_zero]
       refine tkk 8 77 (v := ?_) ?_ ?_
       rotate_left 1
       ·intro y hSw
        go_simp <;> with_reducible rfl
       simp only [Act.put, List.setIfInBounds_toArray]
       try simp only [List.set_cons_succ]
       try simp only [List.set_cons_zero]
       refine tkk 10 79 (v := ?_) ?_ ?_
       rotate_left 1
       ·intro y hSw
        go_simp <;> with_reducible rfl
       simp only [Act.put, List.setIfInBounds_toArray]
       try simp only [List.set_cons_succ]
       try simp only [List.set_cons_zero]
       refine tkk 11 80 (v := ?_) ?_ ?_
       rotate_left 1
       ·intro y hSw
        go_simp <;> with_reducible rfl
       simp only [Act.put, List.setIfInBounds_toArray]
       try simp only [List.set_cons_succ]
       try simp only [List.set_cons_zero]
       refine tkk 12 81 (v := ?_) ?_ ?_
       rotate_left 1
       ·intro y hSw
        go_simp <;> with_reducible rfl
       simp only [Act.put, List.setIfInBounds_toArray]
       try simp only [List.set_cons_succ]
       try simp only [List.set_cons_zero]
       refine tkk 13 82 (v := ?_) ?_ ?_
       rotate_left 1
       ·intro y hSw
        have q6 : y.cell? ⟨g, 6, none⟩ = some (.slice ta2 rest.length (tc - 1)) := (HY6.out y hSw).1.cell 6
        go_simp <;> with_reducible rfl
       simp only [Act.put, List.setIfInBounds_toArray]
       try simp only [List.set_cons_succ]
       try simp only [List.set_cons_zero]
       refine tkk 14 83 (v := ?_) ?_ ?_
       rotate_left 1
       ·intro y hSw
        go_simp <;> with_reducible rfl
       simp only [Act.put, List.setIfInBounds_toArray]
       try simp only [List.set_cons_succ]
       try simp only [List.set_cons_zero]
       refine tkk 15 84 (v := ?_) ?_ ?_
       rotate_left 1
       ·intro y hSw
        go_simp <;> with_reducible rfl
       simp only [Act.put, List.setIfInBounds_toArray]
       try simp only [List.set_cons_succ]
       try simp only [List.set_cons_zero]
       refine wpAnyH_ready (rs := [9]) (by kernel_rfl) (by simp) ?_
       refine (AllReadyH.cons rfl (fun KK hKK => ?_) AllReadyH.nil)
       go_simp
       refine ((HZO.out D (HY6.out D hHeld).2.2.2).2.2.2.2.2 q).mono ?_
       rintro e w7 ⟨rfl, b7⟩
       have h7 : Below w6.heap.size w6 w7 := Below.trans hHeld (b7.mono (Below.size hHeld))
       go_simp
       refine hKK.out _ _ h7 (fun hHeld2 => ?_)
       clear hKK KK hHeld
       have hHeld := hHeld2
       clear hHeld2
       refine tkk 16 5 (v := ?_) ?_ ?_
       rotate_left 1
       ·intro y hSw
        go_simp <;> with_reducible rfl
       simp only [Act.put, List.setIfInBounds_toArray]
       try simp only [List.set_cons_succ]
       try simp only [List.set_cons_zero]
       refine tkk 17 6 (v := ?_) ?_ ?_
       rotate_left 1
       ·intro y hSw
        go_simp <;> with_reducible rfl
       simp only [Act.put, List.setIfInBounds_toArray]
       try simp only [List.set_cons_succ]
       try simp only [List.set_cons_zero]
       refine wpAnyH_done (by kernel_rfl) ?_ _
       clear hHeld b7
       have HX7 := Hid.intro (HY6.out w7 h7).1
       have HR7 := Hid.intro (HY6.out w7 h7).2.1
       have HS7 := Hid.intro (HY6.out w7 h7).2.2.1
       have HO7 := Hid.intro (HY6.out w7 h7).2.2.2
       clear HY6 HX6 HR6 HS6 HO6 h7
       obtain ⟨id, hid⟩ : ∃ id, lookN ex.n p = id := ⟨_, rfl⟩
       have hid2 : lookL ex.n.names q.data.toList = id := by rw [HQL.out]; exact hid
       rw [hid2]
       have HLI : Hid (id ≠ 0 → (ndAt (L.map Np.n) id).isSome = true) := fun h => by rw [← hid] at h ⊢; exact HLX.out p h
       rw [hid] at HST3
       clear hid hid2
       by_cases h4 : id = 0
       ·have hn : namO (L.map Np.n) id = none := if_pos h4
        rw [hn]
        simp only [ptrO]
        by_cases h5 : rest = []
        ·have y5 : ((rest.length : Int) == 0) = true := by rw [h5]; rfl
         have HEA : Hid (ans = ⟨ex.n.id, p, 0, 2⟩) := by
          have h := HA.out
          rw [walkW_end (s := ⟨ex.n.id, p, 0, 2⟩) (by rw [HST3.out, if_pos h4, if_pos h5])] at h
          exact h.symm
         clear HST3 h5 h4 hn
         have v3 := (HZO.out w7 HO7.out).2.2.2.1.err.var 3 (by decide)
         have k5 : w7.cell? ⟨g, 5, none⟩ = some (ptrJ b off x) := HX7.out.cell 5
         have n0 := (HZO.out w7 HO7.out).2.2.2.2.1.c0
         have z0 : w7.cell? ⟨w.heap.size, 0, none⟩ = some (.int .i64 0) := HS7.out.cell 0
         have f0 := HS7.out.fro 0
         have z1 : w7.cell? ⟨w.heap.size, 1, none⟩ = some (.string ⟨#[]⟩) := HS7.out.cell 1
         have f1 := HS7.out.fro 1
         have z2 : w7.cell? ⟨w.heap.size, 2, none⟩ = some (.int .i64 0) := HS7.out.cell 2
         have f2 := HS7.out.fro 2
         have z3 : w7.cell? ⟨w.heap.size, 3, none⟩ = some (.int .i64 0) := HS7.out.cell 3
         have f3 := HS7.out.fro 3
         go_upto_region 13 with fail
         go_region
         all_goals
          go_wp2_with fail
          refine bodyPost_ret (v := .tuple #[spW ⟨ex.n.id, p, 0, 2⟩, erV E 2]) (by simp [results, Tryz.results58, go_sem, z0, z1, z2, z3, spW, sp0, erV, erX, HSV.out]) rfl ?_
          unfold LeadP
          rw [HEA.out]
          exact ⟨rfl, spot_onlyD HO7.out (Nat.le_refl _), .inr (.inr (.inr (.inl rfl)))⟩
        ·have y5 : ((rest.length : Int) == 0) = false := by
          rw [beq_eq_false_iff_ne]
          intro h
          exact h5 (List.eq_nil_of_length_eq_zero (by omega))
         have HEA : Hid (ans = sp0 2) := by
          have h := HA.out
          rw [walkW_end (s := sp0 2) (by rw [HST3.out, if_pos h4, if_neg h5])] at h
          exact h.symm
         clear HST3 h5 h4 hn
         have v3 := (HZO.out w7 HO7.out).2.2.2.1.err.var 3 (by decide)
         have z0 : w7.cell? ⟨w.heap.size, 0, none⟩ = some (.int .i64 0) := HS7.out.cell 0
         have f0 := HS7.out.fro 0
         have z1 : w7.cell? ⟨w.heap.size, 1, none⟩ = some (.string ⟨#[]⟩) := HS7.out.cell 1
         have f1 := HS7.out.fro 1
         have z2 : w7.cell? ⟨w.heap.size, 2, none⟩ = some (.int .i64 0) := HS7.out.cell 2
         have f2 := HS7.out.fro 2
         have z3 : w7.cell? ⟨w.heap.size, 3, none⟩ = some (.int .i64 0) := HS7.out.cell 3
         have f3 := HS7.out.fro 3
         go_upto_region 15 with fail
         go_region
         all_goals
          go_wp2_with fail
          refine bodyPost_ret (v := .tuple #[spW (sp0 2), erV E 2]) (by simp [results, Tryz.results58, go_sem, z0, z1, z2, z3, spW, sp0, sVal, erV, erX]) rfl ?_
          unfold LeadP
          rw [HEA.out]
          exact ⟨rfl, spot_onlyD HO7.out (Nat.le_refl _), .inr (.inr (.inr (.inl rfl)))⟩
       ·obtain ⟨z, hz, hat, hnd, hzid⟩ := ndAt_rowW (HLI.out h4)
        have hn : namO (L.map Np.n) id = some z := by unfold namO; rw [if_neg h4, hat]
        rw [hn]
        simp only [ptrO]
        have HST4 : Hid (wStep (L.map Np.n) (fun n => mayB c n 1) follow ex.n.id p rest times = if L[z].n.kind = 3 ∧ (rest ≠ [] ∨ follow = true) then (if 8 ≤ times then .inl (sp0 40) else if 40 < (partsL L[z].n.data.data.toList ++ rest).length then .inl (sp0 36) else .inr (if L[z].n.data.data.toList.head? = some 47 then 1 else ex.n.id, (partsL L[z].n.data.data.toList ++ rest), times + 1)) else if rest = [] then .inl ⟨ex.n.id, p, id, 0⟩ else if L[z].n.kind ≠ 2 then .inl (sp0 20) else .inr (id, rest, times)) := (HST3.out.trans (if_neg h4)).trans (by rw [hnd])
        obtain ⟨hr0, hrat, hr1⟩ := dirO_atW HRT.out
        have HAT1 : Hid (atN (L.map Np.n) 1 = some r0) := hrat
        have HNZ : Hid (NdAt w7 b (off + z * 9) L[z].n L[z].v) := (HZO.out w7 HO7.out).1.at_ z hz
        have HLK : Hid (L[z].n.kind = 3 → 1 ≤ L[z].n.data.size ∧ L[z].n.data.size ≤ 60) := HW.out.lnk _ (List.mem_map_of_mem (List.getElem_mem hz))
        have HDZ : Hid (L[z].n.kind = 2 → (dirO (L.map Np.n) L[z].n.id).isSome = true) := fun h => by rw [hzid, dirO_some hat (map_get hz), if_pos h]; rfl
        have k1 := HNZ.out.c1
        clear HST3 hn h4 hat hnd hrat HLI
        by_cases hkd : L[z].n.kind = 3
        ·have yk : ((L[z].n.kind : Int) == 3) = true := by rw [hkd]; rfl
         by_cases hr : rest = []
         ·have y5 : ((rest.length : Int) == 0) = true := by rw [hr]; rfl
          have k4 : w7.cell? ⟨g, 4, none⟩ = some (.bool follow) := HX7.out.cell 4
          cases hf : follow with
          | true =>
           rw [hf] at k4
           have hcond : L[z].n.kind = 3 ∧ (rest ≠ [] ∨ follow = true) := ⟨hkd, .inr hf⟩
           have HST5 : Hid (wStep (L.map Np.n) (fun n => mayB c n 1) follow ex.n.id p rest times = if 8 ≤ times then .inl (sp0 40) else if 40 < (partsL L[z].n.data.data.toList ++ rest).length then .inl (sp0 36) else .inr (if L[z].n.data.data.toList.head? = some 47 then 1 else ex.n.id, (partsL L[z].n.data.data.toList ++ rest), times + 1)) := HST4.out.trans (if_pos hcond)
           have hzn := HNZ.out.c5
           clear HST4 hcond
           go_wp2_with fail
           refine (turn_any L tb b off N g c (.slice ca c.l.length cc) follow x r0 times (.slice ta2 rest.length (tc - 1)) rest E L[z].n.data w7 (HZO.out w7 HO7.out).1 (by omega) HX7.out HR7.out HTA.out (HZO.out w7 HO7.out).2.2.2.1 (HLK.out hkd).1 (HLK.out hkd).2 ht8 (by omega) HAT1.out).mono ?_
           rintro e w8 ⟨o8, h8⟩
           clear k1 hzn
           rcases h8 with ⟨t8, rfl⟩ | ⟨t8, l8, rfl⟩ | ⟨t8, l8, rfl, lv8, X8, R8⟩
           ·have HEA : Hid (ans = sp0 40) := by
             have h := HA.out
             rw [walkW_end (s := sp0 40) (by rw [HST5.out, if_pos t8])] at h
             exact h.symm
            have hv : erV E 40 = .iface 135 (.pointer (some (E 2))) := rfl
            have HO8 := Hid.intro (HO7.out.trans o8)
            have HS8 := Hid.intro (HS7.out.only o8 (by omega))
            clear HO7 HS7 o8 HST5 HNZ HLK HDZ
            rw [hv]
            have z0 : w8.cell? ⟨w.heap.size, 0, none⟩ = some (.int .i64 0) := HS8.out.cell 0
            have f0 := HS8.out.fro 0
            have z1 : w8.cell? ⟨w.heap.size, 1, none⟩ = some (.string ⟨#[]⟩) := HS8.out.cell 1
            have f1 := HS8.out.fro 1
            have z2 : w8.cell? ⟨w.heap.size, 2, none⟩ = some (.int .i64 0) := HS8.out.cell 2
            have f2 := HS8.out.fro 2
            have z3 : w8.cell? ⟨w.heap.size, 3, none⟩ = some (.int .i64 0) := HS8.out.cell 3
            have f3 := HS8.out.fro 3
            go_wp2_with fail
            refine bodyPost_ret (v := .tuple #[spW (sp0 40), erV E 40]) (by simp [results, Tryz.results58, go_sem, z0, z1, z2, z3, spW, sp0, sVal, erV, erX]) rfl ?_
            unfold LeadP
            rw [HEA.out]
            exact ⟨rfl, spot_only HO8.out (Nat.le_refl _), .inr (.inr (.inl rfl))⟩
           ·have HEA : Hid (ans = sp0 36) := by
             have h := HA.out
             rw [walkW_end (s := sp0 36) (by rw [HST5.out, if_neg (by omega), if_pos l8])] at h
             exact h.symm
            have hv : erV E 36 = .iface 135 (.pointer (some (E 5))) := rfl
            have HO8 := Hid.intro (HO7.out.trans o8)
            have HS8 := Hid.intro (HS7.out.only o8 (by omega))
            clear HO7 HS7 o8 HST5 HNZ HLK HDZ
            rw [hv]
            have z0 : w8.cell? ⟨w.heap.size, 0, none⟩ = some (.int .i64 0) := HS8.out.cell 0
            have f0 := HS8.out.fro 0
            have z1 : w8.cell? ⟨w.heap.size, 1, none⟩ = some (.string ⟨#[]⟩) := HS8.out.cell 1
            have f1 := HS8.out.fro 1
            have z2 : w8.cell? ⟨w.heap.size, 2, none⟩ = some (.int .i64 0) := HS8.out.cell 2
            have f2 := HS8.out.fro 2
            have z3 : w8.cell? ⟨w.heap.size, 3, none⟩ = some (.int .i64 0) := HS8.out.cell 3
            have f3 := HS8.out.fro 3
            go_wp2_with fail
            refine bodyPost_ret (v := .tuple #[spW (sp0 36), erV E 36]) (by simp [results, Tryz.results58, go_sem, z0, z1, z2, z3, spW, sp0, sVal, erV, erX]) rfl ?_
            unfold LeadP
            rw [HEA.out]
            exact ⟨rfl, spot_only HO8.out (Nat.le_refl _), .inr (.inr (.inr (.inr (.inr (.inl rfl)))))⟩
           ·have HON : Hid (wStep (L.map Np.n) (fun n => mayB c n 1) follow ex.n.id p rest times = .inr (if L[z].n.data.data.toList.head? = some 47 then 1 else ex.n.id, (partsL L[z].n.data.data.toList ++ rest), times + 1)) := by unfold Hid; rw [HST5.out, if_neg (by omega), if_neg l8]
            obtain ⟨x8, hx8, hX8, hD8, hid8⟩ : ∃ (x8 : Nat) (hx8 : x8 < L.length), Hid (Blk w8 g (wayA tb c (.slice ca c.l.length cc) follow b off x8 lv8 ((times + 1 : Nat) : Int))) ∧ Hid ((dirO (L.map Np.n) L[x8].n.id).isSome = true) ∧ Hid (L[x8].n.id = if L[z].n.data.data.toList.head? = some 47 then 1 else ex.n.id) := by
             have hti : ((times + 1 : Nat) : Int) = (times : Int) + 1 := by omega
             rw [hti]
             by_cases hh : L[z].n.data.data.toList.head? = some 47
             ·rw [if_pos hh] at X8 ⊢
              exact ⟨r0, hr0, X8, by unfold Hid; rw [hr1, HRT.out]; rfl, hr1⟩
             ·rw [if_neg hh] at X8 ⊢
              exact ⟨x, hx2, X8, by unfold Hid; rw [hex]; exact HD.out, by rw [hex]; rfl⟩
            have HS8 := Hid.intro (HS7.out.only o8 (by omega))
            have HO8 := Hid.intro (HO7.out.trans o8)
            have HR8 := Hid.intro R8
            clear X8 R8
            have hmu := wStep_less HON.out
            have HN : Hid (walkW (L.map Np.n) (fun n => mayB c n 1) follow L[x8].n.id (partsL L[z].n.data.data.toList ++ rest) (times + 1) = ans) := by
             have h := HA.out
             rw [walkW_on HON.out, ← hid8.out] at h
             exact h
            generalize (partsL L[z].n.data.data.toList ++ rest) = T8 at HR8 hmu HN l8
            obtain ⟨la8, lc8, rfl, _, _⟩ := HR8.out.row.slice
            clear HST5 HO7 HS7 HX7 HR7 HA HON HNZ HLK HDZ
            go_wp2_with fail
            go_roundw
            case rel => exact ⟨x8, times + 1, _, T8, hx8, rfl, by omega, by omega, hD8, HN, hX8, HR8, HS8, HO8⟩
            case measure => rw [muC_is hX8.out, HMU.out]; exact hmu
          | false =>
           rw [hf] at k4
           have hcond : ¬ (L[z].n.kind = 3 ∧ (rest ≠ [] ∨ follow = true)) := fun h => h.2.elim (fun h => h hr) (fun h => by rw [hf] at h; cases h)
           have HEA : Hid (ans = ⟨ex.n.id, p, id, 0⟩) := by
            have h := HA.out
            rw [walkW_end (s := ⟨ex.n.id, p, id, 0⟩) (by rw [HST4.out, if_neg hcond, if_pos hr])] at h
            exact h.symm
           have k5 : w7.cell? ⟨g, 5, none⟩ = some (ptrJ b off x) := HX7.out.cell 5
           have n0 := (HZO.out w7 HO7.out).2.2.2.2.1.c0
           have zn0 : w7.cell? ⟨b, off + z * 9, none⟩ = some (.int .i64 id) := by have h := HNZ.out.c0; rw [hzid] at h; exact h
           clear HST4 hcond HNZ HLK HDZ
           have z0 : w7.cell? ⟨w.heap.size, 0, none⟩ = some (.int .i64 0) := HS7.out.cell 0
           have f0 := HS7.out.fro 0
           have z1 : w7.cell? ⟨w.heap.size, 1, none⟩ = some (.string ⟨#[]⟩) := HS7.out.cell 1
           have f1 := HS7.out.fro 1
           have z2 : w7.cell? ⟨w.heap.size, 2, none⟩ = some (.int .i64 0) := HS7.out.cell 2
           have f2 := HS7.out.fro 2
           have z3 : w7.cell? ⟨w.heap.size, 3, none⟩ = some (.int .i64 0) := HS7.out.cell 3
           have f3 := HS7.out.fro 3
           go_upto_region 21 with fail
           go_region
           all_goals
            go_wp2_with fail
            refine bodyPost_ret (v := .tuple #[spW ⟨ex.n.id, p, id, 0⟩, erV E 0]) (by simp [results, Tryz.results58, go_sem, z0, z1, z2, z3, spW, sp0, erV, erX, HSV.out]) rfl ?_
            unfold LeadP
            rw [HEA.out]
            exact ⟨rfl, spot_onlyD HO7.out (Nat.le_refl _), .inl rfl⟩
         ·have y5 : ((rest.length : Int) == 0) = false := by
           rw [beq_eq_false_iff_ne]
           intro h
           exact hr (List.eq_nil_of_length_eq_zero (by omega))
          have hcond : L[z].n.kind = 3 ∧ (rest ≠ [] ∨ follow = true) := ⟨hkd, .inl hr⟩
          have HST5 : Hid (wStep (L.map Np.n) (fun n => mayB c n 1) follow ex.n.id p rest times = if 8 ≤ times then .inl (sp0 40) else if 40 < (partsL L[z].n.data.data.toList ++ rest).length then .inl (sp0 36) else .inr (if L[z].n.data.data.toList.head? = some 47 then 1 else ex.n.id, (partsL L[z].n.data.data.toList ++ rest), times + 1)) := HST4.out.trans (if_pos hcond)
          have hzn := HNZ.out.c5
          clear HST4 hcond
          go_wp2_with fail
          refine (turn_any L tb b off N g c (.slice ca c.l.length cc) follow x r0 times (.slice ta2 rest.length (tc - 1)) rest E L[z].n.data w7 (HZO.out w7 HO7.out).1 (by omega) HX7.out HR7.out HTA.out (HZO.out w7 HO7.out).2.2.2.1 (HLK.out hkd).1 (HLK.out hkd).2 ht8 (by omega) HAT1.out).mono ?_
          rintro e w8 ⟨o8, h8⟩
          clear k1 hzn
          rcases h8 with ⟨t8, rfl⟩ | ⟨t8, l8, rfl⟩ | ⟨t8, l8, rfl, lv8, X8, R8⟩
          ·have HEA : Hid (ans = sp0 40) := by
            have h := HA.out
            rw [walkW_end (s := sp0 40) (by rw [HST5.out, if_pos t8])] at h
            exact h.symm
           have hv : erV E 40 = .iface 135 (.pointer (some (E 2))) := rfl
           have HO8 := Hid.intro (HO7.out.trans o8)
           have HS8 := Hid.intro (HS7.out.only o8 (by omega))
           clear HO7 HS7 o8 HST5 HNZ HLK HDZ
           rw [hv]
           have z0 : w8.cell? ⟨w.heap.size, 0, none⟩ = some (.int .i64 0) := HS8.out.cell 0
           have f0 := HS8.out.fro 0
           have z1 : w8.cell? ⟨w.heap.size, 1, none⟩ = some (.string ⟨#[]⟩) := HS8.out.cell 1
           have f1 := HS8.out.fro 1
           have z2 : w8.cell? ⟨w.heap.size, 2, none⟩ = some (.int .i64 0) := HS8.out.cell 2
           have f2 := HS8.out.fro 2
           have z3 : w8.cell? ⟨w.heap.size, 3, none⟩ = some (.int .i64 0) := HS8.out.cell 3
           have f3 := HS8.out.fro 3
           go_wp2_with fail
           refine bodyPost_ret (v := .tuple #[spW (sp0 40), erV E 40]) (by simp [results, Tryz.results58, go_sem, z0, z1, z2, z3, spW, sp0, sVal, erV, erX]) rfl ?_
           unfold LeadP
           rw [HEA.out]
           exact ⟨rfl, spot_only HO8.out (Nat.le_refl _), .inr (.inr (.inl rfl))⟩
          ·have HEA : Hid (ans = sp0 36) := by
            have h := HA.out
            rw [walkW_end (s := sp0 36) (by rw [HST5.out, if_neg (by omega), if_pos l8])] at h
            exact h.symm
           have hv : erV E 36 = .iface 135 (.pointer (some (E 5))) := rfl
           have HO8 := Hid.intro (HO7.out.trans o8)
           have HS8 := Hid.intro (HS7.out.only o8 (by omega))
           clear HO7 HS7 o8 HST5 HNZ HLK HDZ
           rw [hv]
           have z0 : w8.cell? ⟨w.heap.size, 0, none⟩ = some (.int .i64 0) := HS8.out.cell 0
           have f0 := HS8.out.fro 0
           have z1 : w8.cell? ⟨w.heap.size, 1, none⟩ = some (.string ⟨#[]⟩) := HS8.out.cell 1
           have f1 := HS8.out.fro 1
           have z2 : w8.cell? ⟨w.heap.size, 2, none⟩ = some (.int .i64 0) := HS8.out.cell 2
           have f2 := HS8.out.fro 2
           have z3 : w8.cell? ⟨w.heap.size, 3, none⟩ = some (.int .i64 0) := HS8.out.cell 3
           have f3 := HS8.out.fro 3
           go_wp2_with fail
           refine bodyPost_ret (v := .tuple #[spW (sp0 36), erV E 36]) (by simp [results, Tryz.results58, go_sem, z0, z1, z2, z3, spW, sp0, sVal, erV, erX]) rfl ?_
           unfold LeadP
           rw [HEA.out]
           exact ⟨rfl, spot_only HO8.out (Nat.le_refl _), .inr (.inr (.inr (.inr (.inr (.inl rfl)))))⟩
          ·have HON : Hid (wStep (L.map Np.n) (fun n => mayB c n 1) follow ex.n.id p rest times = .inr (if L[z].n.data.data.toList.head? = some 47 then 1 else ex.n.id, (partsL L[z].n.data.data.toList ++ rest), times + 1)) := by unfold Hid; rw [HST5.out, if_neg (by omega), if_neg l8]
           obtain ⟨x8, hx8, hX8, hD8, hid8⟩ : ∃ (x8 : Nat) (hx8 : x8 < L.length), Hid (Blk w8 g (wayA tb c (.slice ca c.l.length cc) follow b off x8 lv8 ((times + 1 : Nat) : Int))) ∧ Hid ((dirO (L.map Np.n) L[x8].n.id).isSome = true) ∧ Hid (L[x8].n.id = if L[z].n.data.data.toList.head? = some 47 then 1 else ex.n.id) := by
            have hti : ((times + 1 : Nat) : Int) = (times : Int) + 1 := by omega
            rw [hti]
            by_cases hh : L[z].n.data.data.toList.head? = some 47
            ·rw [if_pos hh] at X8 ⊢
             exact ⟨r0, hr0, X8, by unfold Hid; rw [hr1, HRT.out]; rfl, hr1⟩
            ·rw [if_neg hh] at X8 ⊢
             exact ⟨x, hx2, X8, by unfold Hid; rw [hex]; exact HD.out, by rw [hex]; rfl⟩
           have HS8 := Hid.intro (HS7.out.only o8 (by omega))
           have HO8 := Hid.intro (HO7.out.trans o8)
           have HR8 := Hid.intro R8
           clear X8 R8
           have hmu := wStep_less HON.out
           have HN : Hid (walkW (L.map Np.n) (fun n => mayB c n 1) follow L[x8].n.id (partsL L[z].n.data.data.toList ++ rest) (times + 1) = ans) := by
            have h := HA.out
            rw [walkW_on HON.out, ← hid8.out] at h
            exact h
           generalize (partsL L[z].n.data.data.toList ++ rest) = T8 at HR8 hmu HN l8
           obtain ⟨la8, lc8, rfl, _, _⟩ := HR8.out.row.slice
           clear HST5 HO7 HS7 HX7 HR7 HA HON HNZ HLK HDZ
           go_wp2_with fail
           go_roundw
           case rel => exact ⟨x8, times + 1, _, T8, hx8, rfl, by omega, by omega, hD8, HN, hX8, HR8, HS8, HO8⟩
           case measure => rw [muC_is hX8.out, HMU.out]; exact hmu
        ·have yk : ((L[z].n.kind : Int) == 3) = false := by rw [beq_eq_false_iff_ne]; exact hkd
         have hcond : ¬ (L[z].n.kind = 3 ∧ (rest ≠ [] ∨ follow = true)) := fun h => hkd h.1
         by_cases hr : rest = []
         ·have y5 : ((rest.length : Int) == 0) = true := by rw [hr]; rfl
          have HEA : Hid (ans = ⟨ex.n.id, p, id, 0⟩) := by
           have h := HA.out
           rw [walkW_end (s := ⟨ex.n.id, p, id, 0⟩) (by rw [HST4.out, if_neg hcond, if_pos hr])] at h
           exact h.symm
          have k5 : w7.cell? ⟨g, 5, none⟩ = some (ptrJ b off x) := HX7.out.cell 5
          have n0 := (HZO.out w7 HO7.out).2.2.2.2.1.c0
          have zn0 : w7.cell? ⟨b, off + z * 9, none⟩ = some (.int .i64 id) := by have h := HNZ.out.c0; rw [hzid] at h; exact h
          clear HST4 hcond HNZ HLK HDZ
          have z0 : w7.cell? ⟨w.heap.size, 0, none⟩ = some (.int .i64 0) := HS7.out.cell 0
          have f0 := HS7.out.fro 0
          have z1 : w7.cell? ⟨w.heap.size, 1, none⟩ = some (.string ⟨#[]⟩) := HS7.out.cell 1
          have f1 := HS7.out.fro 1
          have z2 : w7.cell? ⟨w.heap.size, 2, none⟩ = some (.int .i64 0) := HS7.out.cell 2
          have f2 := HS7.out.fro 2
          have z3 : w7.cell? ⟨w.heap.size, 3, none⟩ = some (.int .i64 0) := HS7.out.cell 3
          have f3 := HS7.out.fro 3
          go_upto_region 21 with fail
          go_region
          all_goals
           go_wp2_with fail
           refine bodyPost_ret (v := .tuple #[spW ⟨ex.n.id, p, id, 0⟩, erV E 0]) (by simp [results, Tryz.results58, go_sem, z0, z1, z2, z3, spW, sp0, erV, erX, HSV.out]) rfl ?_
           unfold LeadP
           rw [HEA.out]
           exact ⟨rfl, spot_onlyD HO7.out (Nat.le_refl _), .inl rfl⟩
         ·have y5 : ((rest.length : Int) == 0) = false := by
           rw [beq_eq_false_iff_ne]
           intro h
           exact hr (List.eq_nil_of_length_eq_zero (by omega))
          by_cases hk2 : L[z].n.kind = 2
          ·have yk2 : ((L[z].n.kind : Int) == 2) = true := by rw [hk2]; rfl
           have HN : Hid (walkW (L.map Np.n) (fun n => mayB c n 1) follow L[z].n.id rest times = ans) := by
            have h := HA.out
            rw [walkW_on (cur' := id) (rest' := rest) (times' := times) (by rw [HST4.out, if_neg hcond, if_neg hr, if_neg (by rw [hk2]; simp)]), ← hzid] at h
            exact h
           have HDY := Hid.intro (HDZ.out hk2)
           have f5 := HX7.out.fro 5
           have k5 : w7.cell? ⟨g, 5, none⟩ = some (ptrJ b off x) := HX7.out.cell 5
           have HX8 : Hid (Blk (w7.setCell ⟨g, 5, none⟩ (ptrJ b off z)) g (wayA tb c (.slice ca c.l.length cc) follow b off z (.slice ta2 rest.length (tc - 1)) (times : Int))) := HX7.out.setW 5 (by simp [wayA]) _
           have HO8 := Hid.intro (HO7.out.trans (setW_only g 5 w7 (ptrJ b off z)))
           have HR8 := Hid.intro (HR7.out.only (setW_only g 5 w7 (ptrJ b off z)))
           have HS8 := Hid.intro (HS7.out.only (setW_only g 5 w7 (ptrJ b off z)) (by omega))
           clear HST4 hcond HLK HDZ HNZ HX7 HO7 HR7 HS7
           go_wp2_with fail
           go_roundw
           case rel => exact ⟨z, times, _, rest, hz, rfl, ht8, by omega, HDY, HN, HX8, HR8, HS8, HO8⟩
           case measure => rw [muC_is HX8.out, HMU.out]; unfold muW; simp
          ·have yk2 : ((L[z].n.kind : Int) == 2) = false := by rw [beq_eq_false_iff_ne]; exact hk2
           have HEA : Hid (ans = sp0 20) := by
            have h := HA.out
            rw [walkW_end (s := sp0 20) (by rw [HST4.out, if_neg hcond, if_neg hr, if_pos hk2])] at h
            exact h.symm
           have v4 := (HZO.out w7 HO7.out).2.2.2.1.err.var 4 (by decide)
           clear HST4 hcond HLK HDZ HNZ
           have z0 : w7.cell? ⟨w.heap.size, 0, none⟩ = some (.int .i64 0) := HS7.out.cell 0
           have f0 := HS7.out.fro 0
           have z1 : w7.cell? ⟨w.heap.size, 1, none⟩ = some (.string ⟨#[]⟩) := HS7.out.cell 1
           have f1 := HS7.out.fro 1
           have z2 : w7.cell? ⟨w.heap.size, 2, none⟩ = some (.int .i64 0) := HS7.out.cell 2
           have f2 := HS7.out.fro 2
           have z3 : w7.cell? ⟨w.heap.size, 3, none⟩ = some (.int .i64 0) := HS7.out.cell 3
           have f3 := HS7.out.fro 3
           go_upto_region 23 with fail
           go_region
           all_goals
            go_wp2_with fail
            refine bodyPost_ret (v := .tuple #[spW (sp0 20), erV E 20]) (by simp [results, Tryz.results58, go_sem, z0, z1, z2, z3, spW, sp0, sVal, erV, erX]) rfl ?_
            unfold LeadP
            rw [HEA.out]
            exact ⟨rfl, spot_onlyD HO7.out (Nat.le_refl _), .inr (.inr (.inr (.inr (.inl rfl))))⟩
end Go.Proofs.YtmkegmndcbpblaaGreatDoor
