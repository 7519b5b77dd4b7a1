/- The sentence's l6Walk is the walk. -/
import Derived.Test.YtmkegmndcbpblaaGreatDoorWLeft
import Derived.Test.YtmkegmndcbpblaaGreatDoorWLook
import Derived.Test.YtmkegmndcbpblaaGreatDoorWTodo
import Derived.Test.YtmkegmndcbpblaaGreatDoorWCut
import Derived.Test.YtmkegmndcbpblaaGreatDoorPMayS
import Derived.Test.YtmkegmndcbpblaaGreatDoorVPar
import Derived.Test.YtmkegmndcbpblaaGreatDoorGSet
import Derived.Deep.CutRange
namespace Go.Proofs.YtmkegmndcbpblaaGreatDoor
open Go.RowKit
set_option linter.unusedVariables false
def spA (s : Sp) : Array Value := #[.int .i64 s.dir, sVal s.nm, .int .i64 s.id, .int .i64 s.code]
def spV (s : Sp) : Value := .agg (spA s)
theorem pAux_len (l : List UInt8) : ∀ cur : List UInt8, (pAux cur l).length ≤ l.length + (if cur = [] then 0 else 1) := by
 induction l with
 | nil =>
  intro cur
  unfold pAux
  split <;> simp_all
 | cons x l ih =>
  intro cur
  have h0 := ih []
  rw [if_pos rfl] at h0
  have h1 := ih (cur ++ [x])
  rw [if_neg (by simp)] at h1
  unfold pAux
  split
  ·split
   ·simp only [List.length_cons]; omega
   ·simp only [List.length_cons]; omega
  ·simp only [List.length_cons]
   split <;> omega
theorem parts_le (l : List UInt8) : (partsL l).length ≤ l.length := by
 have h := pAux_len l []
 rw [if_pos rfl] at h
 exact h
abbrev Z9 : Array Value := #[.int .i64 0, .int .i64 0, .int .i64 0, .int .i64 0, .int .i64 0, .string ⟨#[]⟩, .slice none 0 0, .int .i64 0, .int .i64 0]
theorem boxK {w w7 : World} {A : Array Value} {T : TypeId} (h : Below (w.alloc (.cells A T)).heap.size (w.alloc (.cells A T)) w7) : Blk w7 w.heap.size A := by
 obtain ⟨W, hW, bW, zW, cW, fW⟩ := boxed w A T
 rw [hW] at h
 exact ⟨by have := h.size; omega, keepC h (by omega) cW, keepF h (by omega) fW⟩
theorem spot_below {B g : Nat} {w wr : World} {a b c d : Value} (h : Below B w wr) (hg : B ≤ g) : Below B w ((((wr.setCell ⟨g, 0, none⟩ a).setCell ⟨g, 1, none⟩ b).setCell ⟨g, 2, none⟩ c).setCell ⟨g, 3, none⟩ d) :=
 (((h.setCell (p := ⟨g, 0, none⟩) hg _).setCell (p := ⟨g, 1, none⟩) hg _).setCell (p := ⟨g, 2, none⟩) hg _).setCell (p := ⟨g, 3, none⟩) hg _
theorem box_setG {w5 Y : World} {g : Nat} {n : Nd} {v : Value} {A : Array Value} (h : Below w5.heap.size w5 Y) (hg : w5.heap.size ≤ g) (X : Blk Y g A) (hA : A.size = 9) : g < (((((((((Y.setCell ⟨g, 0, none⟩ (.int .i64 n.id)).setCell ⟨g, 1, none⟩ (.int .i64 n.kind)).setCell ⟨g, 2, none⟩ (.int .i64 n.mode)).setCell ⟨g, 3, none⟩ (.int .i64 n.uid)).setCell ⟨g, 4, none⟩ (.int .i64 n.gid)).setCell ⟨g, 5, none⟩ (.string n.data)).setCell ⟨g, 6, none⟩ v).setCell ⟨g, 7, none⟩ (.int .i64 n.maxb)).setCell ⟨g, 8, none⟩ (.int .i64 n.maxi)).heap.size ∧ (∀ o, (((((((((Y.setCell ⟨g, 0, none⟩ (.int .i64 n.id)).setCell ⟨g, 1, none⟩ (.int .i64 n.kind)).setCell ⟨g, 2, none⟩ (.int .i64 n.mode)).setCell ⟨g, 3, none⟩ (.int .i64 n.uid)).setCell ⟨g, 4, none⟩ (.int .i64 n.gid)).setCell ⟨g, 5, none⟩ (.string n.data)).setCell ⟨g, 6, none⟩ v).setCell ⟨g, 7, none⟩ (.int .i64 n.maxb)).setCell ⟨g, 8, none⟩ (.int .i64 n.maxi)).cell? ⟨g, o, none⟩ = (ndA n v)[o]?) ∧ Below w5.heap.size w5 (((((((((Y.setCell ⟨g, 0, none⟩ (.int .i64 n.id)).setCell ⟨g, 1, none⟩ (.int .i64 n.kind)).setCell ⟨g, 2, none⟩ (.int .i64 n.mode)).setCell ⟨g, 3, none⟩ (.int .i64 n.uid)).setCell ⟨g, 4, none⟩ (.int .i64 n.gid)).setCell ⟨g, 5, none⟩ (.string n.data)).setCell ⟨g, 6, none⟩ v).setCell ⟨g, 7, none⟩ (.int .i64 n.maxb)).setCell ⟨g, 8, none⟩ (.int .i64 n.maxi)) := by
 have hx := X.all [.int .i64 n.id, .int .i64 n.kind, .int .i64 n.mode, .int .i64 n.uid, .int .i64 n.gid, .string n.data, v, .int .i64 n.maxb, .int .i64 n.maxi] (by rw [hA]; rfl)
 have hb := h.trans ((only_setC Y g 0 [.int .i64 n.id, .int .i64 n.kind, .int .i64 n.mode, .int .i64 n.uid, .int .i64 n.gid, .string n.data, v, .int .i64 n.maxb, .int .i64 n.maxi]).below h.size (fun k hk e => by omega))
 have h9 := And.intro hx.hi (And.intro hx.cell hb)
 simp only [setC] at h9
 exact h9
set_option maxRecDepth 100000 in
set_option maxHeartbeats 40000000 in
theorem l6Walk_any (next : Int) (L : List Np) (u : Value) (c : Cr) (cv : Value) (path : ByteArray) (follow : Bool) (N : Nat) (w : World) (hN : N ≤ w.heap.size) (hr : VolR w N u L) (hcr : Row intE w N cv c.l) (hb : volB next (L.map Np.n) = true) (hp : path.size ≤ 60) :
  Calls Tryz.prog 18 #[volV next u, crV c cv, .string path, .bool follow] w fun e w' => e = .returned (spV (walkW (L.map Np.n) (fun n => mayB c n 1) follow 1 (partsL path.data.toList) 0)) ∧ Below w.heap.size w w' := by
 have HOK := Hid.intro (wOk hb)
 obtain ⟨a, cap, rfl, hl, hm, hcells⟩ := ndE_cell hr.row
 obtain ⟨ca, cc, rfl, hcl, hcm⟩ := hcr.slice
 have HV := Hid.intro hr
 have HC := Hid.intro hcells
 have HR := Hid.intro hcr
 clear hr hcells hcr hb
 obtain ⟨LN, hLN⟩ : ∃ LN, L.map Np.n = LN := ⟨_, rfl⟩
 obtain ⟨ans, hans⟩ : ∃ ans, walkW (L.map Np.n) (fun n => mayB c n 1) follow 1 (partsL path.data.toList) 0 = ans := ⟨_, rfl⟩
 rw [hans]
 have HA := Hid.intro hans
 clear hans
 go_enter Tryz.func18, Tryz.ntmps18
 go_upto_region 1 with fail
 obtain ⟨W, hW, bW, zW, c0, f0, c1, f1, c2, f2⟩ := boxed3 w #[.int .i64 next, .slice a L.length cap] #[.int .i64 c.u, .int .i64 c.g, .slice ca c.l.length cc] #[.int .i64 0, .string ⟨#[]⟩, .int .i64 0, .int .i64 0] 35 37 31
 try simp only [hW]
 clear hW f0 f1
 have X2 : Blk W (w.heap.size + 1 + 1) #[.int .i64 0, .string ⟨#[]⟩, .int .i64 0, .int .i64 0] := ⟨by omega, c2, f2⟩
 clear c2 f2
 go_wp2_with fail
 refine (l6Cut_any path W hp).mono ?_
 rintro e w1 ⟨v, rfl, hrow, b1⟩
 have hROW := hrow.own.rowAll
 obtain ⟨ta, tc, rfl, -, -⟩ := hROW.slice
 have HROW := Hid.intro hROW
 have hlen := parts_le path.data.toList
 have HKEEP : Hid (∀ y, Below W.heap.size W y → (∀ o, y.cell? ⟨w.heap.size, o, none⟩ = #[.int .i64 next, .slice a L.length cap][o]?) ∧ (∀ o, y.cell? ⟨w.heap.size + 1, o, none⟩ = #[.int .i64 c.u, .int .i64 c.g, .slice ca c.l.length cc][o]?) ∧ Blk y (w.heap.size + 1 + 1) #[.int .i64 0, .string ⟨#[]⟩, .int .i64 0, .int .i64 0] ∧ N ≤ y.heap.size ∧ VolR y N (.slice a L.length cap) L ∧ Row intE y N (.slice ca c.l.length cc) c.l ∧ Below w.heap.size w y) := fun y hy => by
  have hz := hy.size
  have h1 := bW.trans (hy.mono (by omega))
  exact ⟨keepC hy (by omega) c0, keepC hy (by omega) c1, X2.kept hy, by omega, HV.out.kept (h1.mono hN), HR.out.kept (h1.mono hN), h1⟩
 have HWB : Hid (Below W.heap.size W w1) := b1
 have HA2 : Hid (walkW LN (fun n => mayB c n 1) follow 1 (partsL path.data.toList) 0 = ans) := by rw [← hLN]; exact HA.out
 have HOK2 : Hid (WOk LN) := by rw [← hLN]; exact HOK.out
 have HAT1 : Hid ((ndAt LN 1).isSome = true) := HOK2.out.root
 have hps : path.data.toList.length = path.size := by simp
 have hT : (partsL path.data.toList).length ≤ 60 := by omega
 generalize partsL path.data.toList = T0 at HROW HA2 hT ⊢
 clear hrow hROW b1 c0 c1 X2 hlen HOK HA hps
 go_wp2_with fail
 go_loopw [9, 10, 11] (fun td cu ti wr => ∃ (T : List (List UInt8)) (ta : Option Addr) (tc : Nat) (cur : Int) (times : Nat), td = .slice ta T.length tc ∧ cu = .int .i64 cur ∧ ti = .int .i64 times ∧ times ≤ 8 ∧ T.length ≤ 60 ∧ Hid (Row stE wr wr.heap.size (.slice ta T.length tc) T) ∧ Hid (walkW LN (fun n => mayB c n 1) follow cur T times = ans) ∧ Hid ((ndAt LN cur).isSome = true) ∧ Hid (Below W.heap.size W wr)) (fun td _ ti _ => match td with | .slice _ n _ => (8 - (intOf ti).toNat) * 41 + n | _ => 0)
 case atStart => exact ⟨T0, _, _, 1, 0, rfl, rfl, rfl, by omega, hT, HROW, HA2, HAT1, HWB⟩
 case round =>
  clear HROW HA2 HAT1 HWB
  obtain ⟨T, ta, tc, cur, times, rfl, rfl, rfl, ht8, hT60, HROW, HA, HAT, HWB⟩ := hrel
  cases T with
  | nil =>
   have HE : Hid (ans = ⟨0, [], cur, 0⟩) := by have h := HA.out; rw [walkW_nil] at h; exact h.symm
   have hX := (HKEEP.out _ HWB.out).2.2.1
   have HBW := Hid.intro (HKEEP.out _ HWB.out).2.2.2.2.2.2
   have k0 : wr.cell? ⟨w.heap.size + 1 + 1, 0, none⟩ = some (.int .i64 0) := hX.cell 0
   have k1 : wr.cell? ⟨w.heap.size + 1 + 1, 1, none⟩ = some (.string ⟨#[]⟩) := hX.cell 1
   have k2 : wr.cell? ⟨w.heap.size + 1 + 1, 2, none⟩ = some (.int .i64 0) := hX.cell 2
   have k3 : wr.cell? ⟨w.heap.size + 1 + 1, 3, none⟩ = some (.int .i64 0) := hX.cell 3
   have f0 := hX.fro 0
   have f1 := hX.fro 1
   have f2 := hX.fro 2
   have f3 := hX.fro 3
   clear hX
   go_wp2
   exact bodyPost_ret (v := spV ⟨0, [], cur, 0⟩) (by simp [results, Tryz.results18, go_sem, k0, k1, k2, k3, spV, spA, sVal]) rfl ⟨by rw [HE.out], spot_below HBW.out (by omega)⟩
  | cons p rest =>
   obtain ⟨q, hq⟩ : ∃ q : ByteArray, q.data.toList = p := ⟨⟨p.toArray⟩, by simp⟩
   have hsv : sVal p = .string q := by rw [← hq]; unfold sVal; rw [Array.toArray_toList]
   obtain ⟨b, off, rfl, hbN, hcell⟩ : ∃ b off, ta = some ⟨b, off, none⟩ ∧ b < wr.heap.size ∧ wr.cell? ⟨b, off, none⟩ = some (.string q) := by
    rw [← hsv]
    obtain ⟨a', cap', hv, h1, h2, h3⟩ := HROW.out
    obtain ⟨b, off, hb, hbN, hc⟩ := h3 (by simp)
    simp only [Value.slice.injEq] at hv
    obtain ⟨rfl, -, rfl⟩ := hv
    subst hb
    exact ⟨b, off, rfl, hbN, todo_head HROW.out⟩
   obtain ⟨x, hatx⟩ : ∃ x, atN LN cur = some x := by
    have h := HAT.out
    unfold ndAt at h
    cases hx : atN LN cur with
    | none => rw [hx] at h; cases h
    | some x => exact ⟨x, rfl⟩
   have hxl : x < L.length := by have h := atN_lt hatx; rw [← hLN] at h; simpa using h
   have hnd : ndAt LN cur = some L[x].n := by
    unfold ndAt
    rw [hatx, Option.bind_some, ← hLN]
    simp [List.getElem?_eq_getElem hxl]
   obtain ⟨b0, o0, rfl, hb0, hcc⟩ := HC.out (by intro h; rw [h] at hxl; simp at hxl)
   have hc := hcc x hxl
   have HND := Hid.intro hnd
   have hatI : atI LN cur = x := atI_some hatx
   have HLA : Hid (∀ (y : World), N ≤ y.heap.size → VolR y N (.slice (some ⟨b0, o0, none⟩) L.length cap) L → Calls Tryz.prog 35 #[volV next (.slice (some ⟨b0, o0, none⟩) L.length cap), .int .i64 cur] y fun e w' => e = .returned (.int .i64 (x : Nat)) ∧ Below y.heap.size y w') := fun y h1 h2 => by
    rw [← hatI, ← hLN]
    exact l4At_any next L _ N cur y h1 h2
   have HLK : Hid (∀ (y : World), N ≤ y.heap.size → VolR y N (.slice (some ⟨b0, o0, none⟩) L.length cap) L → Calls Tryz.prog 37 #[volV next (.slice (some ⟨b0, o0, none⟩) L.length cap), .int .i64 cur, .string q] y fun e w' => e = .returned (.int .i64 (lookN L[x].n q.data.toList)) ∧ Below y.heap.size y w') := fun y h1 h2 => l6Look_any next L _ N cur q y h1 h2 x (by rw [hLN]; exact hatx) hxl
   have hi1 : (0 : Int) ≤ (x : Int) ∧ (x : Int) < (L.length : Int) := by omega
   have hrow := HV.out.nms _ (List.getElem_mem hxl)
   generalize L[x] = ex at hc HND hrow HLK
   obtain ⟨a2, cap2, hv2, l2, m2, -⟩ := diE_cell hrow
   rw [hv2] at hc
   clear hrow
   have HMAY : Hid (∀ (y : World), N ≤ y.heap.size → Row intE y N (.slice ca c.l.length cc) c.l → Calls Tryz.prog 34 #[crV c (.slice ca c.l.length cc), ndV ex.n (.slice a2 ex.n.names.length cap2), .int .i64 1] y fun e w' => e = .returned (.bool (mayB c ex.n 1)) ∧ Below y.heap.size y w') := fun y h1 h2 => specMay_any c _ _ ex.n 1 N y h1 h2
   have HYK : Hid (∀ y, Below wr.heap.size wr y → N ≤ y.heap.size ∧ VolR y N (.slice (some ⟨b0, o0, none⟩) L.length cap) L ∧ Row intE y N (.slice ca c.l.length cc) c.l ∧ (y.cell? ⟨w.heap.size, 0, none⟩ = some (.int .i64 next) ∧ y.cell? ⟨w.heap.size, 1, none⟩ = some (.slice (some ⟨b0, o0, none⟩) L.length cap)) ∧ (y.cell? ⟨w.heap.size + 1, 0, none⟩ = some (.int .i64 c.u) ∧ y.cell? ⟨w.heap.size + 1, 1, none⟩ = some (.int .i64 c.g) ∧ y.cell? ⟨w.heap.size + 1, 2, none⟩ = some (.slice ca c.l.length cc)) ∧ NdAt y b0 (o0 + x * 9) ex.n (.slice a2 ex.n.names.length cap2)) := fun y hy => by
    obtain ⟨h1, h2, h3, h4, h5, h6, h7⟩ := HKEEP.out y (HWB.out.trans (hy.mono HWB.out.size))
    exact ⟨h4, h5, h6, ⟨h1 0, h1 1⟩, ⟨h2 0, h2 1, h2 2⟩, hc.kept h7 (by omega)⟩
   have HRW2 : Hid (Row stE wr wr.heap.size (.slice (if tc = 1 then (some ⟨b, off, none⟩ : Option Addr) else some ⟨b, off + 1, none⟩) rest.length (tc - 1)) rest) := by
    have h := (show Row stE wr wr.heap.size (.slice (some ⟨b, off, none⟩) (p :: rest).length tc) (p :: rest) from HROW.out).drop (k := 1) (by simp)
    have htc : (p :: rest).length ≤ tc := by obtain ⟨_, _, e, _⟩ := HROW.out.slice; obtain ⟨_, _, e2, e3, _⟩ := HROW.out.slice; simp only [Value.slice.injEq] at e2; omega
    by_cases h1 : tc = 1
    ·rw [if_pos h1]
     have hr : rest = [] := List.eq_nil_of_length_eq_zero (by simp at htc; omega)
     subst hr
     exact ⟨_, _, rfl, Nat.zero_le _, by omega, fun h => absurd rfl h⟩
    ·rw [if_neg h1]
     unfold Hid
     simpa [stE] using h
   go_upto_region 7 with fail
   generalize hgen : (if tc = 1 then (some ⟨b, off, none⟩ : Option Addr) else some ⟨b, off + 1, none⟩) = ta2 at HRW2 ⊢
   have HTA : Hid (∃ ad : Addr, ta2 = some ad) := by unfold Hid; rw [← hgen]; split <;> exact ⟨_, rfl⟩
   clear hgen
   go_cut [35] from 26 to 106 (fun sx wc => sx = .bool (!mayB c ex.n 1) ∧ Below wr.heap.size wr wc)
   case first => as_aux_lemma =>
    obtain ⟨-, -, -, ⟨v0, v1⟩, ⟨e0, e1, e2⟩, ndy⟩ := HYK.out wr (Below.refl _ _)
    have p0 := ndy.c0
    clear ndy
    go_region_with (first
     | (go_at_call 35; refine (HLA.out _ (HYK.out _ (by first | exact Below.refl _ _ | exact (Below.refl _ _).drew | exact (Below.refl _ _).drew.drew | exact (Below.refl _ _).drew.drew.drew | exact (Below.refl _ _).drew.drew.drew.drew)).1 (HYK.out _ (by first | exact Below.refl _ _ | exact (Below.refl _ _).drew | exact (Below.refl _ _).drew.drew | exact (Below.refl _ _).drew.drew.drew | exact (Below.refl _ _).drew.drew.drew.drew)).2.1).mono ?_; rintro e w5 ⟨rfl, b5⟩; have B5 : Hid (Below wr.heap.size wr w5) := (by first | exact b5 | exact (Below.refl _ _).drew.trans b5 | exact (Below.refl _ _).drew.drew.trans b5 | exact (Below.refl _ _).drew.drew.drew.trans b5 | exact (Below.refl _ _).drew.drew.drew.drew.trans b5); clear b5; obtain ⟨-, -, -, ⟨v50, v51⟩, ⟨e50, e51, e52⟩, nd5⟩ := HYK.out w5 B5.out; obtain ⟨p50, p51, p52, p53, p54, p55, p56, p57, p58⟩ := nd5)
     | (go_at_call 34; refine (HMAY.out _ (HYK.out _ (by first | exact B5.out | exact B5.out.drew | exact B5.out.drew.drew | exact B5.out.drew.drew.drew | exact B5.out.drew.drew.drew.drew)).1 (HYK.out _ (by first | exact B5.out | exact B5.out.drew | exact B5.out.drew.drew | exact B5.out.drew.drew.drew | exact B5.out.drew.drew.drew.drew)).2.2.1).mono ?_; rintro e w6 ⟨rfl, b6⟩; have B6 : Hid (Below wr.heap.size wr w6) := (by first | exact B5.out.trans (b6.mono B5.out.size) | exact B5.out.drew.trans (b6.mono B5.out.size) | exact B5.out.drew.drew.trans (b6.mono B5.out.size) | exact B5.out.drew.drew.drew.trans (b6.mono B5.out.size)); clear b6))
    all_goals
     go_wp2_with fail
     go_meet
     case rel => exact ⟨rfl, B6.out⟩
   case rest =>
    obtain ⟨rfl, hbw⟩ := hcut
    have HWC : Hid (Below W.heap.size W wc) := HWB.out.trans (hbw.mono HWB.out.size)
    have HRW3 : Hid (Row stE wc wc.heap.size (.slice ta2 rest.length (tc - 1)) rest) := (HRW2.out.kept hbw).up hbw.size
    obtain ⟨v0, v1, hX, -, -, -, hBW⟩ := HKEEP.out _ HWC.out
    have HBW := Hid.intro hBW
    have k0 : wc.cell? ⟨w.heap.size + 1 + 1, 0, none⟩ = some (.int .i64 0) := hX.cell 0
    have k1 : wc.cell? ⟨w.heap.size + 1 + 1, 1, none⟩ = some (.string ⟨#[]⟩) := hX.cell 1
    have k2 : wc.cell? ⟨w.heap.size + 1 + 1, 2, none⟩ = some (.int .i64 0) := hX.cell 2
    have k3 : wc.cell? ⟨w.heap.size + 1 + 1, 3, none⟩ = some (.int .i64 0) := hX.cell 3
    have f0 := hX.fro 0
    have f1 := hX.fro 1
    have f2 := hX.fro 2
    have f3 := hX.fro 3
    clear hX hBW v0 v1 HRW2 hcell hbN
    cases hmay : mayB c ex.n 1 with
    | false =>
     have HE : Hid (ans = sp0 13) := by
      have h := HA.out
      rw [walkW_end (s := sp0 13) (by unfold wStep; rw [HND.out]; simp only [hmay, if_true])] at h
      exact h.symm
     clear hmay
     go_wp2
     exact bodyPost_ret (v := spV (sp0 13)) (by simp [results, Tryz.results18, go_sem, k0, k1, k2, k3, spV, spA, sVal, sp0]) rfl ⟨by rw [HE.out], spot_below HBW.out (by omega)⟩
    | true =>
     have HST : Hid (wStep LN (fun n => mayB c n 1) follow cur p rest times = if p = [46] then .inr (cur, rest, times) else if p = [46, 46] then .inr (parI LN cur, rest, times) else if 8 < p.length then .inl (sp0 36) else if lookN ex.n p = 0 then (if rest = [] then .inl ⟨cur, p, 0, 2⟩ else .inl (sp0 2)) else match ndAt LN (lookN ex.n p) with
      | none => .inl (sp0 22)
      | some m =>
       if m.kind = 3 ∧ (rest ≠ [] ∨ follow = true) then
        if 8 ≤ times then .inl (sp0 40)
        else if 40 < (partsL m.data.data.toList ++ rest).length then .inl (sp0 36)
        else .inr (if m.data.data.toList.head? = some 47 then 1 else cur, partsL m.data.data.toList ++ rest, times + 1)
       else if rest = [] then .inl ⟨cur, p, lookN ex.n p, 0⟩
       else if m.kind ≠ 2 then .inl (sp0 20)
       else .inr (lookN ex.n p, rest, times)) := by
      unfold Hid wStep
      rw [HND.out]
      simp only [hmay, Bool.true_eq_false, if_false]
      rfl
     clear hmay
     have HQL : Hid (q.data.toList = p) := hq
     have hlen : p.length = q.size := by rw [← hq]; simp
     have HSV := Hid.intro hsv
     clear hq hsv
     by_cases h1 : p = [46]
     ·have y1 : (q.toList == [46]) = true := by rw [toList_data, HQL.out, h1]; rfl
      have HN : Hid (walkW LN (fun n => mayB c n 1) follow cur rest times = ans) := by
       have h := HA.out
       rw [walkW_on (cur' := cur) (rest' := rest) (times' := times) (by rw [HST.out, if_pos h1])] at h
       exact h
      clear h1 HST
      go_wp2_with fail
      go_roundw
      case rel => exact ⟨rest, _, _, cur, times, rfl, rfl, rfl, ht8, by simp at hT60; omega, HRW3, HN, HAT, HWC⟩
      case measure => simp [intOf]
     have y1 : (q.toList == [46]) = false := by rw [toList_data, HQL.out, beq_eq_false_iff_ne]; exact h1
     by_cases h2 : p = [46, 46]
     ·have y2 : (q.toList == [46, 46]) = true := by rw [toList_data, HQL.out, h2]; rfl
      have HN : Hid (walkW LN (fun n => mayB c n 1) follow (parI LN cur) rest times = ans) := by
       have h := HA.out
       rw [walkW_on (cur' := parI LN cur) (rest' := rest) (times' := times) (by rw [HST.out, if_neg h1, if_pos h2])] at h
       exact h
      have HPA : Hid ((ndAt LN (parI LN cur)).isSome = true) := HOK2.out.par cur
      have HPR : Hid (∀ (y : World), N ≤ y.heap.size → VolR y N (.slice (some ⟨b0, o0, none⟩) L.length cap) L → Calls Tryz.prog 36 #[volV next (.slice (some ⟨b0, o0, none⟩) L.length cap), .int .i64 cur] y fun e w' => e = .returned (.int .i64 (parI LN cur)) ∧ Below y.heap.size y w') := fun y g1 g2 => by
       rw [← hLN]
       exact l4Parent_any next L _ N cur y g1 g2
      clear h1 h2 HST
      obtain ⟨v0, v1, -, hNy, hVy, -, -⟩ := HKEEP.out _ HWC.out
      have v00 : wc.cell? ⟨w.heap.size, 0, none⟩ = some (.int .i64 next) := v0 0
      have v01 : wc.cell? ⟨w.heap.size, 1, none⟩ = some (.slice (some ⟨b0, o0, none⟩) L.length cap) := v0 1
      clear v0 v1
      go_wp2_with fail
      refine (HPR.out wc hNy hVy).mono ?_
      rintro e w5 ⟨rfl, b5⟩
      have HW5 : Hid (Below W.heap.size W w5) := HWC.out.trans (b5.mono HWC.out.size)
      have HR5 : Hid (Row stE w5 w5.heap.size (.slice ta2 rest.length (tc - 1)) rest) := (HRW3.out.kept b5).up b5.size
      clear b5 v00 v01 k0 k1 k2 k3 f0 f1 f2 f3
      go_wp2_with fail
      go_roundw
      case rel => exact ⟨rest, _, _, parI LN cur, times, rfl, rfl, rfl, ht8, by simp at hT60; omega, HR5, HN, HPA, HW5⟩
      case measure => simp [intOf]
     have y2 : (q.toList == [46, 46]) = false := by rw [toList_data, HQL.out, beq_eq_false_iff_ne]; exact h2
     by_cases h3 : 8 < p.length
     ·have y3 : (8 : Int) < (q.size : Int) := by omega
      have HE : Hid (ans = sp0 36) := by
       have h := HA.out
       rw [walkW_end (s := sp0 36) (by rw [HST.out, if_neg h1, if_neg h2, if_pos h3])] at h
       exact h.symm
      clear h1 h2 h3 HST
      go_wp2
      exact bodyPost_ret (v := spV (sp0 36)) (by simp [results, Tryz.results18, go_sem, k0, k1, k2, k3, spV, spA, sVal, sp0]) rfl ⟨by rw [HE.out], spot_below HBW.out (by omega)⟩
     have y3 : ¬ (8 : Int) < (q.size : Int) := by omega
     replace HLK : Hid (∀ (y : World), N ≤ y.heap.size → VolR y N (.slice (some ⟨b0, o0, none⟩) L.length cap) L → Calls Tryz.prog 37 #[volV next (.slice (some ⟨b0, o0, none⟩) L.length cap), .int .i64 cur, .string q] y fun e w' => e = .returned (.int .i64 (lookN ex.n p)) ∧ Below y.heap.size y w') := by rw [← HQL.out]; exact HLK
     obtain ⟨id, hid⟩ : ∃ id, lookN ex.n p = id := ⟨_, rfl⟩
     have HLI : Hid (id ≠ 0 → (ndAt LN id).isSome = true) := fun h => by
      rw [← hid]
      exact HOK2.out.look (ndAt_mem HND.out).1 (by rw [hid]; exact h)
     rw [hid] at HLK HST
     replace HST : Hid (wStep LN (fun n => mayB c n 1) follow cur p rest times = if id = 0 then (if rest = [] then .inl ⟨cur, p, 0, 2⟩ else .inl (sp0 2)) else match ndAt LN id with
      | none => .inl (sp0 22)
      | some m =>
       if m.kind = 3 ∧ (rest ≠ [] ∨ follow = true) then
        if 8 ≤ times then .inl (sp0 40)
        else if 40 < (partsL m.data.data.toList ++ rest).length then .inl (sp0 36)
        else .inr (if m.data.data.toList.head? = some 47 then 1 else cur, partsL m.data.data.toList ++ rest, times + 1)
       else if rest = [] then .inl ⟨cur, p, id, 0⟩
       else if m.kind ≠ 2 then .inl (sp0 20)
       else .inr (id, rest, times)) := by
      unfold Hid
      rw [HST.out, if_neg h1, if_neg h2, if_neg h3]
     clear h1 h2 h3 hid HMAY HYK HLA hatI hatx
     obtain ⟨v0, v1, -, hNy, hVy, -, -⟩ := HKEEP.out _ HWC.out
     have v00 : wc.cell? ⟨w.heap.size, 0, none⟩ = some (.int .i64 next) := v0 0
     have v01 : wc.cell? ⟨w.heap.size, 1, none⟩ = some (.slice (some ⟨b0, o0, none⟩) L.length cap) := v0 1
     clear v0 v1
     go_wp2_with fail
     refine (HLK.out wc hNy hVy).mono ?_
     rintro e w5 ⟨rfl, b5⟩
     have HW5 : Hid (Below W.heap.size W w5) := HWC.out.trans (b5.mono HWC.out.size)
     have HR5 : Hid (Row stE w5 w5.heap.size (.slice ta2 rest.length (tc - 1)) rest) := (HRW3.out.kept b5).up b5.size
     clear b5 v00 v01 k0 k1 k2 k3 f0 f1 f2 f3 HBW y1 y2 y3 hNy hVy HLK
     obtain ⟨v0, v1, hX, -, -, -, hBW⟩ := HKEEP.out _ HW5.out
     have HBW := Hid.intro hBW
     have k0 : w5.cell? ⟨w.heap.size + 1 + 1, 0, none⟩ = some (.int .i64 0) := hX.cell 0
     have k1 : w5.cell? ⟨w.heap.size + 1 + 1, 1, none⟩ = some (.string ⟨#[]⟩) := hX.cell 1
     have k2 : w5.cell? ⟨w.heap.size + 1 + 1, 2, none⟩ = some (.int .i64 0) := hX.cell 2
     have k3 : w5.cell? ⟨w.heap.size + 1 + 1, 3, none⟩ = some (.int .i64 0) := hX.cell 3
     have f0 := hX.fro 0
     have f1 := hX.fro 1
     have f2 := hX.fro 2
     have f3 := hX.fro 3
     clear hX hBW
     by_cases h4 : id = 0
     ·have y4 : (id == 0) = true := by rw [h4]; rfl
      by_cases h5 : rest = []
      ·have y5 : ((rest.length : Int) == 0) = true := by rw [h5]; rfl
       have HE : Hid (ans = ⟨cur, p, 0, 2⟩) := by
        have h := HA.out
        rw [walkW_end (s := ⟨cur, p, 0, 2⟩) (by rw [HST.out, if_pos h4, if_pos h5])] at h
        exact h.symm
       clear h4 h5 HST v0 v1
       go_wp2
       exact bodyPost_ret (v := spV ⟨cur, p, 0, 2⟩) (by simp [results, Tryz.results18, go_sem, k0, k1, k2, k3, spV, spA, HSV.out]) rfl ⟨by rw [HE.out], spot_below HBW.out (by omega)⟩
      ·have y5 : ((rest.length : Int) == 0) = false := by
        rw [beq_eq_false_iff_ne]
        intro h
        exact h5 (List.eq_nil_of_length_eq_zero (by omega))
       have HE : Hid (ans = sp0 2) := by
        have h := HA.out
        rw [walkW_end (s := sp0 2) (by rw [HST.out, if_pos h4, if_neg h5])] at h
        exact h.symm
       clear h4 h5 HST v0 v1
       go_wp2
       exact bodyPost_ret (v := spV (sp0 2)) (by simp [results, Tryz.results18, go_sem, k0, k1, k2, k3, spV, spA, sVal, sp0]) rfl ⟨by rw [HE.out], spot_below HBW.out (by omega)⟩
     have y4 : (id == 0) = false := by rw [beq_eq_false_iff_ne]; exact h4
     obtain ⟨x2, hat2⟩ : ∃ x, atN LN id = some x := by
      have h := HLI.out h4
      unfold ndAt at h
      cases hx : atN LN id with
      | none => rw [hx] at h; cases h
      | some x => exact ⟨x, rfl⟩
     have hxl2 : x2 < L.length := by have h := atN_lt hat2; rw [← hLN] at h; simpa using h
     have hnd2 : ndAt LN id = some L[x2].n := by
      unfold ndAt
      rw [hat2, Option.bind_some, ← hLN]
      simp [List.getElem?_eq_getElem hxl2]
     obtain ⟨b3, o3, hb3e, hb3, hcc2⟩ := HC.out (by intro h; rw [h] at hxl2; simp at hxl2)
     simp only [Option.some.injEq, Addr.mk.injEq, and_true] at hb3e
     obtain ⟨rfl, rfl⟩ := hb3e
     have hc2 := hcc2 x2 hxl2
     have hatI2 : atI LN id = x2 := atI_some hat2
     have HLA2 : Hid (∀ (y : World), N ≤ y.heap.size → VolR y N (.slice (some ⟨b0, o0, none⟩) L.length cap) L → Calls Tryz.prog 35 #[volV next (.slice (some ⟨b0, o0, none⟩) L.length cap), .int .i64 id] y fun e w' => e = .returned (.int .i64 (x2 : Nat)) ∧ Below y.heap.size y w') := fun y h1 h2 => by
      rw [← hatI2, ← hLN]
      exact l4At_any next L _ N id y h1 h2
     have hi2 : (0 : Int) ≤ (x2 : Int) ∧ (x2 : Int) < (L.length : Int) := by omega
     have hrow2 := HV.out.nms _ (List.getElem_mem hxl2)
     generalize L[x2] = mx at hc2 hnd2 hrow2
     obtain ⟨a4, cap4, hv4, l4, m4, -⟩ := diE_cell hrow2
     rw [hv4] at hc2
     have HND2 := Hid.intro hnd2
     have HY5 : Hid (∀ y, Below w5.heap.size w5 y → N ≤ y.heap.size ∧ VolR y N (.slice (some ⟨b0, o0, none⟩) L.length cap) L ∧ (y.cell? ⟨w.heap.size, 0, none⟩ = some (.int .i64 next) ∧ y.cell? ⟨w.heap.size, 1, none⟩ = some (.slice (some ⟨b0, o0, none⟩) L.length cap)) ∧ NdAt y b0 (o0 + x2 * 9) mx.n (.slice a4 mx.n.names.length cap4)) := fun y hy => by
      obtain ⟨h1, h2, h3, h4, h5, h6, h7⟩ := HKEEP.out y (HW5.out.trans (hy.mono HW5.out.size))
      exact ⟨h4, h5, ⟨h1 0, h1 1⟩, hc2.kept h7 (by omega)⟩
     clear hrow2 hnd2 hat2 hatI2 hcc2 v0 v1
     have hz5 : w.heap.size + 1 + 1 + 1 ≤ w5.heap.size := by have := HW5.out.size; omega
     have hb5 : b0 < w5.heap.size := by omega
     have hg5 : w.heap.size < w5.heap.size := by omega
     go_upto_region 20 with fail
     go_cut [15] from 62 to 106 (fun sx wd => ∃ g, sx = .pointer (some ⟨g, 0, none⟩) ∧ w5.heap.size ≤ g ∧ g < wd.heap.size ∧ (∀ o, wd.cell? ⟨g, o, none⟩ = (ndA mx.n (.slice a4 mx.n.names.length cap4))[o]?) ∧ Below w5.heap.size w5 wd)
     case first =>
      refine wp_region_held_drew (S := fun y => Below w5.heap.size w5 y) (by kernel_rfl) (Below.refl _ _).drew (fun hHeld => ?_)
      generalize w5.drew = D at hHeld ⊢
      refine tkk 0 62 (v := ?_) ?_ ?_
      rotate_left 1
      ·intro y hSw
       go_simp <;> with_reducible rfl
      simp only [Act.put, List.setIfInBounds_toArray]
      try simp only [List.set_cons_succ]
      try simp only [List.set_cons_zero]
      refine tkk 1 63 (v := ?_) ?_ ?_
      rotate_left 1
      ·intro y hSw
       obtain ⟨v00, v01⟩ := (HY5.out y hSw).2.2.1
       go_simp <;> with_reducible rfl
      simp only [Act.put, List.setIfInBounds_toArray]
      try simp only [List.set_cons_succ]
      try simp only [List.set_cons_zero]
      refine tkk 2 64 (v := ?_) ?_ ?_
      rotate_left 1
      ·intro y hSw
       obtain ⟨v00, v01⟩ := (HY5.out y hSw).2.2.1
       go_simp <;> with_reducible rfl
      simp only [Act.put, List.setIfInBounds_toArray]
      try simp only [List.set_cons_succ]
      try simp only [List.set_cons_zero]
      refine tkk 3 65 (v := ?_) ?_ ?_
      rotate_left 1
      ·intro y hSw
       go_simp <;> with_reducible rfl
      simp only [Act.put, List.setIfInBounds_toArray]
      try simp only [List.set_cons_succ]
      try simp only [List.set_cons_zero]
      refine wpAnyH_ready (rs := [4, 7]) (by kernel_rfl) (by simp) ?_
      refine (AllReadyH.cons rfl (fun KK hKK => ?_) (AllReadyH.cons rfl (fun KK hKK => ?_) AllReadyH.nil))
      ·skip
       go_simp
       refine (HLA2.out D (HY5.out D hHeld).1 (HY5.out D hHeld).2.1).mono ?_
       rintro e w7 ⟨rfl, b7⟩
       have h7 : Below w5.heap.size w5 w7 := Below.trans hHeld (b7.mono (Below.size hHeld))
       go_simp
       refine hKK.out _ _ h7 (fun hHeld2 => ?_)
       clear hKK KK hHeld
       have hHeld := hHeld2
       clear hHeld2
       refine tkk 5 67 (v := ?_) ?_ ?_
       rotate_left 1
       ·intro y hSw
        go_simp <;> with_reducible rfl
       simp only [Act.put, List.setIfInBounds_toArray]
       try simp only [List.set_cons_succ]
       try simp only [List.set_cons_zero]
       refine tkk 6 68 (v := ?_) ?_ ?_
       rotate_left 1
       ·intro y hSw
        obtain ⟨n0, n1, n2, n3, n4, n5, n6, n7, n8⟩ := (HY5.out y hSw).2.2.2
        go_simp <;> with_reducible rfl
       simp only [Act.put, List.setIfInBounds_toArray]
       try simp only [List.set_cons_succ]
       try simp only [List.set_cons_zero]
       refine wpAnyH_ready (rs := [7]) (by kernel_rfl) (by simp) ?_
       refine (AllReadyH.cons rfl (fun KK hKK => ?_) AllReadyH.nil)
       obtain ⟨Y, hY, bY, zY, cY, fY⟩ := boxed w7 Z9 64
       simp only [Z9] at hY
       go_simp
       try simp only [hY]
       have BX : Blk Y w7.heap.size Z9 := ⟨by omega, cY, fY⟩
       have hBY : Below w5.heap.size w5 Y := Below.trans hHeld (bY.mono (Below.size hHeld))
       have hgg : w5.heap.size ≤ w7.heap.size := Below.size hHeld
       clear hY bY zY cY fY
       generalize w7.heap.size = gb at BX hgg ⊢
       refine hKK.out _ _ hBY (fun hHeld2 => ?_)
       clear hKK KK hHeld
       have hHeld := hHeld2
       clear hHeld2
       refine wpAnyH_ready (rs := [8]) (by kernel_rfl) (by simp) ?_
       refine (AllReadyH.cons rfl (fun KK hKK => ?_) AllReadyH.nil)
       have x0 : Y.cell? ⟨gb, 0, none⟩ = some (.int .i64 0) := BX.cell 0
       have r0 := BX.fro 0
       have x1 : Y.cell? ⟨gb, 1, none⟩ = some (.int .i64 0) := BX.cell 1
       have r1 := BX.fro 1
       have x2 : Y.cell? ⟨gb, 2, none⟩ = some (.int .i64 0) := BX.cell 2
       have r2 := BX.fro 2
       have x3 : Y.cell? ⟨gb, 3, none⟩ = some (.int .i64 0) := BX.cell 3
       have r3 := BX.fro 3
       have x4 : Y.cell? ⟨gb, 4, none⟩ = some (.int .i64 0) := BX.cell 4
       have r4 := BX.fro 4
       have x5 : Y.cell? ⟨gb, 5, none⟩ = some (.string ⟨#[]⟩) := BX.cell 5
       have r5 := BX.fro 5
       have x6 : Y.cell? ⟨gb, 6, none⟩ = some (.slice none 0 0) := BX.cell 6
       have r6 := BX.fro 6
       have x7 : Y.cell? ⟨gb, 7, none⟩ = some (.int .i64 0) := BX.cell 7
       have r7 := BX.fro 7
       have x8 : Y.cell? ⟨gb, 8, none⟩ = some (.int .i64 0) := BX.cell 8
       have r8 := BX.fro 8
       have hfin := box_setG (n := mx.n) (v := .slice a4 mx.n.names.length cap4) hBY hgg BX (by simp)
       go_simp
       clear x0 x1 x2 x3 x4 x5 x6 x7 x8 r0 r1 r2 r3 r4 r5 r6 r7 r8
       revert hfin
       generalize World.setCell _ ⟨gb, 8, none⟩ _ = w9
       intro hfin
       refine hKK.out _ _ hfin.2.2 (fun hHeld2 => ?_)
       clear hKK KK hHeld
       have hHeld := hHeld2
       clear hHeld2
       refine wpAnyH_done (by kernel_rfl) ?_ _
       clear hHeld
       go_wp2_with fail
       go_meet
       case rel => exact ⟨gb, rfl, hgg, hfin.1, hfin.2.1, hfin.2.2⟩
      ·skip
       obtain ⟨Y, hY, bY, zY, cY, fY⟩ := boxed D Z9 64
       simp only [Z9] at hY
       go_simp
       try simp only [hY]
       have BX : Blk Y D.heap.size Z9 := ⟨by omega, cY, fY⟩
       have hBY : Below w5.heap.size w5 Y := Below.trans hHeld (bY.mono (Below.size hHeld))
       have hgg : w5.heap.size ≤ D.heap.size := Below.size hHeld
       clear hY bY zY cY fY
       generalize D.heap.size = gb at BX hgg ⊢
       refine hKK.out _ _ hBY (fun hHeld2 => ?_)
       clear hKK KK hHeld
       have hHeld := hHeld2
       clear hHeld2
       refine wpAnyH_ready (rs := [4]) (by kernel_rfl) (by simp) ?_
       refine (AllReadyH.cons rfl (fun KK hKK => ?_) AllReadyH.nil)
       go_simp
       refine (HLA2.out Y (HY5.out Y hHeld).1 (HY5.out Y hHeld).2.1).mono ?_
       rintro e w7 ⟨rfl, b7⟩
       replace BX := BX.kept b7
       have h7 : Below w5.heap.size w5 w7 := Below.trans hHeld (b7.mono (Below.size hHeld))
       go_simp
       refine hKK.out _ _ h7 (fun hHeld2 => ?_)
       clear hKK KK hHeld hBY
       have hHeld := hHeld2
       clear hHeld2
       refine tkk 5 67 (v := ?_) ?_ ?_
       rotate_left 1
       ·intro y hSw
        go_simp <;> with_reducible rfl
       simp only [Act.put, List.setIfInBounds_toArray]
       try simp only [List.set_cons_succ]
       try simp only [List.set_cons_zero]
       refine tkk 6 68 (v := ?_) ?_ ?_
       rotate_left 1
       ·intro y hSw
        obtain ⟨n0, n1, n2, n3, n4, n5, n6, n7, n8⟩ := (HY5.out y hSw).2.2.2
        go_simp <;> with_reducible rfl
       simp only [Act.put, List.setIfInBounds_toArray]
       try simp only [List.set_cons_succ]
       try simp only [List.set_cons_zero]
       have hBY := hHeld
       refine wpAnyH_ready (rs := [8]) (by kernel_rfl) (by simp) ?_
       refine (AllReadyH.cons rfl (fun KK hKK => ?_) AllReadyH.nil)
       have x0 : w7.cell? ⟨gb, 0, none⟩ = some (.int .i64 0) := BX.cell 0
       have r0 := BX.fro 0
       have x1 : w7.cell? ⟨gb, 1, none⟩ = some (.int .i64 0) := BX.cell 1
       have r1 := BX.fro 1
       have x2 : w7.cell? ⟨gb, 2, none⟩ = some (.int .i64 0) := BX.cell 2
       have r2 := BX.fro 2
       have x3 : w7.cell? ⟨gb, 3, none⟩ = some (.int .i64 0) := BX.cell 3
       have r3 := BX.fro 3
       have x4 : w7.cell? ⟨gb, 4, none⟩ = some (.int .i64 0) := BX.cell 4
       have r4 := BX.fro 4
       have x5 : w7.cell? ⟨gb, 5, none⟩ = some (.string ⟨#[]⟩) := BX.cell 5
       have r5 := BX.fro 5
       have x6 : w7.cell? ⟨gb, 6, none⟩ = some (.slice none 0 0) := BX.cell 6
       have r6 := BX.fro 6
       have x7 : w7.cell? ⟨gb, 7, none⟩ = some (.int .i64 0) := BX.cell 7
       have r7 := BX.fro 7
       have x8 : w7.cell? ⟨gb, 8, none⟩ = some (.int .i64 0) := BX.cell 8
       have r8 := BX.fro 8
       have hfin := box_setG (n := mx.n) (v := .slice a4 mx.n.names.length cap4) hBY hgg BX (by simp)
       go_simp
       clear x0 x1 x2 x3 x4 x5 x6 x7 x8 r0 r1 r2 r3 r4 r5 r6 r7 r8
       revert hfin
       generalize World.setCell _ ⟨gb, 8, none⟩ _ = w9
       intro hfin
       refine hKK.out _ _ hfin.2.2 (fun hHeld2 => ?_)
       clear hKK KK hHeld
       have hHeld := hHeld2
       clear hHeld2
       refine wpAnyH_done (by kernel_rfl) ?_ _
       clear hHeld
       go_wp2_with fail
       go_meet
       case rel => exact ⟨gb, rfl, hgg, hfin.1, hfin.2.1, hfin.2.2⟩
     case rest =>
      obtain ⟨g, rfl, hg0, hg1, hcg, hbd⟩ := hcut
      have HWD : Hid (Below W.heap.size W wc) := HW5.out.trans (hbd.mono HW5.out.size)
      have HRD : Hid (Row stE wc wc.heap.size (.slice ta2 rest.length (tc - 1)) rest) := (HR5.out.kept hbd).up hbd.size
      have gk1 : wc.cell? ⟨g, 1, none⟩ = some (.int .i64 mx.n.kind) := hcg 1
      have gk5 : wc.cell? ⟨g, 5, none⟩ = some (.string mx.n.data) := hcg 5
      clear hcg hbd k0 k1 k2 k3 f0 f1 f2 f3 HBW HR5 HRW3 HW5 HWC
      obtain ⟨-, -, hX, -, -, -, hBW⟩ := HKEEP.out _ HWD.out
      have HBW := Hid.intro hBW
      have k0 : wc.cell? ⟨w.heap.size + 1 + 1, 0, none⟩ = some (.int .i64 0) := hX.cell 0
      have k1 : wc.cell? ⟨w.heap.size + 1 + 1, 1, none⟩ = some (.string ⟨#[]⟩) := hX.cell 1
      have k2 : wc.cell? ⟨w.heap.size + 1 + 1, 2, none⟩ = some (.int .i64 0) := hX.cell 2
      have k3 : wc.cell? ⟨w.heap.size + 1 + 1, 3, none⟩ = some (.int .i64 0) := hX.cell 3
      have f0 := hX.fro 0
      have f1 := hX.fro 1
      have f2 := hX.fro 2
      have f3 := hX.fro 3
      clear hX hBW
      replace HST : Hid (wStep LN (fun n => mayB c n 1) follow cur p rest times = if mx.n.kind = 3 ∧ (rest ≠ [] ∨ follow = true) then
         if 8 ≤ times then .inl (sp0 40)
         else if 40 < (partsL mx.n.data.data.toList ++ rest).length then .inl (sp0 36)
         else .inr (if mx.n.data.data.toList.head? = some 47 then 1 else cur, partsL mx.n.data.data.toList ++ rest, times + 1)
        else if rest = [] then .inl ⟨cur, p, id, 0⟩
        else if mx.n.kind ≠ 2 then .inl (sp0 20)
        else .inr (id, rest, times)) := by
       unfold Hid
       rw [HST.out, if_neg h4]
       simp only [HND2.out]
      have HLK3 : Hid (mx.n.kind = 3 → 1 ≤ mx.n.data.size ∧ mx.n.data.size ≤ 60) := HOK2.out.lnk _ (ndAt_mem HND2.out).1
      replace HLI : Hid ((ndAt LN id).isSome = true) := HLI.out h4
      clear h4 y4 HND2 HND
      by_cases hk : mx.n.kind = 3
      ·have y6 : (mx.n.kind == 3) = true := by rw [hk]; rfl
       by_cases h5 : rest = []
       ·skip
        have y5 : ((rest.length : Int) == 0) = true := by rw [h5]; rfl
        cases hfo : follow with
        | false =>
         subst hfo
         have HE : Hid (ans = ⟨cur, p, id, 0⟩) := by
          have h := HA.out
          rw [walkW_end (s := ⟨cur, p, id, 0⟩) (by rw [HST.out, if_neg (by simp [h5]), if_pos h5])] at h
          exact h.symm
         clear HST hk h5
         go_wp2
         exact bodyPost_ret (v := spV ⟨cur, p, id, 0⟩) (by simp [results, Tryz.results18, go_sem, k0, k1, k2, k3, spV, spA, HSV.out]) rfl ⟨by rw [HE.out], spot_below HBW.out (by omega)⟩
        | true =>
         subst hfo
         have hdl := HLK3.out hk
         have hcond : mx.n.kind = 3 ∧ (rest ≠ [] ∨ true = true) := ⟨hk, .inr rfl⟩
         by_cases h8 : 8 ≤ times
         ·have y8 : (8 : Int) < (times : Int) + 1 := by omega
          have HE : Hid (ans = (sp0 40)) := by
           have h := HA.out
           rw [walkW_end (s := (sp0 40)) (by rw [HST.out, if_pos hcond, if_pos h8])] at h
           exact h.symm
          clear HST hk h5 hcond h8
          go_wp2
          exact bodyPost_ret (v := spV (sp0 40)) (by simp [results, Tryz.results18, go_sem, k0, k1, k2, k3, spV, spA, sVal, sp0]) rfl ⟨by rw [HE.out], spot_below HBW.out (by omega)⟩
         ·have y8 : ¬ (8 : Int) < (times : Int) + 1 := by omega
          obtain ⟨by0, ry, hdata⟩ : ∃ x r, mx.n.data.data.toList = x :: r := by
           cases h : mx.n.data.data.toList with
           | nil =>
            have e : mx.n.data.data.toList.length = mx.n.data.size := by simp
            rw [h, List.length_nil] at e
            omega
           | cons x r => exact ⟨x, r, rfl⟩
          have hb0 : mx.n.data[0]'(by omega) = by0 := by
           have h1 : mx.n.data.data.toList[0]? = some by0 := by rw [hdata]; rfl
           have h2 : mx.n.data.data.toList[0]? = some (mx.n.data[0]'(by omega)) := by rw [Array.getElem?_toList]; exact Array.getElem?_eq_getElem _
           exact (Option.some.inj (h2.symm.trans h1))
          have hhead : mx.n.data.data.toList.head? = some by0 := by rw [hdata]; rfl
          have HST2 : Hid (wStep LN (fun n => mayB c n 1) true cur p rest times = if 40 < (partsL mx.n.data.data.toList ++ rest).length then .inl (sp0 36) else .inr (if by0 = 47 then 1 else cur, partsL mx.n.data.data.toList ++ rest, times + 1)) := by
           unfold Hid
           rw [HST.out, if_pos hcond, if_neg h8, hhead]
           simp only [Option.some.injEq]
          have hpl := parts_le mx.n.data.data.toList
          have hpl2 : mx.n.data.data.toList.length = mx.n.data.size := by simp
          clear HST hcond hhead hdata hk h5 k0 k1 k2 k3 f0 f1 f2 f3 HBW
          by_cases h9 : by0 = 47
          ·have y9 : ((by0.toNat : Int) == 47) = true := by rw [h9]; rfl
           go_wp2_with fail
           refine (l6Cut_any mx.n.data wc (by omega)).mono ?_
           rintro e w8 ⟨vt, rfl, hrow8, b8⟩
           have hown := hrow8.own
           have HW8 : Hid (Below W.heap.size W w8) := HWD.out.trans (b8.mono HWD.out.size)
           have HR8 : Hid (Row stE w8 w8.heap.size (.slice ta2 rest.length (tc - 1)) rest) := (HRD.out.kept b8).up b8.size
           have hz8 := b8.size
           clear b8 hrow8 y9 gk1 gk5
           obtain ⟨T2, hT2⟩ : ∃ T2, partsL mx.n.data.data.toList = T2 := ⟨_, rfl⟩
           rw [hT2] at hown hpl
           have HST3 := HST2
           rw [hT2] at HST3
           obtain ⟨na, nc, rfl⟩ := hown.slice
           obtain ⟨ad2, hta⟩ := HTA.out
           have HNW : Hid (∀ j u, (stE.f rest)[j]? = some u → w8.cell? (ad2.add j) = some u) := by
            intro j u hj
            have hne : rest ≠ [] := by
             rintro rfl
             simp [Enc.f] at hj
            obtain ⟨a9, c9, e1, _, _, h9⟩ := HR8.out
            obtain ⟨b9, o9, e2, _, _⟩ := h9 hne
            simp only [Value.slice.injEq, true_and] at e1
            have e3 : ad2 = ⟨b9, o9, none⟩ := by
             have := hta.symm.trans (e1.1.trans e2)
             exact Option.some.inj this
            have hr := HR8.out
            rw [hta, e3] at hr
            rw [e3]
            exact (hr.cells hne).2 j u hj
           obtain ⟨i0, hi0, hz0, hz1, hz2⟩ := info_parts infoStr
           rw [hta]
           have hl30 : T2.length ≤ 60 := by omega
           have hrl : rest.length ≤ 60 := by simp at hT60; omega
           have HWN := Hid.intro hown
           clear hT2 HR8 HST2 hown
           go_wp2_with (at_builtin; refine wpList_append_own _ rfl _ _ 71 rfl wc.heap.size 9 i0 (.string ⟨#[]⟩) 1 16 Tryz.underlying71 hi0 hz0 hz1 hz2 rfl (by decide) _ _ _ rfl HWN.out ad2 rest.length (tc - 1) (stE.f rest) rfl ?d0 ?d1 ?d2 ?d3 ?d4 ?d5 ?_)
           case d0 => exact stE.f_len rest
           case d1 => exact HNW.out
           case d2 => exact stE.f_one rest
           case d3 => unfold maxLen; omega
           case d4 => omega
           case d5 => exact hz8
           intro vn w9 hown9 hgrow _
           have HOw : Own stE 9 w9 wc.heap.size vn (T2 ++ rest) := Own.mk hown9 (by simp) (by rw [stE.f_append])
           have HW9 : Hid (Below W.heap.size W w9) := HW8.out.trans ((grown_only hgrow).below HW8.out.size (fun k hk e => by have := (HWN.out.lt k e.symm).1; have := HWD.out.size; omega))
           obtain ⟨nva, nvc, rfl⟩ := HOw.slice
           have HR9 := Hid.intro HOw.rowAll
           clear HWN HNW hown9 hgrow HOw hi0 hz0 hz1 hz2
           obtain ⟨-, -, hX, -, -, -, hBW⟩ := HKEEP.out _ HW9.out
           have HBW := Hid.intro hBW
           have k0 : w9.cell? ⟨w.heap.size + 1 + 1, 0, none⟩ = some (.int .i64 0) := hX.cell 0
           have k1 : w9.cell? ⟨w.heap.size + 1 + 1, 1, none⟩ = some (.string ⟨#[]⟩) := hX.cell 1
           have k2 : w9.cell? ⟨w.heap.size + 1 + 1, 2, none⟩ = some (.int .i64 0) := hX.cell 2
           have k3 : w9.cell? ⟨w.heap.size + 1 + 1, 3, none⟩ = some (.int .i64 0) := hX.cell 3
           have f0 := hX.fro 0
           have f1 := hX.fro 1
           have f2 := hX.fro 2
           have f3 := hX.fro 3
           clear hX hBW
           generalize hTT : T2 ++ rest = TT at HST3 HR9 ⊢
           by_cases h10 : 40 < TT.length
           ·have y10 : (40 : Int) < (TT.length : Int) := by omega
            have HE : Hid (ans = sp0 36) := by
             have h := HA.out
             rw [walkW_end (s := sp0 36) (by rw [HST3.out, if_pos h10])] at h
             exact h.symm
            clear HST3 h9 h10 h8
            go_wp2
            exact bodyPost_ret (v := spV (sp0 36)) (by simp [results, Tryz.results18, go_sem, k0, k1, k2, k3, spV, spA, sVal, sp0]) rfl ⟨by rw [HE.out], spot_below HBW.out (by omega)⟩
           ·have y10 : ¬ (40 : Int) < (TT.length : Int) := by omega
            have HN : Hid (walkW LN (fun n => mayB c n 1) true 1 TT (times + 1) = ans) := by
             have h := HA.out
             rw [walkW_on (cur' := 1) (rest' := TT) (times' := times + 1) (by rw [HST3.out, if_neg h10, if_pos h9])] at h
             exact h
            have ht : times + 1 ≤ 8 := by omega
            have htl : TT.length ≤ 40 := by omega
            clear HST3 h9 h10 h8 k0 k1 k2 k3 f0 f1 f2 f3
            go_wp2_with fail
            go_roundw
            case rel => exact ⟨TT, _, _, 1, times + 1, rfl, rfl, by go_num, ht, by omega, HR9, HN, HOK2.out.root, HW9⟩
            case measure => simp [intOf]; omega
          ·have y9 : ((by0.toNat : Int) == 47) = false := by
            rw [beq_eq_false_iff_ne]
            intro h
            have h2 : by0.toNat = 47 := by omega
            exact h9 (UInt8.toNat_inj.1 (by simpa using h2))
           go_wp2_with fail
           refine (l6Cut_any mx.n.data wc (by omega)).mono ?_
           rintro e w8 ⟨vt, rfl, hrow8, b8⟩
           have hown := hrow8.own
           have HW8 : Hid (Below W.heap.size W w8) := HWD.out.trans (b8.mono HWD.out.size)
           have HR8 : Hid (Row stE w8 w8.heap.size (.slice ta2 rest.length (tc - 1)) rest) := (HRD.out.kept b8).up b8.size
           have hz8 := b8.size
           clear b8 hrow8 y9 gk1 gk5
           obtain ⟨T2, hT2⟩ : ∃ T2, partsL mx.n.data.data.toList = T2 := ⟨_, rfl⟩
           rw [hT2] at hown hpl
           have HST3 := HST2
           rw [hT2] at HST3
           obtain ⟨na, nc, rfl⟩ := hown.slice
           obtain ⟨ad2, hta⟩ := HTA.out
           have HNW : Hid (∀ j u, (stE.f rest)[j]? = some u → w8.cell? (ad2.add j) = some u) := by
            intro j u hj
            have hne : rest ≠ [] := by
             rintro rfl
             simp [Enc.f] at hj
            obtain ⟨a9, c9, e1, _, _, h9⟩ := HR8.out
            obtain ⟨b9, o9, e2, _, _⟩ := h9 hne
            simp only [Value.slice.injEq, true_and] at e1
            have e3 : ad2 = ⟨b9, o9, none⟩ := by
             have := hta.symm.trans (e1.1.trans e2)
             exact Option.some.inj this
            have hr := HR8.out
            rw [hta, e3] at hr
            rw [e3]
            exact (hr.cells hne).2 j u hj
           obtain ⟨i0, hi0, hz0, hz1, hz2⟩ := info_parts infoStr
           rw [hta]
           have hl30 : T2.length ≤ 60 := by omega
           have hrl : rest.length ≤ 60 := by simp at hT60; omega
           have HWN := Hid.intro hown
           clear hT2 HR8 HST2 hown
           go_wp2_with (at_builtin; refine wpList_append_own _ rfl _ _ 71 rfl wc.heap.size 9 i0 (.string ⟨#[]⟩) 1 16 Tryz.underlying71 hi0 hz0 hz1 hz2 rfl (by decide) _ _ _ rfl HWN.out ad2 rest.length (tc - 1) (stE.f rest) rfl ?d0 ?d1 ?d2 ?d3 ?d4 ?d5 ?_)
           case d0 => exact stE.f_len rest
           case d1 => exact HNW.out
           case d2 => exact stE.f_one rest
           case d3 => unfold maxLen; omega
           case d4 => omega
           case d5 => exact hz8
           intro vn w9 hown9 hgrow _
           have HOw : Own stE 9 w9 wc.heap.size vn (T2 ++ rest) := Own.mk hown9 (by simp) (by rw [stE.f_append])
           have HW9 : Hid (Below W.heap.size W w9) := HW8.out.trans ((grown_only hgrow).below HW8.out.size (fun k hk e => by have := (HWN.out.lt k e.symm).1; have := HWD.out.size; omega))
           obtain ⟨nva, nvc, rfl⟩ := HOw.slice
           have HR9 := Hid.intro HOw.rowAll
           clear HWN HNW hown9 hgrow HOw hi0 hz0 hz1 hz2
           obtain ⟨-, -, hX, -, -, -, hBW⟩ := HKEEP.out _ HW9.out
           have HBW := Hid.intro hBW
           have k0 : w9.cell? ⟨w.heap.size + 1 + 1, 0, none⟩ = some (.int .i64 0) := hX.cell 0
           have k1 : w9.cell? ⟨w.heap.size + 1 + 1, 1, none⟩ = some (.string ⟨#[]⟩) := hX.cell 1
           have k2 : w9.cell? ⟨w.heap.size + 1 + 1, 2, none⟩ = some (.int .i64 0) := hX.cell 2
           have k3 : w9.cell? ⟨w.heap.size + 1 + 1, 3, none⟩ = some (.int .i64 0) := hX.cell 3
           have f0 := hX.fro 0
           have f1 := hX.fro 1
           have f2 := hX.fro 2
           have f3 := hX.fro 3
           clear hX hBW
           generalize hTT : T2 ++ rest = TT at HST3 HR9 ⊢
           by_cases h10 : 40 < TT.length
           ·have y10 : (40 : Int) < (TT.length : Int) := by omega
            have HE : Hid (ans = sp0 36) := by
             have h := HA.out
             rw [walkW_end (s := sp0 36) (by rw [HST3.out, if_pos h10])] at h
             exact h.symm
            clear HST3 h9 h10 h8
            go_wp2
            exact bodyPost_ret (v := spV (sp0 36)) (by simp [results, Tryz.results18, go_sem, k0, k1, k2, k3, spV, spA, sVal, sp0]) rfl ⟨by rw [HE.out], spot_below HBW.out (by omega)⟩
           ·have y10 : ¬ (40 : Int) < (TT.length : Int) := by omega
            have HN : Hid (walkW LN (fun n => mayB c n 1) true cur TT (times + 1) = ans) := by
             have h := HA.out
             rw [walkW_on (cur' := cur) (rest' := TT) (times' := times + 1) (by rw [HST3.out, if_neg h10, if_neg h9])] at h
             exact h
            have ht : times + 1 ≤ 8 := by omega
            have htl : TT.length ≤ 40 := by omega
            clear HST3 h9 h10 h8 k0 k1 k2 k3 f0 f1 f2 f3
            go_wp2_with fail
            go_roundw
            case rel => exact ⟨TT, _, _, cur, times + 1, rfl, rfl, by go_num, ht, by omega, HR9, HN, HAT, HW9⟩
            case measure => simp [intOf]; omega
       ·skip
        have y5 : ((rest.length : Int) == 0) = false := by
         rw [beq_eq_false_iff_ne]
         intro h
         exact h5 (List.eq_nil_of_length_eq_zero (by omega))
        have hdl := HLK3.out hk
        have hcond : mx.n.kind = 3 ∧ (rest ≠ [] ∨ follow = true) := ⟨hk, .inl h5⟩
        by_cases h8 : 8 ≤ times
        ·have y8 : (8 : Int) < (times : Int) + 1 := by omega
         have HE : Hid (ans = (sp0 40)) := by
          have h := HA.out
          rw [walkW_end (s := (sp0 40)) (by rw [HST.out, if_pos hcond, if_pos h8])] at h
          exact h.symm
         clear HST hk h5 hcond h8
         go_wp2
         exact bodyPost_ret (v := spV (sp0 40)) (by simp [results, Tryz.results18, go_sem, k0, k1, k2, k3, spV, spA, sVal, sp0]) rfl ⟨by rw [HE.out], spot_below HBW.out (by omega)⟩
        ·have y8 : ¬ (8 : Int) < (times : Int) + 1 := by omega
         obtain ⟨by0, ry, hdata⟩ : ∃ x r, mx.n.data.data.toList = x :: r := by
          cases h : mx.n.data.data.toList with
          | nil =>
           have e : mx.n.data.data.toList.length = mx.n.data.size := by simp
           rw [h, List.length_nil] at e
           omega
          | cons x r => exact ⟨x, r, rfl⟩
         have hb0 : mx.n.data[0]'(by omega) = by0 := by
          have h1 : mx.n.data.data.toList[0]? = some by0 := by rw [hdata]; rfl
          have h2 : mx.n.data.data.toList[0]? = some (mx.n.data[0]'(by omega)) := by rw [Array.getElem?_toList]; exact Array.getElem?_eq_getElem _
          exact (Option.some.inj (h2.symm.trans h1))
         have hhead : mx.n.data.data.toList.head? = some by0 := by rw [hdata]; rfl
         have HST2 : Hid (wStep LN (fun n => mayB c n 1) follow cur p rest times = if 40 < (partsL mx.n.data.data.toList ++ rest).length then .inl (sp0 36) else .inr (if by0 = 47 then 1 else cur, partsL mx.n.data.data.toList ++ rest, times + 1)) := by
          unfold Hid
          rw [HST.out, if_pos hcond, if_neg h8, hhead]
          simp only [Option.some.injEq]
         have hpl := parts_le mx.n.data.data.toList
         have hpl2 : mx.n.data.data.toList.length = mx.n.data.size := by simp
         clear HST hcond hhead hdata hk h5 k0 k1 k2 k3 f0 f1 f2 f3 HBW
         by_cases h9 : by0 = 47
         ·have y9 : ((by0.toNat : Int) == 47) = true := by rw [h9]; rfl
          go_wp2_with fail
          refine (l6Cut_any mx.n.data wc (by omega)).mono ?_
          rintro e w8 ⟨vt, rfl, hrow8, b8⟩
          have hown := hrow8.own
          have HW8 : Hid (Below W.heap.size W w8) := HWD.out.trans (b8.mono HWD.out.size)
          have HR8 : Hid (Row stE w8 w8.heap.size (.slice ta2 rest.length (tc - 1)) rest) := (HRD.out.kept b8).up b8.size
          have hz8 := b8.size
          clear b8 hrow8 y9 gk1 gk5
          obtain ⟨T2, hT2⟩ : ∃ T2, partsL mx.n.data.data.toList = T2 := ⟨_, rfl⟩
          rw [hT2] at hown hpl
          have HST3 := HST2
          rw [hT2] at HST3
          obtain ⟨na, nc, rfl⟩ := hown.slice
          obtain ⟨ad2, hta⟩ := HTA.out
          have HNW : Hid (∀ j u, (stE.f rest)[j]? = some u → w8.cell? (ad2.add j) = some u) := by
           intro j u hj
           have hne : rest ≠ [] := by
            rintro rfl
            simp [Enc.f] at hj
           obtain ⟨a9, c9, e1, _, _, h9⟩ := HR8.out
           obtain ⟨b9, o9, e2, _, _⟩ := h9 hne
           simp only [Value.slice.injEq, true_and] at e1
           have e3 : ad2 = ⟨b9, o9, none⟩ := by
            have := hta.symm.trans (e1.1.trans e2)
            exact Option.some.inj this
           have hr := HR8.out
           rw [hta, e3] at hr
           rw [e3]
           exact (hr.cells hne).2 j u hj
          obtain ⟨i0, hi0, hz0, hz1, hz2⟩ := info_parts infoStr
          rw [hta]
          have hl30 : T2.length ≤ 60 := by omega
          have hrl : rest.length ≤ 60 := by simp at hT60; omega
          have HWN := Hid.intro hown
          clear hT2 HR8 HST2 hown
          go_wp2_with (at_builtin; refine wpList_append_own _ rfl _ _ 71 rfl wc.heap.size 9 i0 (.string ⟨#[]⟩) 1 16 Tryz.underlying71 hi0 hz0 hz1 hz2 rfl (by decide) _ _ _ rfl HWN.out ad2 rest.length (tc - 1) (stE.f rest) rfl ?d0 ?d1 ?d2 ?d3 ?d4 ?d5 ?_)
          case d0 => exact stE.f_len rest
          case d1 => exact HNW.out
          case d2 => exact stE.f_one rest
          case d3 => unfold maxLen; omega
          case d4 => omega
          case d5 => exact hz8
          intro vn w9 hown9 hgrow _
          have HOw : Own stE 9 w9 wc.heap.size vn (T2 ++ rest) := Own.mk hown9 (by simp) (by rw [stE.f_append])
          have HW9 : Hid (Below W.heap.size W w9) := HW8.out.trans ((grown_only hgrow).below HW8.out.size (fun k hk e => by have := (HWN.out.lt k e.symm).1; have := HWD.out.size; omega))
          obtain ⟨nva, nvc, rfl⟩ := HOw.slice
          have HR9 := Hid.intro HOw.rowAll
          clear HWN HNW hown9 hgrow HOw hi0 hz0 hz1 hz2
          obtain ⟨-, -, hX, -, -, -, hBW⟩ := HKEEP.out _ HW9.out
          have HBW := Hid.intro hBW
          have k0 : w9.cell? ⟨w.heap.size + 1 + 1, 0, none⟩ = some (.int .i64 0) := hX.cell 0
          have k1 : w9.cell? ⟨w.heap.size + 1 + 1, 1, none⟩ = some (.string ⟨#[]⟩) := hX.cell 1
          have k2 : w9.cell? ⟨w.heap.size + 1 + 1, 2, none⟩ = some (.int .i64 0) := hX.cell 2
          have k3 : w9.cell? ⟨w.heap.size + 1 + 1, 3, none⟩ = some (.int .i64 0) := hX.cell 3
          have f0 := hX.fro 0
          have f1 := hX.fro 1
          have f2 := hX.fro 2
          have f3 := hX.fro 3
          clear hX hBW
          generalize hTT : T2 ++ rest = TT at HST3 HR9 ⊢
          by_cases h10 : 40 < TT.length
          ·have y10 : (40 : Int) < (TT.length : Int) := by omega
           have HE : Hid (ans = sp0 36) := by
            have h := HA.out
            rw [walkW_end (s := sp0 36) (by rw [HST3.out, if_pos h10])] at h
            exact h.symm
           clear HST3 h9 h10 h8
           go_wp2
           exact bodyPost_ret (v := spV (sp0 36)) (by simp [results, Tryz.results18, go_sem, k0, k1, k2, k3, spV, spA, sVal, sp0]) rfl ⟨by rw [HE.out], spot_below HBW.out (by omega)⟩
          ·have y10 : ¬ (40 : Int) < (TT.length : Int) := by omega
           have HN : Hid (walkW LN (fun n => mayB c n 1) follow 1 TT (times + 1) = ans) := by
            have h := HA.out
            rw [walkW_on (cur' := 1) (rest' := TT) (times' := times + 1) (by rw [HST3.out, if_neg h10, if_pos h9])] at h
            exact h
           have ht : times + 1 ≤ 8 := by omega
           have htl : TT.length ≤ 40 := by omega
           clear HST3 h9 h10 h8 k0 k1 k2 k3 f0 f1 f2 f3
           go_wp2_with fail
           go_roundw
           case rel => exact ⟨TT, _, _, 1, times + 1, rfl, rfl, by go_num, ht, by omega, HR9, HN, HOK2.out.root, HW9⟩
           case measure => simp [intOf]; omega
         ·have y9 : ((by0.toNat : Int) == 47) = false := by
           rw [beq_eq_false_iff_ne]
           intro h
           have h2 : by0.toNat = 47 := by omega
           exact h9 (UInt8.toNat_inj.1 (by simpa using h2))
          go_wp2_with fail
          refine (l6Cut_any mx.n.data wc (by omega)).mono ?_
          rintro e w8 ⟨vt, rfl, hrow8, b8⟩
          have hown := hrow8.own
          have HW8 : Hid (Below W.heap.size W w8) := HWD.out.trans (b8.mono HWD.out.size)
          have HR8 : Hid (Row stE w8 w8.heap.size (.slice ta2 rest.length (tc - 1)) rest) := (HRD.out.kept b8).up b8.size
          have hz8 := b8.size
          clear b8 hrow8 y9 gk1 gk5
          obtain ⟨T2, hT2⟩ : ∃ T2, partsL mx.n.data.data.toList = T2 := ⟨_, rfl⟩
          rw [hT2] at hown hpl
          have HST3 := HST2
          rw [hT2] at HST3
          obtain ⟨na, nc, rfl⟩ := hown.slice
          obtain ⟨ad2, hta⟩ := HTA.out
          have HNW : Hid (∀ j u, (stE.f rest)[j]? = some u → w8.cell? (ad2.add j) = some u) := by
           intro j u hj
           have hne : rest ≠ [] := by
            rintro rfl
            simp [Enc.f] at hj
           obtain ⟨a9, c9, e1, _, _, h9⟩ := HR8.out
           obtain ⟨b9, o9, e2, _, _⟩ := h9 hne
           simp only [Value.slice.injEq, true_and] at e1
           have e3 : ad2 = ⟨b9, o9, none⟩ := by
            have := hta.symm.trans (e1.1.trans e2)
            exact Option.some.inj this
           have hr := HR8.out
           rw [hta, e3] at hr
           rw [e3]
           exact (hr.cells hne).2 j u hj
          obtain ⟨i0, hi0, hz0, hz1, hz2⟩ := info_parts infoStr
          rw [hta]
          have hl30 : T2.length ≤ 60 := by omega
          have hrl : rest.length ≤ 60 := by simp at hT60; omega
          have HWN := Hid.intro hown
          clear hT2 HR8 HST2 hown
          go_wp2_with (at_builtin; refine wpList_append_own _ rfl _ _ 71 rfl wc.heap.size 9 i0 (.string ⟨#[]⟩) 1 16 Tryz.underlying71 hi0 hz0 hz1 hz2 rfl (by decide) _ _ _ rfl HWN.out ad2 rest.length (tc - 1) (stE.f rest) rfl ?d0 ?d1 ?d2 ?d3 ?d4 ?d5 ?_)
          case d0 => exact stE.f_len rest
          case d1 => exact HNW.out
          case d2 => exact stE.f_one rest
          case d3 => unfold maxLen; omega
          case d4 => omega
          case d5 => exact hz8
          intro vn w9 hown9 hgrow _
          have HOw : Own stE 9 w9 wc.heap.size vn (T2 ++ rest) := Own.mk hown9 (by simp) (by rw [stE.f_append])
          have HW9 : Hid (Below W.heap.size W w9) := HW8.out.trans ((grown_only hgrow).below HW8.out.size (fun k hk e => by have := (HWN.out.lt k e.symm).1; have := HWD.out.size; omega))
          obtain ⟨nva, nvc, rfl⟩ := HOw.slice
          have HR9 := Hid.intro HOw.rowAll
          clear HWN HNW hown9 hgrow HOw hi0 hz0 hz1 hz2
          obtain ⟨-, -, hX, -, -, -, hBW⟩ := HKEEP.out _ HW9.out
          have HBW := Hid.intro hBW
          have k0 : w9.cell? ⟨w.heap.size + 1 + 1, 0, none⟩ = some (.int .i64 0) := hX.cell 0
          have k1 : w9.cell? ⟨w.heap.size + 1 + 1, 1, none⟩ = some (.string ⟨#[]⟩) := hX.cell 1
          have k2 : w9.cell? ⟨w.heap.size + 1 + 1, 2, none⟩ = some (.int .i64 0) := hX.cell 2
          have k3 : w9.cell? ⟨w.heap.size + 1 + 1, 3, none⟩ = some (.int .i64 0) := hX.cell 3
          have f0 := hX.fro 0
          have f1 := hX.fro 1
          have f2 := hX.fro 2
          have f3 := hX.fro 3
          clear hX hBW
          generalize hTT : T2 ++ rest = TT at HST3 HR9 ⊢
          by_cases h10 : 40 < TT.length
          ·have y10 : (40 : Int) < (TT.length : Int) := by omega
           have HE : Hid (ans = sp0 36) := by
            have h := HA.out
            rw [walkW_end (s := sp0 36) (by rw [HST3.out, if_pos h10])] at h
            exact h.symm
           clear HST3 h9 h10 h8
           go_wp2
           exact bodyPost_ret (v := spV (sp0 36)) (by simp [results, Tryz.results18, go_sem, k0, k1, k2, k3, spV, spA, sVal, sp0]) rfl ⟨by rw [HE.out], spot_below HBW.out (by omega)⟩
          ·have y10 : ¬ (40 : Int) < (TT.length : Int) := by omega
           have HN : Hid (walkW LN (fun n => mayB c n 1) follow cur TT (times + 1) = ans) := by
            have h := HA.out
            rw [walkW_on (cur' := cur) (rest' := TT) (times' := times + 1) (by rw [HST3.out, if_neg h10, if_neg h9])] at h
            exact h
           have ht : times + 1 ≤ 8 := by omega
           have htl : TT.length ≤ 40 := by omega
           clear HST3 h9 h10 h8 k0 k1 k2 k3 f0 f1 f2 f3
           go_wp2_with fail
           go_roundw
           case rel => exact ⟨TT, _, _, cur, times + 1, rfl, rfl, by go_num, ht, by omega, HR9, HN, HAT, HW9⟩
           case measure => simp [intOf]; omega
      ·have y6 : (mx.n.kind == 3) = false := by rw [beq_eq_false_iff_ne]; exact hk
       by_cases h5 : rest = []
       ·skip
        have y5 : ((rest.length : Int) == 0) = true := by rw [h5]; rfl
        have HE : Hid (ans = ⟨cur, p, id, 0⟩) := by
         have h := HA.out
         rw [walkW_end (s := ⟨cur, p, id, 0⟩) (by rw [HST.out, if_neg (fun h => hk h.1), if_pos h5])] at h
         exact h.symm
        clear HST hk h5
        go_wp2
        exact bodyPost_ret (v := spV ⟨cur, p, id, 0⟩) (by simp [results, Tryz.results18, go_sem, k0, k1, k2, k3, spV, spA, HSV.out]) rfl ⟨by rw [HE.out], spot_below HBW.out (by omega)⟩
       ·skip
        have y5 : ((rest.length : Int) == 0) = false := by
         rw [beq_eq_false_iff_ne]
         intro h
         exact h5 (List.eq_nil_of_length_eq_zero (by omega))
        by_cases hk2 : mx.n.kind = 2
        ·have y7 : (mx.n.kind != 2) = false := by rw [hk2]; rfl
         have HN : Hid (walkW LN (fun n => mayB c n 1) follow id rest times = ans) := by
          have h := HA.out
          rw [walkW_on (cur' := id) (rest' := rest) (times' := times) (by rw [HST.out, if_neg (fun h => hk h.1), if_neg h5, if_neg (fun h => h hk2)])] at h
          exact h
         clear HST hk h5 hk2
         go_wp2_with fail
         go_roundw
         case rel => exact ⟨rest, _, _, id, times, rfl, rfl, rfl, ht8, by simp at hT60; omega, HRD, HN, HLI, HWD⟩
         case measure => simp [intOf]
        ·have y7 : (mx.n.kind != 2) = true := by simpa using hk2
         have HE : Hid (ans = (sp0 20)) := by
          have h := HA.out
          rw [walkW_end (s := (sp0 20)) (by rw [HST.out, if_neg (fun h => hk h.1), if_neg h5, if_pos hk2])] at h
          exact h.symm
         clear HST hk h5 hk2
         go_wp2
         exact bodyPost_ret (v := spV (sp0 20)) (by simp [results, Tryz.results18, go_sem, k0, k1, k2, k3, spV, spA, sVal, sp0]) rfl ⟨by rw [HE.out], spot_below HBW.out (by omega)⟩
end Go.Proofs.YtmkegmndcbpblaaGreatDoor
