/- Links, on both sides. -/
import Derived.Test.YtfllkhkopogngaaVUse
import Derived.Deep.RegionHeld3
namespace Go.Proofs.Ytfllkhkopogngaa
open Go.RowKit Go.Maps
set_option linter.unusedVariables false
def dirsN (L : List Nd) (l : List Di) : Nat := l.countP fun e => (dirO L e.id).isSome
def lnkI (L : List Nd) (id : Int) : Int := match atN L id with | some x => (match L[x]? with | some n => if n.kind = 2 then 2 + (dirsN L n.names : Nat) else (namedN L id : Nat) | none => 0) | none => 0
def linksI (next : Int) (L : List Nd) (id : Int) : Int := if volB next L = true then lnkI L id else 0
theorem linksI_no {next : Int} {L : List Nd} {id : Int} (h : volB next L = false) : linksI next L id = 0 := by simp [linksI, h]
theorem linksI_yes {next : Int} {L : List Nd} {id : Int} (h : volB next L = true) : linksI next L id = lnkI L id := by simp [linksI, h]
theorem lnkI_none {L : List Nd} {id : Int} (h : atN L id = none) : lnkI L id = 0 := by simp [lnkI, h]
theorem lnkI_dir {L : List Nd} {id : Int} {x : Nat} {n : Nd} (h : atN L id = some x) (hn : L[x]? = some n) (hk : n.kind = 2) : lnkI L id = 2 + (dirsN L n.names : Nat) := by simp [lnkI, h, hn, hk]
theorem lnkI_no {L : List Nd} {id : Int} {x : Nat} {n : Nd} (h : atN L id = some x) (hn : L[x]? = some n) (hk : ¬ n.kind = 2) : lnkI L id = (namedN L id : Nat) := by simp [lnkI, h, hn, hk]
theorem dirsN_step {L : List Nd} {nn : List Di} {j : Nat} (hj : j < nn.length) : dirsN L (nn.take (j + 1)) = dirsN L (nn.take j) + if (dirO L nn[j].id).isSome = true then 1 else 0 := by
  unfold dirsN
  rw [List.take_succ_eq_append_getElem hj, List.countP_append, List.countP_singleton]
theorem dirsN_le (L : List Nd) (l : List Di) : dirsN L l ≤ l.length := List.countP_le_length
def SLk (vb : Nat) (next : Int) (u : Value) (b op : Nat) (u2 : Value) (b2 op2 : Nat) (id : Int) (w' : World) : Prop := (∀ o, w'.cell? ⟨vb, o, none⟩ = #[.int .i64 next, u][o]?) ∧ w'.cell? ⟨b, op, none⟩ = some u2 ∧ w'.cell? ⟨b2, op2, none⟩ = some (.int .i64 id) ∧ True
set_option maxRecDepth 100000 in
set_option maxHeartbeats 4000000 in
theorem l4Links_any (next : Int) (L : List Np) (u : Value) (N : Nat) (id : Int) (w : World) (hN : N ≤ w.heap.size) (hr : VolR w N u L) (hs : SmN L) :
    Calls Try.prog 39 #[volV next u, .int .i64 id] w fun e w' => e = .returned (.int .i64 (lnkI (L.map Np.n) id)) ∧ Below w.heap.size w w' := by
  have HV := Hid.intro hr
  have HSM := Hid.intro hs
  obtain ⟨a, cap, rfl, hl, hm, hcells⟩ := ndE_cell hr.row
  have HC := Hid.intro hcells
  have HM := Hid.intro hr.nms
  clear hcells hr hs
  go_enter Try.func39, Try.ntmps39
  go_wp2_with fail
  obtain ⟨W, hW, bW, zW, cW, fW⟩ := boxed w #[.int .i64 next, .slice a L.length cap] 29
  try simp only [hW]
  clear hW fW
  refine (l4At_any next L _ N id W (by omega) (HV.out.kept (bW.mono hN))).mono ?_
  rintro e w1 ⟨rfl, b1⟩
  replace cW := keepC b1 (by omega) cW
  have HB := Hid.intro (bW.trans (b1.mono (by omega)))
  have z1 : w.heap.size < w1.heap.size := by have := b1.size; omega
  clear b1 bW zW
  cases hat : atN (L.map Np.n) id with
  | none =>
    have he := atI_none hat
    have HE := Hid.intro (lnkI_none hat)
    simp only [he]
    clear he hat
    go_wp2_with fail
    go_ret
    exact ⟨by rw [HE.out]; rfl, HB.out⟩
  | some x =>
    have he := atI_some hat
    have hx : x < L.length := by have := atN_lt hat; simpa using this
    obtain ⟨b, off, rfl, hbN, hcc⟩ := HC.out (by intro h; rw [h] at hx; simp at hx)
    have hc := hcc x hx
    have hrow := HM.out _ (List.getElem_mem hx)
    have h12 := (HSM.out.2 _ (List.getElem_mem hx)).2
    have hdir := lnkI_dir hat (map_get hx)
    have hno := lnkI_no hat (map_get hx)
    generalize L[x] = p at hc hrow hdir hno h12
    have hck := hc.kept HB.out (by omega)
    have g1 := hck.c1
    have i1 : (0 : Int) ≤ (x : Int) ∧ (x : Int) < (L.length : Int) := by omega
    simp only [he]
    clear he hat hcc
    by_cases hk : p.n.kind = 2
    · have k2 : (p.n.kind != 2) = false := by simp [hk]
      have HE := Hid.intro (hdir hk)
      obtain ⟨a2, cap2, hv2, l2, m2, hdc⟩ := diE_cell hrow
      have HG6 : Hid (∀ y, Below w1.heap.size w1 y → y.cell? ⟨b, off + x * 9 + 6, none⟩ = some (.slice a2 p.n.names.length cap2)) := fun y hy => by
        rw [← hv2]
        exact (hck.kept hy (by omega)).c6
      have CW := Hid.intro cW
      have HCW : Hid (∀ y, Below w1.heap.size w1 y → ∀ o, y.cell? ⟨w.heap.size, o, none⟩ = #[.int .i64 next, .slice (some ⟨b, off, none⟩) L.length cap][o]?) := fun y hy => keepC hy z1 CW.out
      have HD := Hid.intro hdc
      clear hdir hno hk hc hrow hdc hv2 hck
      generalize p.n.names = nn at HE l2 HG6 HD h12
      have g6 := HG6.out w1 (Below.refl _ _)
      go_wp2_with fail
      clear g6 g1 k2 cW
      go_loopw [6, 7] (fun q i wr => ∃ (j n : Nat), i = .int .i64 j ∧ q = .int .i64 (2 + (n : Int)) ∧ j ≤ nn.length ∧ n ≤ j ∧ Hid (n = dirsN (L.map Np.n) (nn.take j)) ∧ Hid (Below w1.heap.size w1 wr)) (fun _ i _ => nn.length - (intOf i).toNat)
      case atStart => exact ⟨0, 0, rfl, rfl, Nat.zero_le _, Nat.le_refl _, rfl, Below.refl _ _⟩
      case round =>
        obtain ⟨j, n, rfl, rfl, hj, hnj, HN, HBJ⟩ := hrel
        have cW := HCW.out wr HBJ.out
        have g6 := HG6.out wr HBJ.out
        have hzj := HBJ.out.size
        by_cases hlt : j < nn.length
        · obtain ⟨b2, o2, rfl, hb2, hdd⟩ := HD.out (by intro h; rw [h] at hlt; simp at hlt)
          obtain ⟨d0, d1⟩ := hdd j hlt
          have hst := dirsN_step (L := L.map Np.n) hlt
          generalize nn[j] = e at d0 d1 hst
          have e1 := atCell (HB.out.trans (HBJ.out.mono (by omega))) d1 (by omega)
          have hjl : (j : Int) < (nn.length : Int) := by omega
          have ij : (0 : Int) ≤ (j : Int) ∧ (j : Int) < (nn.length : Int) := by omega
          have HSF : Hid (∀ y, Below wr.heap.size wr y → SLk w.heap.size next (.slice (some ⟨b, off, none⟩) L.length cap) b (off + x * 9 + 6) (.slice (some ⟨b2, o2, none⟩) nn.length cap2) b2 (o2 + j * 2 + 1) e.id y) := fun y hy => by
            have h1 := HBJ.out.trans (hy.mono hzj)
            exact ⟨HCW.out y h1, HG6.out y h1, atCell hy e1 (by omega), trivial⟩
          have HDR : Hid (∀ y, Below wr.heap.size wr y → Calls Try.prog 35 #[volV next (.slice (some ⟨b, off, none⟩) L.length cap), .int .i64 e.id] y fun e' w' => e' = .returned (.bool (dirO (L.map Np.n) e.id).isSome) ∧ Below y.heap.size y w') := fun y hy => by
            have h1 := HB.out.trans ((HBJ.out.trans (hy.mono hzj)).mono (by omega))
            exact l4Dir_any next L _ N e.id y (by have := h1.size; omega) (HV.out.kept (h1.mono hN))
          have HST := Hid.intro hst
          clear hdd d0 d1 hst e1
          go_upto_region 10 with fail
          clear cW g6
          refine wp_region_held_drew (S := SLk w.heap.size next (.slice (some ⟨b, off, none⟩) L.length cap) b (off + x * 9 + 6) (.slice (some ⟨b2, o2, none⟩) nn.length cap2) b2 (o2 + j * 2 + 1) e.id) (by kernel_rfl) (HSF.out _ (Below.refl _ _).drew) (fun hHeld => ?_)
          have BD : Hid (Below wr.heap.size wr wr.drew) := (Below.refl _ _).drew
          generalize wr.drew = D at BD hHeld ⊢
          refine take1 (i := 0) (d := some 34) (v := ?_) rfl rfl (by kernel_rfl) (by kernel_rfl) (by kernel_rfl) (fun _ _ _ h => h) (Or.inl ⟨by rfl, ?_⟩) (by assumption) ?_
          rotate_left 1
          · intro w hSw
            obtain ⟨q0, q1, q2, q3⟩ := hSw
            go_simp <;> with_reducible rfl
          simp only [Act.put, List.setIfInBounds_toArray]
          dsimp only [List.set_cons_succ, List.set_cons_zero]
          refine take1 (i := 1) (d := some 35) (v := ?_) rfl rfl (by kernel_rfl) (by kernel_rfl) (by kernel_rfl) (fun _ _ _ h => h) (Or.inl ⟨by rfl, ?_⟩) (by assumption) ?_
          rotate_left 1
          · intro w hSw
            obtain ⟨q0, q1, q2, q3⟩ := hSw
            go_simp <;> with_reducible rfl
          simp only [Act.put, List.setIfInBounds_toArray]
          dsimp only [List.set_cons_succ, List.set_cons_zero]
          refine take1 (i := 2) (d := some 36) (v := ?_) rfl rfl (by kernel_rfl) (by kernel_rfl) (by kernel_rfl) (fun _ _ _ h => h) (Or.inl ⟨by rfl, ?_⟩) (by assumption) ?_
          rotate_left 1
          · intro w hSw
            obtain ⟨q0, q1, q2, q3⟩ := hSw
            go_simp <;> with_reducible rfl
          simp only [Act.put, List.setIfInBounds_toArray]
          dsimp only [List.set_cons_succ, List.set_cons_zero]
          refine take1 (i := 3) (d := some 37) (v := ?_) rfl rfl (by kernel_rfl) (by kernel_rfl) (by kernel_rfl) (fun _ _ _ h => h) (Or.inl ⟨by rfl, ?_⟩) (by assumption) ?_
          rotate_left 1
          · intro w hSw
            obtain ⟨q0, q1, q2, q3⟩ := hSw
            go_simp <;> with_reducible rfl
          simp only [Act.put, List.setIfInBounds_toArray]
          dsimp only [List.set_cons_succ, List.set_cons_zero]
          refine take1 (i := 4) (d := some 38) (v := ?_) rfl rfl (by kernel_rfl) (by kernel_rfl) (by kernel_rfl) (fun _ _ _ h => h) (Or.inl ⟨by rfl, ?_⟩) (by assumption) ?_
          rotate_left 1
          · intro w hSw
            obtain ⟨q0, q1, q2, q3⟩ := hSw
            go_simp <;> with_reducible rfl
          simp only [Act.put, List.setIfInBounds_toArray]
          dsimp only [List.set_cons_succ, List.set_cons_zero]
          refine take1 (i := 5) (d := some 39) (v := ?_) rfl rfl (by kernel_rfl) (by kernel_rfl) (by kernel_rfl) (fun _ _ _ h => h) (Or.inl ⟨by rfl, ?_⟩) (by assumption) ?_
          rotate_left 1
          · intro w hSw
            obtain ⟨q0, q1, q2, q3⟩ := hSw
            go_simp <;> with_reducible rfl
          simp only [Act.put, List.setIfInBounds_toArray]
          dsimp only [List.set_cons_succ, List.set_cons_zero]
          refine take1 (i := 6) (d := some 40) (v := ?_) rfl rfl (by kernel_rfl) (by kernel_rfl) (by kernel_rfl) (fun _ _ _ h => h) (Or.inl ⟨by rfl, ?_⟩) (by assumption) ?_
          rotate_left 1
          · intro w hSw
            obtain ⟨q0, q1, q2, q3⟩ := hSw
            go_simp <;> with_reducible rfl
          simp only [Act.put, List.setIfInBounds_toArray]
          dsimp only [List.set_cons_succ, List.set_cons_zero]
          refine take1 (i := 7) (d := some 41) (v := ?_) rfl rfl (by kernel_rfl) (by kernel_rfl) (by kernel_rfl) (fun _ _ _ h => h) (Or.inl ⟨by rfl, ?_⟩) (by assumption) ?_
          rotate_left 1
          · intro w hSw
            obtain ⟨q0, q1, q2, q3⟩ := hSw
            go_simp <;> with_reducible rfl
          simp only [Act.put, List.setIfInBounds_toArray]
          dsimp only [List.set_cons_succ, List.set_cons_zero]
          refine take1 (i := 8) (d := some 42) (v := ?_) rfl rfl (by kernel_rfl) (by kernel_rfl) (by kernel_rfl) (fun _ _ _ h => h) (Or.inl ⟨by rfl, ?_⟩) (by assumption) ?_
          rotate_left 1
          · intro w hSw
            obtain ⟨q0, q1, q2, q3⟩ := hSw
            go_simp <;> with_reducible rfl
          simp only [Act.put, List.setIfInBounds_toArray]
          dsimp only [List.set_cons_succ, List.set_cons_zero]
          refine take1 (i := 9) (d := some 43) (v := ?_) rfl rfl (by kernel_rfl) (by kernel_rfl) (by kernel_rfl) (fun _ _ _ h => h) (Or.inl ⟨by rfl, ?_⟩) (by assumption) ?_
          rotate_left 1
          · intro w hSw
            obtain ⟨q0, q1, q2, q3⟩ := hSw
            go_simp <;> with_reducible rfl
          simp only [Act.put, List.setIfInBounds_toArray]
          dsimp only [List.set_cons_succ, List.set_cons_zero]
          refine take1 (i := 10) (d := some 44) (v := ?_) rfl rfl (by kernel_rfl) (by kernel_rfl) (by kernel_rfl) (fun _ _ _ h => h) (Or.inl ⟨by rfl, ?_⟩) (by assumption) ?_
          rotate_left 1
          · intro w hSw
            obtain ⟨q0, q1, q2, q3⟩ := hSw
            go_simp <;> with_reducible rfl
          simp only [Act.put, List.setIfInBounds_toArray]
          dsimp only [List.set_cons_succ, List.set_cons_zero]
          refine wpAnyH_ready (rs := [11]) (by kernel_rfl) (by simp) ?_
          refine AllReadyH.cons rfl (fun KK hKK => ?_) AllReadyH.nil
          go_simp
          refine (HDR.out _ BD.out).mono ?_
          rintro e9 w5 ⟨rfl, b5⟩
          have B5 : Hid (Below wr.heap.size wr w5) := BD.out.trans (b5.mono BD.out.size)
          clear b5
          go_simp
          refine hKK.out _ _ (HSF.out _ B5.out) (fun hHeld2 => ?_)
          clear hKK KK hHeld hHeld2
          refine wpAnyH_done (by kernel_rfl) ?_ _
          have HB5 := Hid.intro (HBJ.out.trans (B5.out.mono HBJ.out.size))
          cases hd : (dirO (L.map Np.n) e.id).isSome with
          | true =>
            have HN2 : Hid (n + 1 = dirsN (L.map Np.n) (nn.take (j + 1))) := by unfold Hid; rw [HST.out, hd, HN.out]; rfl
            go_wp2_with fail
            go_roundw
            case rel => exact ⟨j + 1, n + 1, by go_num, by go_num, by omega, by omega, HN2, HB5⟩
            case measure => simp [intOf]; omega
          | false =>
            have HN2 : Hid (n = dirsN (L.map Np.n) (nn.take (j + 1))) := by unfold Hid; rw [HST.out, hd, HN.out]; rfl
            go_wp2_with fail
            go_roundw
            case rel => exact ⟨j + 1, n, by go_num, rfl, by omega, by omega, HN2, HB5⟩
            case measure => simp [intOf]; omega
        · obtain rfl : j = nn.length := by omega
          have HN2 : Hid (n = dirsN (L.map Np.n) nn) := by have := HN.out; rwa [List.take_length] at this
          have HBE := Hid.intro (HB.out.trans (HBJ.out.mono (by omega)))
          go_wp2_with fail
          go_ret
          exact ⟨by rw [HE.out, ← HN2.out]; rfl, HBE.out⟩
    · have k2 : (p.n.kind != 2) = true := by simpa using hk
      have HE := Hid.intro (hno hk)
      clear hdir hno hk hc hck hrow
      go_wp2_with fail
      refine (l4Named_any next L _ N id w1 (by omega) (HV.out.kept (HB.out.mono hN)) HSM.out).mono ?_
      rintro e w3 ⟨rfl, b3⟩
      have HBE := Hid.intro (HB.out.trans (b3.mono (by omega)))
      clear b3
      go_wp2_with fail
      go_ret
      exact ⟨by rw [HE.out]; rfl, HBE.out⟩
set_option maxRecDepth 100000 in
set_option maxHeartbeats 2000000 in
theorem specLinks_any (next : Int) (L : List Np) (u : Value) (N : Nat) (id : Int) (w : World) (hN : N ≤ w.heap.size) (hr : VolR w N u L) (hw : ∀ p ∈ L, NdW p.n) (hid : (Lit.int .i64 id).wf = true) :
    Calls Try.prog 19 #[volV next u, .int .i64 id] w fun e w' => e = .returned (.int .i64 (linksI next (L.map Np.n) id)) ∧ Below w.heap.size w w' := by
  have HV := Hid.intro hr
  have HW := Hid.intro hw
  obtain ⟨a, cap, rfl, hl, hm, -⟩ := ndE_cell hr.row
  clear hr hw
  go_enter Try.func19, Try.ntmps19
  go_wp2_with fail
  obtain ⟨W, hW, bW, zW, cW, fW⟩ := boxed w #[.int .i64 next, .slice a L.length cap] 29
  try simp only [hW]
  clear hW fW
  refine (specVolOk_any next L _ N W (by omega) (HV.out.kept (bW.mono hN)) (fun p hp => (HW.out p hp).1)).mono ?_
  rintro e w1 ⟨rfl, b1⟩
  replace cW := keepC b1 (by omega) cW
  have HB := Hid.intro (bW.trans (b1.mono (by omega)))
  have z1 : w.heap.size < w1.heap.size := by have := b1.size; omega
  clear b1 bW zW
  cases hvb : volB next (L.map Np.n) with
  | false =>
    have HU := Hid.intro (linksI_no (id := id) hvb)
    go_wp2_with fail
    go_ret
    exact ⟨by rw [HU.out]; rfl, HB.out⟩
  | true =>
    have hg := good_of HW.out (by rw [right_vol]; exact hvb)
    have HSM : Hid (SmN L) := ⟨hg.n24, hg.sm⟩
    have HU := Hid.intro (linksI_yes (id := id) hvb)
    clear hg
    go_wp2_with fail
    refine (l4Links_any next L _ N id w1 (by omega) (HV.out.kept (HB.out.mono hN)) HSM.out).mono ?_
    rintro e w3 ⟨rfl, b3⟩
    have HBE := Hid.intro (HB.out.trans (b3.mono (by omega)))
    clear b3 cW
    go_wp2_with fail
    go_ret
    exact ⟨by rw [HU.out]; rfl, HBE.out⟩
set_option maxRecDepth 100000 in
set_option maxHeartbeats 4000000 in
/-- links, of an inode that there is. -/
theorem links_any (L : List Np) (tb b off N : Nat) (id : Int) (x : Nat) (w1 : World) (htc : TC w1 tb b off N L) (hG : Good L) (hw : ∀ p ∈ L, NdW p.n) (hid : (Lit.int .i64 id).wf = true) (hat : atN (L.map Np.n) id = some x) :
    Calls Try.prog 40 #[.map (some tb), .int .i64 id] w1 fun e w' => e = .returned (.int .i64 (lnkI (L.map Np.n) id)) ∧ Below w1.heap.size w1 w' := by
  have HTC := Hid.intro htc
  have HG := Hid.intro hG
  have HW := Hid.intro hw
  have HID := Hid.intro hid
  have hbN := htc.bN
  have hNT := htc.NT
  have htl := htc.lt
  have hlk := htc.look hid
  clear htc hG hw hid
  have hx : x < L.length := by have := atN_lt hat; simpa using this
  have hd := dirO_some hat (map_get hx)
  have hdir := lnkI_dir hat (map_get hx)
  have hno := lnkI_no hat (map_get hx)
  have hmem := List.getElem_mem hx
  have hc := HTC.out.at_ x hx
  have hrow := HTC.out.nms _ hmem
  have h12 := (HG.out.sm _ hmem).2
  have hiw := (HW.out _ hmem).2
  rw [hat] at hlk
  simp only [ptrO] at hlk
  generalize L[x] = p at hd hdir hno hc hrow h12 hiw hmem
  have HDI := Hid.intro (dir_any L tb b off N id w1 HTC.out HID.out)
  clear hat
  go_enter Try.func40, Try.ntmps40
  by_cases hk : p.n.kind = 2
  · rw [if_pos hk] at hd
    rw [hd] at HDI
    simp only [ptrO] at HDI
    have HE := Hid.intro (hdir hk)
    obtain ⟨a2, cap2, hv2, l2, m2, hdc⟩ := diE_cell hrow
    have g6 := hc.c6
    rw [hv2] at g6
    have HD := Hid.intro hdc
    have HIW := Hid.intro hiw
    clear hd hdir hno hk hc hrow hv2 hdc hiw hmem
    generalize p.n.names = nn at HE l2 g6 HD HIW h12
    go_wp2_with (go_at_call 37; refine HDI.out.mono ?_; rintro e9 w9 ⟨rfl, rfl⟩)
    clear g6 hlk
    go_loopw [5, 23] (fun q i wr => ∃ (j n : Nat), i = .int .i64 j ∧ q = .int .i64 (2 + (n : Int)) ∧ j ≤ nn.length ∧ n ≤ j ∧ Hid (n = dirsN (L.map Np.n) (nn.take j)) ∧ Hid (Below w1.heap.size w1 wr)) (fun _ i _ => nn.length - (intOf i).toNat)
    case atStart => exact ⟨0, 0, rfl, rfl, Nat.zero_le _, Nat.le_refl _, rfl, Below.refl _ _⟩
    case round =>
      obtain ⟨j, n, rfl, rfl, hj, hnj, HN, HBJ⟩ := hrel
      have hzj := HBJ.out.size
      by_cases hlt : j < nn.length
      · obtain ⟨b2, o2, rfl, hb2, hdd⟩ := HD.out (by intro h; rw [h] at hlt; simp at hlt)
        obtain ⟨d0, d1⟩ := hdd j hlt
        have hst := dirsN_step (L := L.map Np.n) hlt
        have hie := HIW.out _ (List.getElem_mem hlt)
        generalize nn[j] = e at d0 d1 hst hie
        replace d0 := atCell HBJ.out d0 (by omega)
        replace d1 := atCell HBJ.out d1 (by omega)
        have hjl : (j : Int) < (nn.length : Int) := by omega
        have ij : (0 : Int) ≤ (j : Int) ∧ (j : Int) < (nn.length : Int) := by omega
        have HST := Hid.intro hst
        clear hdd hst
        go_upto_region 7 with fail
        obtain ⟨X, hX, bX, zX, cX, fX⟩ := boxed wr #[.string e.nm, .int .i64 e.id] 66
        simp only [hX]
        have HBX : Hid (Below w1.heap.size w1 X) := HBJ.out.trans (bX.mono hzj)
        have HDE := Hid.intro (dir_any L tb b off N e.id X (HTC.out.kept HBX.out htl) hie)
        clear hX fX d0 d1 bX
        cases hd : dirO (L.map Np.n) e.id with
        | some z =>
          rw [hd] at HDE
          simp only [ptrO] at HDE
          have HN2 : Hid (n + 1 = dirsN (L.map Np.n) (nn.take (j + 1))) := by unfold Hid; rw [HST.out, hd, HN.out]; rfl
          clear hd
          go_wp2_with (go_at_call 37; refine HDE.out.mono ?_; rintro e9 w9 ⟨rfl, rfl⟩)
          go_roundw
          case rel => exact ⟨j + 1, n + 1, by go_num, by go_num, by omega, by omega, HN2, HBX⟩
          case measure => simp [intOf]; omega
        | none =>
          rw [hd] at HDE
          simp only [ptrO] at HDE
          have HN2 : Hid (n = dirsN (L.map Np.n) (nn.take (j + 1))) := by unfold Hid; rw [HST.out, hd, HN.out]; rfl
          clear hd
          go_wp2_with (go_at_call 37; refine HDE.out.mono ?_; rintro e9 w9 ⟨rfl, rfl⟩)
          go_roundw
          case rel => exact ⟨j + 1, n, by go_num, rfl, by omega, by omega, HN2, HBX⟩
          case measure => simp [intOf]; omega
      · obtain rfl : j = nn.length := by omega
        have HN2 : Hid (n = dirsN (L.map Np.n) nn) := by have := HN.out; rwa [List.take_length] at this
        have HBE := Hid.intro (HBJ.out)
        go_wp2_with fail
        go_ret
        exact ⟨by rw [HE.out, ← HN2.out]; rfl, HBE.out⟩
  · rw [if_neg hk] at hd
    rw [hd] at HDI
    simp only [ptrO] at HDI
    have HE := Hid.intro (hno hk)
    have HNA := Hid.intro (names_any L tb b off N HG.out.ids HG.out.n24 (fun p hp => ⟨(HW.out p hp).2, (HG.out.sm p hp).2⟩) w1 HTC.out)
    clear hd hdir hno hk hc hrow hiw hmem
    go_wp2_with (go_at_call 37; refine HDI.out.mono ?_; rintro e9 w9 ⟨rfl, rfl⟩)
    refine HNA.out.mono ?_
    rintro e w3 ⟨cb, nc, rfl, hcb, hG, b3⟩
    have hlk2 := hG.look HID.out
    have HBE := Hid.intro (b3)
    clear b3 hG hlk
    go_wp2_with fail
    go_ret
    exact ⟨by rw [HE.out]; rfl, HBE.out⟩
set_option maxRecDepth 100000 in
set_option maxHeartbeats 4000000 in
theorem implLinks_any (next : Int) (L : List Np) (u : Value) (N : Nat) (id : Int) (w : World) (hN : N ≤ w.heap.size) (hr : VolR w N u L) (hw : ∀ p ∈ L, NdW p.n) (hid : (Lit.int .i64 id).wf = true) :
    Calls Try.prog 20 #[volV next u, .int .i64 id] w fun e w' => e = .returned (.int .i64 (linksI next (L.map Np.n) id)) ∧ Below w.heap.size w w' := by
  have HV := Hid.intro hr
  have HW := Hid.intro hw
  have HID := Hid.intro hid
  obtain ⟨a, cap, rfl, hl, hm, -⟩ := ndE_cell hr.row
  clear hr hw hid
  go_enter Try.func20, Try.ntmps20
  go_wp2_with fail
  obtain ⟨W, hW, bW, zW, cW, fW⟩ := boxed w #[.int .i64 next, .slice a L.length cap] 29
  try simp only [hW]
  clear hW fW
  refine (right_any next L _ N W (by omega) (HV.out.kept (bW.mono hN)) HW.out).mono ?_
  rintro e w1 ⟨m, rfl, ht, hf, b1⟩
  have HB := Hid.intro (bW.trans (b1.mono (by omega)))
  have HTT := Hid.intro ht
  have HFF := Hid.intro hf
  clear b1 bW zW cW ht hf
  cases hvb : rightB next (L.map Np.n) with
  | false =>
    have HU := Hid.intro (linksI_no (id := id) (by rw [← right_vol]; exact hvb))
    have hmn := HFF.out hvb
    subst hmn
    have hlk := Maps.look_nil (P := Try.prog) (w := w1) (t := 50) (e := 56) false int_law Try.underlying50 (zeroP w1) (key_int HID.out)
    simp only [Bool.false_eq_true, if_false] at hlk
    go_wp2_with fail
    go_ret
    exact ⟨by rw [HU.out]; rfl, HB.out⟩
  | true =>
    have HG := Hid.intro (good_of HW.out hvb)
    have HU := Hid.intro (linksI_yes (id := id) (by rw [← right_vol]; exact hvb))
    obtain ⟨tb, b, off, hmn, htc⟩ := HTT.out hvb
    subst hmn
    have HTC := Hid.intro htc
    have hbN := htc.bN
    have hNT := htc.NT
    have htl := htc.lt
    have hlk := htc.look HID.out
    clear htc
    cases hat : atN (L.map Np.n) id with
    | none =>
      have HE := Hid.intro (lnkI_none hat)
      rw [hat] at hlk
      simp only [ptrO] at hlk
      go_wp2_with fail
      go_ret
      exact ⟨by rw [HU.out, HE.out]; rfl, HB.out⟩
    | some x =>
      have HLK := Hid.intro (links_any L tb b off N id x w1 HTC.out HG.out HW.out HID.out hat)
      rw [hat] at hlk
      simp only [ptrO] at hlk
      clear hat
      go_wp2_with fail
      refine HLK.out.mono ?_
      rintro e w3 ⟨rfl, b3⟩
      have HBE := Hid.intro (HB.out.trans (b3.mono HB.out.size))
      clear b3 hlk
      go_wp2_with fail
      go_ret
      exact ⟨by rw [HU.out]; rfl, HBE.out⟩
end Go.Proofs.Ytfllkhkopogngaa
