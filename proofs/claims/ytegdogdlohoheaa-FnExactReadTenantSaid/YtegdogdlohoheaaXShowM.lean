/- What is shown of a tenant; the program's ShowTenant. -/
import Derived.Test.YtegdogdlohoheaaXTenOkI
import Derived.Test.YtegdogdlohoheaaTShowVol
namespace Go.Proofs.Ytegdogdlohoheaa
open Go.RowKit
set_option linter.unusedVariables false
def notL (a : Nt) : List UInt8 := varsL [a.i.toNat, a.c.toNat, a.s.toNat, a.k.toNat, a.d.toNat]
def notsL (l : List Nt) : List UInt8 := l.flatMap notL
def sesL (a : Se) : List UInt8 := varsL [a.c.toNat, a.s.toNat, a.i.toNat] ++ (varL (shR a.r).size ++ (shR a.r).data.toList)
def sessL (l : List Se) : List UInt8 := l.flatMap sesL
/-- What is shown of a right tenant, as bytes. -/
def tenL (k : Int × List Nd × Int × List Nt × List Se) : List UInt8 := varL (shV k.1 k.2.1).size ++ (shV k.1 k.2.1).data.toList ++ varsL [k.2.2.1.toNat, k.2.2.2.1.length] ++ notsL k.2.2.2.1 ++ varL k.2.2.2.2.length ++ sessL k.2.2.2.2
/-- What is shown of a tenant. -/
def shTen (k : Int × List Nd × Int × List Nt × List Se) : ByteArray := if tenB k then ⟨(tenL k).toArray⟩ else ByteArray.empty
theorem shTen_yes {k : Int × List Nd × Int × List Nt × List Se} (h : tenB k = true) : shTen k = ⟨(tenL k).toArray⟩ := if_pos h
theorem shTen_no {k : Int × List Nd × Int × List Nt × List Se} (h : tenB k = false) : shTen k = ByteArray.empty := by simp [shTen, h]
/-- The bounds of a right note. -/
structure NtB (a : Nt) : Prop where
 i : 0 ≤ a.i ∧ a.i ≤ 100000
 c : 0 ≤ a.c ∧ a.c ≤ 3
 s : 0 ≤ a.s ∧ a.s ≤ 1000000
 k : 0 ≤ a.k ∧ a.k ≤ 22
 d : 0 ≤ a.d ∧ a.d ≤ 200
structure SeB (a : Se) : Prop where
 c : 0 ≤ a.c ∧ a.c ≤ 3
 s : 0 ≤ a.s ∧ a.s ≤ 1000000
 i : 0 ≤ a.i ∧ a.i ≤ 100000
 r : resP a.r
theorem auditFrom_mem {m : Int} (l : List Nt) (hm : 0 ≤ m) (h : auditFrom m l = true) : ∀ a ∈ l, NtB a := by
 induction l generalizing m with
 | nil => intro a ha; cases ha
 | cons a l ih =>
  intro b hb
  simp only [auditFrom, Bool.and_eq_true] at h
  obtain ⟨⟨h1, h2⟩, h3⟩ := h
  have h1 := inB_out h1
  rcases List.mem_cons.1 hb with rfl | hb
  ·simp only [noteB, Bool.and_eq_true] at h2
   obtain ⟨c1, c2, c3, c4⟩ := h2
   have c1 := inB_out c1
   have c2 := inB_out c2
   have c3 := inB_out c3
   have c4 := inB_out c4
   exact ⟨by omega, by omega, by omega, by omega, by omega⟩
  ·exact ih (by omega) h3 b hb
theorem sessFrom_mem {m : Int} (l : List Se) (hm : 0 ≤ m) (h : sessFrom m l = true) : ∀ a ∈ l, SeB a := by
 induction l generalizing m with
 | nil => intro a ha; cases ha
 | cons a l ih =>
  intro b hb
  simp only [sessFrom, Bool.and_eq_true] at h
  obtain ⟨⟨h1, h2⟩, h3⟩ := h
  have h1 := inB_out h1
  rcases List.mem_cons.1 hb with rfl | hb
  ·simp only [sesB, Bool.and_eq_true] at h2
   obtain ⟨c1, c2, c3⟩ := h2
   have c1 := inB_out c1
   have c2 := inB_out c2
   exact ⟨by omega, by omega, by omega, of_decide_eq_true c3⟩
  ·exact ih (by omega) h3 b hb
/-- What it is for a tenant to be right. -/
theorem tenB_of {nx : Int} {L : List Nd} {tk : Int} {A : List Nt} {S : List Se} (h : tenB (nx, L, tk, A, S) = true) : volB nx L = true ∧ (0 ≤ tk ∧ tk ≤ 30) ∧ A.length ≤ 20 ∧ (∀ a ∈ A, NtB a) ∧ S.length ≤ 3 ∧ ∀ a ∈ S, SeB a := by
 simp only [tenB, Bool.and_eq_true] at h
 obtain ⟨h1, h2, h3, h4⟩ := h
 have h2 := inB_out h2
 simp only [auditB, Bool.and_eq_true, decide_eq_true_eq] at h3
 have h5 := sessFrom_len h4 (by omega)
 exact ⟨h1, h2, h3.1, auditFrom_mem A (by omega) h3.2, by omega, sessFrom_mem S (by omega) h4⟩
theorem shV_le {next : Int} {L : List Nd} (h : volB next L = true) : (shV next L).size ≤ 10000 := by
 obtain ⟨_, h2, h3⟩ := ndB_of h
 rw [shV_yes h]
 have e : (⟨(varL next.toNat ++ varL L.length ++ inosL L).toArray⟩ : ByteArray).size = (varL next.toNat ++ varL L.length ++ inosL L).length := rfl
 rw [e]
 simp only [List.length_append]
 have a1 := varL_le next.toNat
 have a2 := varL_le L.length
 have a3 := inosL_le L h3
 omega
theorem notL_le (a : Nt) : (notL a).length ≤ 35 := by
 have := varsL_le [a.i.toNat, a.c.toNat, a.s.toNat, a.k.toNat, a.d.toNat]
 simpa [notL] using this
theorem notsL_le (l : List Nt) : (notsL l).length ≤ 35 * l.length := by
 induction l with
 | nil => simp [notsL]
 | cons a l ih =>
  have := notL_le a
  simp only [notsL, List.flatMap_cons, List.length_append, List.length_cons] at ih ⊢
  omega
theorem notsL_snoc (l : List Nt) (j : Nat) (h : j < l.length) : notsL (l.take j) ++ notL l[j] = notsL (l.take (j + 1)) := by
 rw [List.take_succ_eq_append_getElem h]
 simp only [notsL, List.flatMap_append, List.flatMap_cons, List.flatMap_nil, List.append_nil]
theorem shR_le {r : Re} (h : resP r) : (shR r).size ≤ 407 := by
 rw [shR_yes h]
 have := varS_le r.c.toNat
 have := h.2
 simp only [ByteArray.size_append]
 omega
theorem sesL_le {a : Se} (h : SeB a) : (sesL a).length ≤ 435 := by
 have h1 := varsL_le [a.c.toNat, a.s.toNat, a.i.toNat]
 have h2 := shR_le h.r
 have h3 := varL_le (shR a.r).size
 have h4 : (shR a.r).data.toList.length = (shR a.r).size := by simp
 simp only [sesL, List.length_append, List.length_cons, List.length_nil] at h1 ⊢
 omega
theorem sessL_le (l : List Se) (h : ∀ a ∈ l, SeB a) : (sessL l).length ≤ 435 * l.length := by
 induction l with
 | nil => simp [sessL]
 | cons a l ih =>
  have h1 := sesL_le (h a (by simp))
  have h2 := ih (fun b hb => h b (by simp [hb]))
  simp only [sessL, List.flatMap_cons, List.length_append, List.length_cons] at h2 ⊢
  omega
theorem sessL_snoc (l : List Se) (j : Nat) (h : j < l.length) : sessL (l.take j) ++ sesL l[j] = sessL (l.take (j + 1)) := by
 rw [List.take_succ_eq_append_getElem h]
 simp only [sessL, List.flatMap_append, List.flatMap_cons, List.flatMap_nil, List.append_nil]
theorem vars5_any (g : Nat) (w : World) (a b c d e : Nat) (hg : g < w.heap.size) (h0 : a ≤ 1000000) (h1 : b ≤ 1000000) (h2 : c ≤ 1000000) (h3 : d ≤ 1000000) (h4 : e ≤ 1000000) (hc : ∀ o, w.cell? ⟨g, o, none⟩ = #[Value.int .i64 (a : Nat), .int .i64 (b : Nat), .int .i64 (c : Nat), .int .i64 (d : Nat), .int .i64 (e : Nat)][o]?) :
  Calls Try.prog 89 #[.slice (some ⟨g, 0, none⟩) 5 5] w fun e' w' => e' = .returned (.string ⟨(varsL [a, b, c, d, e]).toArray⟩) ∧ Below w.heap.size w w' := by
 refine vars_any g 0 5 [a, b, c, d, e] w (by simp) hg (fun j h => ?_) (by simp) (fun j h => ?_)
 ·match j, h with
  | 0, _ => simp; omega
  | 1, _ => simp; omega
  | 2, _ => simp; omega
  | 3, _ => simp; omega
  | 4, _ => simp; omega
 ·match j, h with
  | 0, _ => exact hc 0
  | 1, _ => exact hc 1
  | 2, _ => exact hc 2
  | 3, _ => exact hc 3
  | 4, _ => exact hc 4
theorem vars3_any (g : Nat) (w : World) (a b c : Nat) (hg : g < w.heap.size) (h0 : a ≤ 1000000) (h1 : b ≤ 1000000) (h2 : c ≤ 1000000) (hc : ∀ o, w.cell? ⟨g, o, none⟩ = #[Value.int .i64 (a : Nat), .int .i64 (b : Nat), .int .i64 (c : Nat)][o]?) :
  Calls Try.prog 89 #[.slice (some ⟨g, 0, none⟩) 3 3] w fun e' w' => e' = .returned (.string ⟨(varsL [a, b, c]).toArray⟩) ∧ Below w.heap.size w w' := by
 refine vars_any g 0 3 [a, b, c] w (by simp) hg (fun j h => ?_) (by simp) (fun j h => ?_)
 ·match j, h with
  | 0, _ => simp; omega
  | 1, _ => simp; omega
  | 2, _ => simp; omega
 ·match j, h with
  | 0, _ => exact hc 0
  | 1, _ => exact hc 1
  | 2, _ => exact hc 2
theorem ba_size (l : List UInt8) : (⟨l.toArray⟩ : ByteArray).size = l.length := rfl
theorem ba_list (l : List UInt8) : (⟨l.toArray⟩ : ByteArray).data.toList = l := rfl
set_option maxRecDepth 100000 in
set_option maxHeartbeats 8000000 in
theorem implShowTenant_any (t : Ten) (N : Nat) (w : World) (hN : N ≤ w.heap.size) (hr : TenR w N t) (hz : TenW t) :
  Calls Try.prog 50 #[t.v] w fun e w' => e = .returned (.string (shTen t.key)) ∧ Below w.heap.size w w' := by
 have HR := Hid.intro hr
 have HZ := Hid.intro hz
 clear hr hz
 cases hv : tenB t.key with
 | false =>
  rw [shTen_no hv]
  go_enter Try.func50, Try.ntmps50
  go_wp2_with fail
  refine (implTenantOk_any t N _ (by simp; omega) (HR.out.kept ((one_below w _).mono hN)) HZ.out).mono ?_
  rw [hv]
  rintro e w1 ⟨rfl, b1⟩
  have B1 := (one_below w _).trans (b1.mono (by simp))
  go_wp2
  go_ret
  exact ⟨rfl, B1⟩
 | true =>
  rw [shTen_yes hv]
  obtain ⟨nx, L, ua, uc, tk, A, aa, ac, Ss, sa, sc⟩ := t
  have HV := Hid.intro hv
  obtain ⟨hvol, ⟨ht0, ht1⟩, hA20, hAB, hS3, hSB⟩ := tenB_of hv
  obtain ⟨tk, rfl⟩ := Int.eq_ofNat_of_zero_le ht0
  have HRV : Hid (VolR w N (.slice ua L.length uc) L) := HR.out.vol
  have HRA : Hid (Row ntE w N (.slice aa A.length ac) A) := HR.out.aud
  have HRS : Hid (Row seE w N (.slice sa Ss.length sc) Ss) := HR.out.ses
  have HZN : Hid (∀ p ∈ L, NdW p.n) := HZ.out.nod
  have HAB := Hid.intro hAB
  have HSB := Hid.intro hSB
  have hsv := shV_le hvol
  obtain ⟨sv, hsve⟩ : ∃ sv, shV nx (L.map Np.n) = sv := ⟨_, rfl⟩
  rw [hsve] at hsv
  have HSV := Hid.intro hsve
  have HG : Hid (tenL (Ten.key ⟨nx, L, ua, uc, (tk : Int), A, aa, ac, Ss, sa, sc⟩) = varL sv.size ++ sv.data.toList ++ varsL [tk, A.length] ++ notsL A ++ varL Ss.length ++ sessL Ss) := by
   unfold Hid
   rw [← hsve]
   simp [tenL, Ten.key]
  generalize tenL (Ten.key ⟨nx, L, ua, uc, (tk : Int), A, aa, ac, Ss, sa, sc⟩) = ans at HG ⊢
  clear hv hvol hAB hSB hsve ht0
  show Calls Try.prog 50 #[.agg #[.int .i64 nx, .slice ua L.length uc, .int .i64 (tk : Nat), .slice aa A.length ac, .slice sa Ss.length sc]] w _
  go_enter Try.func50, Try.ntmps50
  go_wp2_with fail
  obtain ⟨W, hW, bW, zW, cW, fW⟩ := boxed w #[.int .i64 nx, .slice ua L.length uc, .int .i64 (tk : Nat), .slice aa A.length ac, .slice sa Ss.length sc] 28
  simp only [hW]
  refine (implTenantOk_any ⟨nx, L, ua, uc, (tk : Int), A, aa, ac, Ss, sa, sc⟩ N W (by omega) (HR.out.kept (bW.mono hN)) HZ.out).mono ?_
  rw [HV.out]
  rintro e w1 ⟨rfl, b1⟩
  have z1 := b1.size
  have HX := Hid.intro (keepC b1 (by omega) cW)
  have BW : Below w.heap.size w w1 := bW.trans (b1.mono (by omega))
  have hlt1 : w.heap.size < w1.heap.size := by omega
  clear hW bW zW cW fW b1 z1 HV HZ HR
  go_upto_region 4 with fail
  have HL := Hid.intro (bld_fresh w1)
  have BB : Below w1.heap.size w1 (w1.alloc (.cells #[.pointer none, .slice none 0 0] 86)) := one_below _ _
  generalize w1.alloc (.cells #[.pointer none, .slice none 0 0] 86) = U at HL BB ⊢
  replace HX := Hid.intro (keepC BB (by omega) HX.out)
  have kx := HX.out
  go_wp2_with fail
  clear kx
  refine (implShowVol_any nx L (.slice ua L.length uc) N U (by have := BB.size; omega) (HRV.out.kept ((BW.trans (BB.mono (by omega))).mono hN)) HZN.out).mono ?_
  rw [HSV.out]
  rintro e w2 ⟨rfl, b2⟩
  replace HX := Hid.intro (keepC b2 (by have := BB.size; omega) HX.out)
  replace HL := Hid.intro (bld_kept HL.out b2)
  replace BB := BB.trans (b2.mono BB.size)
  clear b2
  go_wp2_with fail
  refine (implPiece_any sv _ (by omega)).mono ?_
  rintro e w3 ⟨rfl, b2⟩
  replace HX := Hid.intro (keepC b2 (by have := BB.size; omega) HX.out)
  replace HL := Hid.intro (bld_kept HL.out b2)
  replace BB := BB.trans (b2.mono BB.size)
  clear b2
  have hps := piece_le sv
  go_wp2_with fail
  refine (bldWrite_any w1.heap.size w1.heap.size [] (piece sv) _ HL.out (by simp only [List.length_nil]; omega) BB.size).mono ?_
  rintro e w4 ⟨rfl, hl2, b2⟩
  replace HX := Hid.intro (keepC b2 (by omega) HX.out)
  have HL : Hid (BldAt w1.heap.size w1.heap.size (varL sv.size ++ sv.data.toList) w4) := by
   rw [List.nil_append, piece_toList] at hl2
   exact hl2
  replace BB := BB.trans b2
  have hsl : sv.data.toList.length = sv.size := by simp
  have hvs := varL_le sv.size
  obtain ⟨P1, hP1⟩ : ∃ P1, varL sv.size ++ sv.data.toList = P1 := ⟨_, rfl⟩
  have hl1 : P1.length ≤ 10007 := by rw [← hP1, List.length_append]; omega
  rw [hP1] at HL
  have HP1 := Hid.intro hP1
  clear hl2 b2 hP1 hsl hvs hps
  have kx := HX.out
  go_wp2_with fail
  clear kx
  obtain ⟨Z, hZ, bZ, zZ, cZ, fZ⟩ := boxed w4 #[Value.int .i64 (tk : Nat), .int .i64 (A.length : Nat)] 3
  simp only [hZ]
  have hzU := BB.size
  replace HX := Hid.intro (keepC bZ (by omega) HX.out)
  replace HL := Hid.intro (bld_kept HL.out bZ)
  replace BB := BB.trans (bZ.mono hzU)
  clear hZ bZ fZ
  refine (vars2_any w4.heap.size Z tk A.length (by omega) (by omega) (by omega) cZ).mono ?_
  rintro e w5 ⟨rfl, b2⟩
  replace HX := Hid.intro (keepC b2 (by omega) HX.out)
  replace HL := Hid.intro (bld_kept HL.out b2)
  replace BB := BB.trans (b2.mono BB.size)
  clear b2 cZ zZ hzU
  have hvl : (varsL [tk, A.length]).length ≤ 14 := varsL_le [tk, A.length]
  go_wp2_with fail
  refine (bldWrite_any w1.heap.size w1.heap.size P1 ⟨(varsL [tk, A.length]).toArray⟩ _ HL.out (by rw [ba_size]; omega) BB.size).mono ?_
  rintro e w6 ⟨rfl, hl2, b2⟩
  replace HX := Hid.intro (keepC b2 (by omega) HX.out)
  replace BB := BB.trans b2
  obtain ⟨P, hP⟩ : ∃ P, P1 ++ varsL [tk, A.length] = P := ⟨_, rfl⟩
  have hPl : P.length ≤ 10021 := by rw [← hP, List.length_append]; omega
  replace HL : Hid (BldAt w1.heap.size w1.heap.size P w6) := by rw [ba_list, hP] at hl2; exact hl2
  have HP := Hid.intro hP
  have HBB := Hid.intro BB
  clear hl2 b2 hP hvl BB
  have kx := HX.out
  have HX1 : Hid (∀ w' : World, Below w1.heap.size w6 w' → ∀ o, w'.cell? ⟨w.heap.size, o, none⟩ = (#[.int .i64 nx, .slice ua L.length uc, .int .i64 (tk : Nat), .slice aa A.length ac, .slice sa Ss.length sc] : Array Value)[o]?) := fun w' hb => keepC hb (by omega) HX.out
  obtain ⟨a0, cap0, hsv2, hl, hm, hcells⟩ := ntE_cell (HRA.out.kept ((BW.trans (HBB.out.mono (by omega))).mono hN))
  simp only [Value.slice.injEq, true_and] at hsv2
  obtain ⟨rfl, rfl⟩ := hsv2
  have HC := Hid.intro hcells
  have HB6 : Hid (∀ w' : World, Below w1.heap.size w1 w' → Below w1.heap.size w6 w' → True) := fun _ _ _ => trivial
  clear hcells hl hm HB6
  go_wp2_with fail
  clear kx
  go_loopw [27] (fun i wr => ∃ j : Nat, i = .int .i64 j ∧ j ≤ A.length ∧ Hid (BldAt w1.heap.size w1.heap.size (P ++ notsL (A.take j)) wr) ∧ Hid (Below w1.heap.size w6 wr)) (fun i _ => A.length - (intOf i).toNat)
  case atStart => exact ⟨0, rfl, Nat.zero_le _, by unfold Hid; simpa [notsL] using HL.out, Below.refl _ _⟩
  case round =>
   obtain ⟨j, rfl, hj, HL, HB⟩ := hrel
   have hw6 : w1.heap.size ≤ w6.heap.size := HBB.out.size
   have hzr := HB.out.size
   by_cases hlt : j < A.length
   ·obtain ⟨b, off, hab, hbN, hcc⟩ := HC.out (fun h => by rw [h] at hlt; simp at hlt)
    subst hab
    obtain ⟨d0, d1, d2, d3, d4⟩ := hcc j hlt
    have hst := notsL_snoc A j hlt
    have hnb := HAB.out A[j] (List.getElem_mem hlt)
    have htk := notsL_le (A.take j)
    have htl : (A.take j).length ≤ 20 := by simp; omega
    generalize A[j] = x at d0 d1 d2 d3 d4 hst hnb
    obtain ⟨xi, xc, xs, xk, xd⟩ := x
    obtain ⟨⟨i0, i1⟩, ⟨c0, c1⟩, ⟨s0, s1⟩, ⟨k0, k1⟩, ⟨e0, e1⟩⟩ := hnb
    simp only at i0 i1 c0 c1 s0 s1 k0 k1 e0 e1 d0 d1 d2 d3 d4 hst
    obtain ⟨xi, rfl⟩ := Int.eq_ofNat_of_zero_le i0
    obtain ⟨xc, rfl⟩ := Int.eq_ofNat_of_zero_le c0
    obtain ⟨xs, rfl⟩ := Int.eq_ofNat_of_zero_le s0
    obtain ⟨xk, rfl⟩ := Int.eq_ofNat_of_zero_le k0
    obtain ⟨xd, rfl⟩ := Int.eq_ofNat_of_zero_le e0
    have hst2 : notsL (A.take j) ++ varsL [xi, xc, xs, xk, xd] = notsL (A.take (j + 1)) := by simpa [notL] using hst
    have HS := Hid.intro hst2
    replace d0 := atCell HB.out d0 (by omega)
    replace d1 := atCell HB.out d1 (by omega)
    replace d2 := atCell HB.out d2 (by omega)
    replace d3 := atCell HB.out d3 (by omega)
    replace d4 := atCell HB.out d4 (by omega)
    have hjl : (j : Int) < (A.length : Int) := by omega
    have i1' : (0 : Int) ≤ (j : Int) ∧ (j : Int) < (A.length : Int) := by omega
    clear hst hst2 hcc i0 c0 s0 k0 e0
    go_upto_region 9 with fail
    obtain ⟨Y, hY, bY, zY, cY, fY⟩ := boxed wr #[.int .i64 (xi : Nat), .int .i64 (xc : Nat), .int .i64 (xs : Nat), .int .i64 (xk : Nat), .int .i64 (xd : Nat)] 53
    simp only [hY]
    replace HL := Hid.intro (bld_kept HL.out bY)
    replace HB := Hid.intro (HB.out.trans (bY.mono (by omega)))
    clear hY bY fY d0 d1 d2 d3 d4
    go_wp2_with fail
    clear cY
    obtain ⟨Z, hZ, bZ, zZ, cZ, fZ⟩ := boxed Y #[.int .i64 (xi : Nat), .int .i64 (xc : Nat), .int .i64 (xs : Nat), .int .i64 (xk : Nat), .int .i64 (xd : Nat)] 3
    simp only [hZ]
    replace HL := Hid.intro (bld_kept HL.out bZ)
    replace HB := Hid.intro (HB.out.trans (bZ.mono (by omega)))
    clear hZ bZ fZ
    rw [zY] at cZ
    refine (vars5_any (wr.heap.size + 1) Z xi xc xs xk xd (by omega) (by omega) (by omega) (by omega) (by omega) (by omega) cZ).mono ?_
    rintro e y1 ⟨rfl, b2⟩
    replace HL := Hid.intro (bld_kept HL.out b2)
    replace HB := Hid.intro (HB.out.trans (b2.mono (by omega)))
    have hvl : (varsL [xi, xc, xs, xk, xd]).length ≤ 35 := varsL_le [xi, xc, xs, xk, xd]
    clear b2 cZ
    go_wp2_with fail
    refine (bldWrite_any w1.heap.size w1.heap.size _ ⟨(varsL [xi, xc, xs, xk, xd]).toArray⟩ _ HL.out (by rw [ba_size]; simp only [List.length_append]; omega) (by have := HB.out.size; omega)).mono ?_
    rintro e y2 ⟨rfl, hl2, b2⟩
    have HL2 : Hid (BldAt w1.heap.size w1.heap.size (P ++ notsL (A.take (j + 1))) y2) := by
     rw [ba_list, List.append_assoc, HS.out] at hl2
     exact hl2
    replace HB := Hid.intro (HB.out.trans b2)
    clear hl2 b2 HL HS hvl
    go_wp2
    go_roundw
    case rel => exact ⟨j + 1, by go_num, by omega, HL2, HB⟩
    case measure => simp [intOf]; omega
   ·have hlt' : ¬ (j : Int) < (A.length : Int) := by omega
    have e1 : A.take j = A := List.take_of_length_le (by omega)
    rw [e1] at HL
    have hnl := notsL_le A
    obtain ⟨P2, hP2⟩ : ∃ P2, P ++ notsL A = P2 := ⟨_, rfl⟩
    have hPl2 : P2.length ≤ 10021 + 700 := by rw [← hP2, List.length_append]; omega
    rw [hP2] at HL
    have HP2 := Hid.intro hP2
    have kx := HX1.out wr HB.out
    clear hP2 e1
    go_wp2_with fail
    clear kx
    refine (implVar_yes Ss.length _ (by omega)).mono ?_
    rintro e v1 ⟨rfl, b2⟩
    replace HL := Hid.intro (bld_kept HL.out b2)
    replace HB := Hid.intro (HB.out.trans (b2.mono (by omega)))
    clear b2
    have hvs := varS_le Ss.length
    go_wp2_with fail
    refine (bldWrite_any w1.heap.size w1.heap.size P2 (varS Ss.length) _ HL.out (by omega) (by have := HB.out.size; omega)).mono ?_
    rintro e v2 ⟨rfl, hl2, b2⟩
    replace HB := Hid.intro (HB.out.trans b2)
    rw [varS_list] at hl2
    obtain ⟨Q, hQ⟩ : ∃ Q, P2 ++ varL Ss.length = Q := ⟨_, rfl⟩
    have hvll := varL_le Ss.length
    have hQl : Q.length ≤ 10800 := by rw [← hQ, List.length_append]; omega
    replace HL : Hid (BldAt w1.heap.size w1.heap.size Q v2) := by rw [← hQ]; exact hl2
    have HQ := Hid.intro hQ
    clear hl2 b2 hQ hvs hvll
    have kx := HX1.out v2 HB.out
    obtain ⟨a0, cap0, hsv2, hl, hm, hcells⟩ := seE_cell (HRS.out.kept ((BW.trans ((HBB.out.trans HB.out).mono (by omega))).mono hN))
    simp only [Value.slice.injEq, true_and] at hsv2
    obtain ⟨rfl, rfl⟩ := hsv2
    have HC2 := Hid.intro hcells
    have hv2 : w1.heap.size ≤ v2.heap.size := by have := HB.out.size; omega
    clear hcells hl hm
    go_wp2_with fail
    clear kx
    go_loopw [53] (fun i wr => ∃ j : Nat, i = .int .i64 j ∧ j ≤ Ss.length ∧ Hid (BldAt w1.heap.size w1.heap.size (Q ++ sessL (Ss.take j)) wr) ∧ Hid (Below w1.heap.size v2 wr)) (fun i _ => Ss.length - (intOf i).toNat)
    case atStart => exact ⟨0, rfl, Nat.zero_le _, by unfold Hid; simpa [sessL] using HL.out, Below.refl _ _⟩
    case round =>
     obtain ⟨j, rfl, hj, HL, HB2⟩ := hrel
     have hzr2 := HB2.out.size
     by_cases hlt : j < Ss.length
     ·obtain ⟨b, off, hab, hbN, hcc⟩ := HC2.out (fun h => by rw [h] at hlt; simp at hlt)
      subst hab
      obtain ⟨d0, d1, d2, d3, d4⟩ := hcc j hlt
      have hst := sessL_snoc Ss j hlt
      have hnb := HSB.out Ss[j] (List.getElem_mem hlt)
      have htk := sessL_le (Ss.take j) (fun a ha => HSB.out a (List.mem_of_mem_take ha))
      have htl : (Ss.take j).length ≤ 3 := by simp; omega
      generalize Ss[j] = x at d0 d1 d2 d3 d4 hst hnb
      obtain ⟨xc, xs, xi, xr⟩ := x
      obtain ⟨⟨c0, c1⟩, ⟨s0, s1⟩, ⟨i0, i1⟩, hrp⟩ := hnb
      simp only at i0 i1 c0 c1 s0 s1 hrp d0 d1 d2 d3 d4 hst
      obtain ⟨xc, rfl⟩ := Int.eq_ofNat_of_zero_le c0
      obtain ⟨xs, rfl⟩ := Int.eq_ofNat_of_zero_le s0
      obtain ⟨xi, rfl⟩ := Int.eq_ofNat_of_zero_le i0
      have hrl := shR_le hrp
      have hrd := hrp.2
      have hst2 : sessL (Ss.take j) ++ (varsL [xc, xs, xi] ++ (varL (shR xr).size ++ (shR xr).data.toList)) = sessL (Ss.take (j + 1)) := by simpa [sesL] using hst
      have HS := Hid.intro hst2
      replace d0 := atCell HB2.out d0 (by omega)
      replace d1 := atCell HB2.out d1 (by omega)
      replace d2 := atCell HB2.out d2 (by omega)
      replace d3 := atCell HB2.out d3 (by omega)
      replace d4 := atCell HB2.out d4 (by omega)
      have hjl : (j : Int) < (Ss.length : Int) := by omega
      have i1' : (0 : Int) ≤ (j : Int) ∧ (j : Int) < (Ss.length : Int) := by omega
      clear hst hst2 hcc i0 c0 s0 hrp
      go_upto_region 15 with fail
      obtain ⟨Y, hY, bY, zY, cY, fY⟩ := boxed wr #[.int .i64 (xc : Nat), .int .i64 (xs : Nat), .int .i64 (xi : Nat), .int .i64 xr.c, .string xr.d] 59
      simp only [hY]
      have HY : Hid (Y.heap[wr.heap.size]? = some (.cells #[.int .i64 (xc : Nat), .int .i64 (xs : Nat), .int .i64 (xi : Nat), .int .i64 xr.c, .string xr.d] 59 (0, 0))) := by
       unfold Hid
       rw [← hY]
       exact heap_alloc_new wr _
      have hbl : w1.heap.size < wr.heap.size := by
       rcases HL.out with h | h <;> exact h.lt
      have hne : wr.heap.size ≠ w1.heap.size := by omega
      replace HL := Hid.intro (bld_kept HL.out bY)
      replace HB2 := Hid.intro (HB2.out.trans (bY.mono (by omega)))
      clear hY bY fY d0 d1 d2 d3 d4
      go_wp2_with fail
      obtain ⟨Z, hZ, bZ, zZ, cZ, fZ⟩ := boxed Y #[Value.int .i64 (xc : Nat), .int .i64 (xs : Nat), .int .i64 (xi : Nat)] 3
      simp only [hZ]
      replace HY := Hid.intro ((bZ.block _ (by omega)).trans HY.out)
      replace HL := Hid.intro (bld_kept HL.out bZ)
      replace HB2 := Hid.intro (HB2.out.trans (bZ.mono (by omega)))
      clear hZ bZ fZ cY
      rw [zY] at cZ
      refine (vars3_any (wr.heap.size + 1) Z xc xs xi (by omega) (by omega) (by omega) (by omega) cZ).mono ?_
      rintro e y1 ⟨rfl, b2⟩
      have z2 := b2.size
      replace HY := Hid.intro ((b2.block _ (by omega)).trans HY.out)
      replace HL := Hid.intro (bld_kept HL.out b2)
      replace HB2 := Hid.intro (HB2.out.trans (b2.mono (by omega)))
      have hvl : (varsL [xc, xs, xi]).length ≤ 21 := varsL_le [xc, xs, xi]
      clear b2 cZ
      go_wp2_with fail
      refine (bldWriteK_any w1.heap.size w1.heap.size _ ⟨(varsL [xc, xs, xi]).toArray⟩ _ HL.out (by rw [ba_size]; simp only [List.length_append]; omega) (by have := HB2.out.size; omega)).mono ?_
      rintro e y2 ⟨rfl, hl2, b2, hk8⟩
      replace HL := Hid.intro hl2
      replace HY := Hid.intro (hk8 _ _ _ _ hne (by decide) HY.out)
      have z3 := b2.size
      replace HB2 := Hid.intro (HB2.out.trans b2)
      clear hl2 b2 hk8
      have c3 : y2.cell? ⟨wr.heap.size, 3, none⟩ = some (.int .i64 xr.c) := by rw [Lib.cell_of_heap HY.out]; rfl
      have c4 : y2.cell? ⟨wr.heap.size, 4, none⟩ = some (.string xr.d) := by rw [Lib.cell_of_heap HY.out]; rfl
      clear HY
      go_wp2_with fail
      clear c3 c4
      refine (implShowResult_any xr _ (by omega)).mono ?_
      rintro e y3 ⟨rfl, b2⟩
      replace HL := Hid.intro (bld_kept HL.out b2)
      replace HB2 := Hid.intro (HB2.out.trans (b2.mono (by have := HB2.out.size; omega)))
      clear b2
      generalize shR xr = rr at HL HS hrl ⊢
      go_wp2_with fail
      refine (implPiece_any rr _ (by omega)).mono ?_
      rintro e y4 ⟨rfl, b2⟩
      replace HL := Hid.intro (bld_kept HL.out b2)
      replace HB2 := Hid.intro (HB2.out.trans (b2.mono (by have := HB2.out.size; omega)))
      clear b2
      have hpl := piece_le rr
      go_wp2_with fail
      refine (bldWrite_any w1.heap.size w1.heap.size _ (piece rr) _ HL.out (by simp only [List.length_append]; omega) (by have := HB2.out.size; omega)).mono ?_
      rintro e y5 ⟨rfl, hl2, b2⟩
      have HL2 : Hid (BldAt w1.heap.size w1.heap.size (Q ++ sessL (Ss.take (j + 1))) y5) := by
       rw [piece_toList, List.append_assoc, List.append_assoc, HS.out] at hl2
       exact hl2
      replace HB2 := Hid.intro (HB2.out.trans b2)
      clear hl2 b2 HL HS hvl hpl hrl
      go_wp2
      go_roundw
      case rel => exact ⟨j + 1, by go_num, by omega, HL2, HB2⟩
      case measure => simp [intOf]; omega
     ·have hlt' : ¬ (j : Int) < (Ss.length : Int) := by omega
      have e1 : Ss.take j = Ss := List.take_of_length_le (by omega)
      rw [e1] at HL
      have HBZ : Hid (Below w.heap.size w wr) := BW.trans ((HBB.out.trans (HB.out.trans HB2.out)).mono (by omega))
      have HE : Hid (Q ++ sessL Ss = ans) := by
       unfold Hid
       rw [HG.out, ← HQ.out, ← HP2.out, ← HP.out, ← HP1.out]
      rw [HE.out] at HL
      go_wp2_with fail
      refine (bldString_any w1.heap.size w1.heap.size ans _ HL.out (by omega)).mono ?_
      rintro e y ⟨rfl, b2⟩
      have B2 := HBZ.out.trans (b2.mono (by have := HBZ.out.size; omega))
      go_wp2
      go_ret
      exact ⟨rfl, B2⟩
end Go.Proofs.Ytegdogdlohoheaa
