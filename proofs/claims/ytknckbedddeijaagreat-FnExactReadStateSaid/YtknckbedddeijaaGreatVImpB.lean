/- The program's tree of a volume: a directory by its number, where names lead. -/
import Derived.Test.YtknckbedddeijaaGreatVImpA
namespace Go.Proofs.YtknckbedddeijaaGreat
open Go.RowKit
set_option linter.unusedVariables false
def allT (L : List Nd) : List Bool := List.replicate L.length true
theorem isT_all {L : List Nd} {x : Nat} : isT (allT L) x ↔ x < L.length := by
 unfold isT allT
 rw [List.getElem?_replicate]
 split <;> simp_all
theorem FS_all (L : List Nd) (id : Int) : FS L (allT L) id = atN L id := by
 unfold FS
 cases h : atN L id with
 | none => rfl
 | some x =>
  simp only [Option.bind_some]
  rw [if_pos (isT_all.2 (atN_lt h))]
/-- The inodes in memory below N, and the map of them all in block tb. -/
structure TC (w : World) (tb b off N : Nat) (L : List Np) : Prop where
 map : TM w tb b off (FS (L.map Np.n) (allT (L.map Np.n))) L.length L.length
 at_ : ∀ j (h : j < L.length), NdAt w b (off + j * 9) L[j].n L[j].v
 nms : ∀ p ∈ L, Row diE w N p.v p.n.names
 bN : b < N
 NT : N ≤ tb
theorem TC.lt {w : World} {tb b off N : Nat} {L : List Np} (h : TC w tb b off N L) : tb < w.heap.size := h.map.lt
theorem TC.kept {w w' : World} {tb b off N M : Nat} {L : List Np} (h : TC w tb b off N L) (hb : Below M w w') (hM : tb < M) : TC w' tb b off N L :=
 ⟨h.map.below hb hM, fun j hj => (h.at_ j hj).kept hb (by have := h.bN; have := h.NT; omega), fun p hp => (h.nms p hp).kept (hb.mono (by have := h.NT; omega)), h.bN, h.NT⟩
theorem TC.look {w : World} {tb b off N : Nat} {L : List Np} (h : TC w tb b off N L) {id : Int} (hw : (Lit.int .i64 id).wf = true) : (Instr.lookup 109 (.map (some tb)) (.int .i64 id) false).run Tryz.prog w = .ok (ptrO b off (atN (L.map Np.n) id)) w := by
 have := h.map.look hw
 rw [FS_all] at this
 exact this
/-- The directory of that number. -/
def dirO (L : List Nd) (id : Int) : Option Nat := (atN L id).bind fun x => if ((L[x]?.map Nd.kind).getD 0) = 2 then some x else none
theorem dirO_none {L : List Nd} {id : Int} (h : atN L id = none) : dirO L id = none := by simp [dirO, h]
theorem dirO_some {L : List Nd} {id : Int} {x : Nat} {n : Nd} (h : atN L id = some x) (hn : L[x]? = some n) : dirO L id = if n.kind = 2 then some x else none := by simp [dirO, h, hn]
theorem map_get {L : List Np} {x : Nat} (h : x < L.length) : (L.map Np.n)[x]? = some L[x].n := by simp [List.getElem?_eq_getElem h]
set_option maxHeartbeats 2000000 in
theorem dir_any (L : List Np) (tb b off N : Nat) (id : Int) (w : World) (h : TC w tb b off N L) (hw : (Lit.int .i64 id).wf = true) :
  Calls Tryz.prog 92 #[.map (some tb), .int .i64 id] w fun e w' => e = .returned (ptrO b off (dirO (L.map Np.n) id)) ∧ w = w' := by
 have hl := h.look hw
 cases ha : atN (L.map Np.n) id with
 | none =>
  rw [ha] at hl
  have HD := Hid.intro (dirO_none ha)
  simp only [ptrO] at hl
  clear h ha
  go_enter Tryz.func92, Tryz.ntmps92
  go_wp2
  go_ret
  exact ⟨by rw [HD.out]; rfl, rfl⟩
 | some x =>
  rw [ha] at hl
  have hx : x < L.length := by have := atN_lt ha; simpa using this
  have hd := dirO_some ha (map_get hx)
  have hc := h.at_ x hx
  generalize L[x] = p at hc hd
  have g1 := hc.c1
  simp only [ptrO] at hl
  clear h ha hc
  by_cases hk : p.n.kind = 2
  ·have k2 : (p.n.kind == 2) = true := by simpa using hk
   rw [if_pos hk] at hd
   have HD := Hid.intro hd
   clear hd hk
   go_enter Tryz.func92, Tryz.ntmps92
   go_wp2
   go_ret
   exact ⟨by rw [HD.out]; rfl, rfl⟩
  ·have k2 : (p.n.kind == 2) = false := by simpa using hk
   rw [if_neg hk] at hd
   have HD := Hid.intro hd
   clear hd hk
   go_enter Tryz.func92, Tryz.ntmps92
   go_wp2
   go_ret
   exact ⟨by rw [HD.out]; rfl, rfl⟩
/-! The order of texts. -/
theorem less_tri : ∀ a b : List UInt8, (Op.bytesLess a b || a == b) = !Op.bytesLess b a
 | [], [] => by simp [Op.bytesLess]
 | [], b :: y => by simp [Op.bytesLess]
 | a :: x, [] => by simp [Op.bytesLess]
 | a :: x, b :: y => by
  have ih := less_tri x y
  simp only [Op.bytesLess]
  by_cases h1 : a < b
  ·have h2 : ¬ b < a := fun h => by rw [UInt8.lt_iff_toNat_lt] at h1 h; omega
   have h3 : ¬ b = a := fun h => by subst h; exact h2 h1
   simp [h1, h2, h3]
  ·by_cases h2 : b < a
   ·have h3 : ¬ b = a := fun h => by subst h; exact h1 h2
    have h4 : ¬ a = b := fun h => h3 h.symm
    simp [h1, h2, h4]
   ·have h3 : a = b := by
     apply UInt8.toNat_inj.1
     rw [UInt8.lt_iff_toNat_lt] at h1 h2
     omega
    subst h3
    simp only [h1, decide_false, Bool.false_or, beq_self_eq_true, Bool.true_and]
    rw [← ih]
    simp
theorem leq_ltS (a b : ByteArray) : (Op.bytesLess a.toList b.toList || a.toList == b.toList) = !ltS b a := less_tri _ _
theorem ltS_empty {a : ByteArray} (h : nameB a.data.toList = true) : ltS ⟨#[]⟩ a = true := by
 have h1 : 1 ≤ a.data.toList.length := by
  simp only [nameB, Bool.and_eq_true, decide_eq_true_eq] at h
  exact h.1.1.1.1
 unfold ltS
 rw [toList_data, toList_data]
 cases hl : a.data.toList with
 | nil => rw [hl] at h1; simp at h1
 | cons c l => rfl
/-- The text ahead of place j. -/
def aheadT (l : List Di) (j : Nat) : ByteArray := (aheadN l j).getD ⟨#[]⟩
theorem ahead_lt {l : List Di} {j : Nat} {a : ByteArray} (h : nameB a.data.toList = true) : ltS (aheadT l j) a = ((aheadN l j).map fun q => ltS q a).getD true := by
 unfold aheadT
 cases aheadN l j with
 | none => exact ltS_empty h
 | some q => rfl
/-- The numbers that names lead to are numbers. -/
def IdW (l : List Di) : Prop := ∀ e ∈ l, (Lit.int .i64 e.id).wf = true
set_option maxRecDepth 100000 in
set_option maxHeartbeats 4000000 in
theorem lead_any (L : List Np) (tb b off N : Nat) (nn : List Di) (v : Value) (w : World) (h : TC w tb b off N L) (hr : Row diE w N v nn) (hi : IdW nn) (hz : ∀ e ∈ nn, e.nm.size ≤ 9223372036854775807) :
  Calls Tryz.prog 91 #[.map (some tb), v] w fun e w' => e = .returned (.bool (nmsB (L.map Np.n) none nn)) ∧ Below w.heap.size w w' := by
 have HT := Hid.intro h
 have HI := Hid.intro hi
 have HZ := Hid.intro hz
 obtain ⟨a2, cap2, rfl, l2, m2, hdc⟩ := diE_cell hr
 have HD := Hid.intro hdc
 obtain ⟨LN, hLN⟩ : ∃ LN, L.map Np.n = LN := ⟨_, rfl⟩
 rw [hLN]
 have HLN := Hid.intro hLN
 have htl := h.lt
 have hbN := h.bN
 have hNT := h.NT
 clear h hr hi hz hdc hLN
 go_enter Tryz.func91, Tryz.ntmps91
 go_wp2_with fail
 go_loopw [5, 10] (fun q i wr => ∃ (j : Nat), i = .int .i64 j ∧ q = .string (aheadT nn j) ∧ j ≤ nn.length ∧ Hid (nmsB LN none nn = nmsB LN (aheadN nn j) (nn.drop j)) ∧ Hid (Below w.heap.size w wr)) (fun _ i _ => nn.length - (intOf i).toNat)
 case atStart => exact ⟨0, rfl, rfl, Nat.zero_le _, rfl, Below.refl _ _⟩
 case round =>
  obtain ⟨j, rfl, rfl, hj, HJ, HB⟩ := hrel
  have hzr := HB.out.size
  by_cases hlt : j < nn.length
  ·obtain ⟨b2, o2, rfl, hb2, hdd⟩ := HD.out (by intro h; rw [h] at hlt; simp at hlt)
   obtain ⟨d0, d1⟩ := hdd j hlt
   have hes := HZ.out _ (List.getElem_mem hlt)
   have hiw := HI.out _ (List.getElem_mem hlt)
   have hst := nmsB_drop (L := LN) hlt
   have hah := aheadN_succ hlt
   generalize nn[j] = e at d0 d1 hst hes hiw hah
   replace d0 := atCell HB.out d0 (by omega)
   replace d1 := atCell HB.out d1 (by omega)
   have hjl : (j : Int) < (nn.length : Int) := by omega
   have i1 : (0 : Int) ≤ (j : Int) ∧ (j : Int) < (nn.length : Int) := by omega
   have HST := Hid.intro hst
   have HES := Hid.intro hes
   have HAT : Hid (aheadT nn (j + 1) = e.nm) := by unfold Hid aheadT; rw [hah]; rfl
   clear hst hes hdd hah
   go_upto_region 5 with fail
   obtain ⟨X, hX, bX, zX, cX, fX⟩ := boxed wr #[.string e.nm, .int .i64 e.id] 102
   simp only [hX]
   have HBX : Hid (Below w.heap.size w X) := HB.out.trans (bX.mono hzr)
   have hlk := (HT.out.kept HBX.out htl).look hiw
   rw [HLN.out] at hlk
   clear hX fX d0 d1 bX
   cases hnm : nameB e.nm.data.toList with
   | false =>
    have HFF : Hid (nmsB LN none nn = false) := by unfold Hid; rw [HJ.out, HST.out, hnm]; rfl
    go_wp2_with (go_at_call 101; refine (implNameOk_any _ _ HES.out).mono ?_; rintro e9 w9 ⟨rfl, rfl⟩; simp only [hnm])
    go_ret
    exact ⟨ret_bool HFF.out.symm, HBX.out⟩
   | true =>
    have hal := @ahead_lt nn j e.nm hnm
    cases hlt2 : ltS (aheadT nn j) e.nm with
    | false =>
     have hle : (Op.bytesLess e.nm.toList (aheadT nn j).toList || e.nm.toList == (aheadT nn j).toList) = true := by rw [leq_ltS, hlt2]; rfl
     have HFF : Hid (nmsB LN none nn = false) := by unfold Hid; rw [HJ.out, HST.out, ← hal, hlt2]; simp
     go_wp2_with (go_at_call 101; refine (implNameOk_any _ _ HES.out).mono ?_; rintro e9 w9 ⟨rfl, rfl⟩; simp only [hnm])
     go_ret
     exact ⟨ret_bool HFF.out.symm, HBX.out⟩
    | true =>
     have hle : (Op.bytesLess e.nm.toList (aheadT nn j).toList || e.nm.toList == (aheadT nn j).toList) = false := by rw [leq_ltS, hlt2]; rfl
     by_cases hi1 : e.id = 1
     ·have hid : (e.id == 1) = true := by simpa using hi1
      have HFF : Hid (nmsB LN none nn = false) := by unfold Hid; rw [HJ.out, HST.out, hi1]; simp
      clear hi1
      go_wp2_with (go_at_call 101; refine (implNameOk_any _ _ HES.out).mono ?_; rintro e9 w9 ⟨rfl, rfl⟩; simp only [hnm])
      go_ret
      exact ⟨ret_bool HFF.out.symm, HBX.out⟩
     ·have hid : (e.id == 1) = false := by simpa using hi1
      cases hax : atN LN e.id with
      | none =>
       have HFF : Hid (nmsB LN none nn = false) := by unfold Hid; rw [HJ.out, HST.out, hax]; simp
       rw [hax] at hlk
       simp only [ptrO] at hlk
       clear hi1
       go_wp2_with (go_at_call 101; refine (implNameOk_any _ _ HES.out).mono ?_; rintro e9 w9 ⟨rfl, rfl⟩; simp only [hnm])
       go_ret
       exact ⟨ret_bool HFF.out.symm, HBX.out⟩
      | some x =>
       have HFF : Hid (nmsB LN none nn = nmsB LN (aheadN nn (j + 1)) (nn.drop (j + 1))) := by unfold Hid; rw [HJ.out, HST.out, ← hal, hlt2, hnm, hax, decide_eq_false hi1]; rfl
       rw [hax] at hlk
       simp only [ptrO] at hlk
       clear hi1
       go_wp2_with (go_at_call 101; refine (implNameOk_any _ _ HES.out).mono ?_; rintro e9 w9 ⟨rfl, rfl⟩; simp only [hnm])
       go_roundw
       case rel => exact ⟨j + 1, by go_num, by rw [HAT.out], by omega, HFF, HBX⟩
       case measure => simp [intOf]; omega
  ·obtain rfl : j = nn.length := by omega
   have hj2 := HJ.out
   rw [List.drop_length, nmsB] at hj2
   have HJ2 := Hid.intro hj2
   clear hj2
   go_wp2
   go_ret
   exact ⟨ret_bool HJ2.out.symm, HB.out⟩
end Go.Proofs.YtknckbedddeijaaGreat
