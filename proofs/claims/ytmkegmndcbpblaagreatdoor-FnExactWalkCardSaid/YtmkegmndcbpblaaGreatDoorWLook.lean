/- The sentence's l6Look: where a name in a directory leads to. -/
import Derived.Test.YtmkegmndcbpblaaGreatDoorVSpecA
import Derived.Test.YtmkegmndcbpblaaGreatDoorVName
namespace Go.Proofs.YtmkegmndcbpblaaGreatDoor
open Go.RowKit
set_option linter.unusedVariables false
/-- Where a name leads to, of these names; 0 where there is none. -/
def lookL (l : List Di) (p : List UInt8) : Int := ((l.find? fun d => decide (d.nm.data.toList = p)).map Di.id).getD 0
theorem lookL_hit {l : List Di} {k : Nat} {p : List UInt8} (hk : k < l.length) (h : l[k].nm.data.toList = p) : lookL (l.drop k) p = l[k].id := by
 unfold lookL
 rw [List.drop_eq_getElem_cons hk, List.find?_cons_of_pos (by simpa using h)]
 rfl
theorem lookL_miss {l : List Di} {k : Nat} {p : List UInt8} (hk : k < l.length) (h : ¬ l[k].nm.data.toList = p) : lookL (l.drop k) p = lookL (l.drop (k + 1)) p := by
 unfold lookL
 rw [List.drop_eq_getElem_cons hk, List.find?_cons_of_neg (by simpa using h)]
theorem lookL_end (l : List Di) (p : List UInt8) : lookL (l.drop l.length) p = 0 := by rw [List.drop_length]; rfl
set_option maxRecDepth 100000 in
set_option maxHeartbeats 1000000 in
theorem l6Look_any (next : Int) (L : List Np) (u : Value) (N : Nat) (dir : Int) (name : ByteArray) (w : World) (hN : N ≤ w.heap.size) (hr : VolR w N u L) (x : Nat) (hx : atN (L.map Np.n) dir = some x) (hxl : x < L.length) :
  Calls Tryz.prog 37 #[volV next u, .int .i64 dir, .string name] w fun e w' => e = .returned (.int .i64 (lookL L[x].n.names name.data.toList)) ∧ Below w.heap.size w w' := by
 have hatI : atI (L.map Np.n) dir = x := atI_some hx
 obtain ⟨a, cap, hu, hl, hm, hcells⟩ := ndE_cell hr.row
 have HV := Hid.intro hr
 obtain ⟨b, off, ha, hbN, hcc⟩ := hcells (by intro h; rw [h] at hxl; simp at hxl)
 have hc := hcc x hxl
 have hrow := hr.nms _ (List.getElem_mem hxl)
 subst ha
 subst hu
 generalize L[x] = ex at hc hrow ⊢
 have hi1 : (0 : Int) ≤ (x : Int) ∧ (x : Int) < (L.length : Int) := by omega
 clear hcc hcells hr
 have HC := Hid.intro hc
 have HR := Hid.intro hrow
 clear hc hrow
 obtain ⟨ans, hans⟩ : ∃ ans, lookL ex.n.names name.data.toList = ans := ⟨_, rfl⟩
 rw [hans]
 have HA0 := Hid.intro hans
 clear hans
 go_enter Tryz.func37, Tryz.ntmps37
 go_wp2_with fail
 obtain ⟨W, hW, bW, zW, cW, fW⟩ := boxed w #[.int .i64 next, .slice (some ⟨b, off, none⟩) L.length cap] 35
 try simp only [hW]
 obtain ⟨LN, hLN⟩ : ∃ LN, L.map Np.n = LN := ⟨_, rfl⟩
 have HAT : Hid (∀ (y : World), N ≤ y.heap.size → VolR y N (.slice (some ⟨b, off, none⟩) L.length cap) L → Calls Tryz.prog 35 #[volV next (.slice (some ⟨b, off, none⟩) L.length cap), .int .i64 dir] y fun e w' => e = .returned (.int .i64 (x : Nat)) ∧ Below y.heap.size y w') := fun y h1 h2 => by
  rw [← hatI]
  exact l4At_any next L _ N dir y h1 h2
 obtain ⟨a2, cap2, hv2, l2, m2, hdc⟩ := diE_cell HR.out
 have HVK : Hid (∀ y, Below W.heap.size W y → N ≤ y.heap.size ∧ VolR y N (.slice (some ⟨b, off, none⟩) L.length cap) L ∧ (∀ o, y.cell? ⟨w.heap.size, o, none⟩ = #[.int .i64 next, .slice (some ⟨b, off, none⟩) L.length cap][o]?) ∧ y.cell? ⟨b, off + x * 9 + 6, none⟩ = some (.slice a2 ex.n.names.length cap2) ∧ Below w.heap.size w y) := fun y hy => by
  have hz := hy.size
  have h1 := bW.trans (hy.mono (by omega))
  exact ⟨by omega, HV.out.kept (h1.mono hN), keepC hy (by omega) cW, by rw [← hv2]; exact (HC.out.kept h1 (by omega)).c6, h1⟩
 have HD := Hid.intro hdc
 have HNN := Hid.intro hN
 have c0 : W.cell? ⟨w.heap.size, 0, none⟩ = some (.int .i64 next) := cW 0
 have c1 : W.cell? ⟨w.heap.size, 1, none⟩ = some (.slice (some ⟨b, off, none⟩) L.length cap) := cW 1
 clear hW fW cW HV HC HR hx hatI hv2 hdc hLN
 generalize ex.n.names = nn at HVK HD l2 HA0
 go_region_with (go_at_call 35; refine (HAT.out _ (by first | exact (HVK.out _ (Below.refl _ _)).1 | exact (HVK.out _ (Below.refl _ _).drew).1 | exact (HVK.out _ (Below.refl _ _).drew.drew).1) (by first | exact (HVK.out _ (Below.refl _ _)).2.1 | exact (HVK.out _ (Below.refl _ _).drew).2.1 | exact (HVK.out _ (Below.refl _ _).drew.drew).2.1)).mono ?_; rintro e w5 ⟨rfl, b5⟩; have B5 := Hid.intro (HVK.out w5 (by first | exact b5 | exact ((Below.refl _ _).drew).trans b5 | exact ((Below.refl _ _).drew.drew).trans b5)); clear b5; have k0 := B5.out.2.2.1 0; have k1 := B5.out.2.2.1 1; have k6 := B5.out.2.2.2.1; simp at k0 k1)
 all_goals
  have HB := Hid.intro B5.out.2.2.2.2
  clear HVK c0 c1 k0 k1 k6 B5 HAT
  have HA : Hid (lookL (nn.drop 0) name.data.toList = ans) := HA0.out
  clear HA0
  go_wp2_with fail
  go_loopw [8] (fun i wr => ∃ (k : Nat), i = .int .i64 k ∧ k ≤ nn.length ∧ Hid (lookL (nn.drop k) name.data.toList = ans) ∧ w5 = wr) (fun i _ => nn.length - (intOf i).toNat)
  case atStart => exact ⟨0, rfl, Nat.zero_le _, HA, rfl⟩
  case round =>
   clear HA
   obtain ⟨k, rfl, hk, HA, rfl⟩ := hrel
   by_cases hkt : k < nn.length
   ·obtain ⟨b2, o2, rfl, hb2, hdd⟩ := HD.out (by intro h; rw [h] at hkt; simp at hkt)
    obtain ⟨d0, d1⟩ := hdd k hkt
    have hyes := @lookL_hit nn k name.data.toList hkt
    have hst := @lookL_miss nn k name.data.toList hkt
    replace d0 := atCell HB.out d0 (by have := HNN.out; omega)
    replace d1 := atCell HB.out d1 (by have := HNN.out; omega)
    generalize nn[k] = ek at d0 d1 hyes hst
    have hkl : (k : Int) < (nn.length : Int) := by omega
    have hk1 : (0 : Int) ≤ (k : Int) ∧ (k : Int) < (nn.length : Int) := by omega
    by_cases he : ek.nm.data.toList = name.data.toList
    ·have n1 : (ek.nm.toList == name.toList) = true := by rw [toList_data, toList_data, he]; exact beq_self_eq_true _
     have HE : Hid (ek.id = ans) := (hyes he).symm.trans HA.out
     clear he hyes hst hdd
     go_wp2_with fail
     go_ret
     exact ⟨by rw [HE.out]; rfl, HB.out⟩
    ·have n1 : (ek.nm.toList == name.toList) = false := by rw [toList_data, toList_data, beq_eq_false_iff_ne]; exact he
     have HE : Hid (lookL (nn.drop (k + 1)) name.data.toList = ans) := (hst he).symm.trans HA.out
     clear he hyes hst hdd
     go_wp2_with fail
     go_roundw
     case rel => exact ⟨k + 1, by go_num, by omega, HE, by first | rfl | trivial⟩
     case measure => simp [intOf]; omega
   ·obtain rfl : k = nn.length := by omega
    have HE : Hid (ans = 0) := by have h := HA.out; rw [lookL_end] at h; exact h.symm
    go_wp2_with fail
    go_ret
    exact ⟨by rw [HE.out]; rfl, HB.out⟩
end Go.Proofs.YtmkegmndcbpblaaGreatDoor
