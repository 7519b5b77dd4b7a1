/- Changes of the program. -/
import Derived.Test.YtkilepoimocoeaaChT
import Derived.Test.YtkilepoimocoeaaChA
import Derived.Test.YtkilepoimocoeaaLeafC
import Derived.Deep.CutRange
namespace Go.Proofs.Ytkilepoimocoeaa
open Go.RowKit
set_option linter.unusedVariables false
def kC (K : Kp) (v : Value) : Array Value := #[.int .i64 K.t, .int .i64 K.v, .int .i64 K.si, .int .i64 K.st, .string K.sd, v]
/-- What Changes leaves. -/
def ChP (A B : Kp) (w : World) (e : Ending) (w' : World) : Prop := ∃ v, e = .returned (.tuple #[v, .bool (chB A B)]) ∧ OwnR w' w.heap.size v (chR A B) ∧ Below w.heap.size w w'
/-- Where the way stands. -/
def ChS (A : Kp) (X : World) (kb base : Nat) (l : List Rc) (y : World) : Prop := ∃ K v u f, TRW y kb base K v l u f ∧ Tr A l K f ∧ Below base X y
theorem chR_no {A B : Kp} (h : chB A B = false) : chR A B = [] := by simp [chR, h]
theorem chB_no1 {A B : Kp} (h : keptB A = false) : chB A B = false := by simp [chB, h]
theorem chB_no2 {A B : Kp} (h : keptB B = false) : chB A B = false := by simp [chB, h]
theorem dropE {w : World} {N s cb : Nat} {ab : Option Addr} {E : List En} (h : RowE w N (.slice ab E.length cb) E) (hs : s ≤ E.length) : RowE w N (.slice (Option.map (fun x => x.add (s * 2)) ab) (E.length - s) (cb - s)) (E.drop s) := by
  obtain ⟨a, c, he, h1, h2, h3⟩ := id h
  simp only [Value.slice.injEq, true_and] at he
  obtain ⟨rfl, rfl⟩ := he
  by_cases h0 : s = E.length
  · have hd : E.drop s = [] := List.drop_eq_nil_of_le (by omega)
    rw [hd, h0, Nat.sub_self]
    exact ⟨_, _, rfl, Nat.zero_le _, by omega, fun h => absurd rfl h⟩
  · obtain ⟨b, off, rfl, hb, _⟩ := h3 (by rintro rfl; simp at hs h0; omega)
    have ha : (⟨b, off, none⟩ : Addr).add (s * 2) = ⟨b, off + s * 2, none⟩ := by unfold Addr.add; split <;> simp_all
    simp only [Option.map_some, ha]
    exact h.drop hs
set_option maxRecDepth 100000 in
set_option maxHeartbeats 8000000 in
theorem implChanges_any (A B : Kp) (va vb : Value) (N : Nat) (w : World) (hN : N ≤ w.heap.size) (ha : RowE w N va A.e) (hb : RowE w N vb B.e) :
    Calls Try.prog 21 #[kpV A va, kpV B vb] w fun e w' => ChP A B w e w' := by
  have HA := Hid.intro ha
  have HBR := Hid.intro hb
  obtain ⟨aa, ca, rfl, -, -, -⟩ := ha
  obtain ⟨ab, cb, rfl, lb, mb, -⟩ := hb
  go_enter Try.func21, Try.ntmps21
  go_wp2_with fail
  obtain ⟨W, hW, bW, zW, c1, f1, c2, f2⟩ := boxed2 w #[.int .i64 A.t, .int .i64 A.v, .int .i64 A.si, .int .i64 A.st, .string A.sd, .slice aa A.e.length ca] #[.int .i64 B.t, .int .i64 B.v, .int .i64 B.si, .int .i64 B.st, .string B.sd, .slice ab B.e.length cb] 28 28
  try simp only [hW]
  refine (keptOk_any A _ N W (by omega) (HA.out.kept (bW.mono hN))).mono ?_
  rintro e w1 ⟨rfl, b1⟩
  replace c1 := keepC b1 (by omega) c1
  replace c2 := keepC b1 (by omega) c2
  have HB := Hid.intro (bW.trans (b1.mono (by omega)))
  have z1 : w.heap.size + 1 < w1.heap.size := by have := b1.size; omega
  clear hW bW zW f1 f2 b1
  cases hka : keptB A with
  | false =>
    go_wp2
    go_ret2
    exact ⟨.slice none 0 0, by rw [chB_no1 hka]; rfl, by rw [chR_no (chB_no1 hka)]; exact OwnR.nil _ _, HB.out⟩
  | true =>
    go_wp2_with fail
    refine (keptOk_any B _ N w1 (by omega) (HBR.out.kept (HB.out.mono hN))).mono ?_
    rintro e w2 ⟨rfl, b2⟩
    replace c1 := keepC b2 (by omega) c1
    replace c2 := keepC b2 (by omega) c2
    replace HB := Hid.intro (HB.out.trans (b2.mono HB.out.size))
    have z2 : w.heap.size + 1 < w2.heap.size := by have := b2.size; omega
    clear b2
    cases hkb : keptB B with
    | false =>
      go_wp2
      go_ret2
      exact ⟨.slice none 0 0, by rw [chB_no2 hkb]; rfl, by rw [chR_no (chB_no2 hkb)]; exact OwnR.nil _ _, HB.out⟩
    | true =>
      have hsa := Sm.of hka
      have hsb := Sm.of hkb
      have hla := hsa.2.2
      have hlb := hsb.2.2
      have hb1 := hsb.1
      have hb2 := hsb.2.1
      have HSA := Hid.intro hsa
      clear hsa hsb
      go_wp2_with fail
      refine (copied_any A _ N w2 (by omega) (HA.out.kept (HB.out.mono hN)) (by omega)).mono ?_
      rintro e w3 ⟨v3, rfl, o3, b3⟩
      obtain ⟨a3, k3, rfl⟩ := o3.slice
      replace c1 := keepC b3 (by omega) c1
      replace c2 := keepC b3 (by omega) c2
      replace HB := Hid.intro (HB.out.trans (b3.mono HB.out.size))
      have z3 : w2.heap.size ≤ w3.heap.size := b3.size
      have HO3 := Hid.intro o3
      clear b3 o3
      go_upto_region 4 with fail
      obtain ⟨X, hX, bX, zX, cX, fX⟩ := boxed w3 #[.int .i64 A.t, .int .i64 A.v, .int .i64 A.si, .int .i64 A.st, .string A.sd, .slice a3 A.e.length k3, .slice none 0 0, .bool true] 86
      try simp only [hX]
      have HT : Hid (TRW X w3.heap.size w2.heap.size A (.slice a3 A.e.length k3) [] (.slice none 0 0) true) :=
        ⟨⟨⟨by omega, by rw [cX]; rfl, by rw [cX]; rfl, by rw [cX]; rfl, by rw [cX]; rfl, by rw [cX]; rfl, by rw [cX]; rfl, fX⟩, HO3.out.kept bX, fun k hk e => by have := (HO3.out.lt k hk).2; omega⟩, by rw [cX]; rfl, by rw [cX]; rfl, OwnR.nil _ _, fun k hk => by cases hk⟩
      have HTR : Hid (Tr A [] A true) := Tr.zero HSA.out
      replace c1 := keepC bX (by omega) c1
      replace c2 := keepC bX (by omega) c2
      replace HB := Hid.intro (HB.out.trans (bX.mono HB.out.size))
      have zb : w2.heap.size ≤ X.heap.size := by omega
      have hkb3 : w2.heap.size ≤ w3.heap.size := z3
      clear hX bX cX fX HO3 HSA
      generalize w3.heap.size = kb at *
      generalize w2.heap.size = base at *
      have HC1 : Hid (∀ y, Below base X y → (∀ o, y.cell? ⟨w.heap.size, o, none⟩ = #[.int .i64 A.t, .int .i64 A.v, .int .i64 A.si, .int .i64 A.st, .string A.sd, .slice aa A.e.length ca][o]?) ∧ (∀ o, y.cell? ⟨w.heap.size + 1, o, none⟩ = #[.int .i64 B.t, .int .i64 B.v, .int .i64 B.si, .int .i64 B.st, .string B.sd, .slice ab B.e.length cb][o]?)) := fun y hy => ⟨keepC hy (by omega) c1, keepC hy (by omega) c2⟩
      go_cut [33] from 11 (fun s wc => s = .bool (hardD A B) ∧ X = wc)
      case first =>
        by_cases ht : A.t = B.t
        · have n1 : (A.t == B.t) = true := by simpa using ht
          have n1' : (A.t != B.t) = false := by simp [ht]
          by_cases hv : A.v = B.v
          · have n2 : (A.v == B.v) = true := by simpa using hv
            have n2' : (A.v != B.v) = false := by simp [hv]
            have hd : hardD A B = false := by simp [hardD, ht, hv]
            have HD := Hid.intro hd
            clear ht hv hd
            go_wp2_with fail
            go_meet
            case rel => exact ⟨by rw [HD.out], by first | rfl | trivial⟩
          · have n2 : (A.v == B.v) = false := by simpa using hv
            have n2' : (A.v != B.v) = true := by simpa using hv
            have hd : hardD A B = true := by simp [hardD, hv]
            have HD := Hid.intro hd
            clear ht hv hd
            go_wp2_with fail
            go_meet
            case rel => exact ⟨by rw [HD.out], by first | rfl | trivial⟩
        · have n1 : (A.t == B.t) = false := by simpa using ht
          have n1' : (A.t != B.t) = true := by simpa using ht
          have hd : hardD A B = true := by simp [hardD, ht]
          have HD := Hid.intro hd
          clear ht hd
          go_wp2_with fail
          go_meet
          case rel => exact ⟨by rw [HD.out], by first | rfl | trivial⟩
      case rest =>
      obtain ⟨rfl, hwx⟩ := hcut
      subst hwx
      go_upto_if 33 with fail
      go_cut [] from 11 (fun wc => ChS A X kb base (hardL A B) wc)
      case first =>
        cases hd : hardD A B with
        | true =>
          go_wp2_with fail
          refine (add_hard B.t B.v A _ kb base [] _ true X zb hkb3 HT.out HTR.out.sm (by simp)).mono ?_
          rintro e w4 ⟨x4, v4, u4, rfl, t4, b4⟩
          have HQ : Hid (ChS A X kb base (hardL A B) w4) := ⟨_, v4, u4, _, by have := t4; simp only [List.nil_append] at this; rw [hardL, if_pos hd]; exact this, by have := HTR.out.add ⟨1, B.t, 0, B.v, ⟨#[]⟩⟩; rw [hardL, if_pos hd]; exact this, b4⟩
          clear t4 b4
          go_wp2_with fail
          go_meet
          case rel => exact HQ.out
        | false =>
          have HQ : Hid (ChS A X kb base (hardL A B) X) := ⟨_, _, _, _, by rw [hardL, if_neg (by simp [hd])]; exact HT.out, by rw [hardL, if_neg (by simp [hd])]; exact HTR.out, Below.refl _ _⟩
          go_wp2_with fail
          go_meet
          case rel => exact HQ.out
      case rest =>
      obtain ⟨y1, hy1⟩ : ∃ y, y = wc := ⟨_, rfl⟩
      subst hy1
      obtain ⟨K1, v1, u1, f1, t1, r1, b1⟩ := hcut
      replace HT := Hid.intro t1
      replace HTR := Hid.intro r1
      have HBX := Hid.intro b1
      have hl1 : (hardL A B).length ≤ 1 := by unfold hardL; split <;> simp
      obtain ⟨d1, d2⟩ := HC1.out y1 b1
      have zy1 : base ≤ y1.heap.size := Nat.le_trans zb b1.size
      clear t1 r1 b1 c1 c2
      generalize hL1 : hardL A B = l1 at *
      go_upto_region 6 with fail
      go_cut [45] from 11 (fun s wc => s = .bool (snapD A B) ∧ y1 = wc)
      case first =>
        by_cases hi : A.si = B.si
        · have n1 : (A.si == B.si) = true := by simpa using hi
          by_cases ht : A.st = B.st
          · have n2 : (A.st == B.st) = true := by simpa using ht
            by_cases hd : A.sd = B.sd
            · have HD : Hid (snapD A B = false) := by unfold Hid; simp [snapD, hi, ht, hd]
              clear n1 n2
              obtain ⟨At, Av, Asi, Ast, Asd, Ae⟩ := A
              obtain ⟨Bt, Bv, Bsi, Bst, Bsd, Be⟩ := B
              simp only at hi ht hd d1 d2 ⊢
              subst hi ht hd
              go_wp2_with fail
              go_meet
              case rel => exact ⟨by rw [HD.out], by first | rfl | trivial⟩
            · have HD : Hid (snapD A B = true) := by unfold Hid; simp [snapD, hd]
              have n3 : ¬ A.sd.toList = B.sd.toList := fun h => hd (bytes_eq9 h)
              have n4 : (A.sd.toList == B.sd.toList) = false := by simpa using n3
              clear hd
              go_wp2_with fail
              go_meet
              case rel => exact ⟨by rw [HD.out], by first | rfl | trivial⟩
          · have n2 : (A.st == B.st) = false := by simpa using ht
            have HD : Hid (snapD A B = true) := by unfold Hid; simp [snapD, ht]
            go_wp2_with fail
            go_meet
            case rel => exact ⟨by rw [HD.out], by first | rfl | trivial⟩
        · have n1 : (A.si == B.si) = false := by simpa using hi
          have HD : Hid (snapD A B = true) := by unfold Hid; simp [snapD, hi]
          go_wp2_with fail
          go_meet
          case rel => exact ⟨by rw [HD.out], by first | rfl | trivial⟩
      case rest =>
      obtain ⟨rfl, hwx⟩ := hcut
      subst hwx
      go_upto_if 45 with fail
      go_cut [] from 11 (fun wc => ChS A X kb base (headL A B) wc)
      case first =>
        cases hd : snapD A B with
        | true =>
          go_wp2_with fail
          refine (add_snap B.si B.st B.sd K1 _ kb base l1 _ f1 y1 zy1 hkb3 HT.out HTR.out.sm (by omega)).mono ?_
          rintro e w4 ⟨x4, v4, u4, rfl, t4, b4⟩
          have HQ : Hid (ChS A X kb base (headL A B) w4) := ⟨_, v4, u4, _, by rw [headL, hL1, snapL, if_pos hd]; exact t4, by have := HTR.out.add ⟨4, B.st, B.si, 0, B.sd⟩; rw [headL, hL1, snapL, if_pos hd]; exact this, HBX.out.trans b4⟩
          clear t4 b4
          go_wp2_with fail
          go_meet
          case rel => exact HQ.out
        | false =>
          have HQ : Hid (ChS A X kb base (headL A B) y1) := ⟨_, _, _, _, by rw [headL, hL1, snapL, if_neg (by simp [hd]), List.append_nil]; exact HT.out, by rw [headL, hL1, snapL, if_neg (by simp [hd]), List.append_nil]; exact HTR.out, HBX.out⟩
          go_wp2_with fail
          go_meet
          case rel => exact HQ.out
      case rest =>
      obtain ⟨y2, hy2⟩ : ∃ y, y = wc := ⟨_, rfl⟩
      subst hy2
      obtain ⟨K2, v2, u2, f2, t2, r2, b2⟩ := hcut
      replace HT := Hid.intro t2
      replace HTR := Hid.intro r2
      replace HBX := Hid.intro b2
      have hl2 := headL_len A B
      have HHD := Hid.intro r2
      obtain ⟨d1, d2⟩ := HC1.out y2 b2
      have zy2 : base ≤ y2.heap.size := Nat.le_trans zb b2.size
      have k5 := t2.k.1.c5
      have HE2 := Hid.intro t2.k.2.1.rowAll
      obtain ⟨av2, cv2, rfl⟩ := t2.k.2.1.slice
      clear t2 r2 b2 hL1
      go_wp2_with fail
      have HBB : Hid (Below w.heap.size w y2) := HB.out.trans (HBX.out.mono (by omega))
      refine (alike_any K2.e B.e _ _ y2.heap.size y2 (Nat.le_refl _) HE2.out ((HBR.out.kept (HBB.out.mono hN)).up (by omega))).mono ?_
      rintro e y3 ⟨rfl, b3⟩
      replace HT := Hid.intro (HT.out.kept b3)
      replace HBX := Hid.intro (HBX.out.trans (b3.mono zy2))
      obtain ⟨e1, e2⟩ := HC1.out y3 HBX.out
      have zy3 : base ≤ y3.heap.size := Nat.le_trans zb HBX.out.size
      replace k5 := HT.out.k.1.c5
      obtain ⟨hs1, hs2⟩ := alikeN_le K2.e B.e
      have HTL : Hid (tailL B K2.e = cutL B K2.e ++ entsL B (alikeN K2.e B.e) (B.e.length - alikeN K2.e B.e)) := rfl
      have HCU : Hid (cutL B K2.e = if alikeN K2.e B.e < K2.e.length then [cutR B (alikeN K2.e B.e)] else []) := rfl
      have hk2 := HTR.out.sm.2.2
      clear b3 d1 d2 HE2 HBB
      generalize alikeN K2.e B.e = s at *
      go_upto_if 68 with fail
      go_cut [] from 11 (fun wc => ChS A X kb base (headL A B ++ cutL B K2.e) wc)
      case first =>
        by_cases hlt : s < K2.e.length
        · have hlt2 : (s : Int) < (K2.e.length : Int) := by omega
          go_wp2_with fail
          refine (add_cut (B.si + s + 1) K2 _ kb base (headL A B) _ f2 y3 zy3 hkb3 HT.out HTR.out.sm (by omega)).mono ?_
          rintro e w4 ⟨x4, v4, u4, rfl, t4, b4⟩
          have HQ : Hid (ChS A X kb base (headL A B ++ cutL B K2.e) w4) := ⟨_, v4, u4, _, by rw [HCU.out, if_pos hlt]; exact t4, by have := HTR.out.add ⟨3, 0, B.si + s + 1, 0, ⟨#[]⟩⟩; rw [HCU.out, if_pos hlt]; exact this, HBX.out.trans b4⟩
          clear t4 b4
          go_wp2_with fail
          go_meet
          case rel => exact HQ.out
        · have hlt2 : ¬ (s : Int) < (K2.e.length : Int) := by omega
          have HQ : Hid (ChS A X kb base (headL A B ++ cutL B K2.e) y3) := ⟨_, _, _, _, by rw [HCU.out, if_neg hlt, List.append_nil]; exact HT.out, by rw [HCU.out, if_neg hlt, List.append_nil]; exact HTR.out, HBX.out⟩
          go_wp2_with fail
          go_meet
          case rel => exact HQ.out
      case rest =>
      obtain ⟨y4, hy4⟩ : ∃ y, y = wc := ⟨_, rfl⟩
      subst hy4
      have HCS := Hid.intro hcut
      obtain ⟨e1, e2⟩ := HC1.out y4 (by obtain ⟨_, _, _, _, _, _, h⟩ := hcut; exact h)
      have hcl : (cutL B K2.e).length ≤ 1 := by rw [HCU.out]; split <;> simp
      have hsc : s ≤ cb := by omega
      clear hcut HT HTR HBX k5
      go_upto_region 12 with fail
      go_cut [76, 77, 78] from 11 (fun s76 s77 s78 wc => ∃ a' c', s76 = .slice a' (B.e.length - s) c' ∧ s77 = .int .i64 ((B.e.length - s : Nat) : Int) ∧ s78 = .int .i64 0 ∧ RowE w N (.slice a' (B.e.length - s) c') (B.e.drop s) ∧ y4 = wc)
      case first =>
        by_cases hcs : cb = s
        · have hz : B.e.length - s = 0 := by omega
          have hdr : B.e.drop s = [] := List.drop_eq_nil_of_le (by omega)
          have HDR := Hid.intro hdr
          clear hdr
          go_wp2_with fail
          go_meet
          case rel => exact ⟨ab, 0, by simp [hz], by simp [hz], by first | rfl | trivial, by rw [HDR.out, hz]; exact ⟨ab, 0, rfl, Nat.le_refl _, by omega, fun h => absurd rfl h⟩, by first | rfl | trivial⟩
        · have hsl : (s : Int) ≤ (B.e.length : Int) := by omega
          go_wp2_with fail
          go_meet
          case rel =>
            exact ⟨_, _, rfl, by first | rfl | (congr 1; omega), by first | rfl | trivial, dropE HBR.out hs2, by first | rfl | trivial⟩
      case rest =>
      obtain ⟨a', c', rfl, rfl, rfl, hrow, hwx⟩ := hcut
      subst hwx
      have HRW := Hid.intro hrow
      have hdl : (B.e.drop s).length = B.e.length - s := by simp
      have HDL := Hid.intro hdl
      have HEN : Hid (∀ j (h : j < (B.e.drop s).length), entsL B s (j + 1) = entsL B s j ++ [entR B (s + j) (B.e.drop s)[j]]) := fun j h => by
        have h2 : s + j < B.e.length := by simp at h; omega
        rw [entsL]
        simp [List.getD_eq_getElem?_getD, h2]
      clear hrow hdl
      generalize hmm : B.e.length - s = m at *
      generalize B.e.drop s = E at *
      go_wp2
      go_loopw [78] (fun i wr => ∃ (j : Nat), i = .int .i64 j ∧ j ≤ m ∧ Hid (ChS A X kb base (headL A B ++ cutL B K2.e ++ entsL B s j) wr)) (fun i _ => m - (intOf i).toNat)
      case atStart => exact ⟨0, rfl, Nat.zero_le _, by simpa [entsL] using HCS⟩
      case round =>
        clear HCS
        obtain ⟨j, rfl, hj, HCS⟩ := hrel
        obtain ⟨K5, v5, u5, f5, t5, r5, b5⟩ := HCS.out
        have HT := Hid.intro t5
        have HTR := Hid.intro r5
        have HBX := Hid.intro b5
        have zy5 : base ≤ wr.heap.size := Nat.le_trans zb b5.size
        clear t5 r5 b5 HCS
        by_cases hlt : j < m
        · have hjl : j < E.length := by have := HDL.out; omega
          have hen := HEN.out j hjl
          obtain ⟨_, _, hxe, _, _, hxc⟩ := HRW.out
          simp only [Value.slice.injEq] at hxe
          obtain ⟨rfl, hxl, rfl⟩ := hxe
          obtain ⟨b, off, rfl, hbN, hcc⟩ := hxc (by intro h; rw [h] at hjl; simp at hjl)
          obtain ⟨p0, p1⟩ := hcc j hjl
          generalize E[j] = ej at p0 p1 hen
          have hbw : b < w.heap.size := by omega
          have HBB : Hid (Below w.heap.size w wr) := HB.out.trans (HBX.out.mono (by omega))
          have g0 := atCell HBB.out p0 hbw
          have g1 := atCell HBB.out p1 hbw
          have HEJ := Hid.intro hen
          have hl5 : (headL A B ++ cutL B K2.e ++ entsL B s j).length ≤ 100 := by simp [entsL_len]; omega
          clear hcc hxc p0 p1 hen hxl
          go_upto_region 15 with fail
          obtain ⟨Y, hY, bY, zY, cY, fY⟩ := boxed wr #[.int .i64 ej.t, .string ej.d] 96
          try simp only [hY]
          replace HT := Hid.intro (HT.out.kept bY)
          replace HBX := Hid.intro (HBX.out.trans (bY.mono zy5))
          clear hY bY fY g0 g1 HBB
          go_wp2_with fail
          refine (add_ent (B.si + s + 1 + j) ej.t ej.d K5 v5 kb base _ u5 f5 Y (by omega) hkb3 HT.out HTR.out.sm (by omega)).mono ?_
          rintro e w6 ⟨x6, v6, u6, rfl, t6, b6⟩
          have HQ : Hid (ChS A X kb base (headL A B ++ cutL B K2.e ++ entsL B s (j + 1)) w6) := by
            have er : entR B (s + j) ej = ⟨2, ej.t, B.si + s + 1 + j, 0, ej.d⟩ := by
              have : B.si + ((s + j : Nat) : Int) + 1 = B.si + s + 1 + j := by omega
              unfold entR
              rw [this]
            rw [HEJ.out, er, ← List.append_assoc]
            exact ⟨_, v6, u6, _, t6, HTR.out.add _, HBX.out.trans b6⟩
          clear t6 b6 cY
          go_wp2
          go_roundw
          case rel => exact ⟨j + 1, by go_num, by omega, HQ⟩
          case measure => simp [intOf]; omega
        · obtain rfl : j = m := by omega
          have hall : headL A B ++ cutL B K2.e ++ entsL B s j = headL A B ++ tailL B K2.e := by rw [HTL.out, List.append_assoc]
          have hlen := tailL_len B K2.e hlb
          rw [hall] at HT HTR
          obtain ⟨q1, q2⟩ := ch_same HHD.out
          have q3 := HTR.out.is
          have hch : chB A B = f5 := by rw [chB, hka, hkb, q3, q1]; rfl
          obtain ⟨au5, mu5, cu5, hu5⟩ : ∃ a m c, u5 = .slice a m c ∧ m = (headL A B ++ tailL B K2.e).length := by
            obtain ⟨a, c, h⟩ := OwnR.slice HT.out.own
            exact ⟨a, _, c, h, rfl⟩
          obtain ⟨rfl, hmu⟩ := hu5
          have hmu2 : mu5 ≤ 80 := by rw [hmu]; simp only [List.length_append]; omega
          have c6 := HT.out.c6
          have c7 := HT.out.c7
          have HCH := Hid.intro hch
          have HQ2 := Hid.intro q2
          have HQ3 := Hid.intro q3
          have HBE : Hid (Below w.heap.size w wr) := HB.out.trans (HBX.out.mono (by omega))
          clear hall q1 q2 q3 hch hmu
          cases f5 with
          | true =>
            go_wp2
            go_ret2
            refine ⟨.slice au5 mu5 cu5, by rw [HCH.out]; rfl, ?_, HBE.out⟩
            rw [chR, HCH.out, if_pos rfl, ← HQ2.out HQ3.out.symm]
            exact HT.out.own.lower (by omega)
          | false =>
            go_wp2
            go_ret2
            exact ⟨.slice none 0 0, by rw [HCH.out]; rfl, by rw [chR_no HCH.out]; exact OwnR.nil _ _, HBE.out⟩
end Go.Proofs.Ytkilepoimocoeaa
