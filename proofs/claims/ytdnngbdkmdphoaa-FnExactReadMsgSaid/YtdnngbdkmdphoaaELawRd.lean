/- The law ReadMsg. -/
import Derived.Test.YtdnngbdkmdphoaaESpecM
import Derived.Test.YtdnngbdkmdphoaaEMark
import Derived.Test.YtdnngbdkmdphoaaELaw
import Derived.Test.YtdnngbdkmdphoaaGOpen
namespace Go.Proofs.Ytdnngbdkmdphoaa
open Go.ChangeShapes Go.WideShapes Go.ChangeAt Go.RowKit
set_option linter.unusedVariables false
def msZ : Ms := ⟨0, 0, 0, 0, 0, 0, 0, false, [], ⟨#[]⟩⟩
def keyM (o : Option Ms) : Ms × Bool := match o with | none => (msZ, false) | some x => (x, true)
structure RmO (l : List UInt8) (B : Nat) (w' : World) (v : Value) (a : Ms) (b : Bool) : Prop where
  key : (a, b) = keyM (outM l)
  own : Own enE 49 w' B v a.es
  len : a.es.length ≤ 4
theorem outM_len {l : List UInt8} {a : Ms} (h : outM l = some a) : a.es.length ≤ 4 := by
  unfold outM at h
  obtain ⟨x, h1, h2⟩ := bind_outE h
  split at h2
  · rename_i hb
    simp only [Option.some.injEq] at h2
    subst h2
    exact (msB_of ((msgB_iff x).1 hb)).n
  · cases h2
theorem rmO_of {l : List UInt8} {w w' : World} {e : Ending} (h : RdM l w e w') : (∃ v a b, e = .returned (.tuple #[msV a v, .bool b]) ∧ RmO l w.heap.size w' v a b) ∧ Below w.heap.size w w' := by
  obtain ⟨h, hb⟩ := h
  refine ⟨?_, hb⟩
  rcases h with ⟨a, v, rfl, ho, hv⟩ | ⟨rfl, ho⟩
  · exact ⟨v, a, true, rfl, ⟨by rw [ho.out]; rfl, hv.out, outM_len ho.out⟩⟩
  · exact ⟨.slice none 0 0, msZ, false, rfl, ⟨by rw [ho.out]; rfl, Own.nil _ _, by simp [msZ]⟩⟩
theorem rmS_of {l : List UInt8} {w w' : World} {e : Ending} (h : RdS l w e w') : (∃ v a b, e = .returned (.tuple #[msV a v, .bool b]) ∧ RmO l w.heap.size w' v a b) ∧ Below w.heap.size w w' := by
  obtain ⟨h, hb⟩ := h
  refine ⟨?_, hb⟩
  rcases h with ⟨a, v, rfl, ho, hv⟩ | ⟨rfl, ho⟩
  · have h2 : outM l = some a := by rw [← outSM_eq]; exact ho.out
    exact ⟨v, a, true, rfl, ⟨by rw [h2]; rfl, hv.out, outM_len h2⟩⟩
  · have h2 : outM l = none := by rw [← outSM_eq]; exact ho.out
    exact ⟨.slice none 0 0, msZ, false, rfl, ⟨by rw [h2]; rfl, Own.nil _ _, by simp [msZ]⟩⟩
theorem keepO {S : Nat → Prop} {w w' : World} {b : Nat} {A : Array Value} (h : Only S w w') (hi : b < w.heap.size) (hs : ¬ S b) (c : ∀ o, w.cell? ⟨b, o, none⟩ = A[o]?) : ∀ o, w'.cell? ⟨b, o, none⟩ = A[o]? := fun o => (h.cell hi hs).trans (c o)
set_option maxRecDepth 100000 in
set_option maxHeartbeats 8000000 in
theorem readMsg_law (s : ByteArray) (w : World) (hs : s.size ≤ maxLen) :
    Calls Try.prog 5 #[.string s] w fun e w' => e = .returned (.bool true) ∧ Below w.heap.size w w' := by
  unfold maxLen at hs
  by_cases hb : (1048576 : Int) < (s.size : Int)
  · go_enter Try.func5, Try.ntmps5
    go_wp2
    go_ret
    exact ⟨rfl, Below.refl _ _⟩
  · go_enter Try.func5, Try.ntmps5
    go_wp2_with fail
    refine (specReadMsg_any s _ (by omega)).mono ?_
    intro e w1 hrd
    obtain ⟨⟨v1, a1, bl, rfl, R1⟩, b1⟩ := rmS_of hrd
    clear hrd
    obtain ⟨xa, xc, rfl⟩ := R1.own.slice
    have HK1 := Hid.intro R1.key
    have HR1 := Hid.intro R1.own.rowAll
    have HB := Hid.intro b1
    have z1 := b1.size
    clear R1 b1
    go_upto_region 4 with fail
    obtain ⟨W1, hW, bW, zW, cW, fW⟩ := boxed w1 (msA a1 (.slice xa a1.es.length xc)) 29
    try simp only [hW]
    replace HR1 := Hid.intro ((HR1.out.kept bW).up bW.size)
    replace HB := Hid.intro (HB.out.trans (bW.mono z1))
    have HS := Hid.intro cW
    have hs1 : w1.heap.size < W1.heap.size := by omega
    have zw : w.heap.size ≤ W1.heap.size := by omega
    clear hW bW fW zW cW
    go_wp2_with fail
    refine (implReadMsg_any s _ (by omega)).mono ?_
    intro e w3 hrd
    obtain ⟨⟨v3, a3, bl3, rfl, R3⟩, b3⟩ := rmO_of hrd
    clear hrd
    have hkey := R3.key.trans HK1.out.symm
    simp only [Prod.mk.injEq] at hkey
    obtain ⟨rfl, rfl⟩ := hkey
    obtain ⟨ya, yc, rfl⟩ := R3.own.slice
    have HO3 := Hid.intro R3.own
    have hox : Hid (∀ k, (Value.slice ya a3.es.length yc).ownBlock = some k → W1.heap.size ≤ k ∧ k < w3.heap.size) := fun k hk => HO3.out.lt k hk
    have hl4 := R3.len
    have z3 := b3.size
    replace HR1 := Hid.intro (HR1.out.kept b3)
    replace HB := Hid.intro (HB.out.trans (b3.mono HB.out.size))
    replace HS := Hid.intro (keepC b3 hs1 HS.out)
    have hs3 : w1.heap.size < w3.heap.size := by omega
    clear R3 b3
    go_upto_region 5 with fail
    obtain ⟨W3, hW, bW, zW, cW, fW⟩ := boxed w3 (msA a3 (.slice ya a3.es.length yc)) 29
    try simp only [hW]
    replace HR1 := Hid.intro (HR1.out.kept (bW.mono z3))
    replace HB := Hid.intro (HB.out.trans (bW.mono HB.out.size))
    replace HS := Hid.intro (keepC bW hs3 HS.out)
    replace HO3 := Hid.intro (HO3.out.kept bW)
    have HT := Hid.intro cW
    have ht3 : w3.heap.size < W3.heap.size := by omega
    have hs4 : w1.heap.size < W3.heap.size := by omega
    clear hW bW fW zW cW
    have hbb : (bl3 != bl3) = false := by simp
    have kk := HS.out
    have kt := HT.out
    go_wp2_with fail
    clear kk kt
    refine (eqMsg_any a3 (.slice ya a3.es.length yc) (.slice xa a3.es.length xc) W3.heap.size W3 (Nat.le_refl _) HO3.out.rowAll (HR1.out.up (by omega))).mono ?_
    rintro e w5 ⟨rfl, b5⟩
    replace HO3 := Hid.intro (HO3.out.kept b5)
    replace HR1 := Hid.intro (HR1.out.kept (b5.mono (by omega)))
    replace HB := Hid.intro (HB.out.trans (b5.mono HB.out.size))
    replace HS := Hid.intro (keepC b5 hs4 HS.out)
    replace HT := Hid.intro (keepC b5 ht3 HT.out)
    have z5 := b5.size
    clear b5
    have kt := HT.out
    go_wp2_with fail
    clear kt
    refine (markMsg_any a3 (.slice ya a3.es.length yc) W1.heap.size 1 w5 (by omega) HO3.out (by omega) (by omega) (by omega)).mono ?_
    rintro e w6 ⟨rfl, r6, n6⟩
    have n6b : Below W1.heap.size w5 w6 := n6.below (by omega) (fun k hk e => by have := (hox.out k e.symm).1; omega)
    replace HR1 := Hid.intro (HR1.out.kept n6b)
    replace HB := Hid.intro (HB.out.trans (n6b.mono zw))
    replace HS := Hid.intro (keepO n6 (by omega) (fun e => by have := (hox.out _ e.symm).1; omega) HS.out)
    replace HT := Hid.intro (keepO n6 (by omega) (fun e => by have := (hox.out _ e.symm).2; omega) HT.out)
    have HR6 : Hid (Row enE w6 w6.heap.size (.slice ya a3.es.length yc) (markEL 1 a3.es a3.es.length)) := r6.rowAll
    have HMK : Hid (∀ i (h : i < (markEL 1 a3.es a3.es.length).length), (markEL 1 a3.es a3.es.length)[i] = mkE 1 i) := fun i h => markEL_get 1 a3.es a3.es.length i (by rw [markEL_len] at h; exact h) h
    have HML : Hid ((markEL 1 a3.es a3.es.length).length = a3.es.length) := markEL_len _ _ _
    have z6 := n6.size
    obtain ⟨mm, hmm⟩ : ∃ mm : Int, (1 : Int) + 2 * (a3.es.length : Nat) = mm := ⟨_, rfl⟩
    have HMM := Hid.intro hmm
    have hm0 : ¬ mm < 0 := by omega
    have hme : (mm != mm) = false := by simp
    rw [hmm]
    clear HO3 r6 n6 n6b hmm
    have kt := HT.out
    go_wp2_with fail
    clear kt
    refine (heldMsg_any a3 _ (.slice ya a3.es.length yc) w6.heap.size 1 w6 (Nat.le_refl _) HR6.out HMK.out (by rw [HML.out]; omega) (by omega) (by omega)).mono ?_
    rintro e w7 ⟨rfl, b7⟩
    rw [HML.out, HMM.out]
    replace HR6 := Hid.intro ((HR6.out.kept b7).up b7.size)
    replace HR1 := Hid.intro (HR1.out.kept (b7.mono (by omega)))
    replace HB := Hid.intro (HB.out.trans (b7.mono HB.out.size))
    replace HS := Hid.intro (keepC b7 (by omega) HS.out)
    replace HT := Hid.intro (keepC b7 (by omega) HT.out)
    have z7 := b7.size
    clear b7
    go_wp2_with fail
    refine (implReadMsg_any s _ (by omega)).mono ?_
    intro e w8 hrd
    obtain ⟨⟨v8, a8, bl8, rfl, R8⟩, b8⟩ := rmO_of hrd
    clear hrd
    have hkey := R8.key.trans HK1.out.symm
    simp only [Prod.mk.injEq] at hkey
    obtain ⟨rfl, rfl⟩ := hkey
    obtain ⟨za, zc, rfl⟩ := R8.own.slice
    have HR8 := Hid.intro R8.own.rowAll
    replace HR6 := Hid.intro ((HR6.out.kept b8).up b8.size)
    replace HR1 := Hid.intro (HR1.out.kept (b8.mono (by omega)))
    replace HB := Hid.intro (HB.out.trans (b8.mono HB.out.size))
    replace HS := Hid.intro (keepC b8 (by omega) HS.out)
    replace HT := Hid.intro (keepC b8 (by omega) HT.out)
    have z8 := b8.size
    clear b8 R8
    go_upto_region 16 with fail
    obtain ⟨W8, hW, bW, zW, cW, fW⟩ := boxed w8 (msA a8 (.slice za a8.es.length zc)) 29
    try simp only [hW]
    replace HR8 := Hid.intro ((HR8.out.kept bW).up bW.size)
    replace HR6 := Hid.intro ((HR6.out.kept bW).up bW.size)
    replace HR1 := Hid.intro (HR1.out.kept (bW.mono (by omega)))
    replace HB := Hid.intro (HB.out.trans (bW.mono HB.out.size))
    replace HS := Hid.intro (keepC bW (by omega) HS.out)
    replace HT := Hid.intro (keepC bW (by omega) HT.out)
    have HU := Hid.intro cW
    have z9 : w8.heap.size < W8.heap.size := by omega
    clear hW bW fW zW cW
    have kk := HS.out
    have ku := HU.out
    go_wp2_with fail
    clear kk ku
    refine (eqMsg_any a8 (.slice za a8.es.length zc) (.slice xa a8.es.length xc) W8.heap.size W8 (Nat.le_refl _) HR8.out (HR1.out.up (by omega))).mono ?_
    rintro e wa ⟨rfl, ba⟩
    replace HR6 := Hid.intro ((HR6.out.kept ba).up ba.size)
    replace HB := Hid.intro (HB.out.trans (ba.mono HB.out.size))
    replace HT := Hid.intro (keepC ba (by omega) HT.out)
    have za := ba.size
    clear ba HR1 HR8 HS HU
    have kt := HT.out
    go_wp2_with fail
    clear kt
    refine (heldMsg_any a8 _ (.slice ya a8.es.length yc) wa.heap.size 1 wa (Nat.le_refl _) HR6.out HMK.out (by rw [HML.out]; omega) (by omega) (by omega)).mono ?_
    rintro e wb ⟨rfl, bb⟩
    rw [HML.out, HMM.out]
    replace HB := Hid.intro (HB.out.trans (bb.mono HB.out.size))
    clear bb
    go_wp2
    go_ret
    exact ⟨rfl, HB.out⟩
end Go.Proofs.Ytdnngbdkmdphoaa
