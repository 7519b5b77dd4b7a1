/- The sentence's ReadResult (as TSpecRR, beside the calls' texts). -/
import Derived.Test.YtknckbedddeijaaGreatXLawN
import Derived.Test.YtknckbedddeijaaGreatTCurVo
import Derived.Deep.RegionHeld3
import Derived.Deep.Cut
import Derived.Deep.CutBlock
namespace Go.Proofs.YtknckbedddeijaaGreat
open Go.RowKit
set_option linter.unusedVariables false
def reZ : Re := ⟨0, ⟨#[]⟩⟩
/-- The result of which s is made. -/
noncomputable def outR (l : List UInt8) : Option Re := (numO l).bind fun x => if resP ⟨x.1, ⟨x.2.toArray⟩⟩ then some ⟨x.1, ⟨x.2.toArray⟩⟩ else none
@[reducible] def ansR (o : Option Re) : Value := .tuple #[reV (o.getD reZ), .bool o.isSome]
abbrev zR : Array Value := #[.int .i64 0, .string ⟨#[]⟩]
theorem bstr_ne3 {a b : ByteArray} (h : ¬ a = b) : (a.toList == b.toList) = false := by
 rw [beq_eq_false_iff_ne]
 intro e
 rw [toList_go, toList_go] at e
 exact h ((ba_of a).symm.trans ((congrArg (fun l : List UInt8 => (⟨l.toArray⟩ : ByteArray)) e).trans (ba_of b)))
/-- What is shown of what was read is what it was read of, where it is right. -/
theorem shR_is {s : ByteArray} {k a : Nat} (h : numO s.data.toList = some (k, s.data.toList.drop a)) : shR ⟨k, s.extract a s.size⟩ = s ↔ resP ⟨k, s.extract a s.size⟩ := by
 have hn := numO_out h
 constructor
 ·intro e
  by_cases hp : resP ⟨k, s.extract a s.size⟩
  ·exact hp
  ·rw [shR_no hp] at e
   have h1 := hn.2
   have h2 := (vby_length 6 k).1
   have h3 : (varL k).length = (vby 6 k).length := rfl
   have h4 := congrArg List.length h1
   rw [← e] at h4
   simp at h4
   omega
 ·intro hp
  rw [shR_yes hp]
  have h1 := hn.2
  have e1 : (varS k ++ s.extract a s.size).data.toList = s.data.toList := by
   conv => rhs; rw [h1]
   rw [← extract_toList]
   simp [varS, ByteArray.data_append]
  have h2 := congrArg (fun l => (⟨l.toArray⟩ : ByteArray)) e1
  simp only [ba_of] at h2
  simpa using h2
theorem outR_of {s : ByteArray} {k a : Nat} (h : numO s.data.toList = some (k, s.data.toList.drop a)) : outR s.data.toList = if resP ⟨k, s.extract a s.size⟩ then some ⟨k, s.extract a s.size⟩ else none := by
 unfold outR
 rw [h]
 simp only [Option.bind_some]
 rw [← extract_toList, ba_of]
set_option maxRecDepth 100000 in
set_option maxHeartbeats 4000000 in
theorem specReadResult_any (s : ByteArray) (w : World) (hs : s.size ≤ 1048576) :
  Calls Tryz.prog 24 #[.string s] w fun e w' => e = .returned (ansR (outR s.data.toList)) ∧ Below w.heap.size w w' := by
 go_enter Tryz.func24, Tryz.ntmps24
 go_wp2_with fail
 obtain ⟨W, hW, bW, zW, cW, fW⟩ := boxed w #[.int .i64 0, .string ⟨#[]⟩] 57
 simp only [hW]
 have X0 : Hid (Blk W w.heap.size zR) := Hid.intro ⟨by omega, cW, fW⟩
 have hb0 : w.heap.size < W.heap.size := by omega
 have B0 := bW
 clear hW cW fW bW zW
 refine (l8Vars_any s 0 1 _ hs (by omega) (by omega) (by omega)).mono ?_
 rintro e w1 ⟨⟨v1, ⟨xs, a1, rfl, HV, ha1, hl, hn1⟩ | ⟨rfl, HV⟩⟩, b⟩
 rotate_left 1
 ·replace X0 := Hid.intro (X0.out.kept b)
  replace B0 := B0.trans (b.mono B0.size)
  have HN : Hid (numO s.data.toList = none) := by
   have h := HV.out
   rw [varsO_one, List.drop_zero] at h
   exact Option.map_eq_none_iff.1 h
  clear HV b
  have ho : outR s.data.toList = none := by
   unfold outR
   simp only [HN.out, Option.bind_none]
  have k0 : w1.cell? ⟨w.heap.size, 0, none⟩ = some (.int .i64 0) := X0.out.cell 0
  have f0 : w1.frozen? ⟨w.heap.size, 0, none⟩ = false := X0.out.fro 0
  have k1 : w1.cell? ⟨w.heap.size, 1, none⟩ = some (.string ⟨#[]⟩) := X0.out.cell 1
  have f1 : w1.frozen? ⟨w.heap.size, 1, none⟩ = false := X0.out.fro 1
  have o1 : Only (fun x => x = w.heap.size) w1 ((w1.setCell ⟨w.heap.size, 0, none⟩ (.int .i64 0)).setCell ⟨w.heap.size, 1, none⟩ (.string ⟨#[]⟩)) := ((Only.refl (fun x => x = w.heap.size) w1).setCell (p := ⟨w.heap.size, 0, none⟩) rfl _).setCell (p := ⟨w.heap.size, 1, none⟩) rfl _
  clear X0
  go_wp2
  exact bodyPost_ret (v := .tuple #[reV reZ, .bool false]) (by simp [results, Tryz.results24, go_sem, k0, k1, reZ]) rfl ⟨by rw [ho]; rfl, B0.trans (o1.below B0.size (fun k hk h => by omega))⟩
 obtain ⟨k, rfl⟩ : ∃ k, xs = [k] := by
  match xs, hl with
  | [n], _ => exact ⟨n, rfl⟩
 have H0 : Hid (numO s.data.toList = some (k, s.data.toList.drop a1)) := by
  have h := HV.out
  rw [varsO_one, List.drop_zero] at h
  obtain ⟨y, h1, h2⟩ := Option.map_eq_some_iff.1 h
  obtain ⟨y1, y2⟩ := y
  simp at h2
  unfold Hid
  rw [h1, h2.1, h2.2]
 obtain ⟨g1, cap1, rfl, hcap1, hg1, hlt1, hcell1⟩ := hn1
 have k1 : w1.cell? ⟨g1, 0, none⟩ = some (.int .i64 (k : Nat)) := hcell1 0 (by simp)
 simp only [List.length_cons, List.length_nil, Nat.zero_add] at hcap1 ⊢
 clear HV hcell1 hl
 replace X0 := Hid.intro (X0.out.kept b)
 replace B0 := B0.trans (b.mono B0.size)
 clear b
 have q1 : (0 : Int) ≤ 0 ∧ (0 : Int) < (cap1 : Int) := by omega
 have q2 : (0 : Int) ≤ (a1 : Int) ∧ (a1 : Int) ≤ (s.size : Int) := by omega
 have q3 : ¬ (a1 : Int) < 0 := by omega
 have HS : Hid (∀ w', Below w1.heap.size w1 w' → (w'.cell? ⟨g1, 0, none⟩ = some (.int .i64 (k : Nat)))) := fun w' hb => (hb.cell (p := ⟨g1, 0, none⟩) hlt1).trans k1
 clear k1
 have hi6 : w.heap.size < w1.heap.size := X0.out.hi
 go_upto_region 4 with fail
 go_cut [6] from 15 (fun x wc => x = .pointer (some ⟨w1.heap.size, 0, none⟩) ∧ Blk wc w1.heap.size #[.int .i64 (k : Nat), .string (s.extract a1 s.size)] ∧ Below w1.heap.size w1 wc)
 case first =>
  go_region_held3 (fun w' => w'.cell? ⟨g1, 0, none⟩ = some (.int .i64 (k : Nat))) (exact HS.out _ (by repeat (first | exact Below.refl _ _ | apply Below.drew | refine Below.alloc ?_ (by simp) _ | refine Below.setCell ?_ (by simp) _))) (fail)
  all_goals
   go_wp2_with fail
   go_meet
   case rel => exact ⟨rfl, ⟨by simp, fun o => World.cell?_alloc_at _ _ _ _ (by simp), fun o => World.frozen?_alloc_at _ _ _ _ (by simp)⟩, by repeat (first | exact Below.refl _ _ | apply Below.drew | refine Below.alloc ?_ (by simp) _)⟩
 case rest =>
 obtain ⟨rfl, hX, b⟩ := hcut
 replace X0 := Hid.intro (X0.out.kept b)
 replace B0 := B0.trans (b.mono B0.size)
 clear b HS hlt1 hg1 hcap1 q1 q2
 have c0 : wc.cell? ⟨w1.heap.size, 0, none⟩ = some (.int .i64 (k : Nat)) := hX.cell 0
 have c1 : wc.cell? ⟨w1.heap.size, 1, none⟩ = some (.string (s.extract a1 s.size)) := hX.cell 1
 have hne : ¬ w.heap.size = w1.heap.size := by omega
 have hi := shR_is H0.out
 have hoc := outR_of H0.out
 have hds : (s.extract a1 s.size).size ≤ 1048576 := by simp; omega
 clear H0
 generalize s.extract a1 s.size = d at hi hoc hds c0 c1 hX ⊢
 go_wp2_with fail
 refine (specShowResult_any ⟨k, d⟩ _ hds).mono ?_
 rintro e w9 ⟨rfl, b⟩
 have hxi := hX.hi
 replace c0 := (b.cell (p := ⟨w1.heap.size, 0, none⟩) hxi).trans c0
 replace c1 := (b.cell (p := ⟨w1.heap.size, 1, none⟩) hxi).trans c1
 replace X0 := Hid.intro (X0.out.kept b)
 replace B0 := B0.trans (b.mono B0.size)
 clear b hX hxi
 have k0 : w9.cell? ⟨w.heap.size, 0, none⟩ = some (.int .i64 0) := X0.out.cell 0
 have f0 : w9.frozen? ⟨w.heap.size, 0, none⟩ = false := X0.out.fro 0
 have k1 : w9.cell? ⟨w.heap.size, 1, none⟩ = some (.string ⟨#[]⟩) := X0.out.cell 1
 have f1 : w9.frozen? ⟨w.heap.size, 1, none⟩ = false := X0.out.fro 1
 clear X0
 by_cases hE : shR ⟨k, d⟩ = s
 ·have hb : ((shR ⟨k, d⟩).toList == s.toList) = true := by rw [hE]; exact beq_self_eq_true _
  rw [if_pos (hi.1 hE)] at hoc
  clear hi hE
  have o1 : Only (fun x => x = w.heap.size) w9 ((w9.setCell ⟨w.heap.size, 0, none⟩ (.int .i64 (k : Nat))).setCell ⟨w.heap.size, 1, none⟩ (.string d)) := ((Only.refl (fun x => x = w.heap.size) w9).setCell (p := ⟨w.heap.size, 0, none⟩) rfl _).setCell (p := ⟨w.heap.size, 1, none⟩) rfl _
  go_wp2
  exact bodyPost_ret (v := .tuple #[reV ⟨k, d⟩, .bool true]) (by simp [results, Tryz.results24, go_sem, k0, k1]) rfl ⟨by rw [hoc]; rfl, B0.trans (o1.below B0.size (fun k hk h => by omega))⟩
 ·have hb : ((shR ⟨k, d⟩).toList == s.toList) = false := bstr_ne3 hE
  rw [if_neg (fun h => hE (hi.2 h))] at hoc
  clear hi hE
  have o1 : Only (fun x => x = w.heap.size) w9 ((w9.setCell ⟨w.heap.size, 0, none⟩ (.int .i64 0)).setCell ⟨w.heap.size, 1, none⟩ (.string ⟨#[]⟩)) := ((Only.refl (fun x => x = w.heap.size) w9).setCell (p := ⟨w.heap.size, 0, none⟩) rfl _).setCell (p := ⟨w.heap.size, 1, none⟩) rfl _
  go_wp2
  exact bodyPost_ret (v := .tuple #[reV reZ, .bool false]) (by simp [results, Tryz.results24, go_sem, k0, k1, reZ]) rfl ⟨by rw [hoc]; rfl, B0.trans (o1.below B0.size (fun k hk h => by omega))⟩
end Go.Proofs.YtknckbedddeijaaGreat
