/- ReadCall of the sentence. -/
import Derived.Test.YthicdhjipebghaaTCallIff
import Derived.Deep.RegionHeld3
import Derived.Deep.Cut
namespace Go.Proofs.Ythicdhjipebghaa
open Go.RowKit
set_option linter.unusedVariables false
theorem bstr_ne {a b : ByteArray} (h : ¬ a = b) : (a.toList == b.toList) = false := by
  rw [beq_eq_false_iff_ne]
  intro e
  rw [toList_go, toList_go] at e
  exact h ((ba_of a).symm.trans ((congrArg (fun l : List UInt8 => (⟨l.toArray⟩ : ByteArray)) e).trans (ba_of b)))
theorem size_drop_le {s : ByteArray} {a : Nat} (h : s.data.toList.drop a = []) (ha : a ≤ s.size) : a = s.size := by
  have := congrArg List.length h
  simp at this
  omega
set_option maxRecDepth 100000 in
set_option maxHeartbeats 4000000 in
theorem specReadCall_any (s : ByteArray) (w : World) (hs : s.size ≤ 1048576) :
    Calls Try.prog 19 #[.string s] w fun e w' => e = .returned (ansC (outC s.data.toList)) ∧ Below w.heap.size w w' := by
  go_enter Try.func19, Try.ntmps19
  go_wp2_with fail
  obtain ⟨W, hW, bW, zW, cW, fW⟩ := boxed w #[.int .i64 0, .string ⟨#[]⟩, .string ⟨#[]⟩, .int .i64 0, .int .i64 0, .string ⟨#[]⟩] 45
  simp only [hW]
  have X0 : Hid (Blk W w.heap.size zC) := Hid.intro ⟨by omega, cW, fW⟩
  have hb0 : w.heap.size < W.heap.size := by omega
  have B0 := bW
  clear hW cW fW bW zW
  refine (l8Vars_any s 0 1 _ hs (by omega) (by omega) (by omega)).mono ?_
  rintro e w1 ⟨⟨v1, ⟨xs, a1, rfl, HV, ha1, hl, hn1⟩ | ⟨rfl, HV⟩⟩, b⟩
  rotate_left 1
  · replace X0 := Hid.intro (X0.out.kept b)
    replace B0 := B0.trans (b.mono B0.size)
    have HN : Hid (numO s.data.toList = none) := by
      have h := HV.out
      rw [varsO_one, List.drop_zero] at h
      exact Option.map_eq_none_iff.1 h
    clear HV b
    go_wp2_with fail
    refine (l8Take_none s _).mono ?_
    rintro e w1n1 ⟨rfl, bn⟩
    replace X0 := Hid.intro (X0.out.kept bn)
    replace B0 := B0.trans (bn.mono B0.size)
    clear bn
    go_wp2_with fail
    refine (l8Take_none s _).mono ?_
    rintro e w1n2 ⟨rfl, bn⟩
    replace X0 := Hid.intro (X0.out.kept bn)
    replace B0 := B0.trans (bn.mono B0.size)
    clear bn
    go_wp2_with fail
    refine (l8Vars_none s 2 _ (by omega) (by omega)).mono ?_
    rintro e w1n3 ⟨⟨vn, rfl⟩, bn⟩
    replace X0 := Hid.intro (X0.out.kept bn)
    replace B0 := B0.trans (bn.mono B0.size)
    clear bn
    go_wp2_with fail
    refine (l8Take_none s _).mono ?_
    rintro e w1n4 ⟨rfl, bn⟩
    replace X0 := Hid.intro (X0.out.kept bn)
    replace B0 := B0.trans (bn.mono B0.size)
    clear bn
    have ho : outC s.data.toList = none := by
      unfold outC callO
      simp only [HN.out, Option.bind_none]
    have k0 : w1n4.cell? ⟨w.heap.size, 0, none⟩ = some (.int .i64 0) := X0.out.cell 0
    have f0 : w1n4.frozen? ⟨w.heap.size, 0, none⟩ = false := X0.out.fro 0
    have k1 : w1n4.cell? ⟨w.heap.size, 1, none⟩ = some (.string ⟨#[]⟩) := X0.out.cell 1
    have f1 : w1n4.frozen? ⟨w.heap.size, 1, none⟩ = false := X0.out.fro 1
    have k2 : w1n4.cell? ⟨w.heap.size, 2, none⟩ = some (.string ⟨#[]⟩) := X0.out.cell 2
    have f2 : w1n4.frozen? ⟨w.heap.size, 2, none⟩ = false := X0.out.fro 2
    have k3 : w1n4.cell? ⟨w.heap.size, 3, none⟩ = some (.int .i64 0) := X0.out.cell 3
    have f3 : w1n4.frozen? ⟨w.heap.size, 3, none⟩ = false := X0.out.fro 3
    have k4 : w1n4.cell? ⟨w.heap.size, 4, none⟩ = some (.int .i64 0) := X0.out.cell 4
    have f4 : w1n4.frozen? ⟨w.heap.size, 4, none⟩ = false := X0.out.fro 4
    have k5 : w1n4.cell? ⟨w.heap.size, 5, none⟩ = some (.string ⟨#[]⟩) := X0.out.cell 5
    have f5 : w1n4.frozen? ⟨w.heap.size, 5, none⟩ = false := X0.out.fro 5
    have o1 := set6_only w.heap.size w1n4 (.int .i64 0) (.string ⟨#[]⟩) (.string ⟨#[]⟩) (.int .i64 0) (.int .i64 0) (.string ⟨#[]⟩)
    clear X0
    go_wp2
    exact bodyPost_ret (v := .tuple #[caV caZ, .bool false]) (by simp [results, Try.results19, go_sem, k0, k1, k2, k3, k4, k5, caZ]) rfl ⟨by rw [ho]; rfl, B0.trans (o1.below B0.size (fun k hk h => by omega))⟩
  obtain ⟨k, rfl⟩ : ∃ k, xs = [k] := by
    match xs, hl with
    | [n], _ => exact ⟨n, rfl⟩
  have H0 : Hid (numO s.data.toList = some (k, s.data.toList.drop a1)) := by
    have h := HV.out
    rw [varsO_one, List.drop_zero] at h
    obtain ⟨y, h1, h2⟩ := Option.map_eq_some_iff.1 h
    obtain ⟨y1, y2⟩ := y
    simp at h2
    unfold Hid
    rw [h1, h2.1, h2.2]
  obtain ⟨g1, cap1, rfl, hcap1, hg1, hlt1, hcell1⟩ := hn1
  have K1 : Hid (w1.cell? ⟨g1, 0, none⟩ = some (.int .i64 (k : Nat))) := hcell1 0 (by simp)
  simp only [List.length_cons, List.length_nil, Nat.zero_add] at hcap1 ⊢
  clear HV hcell1 hl
  replace X0 := Hid.intro (X0.out.kept b)
  replace B0 := B0.trans (b.mono B0.size)
  clear b
  go_wp2_with fail
  refine (l8Take_any s a1 _ hs ha1).mono ?_
  rintro e w2 ⟨⟨p, a2, rfl, H1, ha2⟩ | ⟨rfl, HN⟩, b⟩
  rotate_left 1
  · replace X0 := Hid.intro (X0.out.kept b)
    replace B0 := B0.trans (b.mono B0.size)
    clear b
    go_wp2_with fail
    refine (l8Take_none s _).mono ?_
    rintro e w2n2 ⟨rfl, bn⟩
    replace X0 := Hid.intro (X0.out.kept bn)
    replace B0 := B0.trans (bn.mono B0.size)
    clear bn
    go_wp2_with fail
    refine (l8Vars_none s 2 _ (by omega) (by omega)).mono ?_
    rintro e w2n3 ⟨⟨vn, rfl⟩, bn⟩
    replace X0 := Hid.intro (X0.out.kept bn)
    replace B0 := B0.trans (bn.mono B0.size)
    clear bn
    go_wp2_with fail
    refine (l8Take_none s _).mono ?_
    rintro e w2n4 ⟨rfl, bn⟩
    replace X0 := Hid.intro (X0.out.kept bn)
    replace B0 := B0.trans (bn.mono B0.size)
    clear bn
    have ho : outC s.data.toList = none := by
      unfold outC callO
      simp only [H0.out, HN.out, Option.bind_some, Option.bind_none]
    have k0 : w2n4.cell? ⟨w.heap.size, 0, none⟩ = some (.int .i64 0) := X0.out.cell 0
    have f0 : w2n4.frozen? ⟨w.heap.size, 0, none⟩ = false := X0.out.fro 0
    have k1 : w2n4.cell? ⟨w.heap.size, 1, none⟩ = some (.string ⟨#[]⟩) := X0.out.cell 1
    have f1 : w2n4.frozen? ⟨w.heap.size, 1, none⟩ = false := X0.out.fro 1
    have k2 : w2n4.cell? ⟨w.heap.size, 2, none⟩ = some (.string ⟨#[]⟩) := X0.out.cell 2
    have f2 : w2n4.frozen? ⟨w.heap.size, 2, none⟩ = false := X0.out.fro 2
    have k3 : w2n4.cell? ⟨w.heap.size, 3, none⟩ = some (.int .i64 0) := X0.out.cell 3
    have f3 : w2n4.frozen? ⟨w.heap.size, 3, none⟩ = false := X0.out.fro 3
    have k4 : w2n4.cell? ⟨w.heap.size, 4, none⟩ = some (.int .i64 0) := X0.out.cell 4
    have f4 : w2n4.frozen? ⟨w.heap.size, 4, none⟩ = false := X0.out.fro 4
    have k5 : w2n4.cell? ⟨w.heap.size, 5, none⟩ = some (.string ⟨#[]⟩) := X0.out.cell 5
    have f5 : w2n4.frozen? ⟨w.heap.size, 5, none⟩ = false := X0.out.fro 5
    have o1 := set6_only w.heap.size w2n4 (.int .i64 0) (.string ⟨#[]⟩) (.string ⟨#[]⟩) (.int .i64 0) (.int .i64 0) (.string ⟨#[]⟩)
    clear X0
    go_wp2
    exact bodyPost_ret (v := .tuple #[caV caZ, .bool false]) (by simp [results, Try.results19, go_sem, k0, k1, k2, k3, k4, k5, caZ]) rfl ⟨by rw [ho]; rfl, B0.trans (o1.below B0.size (fun k hk h => by omega))⟩
  replace K1 := Hid.intro ((b.cell (p := ⟨g1, 0, none⟩) hlt1).trans K1.out)
  replace hlt1 := Nat.lt_of_lt_of_le hlt1 b.size
  replace X0 := Hid.intro (X0.out.kept b)
  replace B0 := B0.trans (b.mono B0.size)
  clear b
  go_wp2_with fail
  refine (l8Take_any s a2 _ hs ha2).mono ?_
  rintro e w3 ⟨⟨to, a3, rfl, H2, ha3⟩ | ⟨rfl, HN⟩, b⟩
  rotate_left 1
  · replace X0 := Hid.intro (X0.out.kept b)
    replace B0 := B0.trans (b.mono B0.size)
    clear b
    go_wp2_with fail
    refine (l8Vars_none s 2 _ (by omega) (by omega)).mono ?_
    rintro e w3n3 ⟨⟨vn, rfl⟩, bn⟩
    replace X0 := Hid.intro (X0.out.kept bn)
    replace B0 := B0.trans (bn.mono B0.size)
    clear bn
    go_wp2_with fail
    refine (l8Take_none s _).mono ?_
    rintro e w3n4 ⟨rfl, bn⟩
    replace X0 := Hid.intro (X0.out.kept bn)
    replace B0 := B0.trans (bn.mono B0.size)
    clear bn
    have ho : outC s.data.toList = none := by
      unfold outC callO
      simp only [H0.out, H1.out, HN.out, Option.bind_some, Option.bind_none]
    have k0 : w3n4.cell? ⟨w.heap.size, 0, none⟩ = some (.int .i64 0) := X0.out.cell 0
    have f0 : w3n4.frozen? ⟨w.heap.size, 0, none⟩ = false := X0.out.fro 0
    have k1 : w3n4.cell? ⟨w.heap.size, 1, none⟩ = some (.string ⟨#[]⟩) := X0.out.cell 1
    have f1 : w3n4.frozen? ⟨w.heap.size, 1, none⟩ = false := X0.out.fro 1
    have k2 : w3n4.cell? ⟨w.heap.size, 2, none⟩ = some (.string ⟨#[]⟩) := X0.out.cell 2
    have f2 : w3n4.frozen? ⟨w.heap.size, 2, none⟩ = false := X0.out.fro 2
    have k3 : w3n4.cell? ⟨w.heap.size, 3, none⟩ = some (.int .i64 0) := X0.out.cell 3
    have f3 : w3n4.frozen? ⟨w.heap.size, 3, none⟩ = false := X0.out.fro 3
    have k4 : w3n4.cell? ⟨w.heap.size, 4, none⟩ = some (.int .i64 0) := X0.out.cell 4
    have f4 : w3n4.frozen? ⟨w.heap.size, 4, none⟩ = false := X0.out.fro 4
    have k5 : w3n4.cell? ⟨w.heap.size, 5, none⟩ = some (.string ⟨#[]⟩) := X0.out.cell 5
    have f5 : w3n4.frozen? ⟨w.heap.size, 5, none⟩ = false := X0.out.fro 5
    have o1 := set6_only w.heap.size w3n4 (.int .i64 0) (.string ⟨#[]⟩) (.string ⟨#[]⟩) (.int .i64 0) (.int .i64 0) (.string ⟨#[]⟩)
    clear X0
    go_wp2
    exact bodyPost_ret (v := .tuple #[caV caZ, .bool false]) (by simp [results, Try.results19, go_sem, k0, k1, k2, k3, k4, k5, caZ]) rfl ⟨by rw [ho]; rfl, B0.trans (o1.below B0.size (fun k hk h => by omega))⟩
  replace K1 := Hid.intro ((b.cell (p := ⟨g1, 0, none⟩) hlt1).trans K1.out)
  replace hlt1 := Nat.lt_of_lt_of_le hlt1 b.size
  replace X0 := Hid.intro (X0.out.kept b)
  replace B0 := B0.trans (b.mono B0.size)
  clear b
  go_wp2_with fail
  refine (l8Vars_any s a3 2 _ hs ha3 (by omega) (by omega)).mono ?_
  rintro e w4 ⟨⟨v4, ⟨xs, a5, rfl, HV, ha5, hl, hn4⟩ | ⟨rfl, HV⟩⟩, b⟩
  rotate_left 1
  · replace X0 := Hid.intro (X0.out.kept b)
    replace B0 := B0.trans (b.mono B0.size)
    clear b
    go_wp2_with fail
    refine (l8Take_none s _).mono ?_
    rintro e w4n4 ⟨rfl, bn⟩
    replace X0 := Hid.intro (X0.out.kept bn)
    replace B0 := B0.trans (bn.mono B0.size)
    clear bn
    have ho : outC s.data.toList = none := by
      unfold outC callO
      simp only [H0.out, H1.out, H2.out, Option.bind_some]
      rw [varsO_two_no HV.out]
      rfl
    have k0 : w4n4.cell? ⟨w.heap.size, 0, none⟩ = some (.int .i64 0) := X0.out.cell 0
    have f0 : w4n4.frozen? ⟨w.heap.size, 0, none⟩ = false := X0.out.fro 0
    have k1 : w4n4.cell? ⟨w.heap.size, 1, none⟩ = some (.string ⟨#[]⟩) := X0.out.cell 1
    have f1 : w4n4.frozen? ⟨w.heap.size, 1, none⟩ = false := X0.out.fro 1
    have k2 : w4n4.cell? ⟨w.heap.size, 2, none⟩ = some (.string ⟨#[]⟩) := X0.out.cell 2
    have f2 : w4n4.frozen? ⟨w.heap.size, 2, none⟩ = false := X0.out.fro 2
    have k3 : w4n4.cell? ⟨w.heap.size, 3, none⟩ = some (.int .i64 0) := X0.out.cell 3
    have f3 : w4n4.frozen? ⟨w.heap.size, 3, none⟩ = false := X0.out.fro 3
    have k4 : w4n4.cell? ⟨w.heap.size, 4, none⟩ = some (.int .i64 0) := X0.out.cell 4
    have f4 : w4n4.frozen? ⟨w.heap.size, 4, none⟩ = false := X0.out.fro 4
    have k5 : w4n4.cell? ⟨w.heap.size, 5, none⟩ = some (.string ⟨#[]⟩) := X0.out.cell 5
    have f5 : w4n4.frozen? ⟨w.heap.size, 5, none⟩ = false := X0.out.fro 5
    have o1 := set6_only w.heap.size w4n4 (.int .i64 0) (.string ⟨#[]⟩) (.string ⟨#[]⟩) (.int .i64 0) (.int .i64 0) (.string ⟨#[]⟩)
    clear X0
    go_wp2
    exact bodyPost_ret (v := .tuple #[caV caZ, .bool false]) (by simp [results, Try.results19, go_sem, k0, k1, k2, k3, k4, k5, caZ]) rfl ⟨by rw [ho]; rfl, B0.trans (o1.below B0.size (fun k hk h => by omega))⟩
  obtain ⟨n, m, r1, rfl, h3, h4⟩ := varsO_two_yes HV.out
  have H3 := Hid.intro h3
  have H4 := Hid.intro h4
  clear h3 h4
  obtain ⟨g4, cap4, rfl, hcap4, hg4, hlt4, hcell4⟩ := hn4
  have K4 : Hid (w4.cell? ⟨g4, 0, none⟩ = some (.int .i64 (n : Nat))) := hcell4 0 (by simp)
  have K5 : Hid (w4.cell? ⟨g4, 1, none⟩ = some (.int .i64 (m : Nat))) := hcell4 1 (by simp)
  simp only [List.length_cons, List.length_nil, Nat.zero_add, Nat.reduceAdd] at hcap4 ⊢
  clear HV hcell4 hl
  replace K1 := Hid.intro ((b.cell (p := ⟨g1, 0, none⟩) hlt1).trans K1.out)
  replace hlt1 := Nat.lt_of_lt_of_le hlt1 b.size
  replace X0 := Hid.intro (X0.out.kept b)
  replace B0 := B0.trans (b.mono B0.size)
  clear b
  go_wp2_with fail
  refine (l8Take_any s a5 _ hs ha5).mono ?_
  rintro e w6 ⟨⟨d, a6, rfl, H5, ha6⟩ | ⟨rfl, HN⟩, b⟩
  rotate_left 1
  · replace X0 := Hid.intro (X0.out.kept b)
    replace B0 := B0.trans (b.mono B0.size)
    clear b
    have ho : outC s.data.toList = none := by
      unfold outC callO
      simp only [H0.out, H1.out, H2.out, H3.out, H4.out, HN.out, Option.bind_some, Option.bind_none]
    have k0 : w6.cell? ⟨w.heap.size, 0, none⟩ = some (.int .i64 0) := X0.out.cell 0
    have f0 : w6.frozen? ⟨w.heap.size, 0, none⟩ = false := X0.out.fro 0
    have k1 : w6.cell? ⟨w.heap.size, 1, none⟩ = some (.string ⟨#[]⟩) := X0.out.cell 1
    have f1 : w6.frozen? ⟨w.heap.size, 1, none⟩ = false := X0.out.fro 1
    have k2 : w6.cell? ⟨w.heap.size, 2, none⟩ = some (.string ⟨#[]⟩) := X0.out.cell 2
    have f2 : w6.frozen? ⟨w.heap.size, 2, none⟩ = false := X0.out.fro 2
    have k3 : w6.cell? ⟨w.heap.size, 3, none⟩ = some (.int .i64 0) := X0.out.cell 3
    have f3 : w6.frozen? ⟨w.heap.size, 3, none⟩ = false := X0.out.fro 3
    have k4 : w6.cell? ⟨w.heap.size, 4, none⟩ = some (.int .i64 0) := X0.out.cell 4
    have f4 : w6.frozen? ⟨w.heap.size, 4, none⟩ = false := X0.out.fro 4
    have k5 : w6.cell? ⟨w.heap.size, 5, none⟩ = some (.string ⟨#[]⟩) := X0.out.cell 5
    have f5 : w6.frozen? ⟨w.heap.size, 5, none⟩ = false := X0.out.fro 5
    have o1 := set6_only w.heap.size w6 (.int .i64 0) (.string ⟨#[]⟩) (.string ⟨#[]⟩) (.int .i64 0) (.int .i64 0) (.string ⟨#[]⟩)
    clear X0
    go_wp2
    exact bodyPost_ret (v := .tuple #[caV caZ, .bool false]) (by simp [results, Try.results19, go_sem, k0, k1, k2, k3, k4, k5, caZ]) rfl ⟨by rw [ho]; rfl, B0.trans (o1.below B0.size (fun k hk h => by omega))⟩
  replace K1 := Hid.intro ((b.cell (p := ⟨g1, 0, none⟩) hlt1).trans K1.out)
  replace K4 := Hid.intro ((b.cell (p := ⟨g4, 0, none⟩) hlt4).trans K4.out)
  replace K5 := Hid.intro ((b.cell (p := ⟨g4, 1, none⟩) hlt4).trans K5.out)
  replace hlt1 := Nat.lt_of_lt_of_le hlt1 b.size
  replace hlt4 := Nat.lt_of_lt_of_le hlt4 b.size
  replace X0 := Hid.intro (X0.out.kept b)
  replace B0 := B0.trans (b.mono B0.size)
  clear b
  have HO : Hid (callO s.data.toList = some (⟨k, p.data.toList, to.data.toList, n, m, d.data.toList⟩, s.data.toList.drop a6)) := by
    unfold Hid callO
    simp only [H0.out, H1.out, H2.out, H3.out, H4.out, H5.out, Option.bind_some]
  have hxn := (numO_out H3.out).1
  have hxm := (numO_out H4.out).1
  clear H0 H1 H2 H3 H4 H5
  have k1 := K1.out
  have k4 := K4.out
  have k5 := K5.out
  have q1 : (0 : Int) ≤ 0 ∧ (0 : Int) < (cap1 : Int) := by omega
  have HS : Hid (∀ w', Below w6.heap.size w6 w' → (w'.cell? ⟨g1, 0, none⟩ = some (.int .i64 (k : Nat)) ∧ w'.cell? ⟨g4, 0, none⟩ = some (.int .i64 (n : Nat)) ∧ w'.cell? ⟨g4, 1, none⟩ = some (.int .i64 (m : Nat)))) := fun w' hb => ⟨(hb.cell (p := ⟨g1, 0, none⟩) hlt1).trans k1, (hb.cell (p := ⟨g4, 0, none⟩) hlt4).trans k4, (hb.cell (p := ⟨g4, 1, none⟩) hlt4).trans k5⟩
  clear k1 k4 k5 K1 K4 K5
  have hi6 : w.heap.size < w6.heap.size := X0.out.hi
  go_upto_region 8 with fail
  go_cut [10] from 11 (fun x wc => x = .pointer (some ⟨w6.heap.size, 0, none⟩) ∧ Blk wc w6.heap.size #[.int .i64 (k : Nat), .string p, .string to, .int .i64 (unfoldI n), .int .i64 (unfoldI m), .string d] ∧ Below w6.heap.size w6 wc)
  case first =>
    go_region_held3 (fun w' => w'.cell? ⟨g1, 0, none⟩ = some (.int .i64 (k : Nat)) ∧ w'.cell? ⟨g4, 0, none⟩ = some (.int .i64 (n : Nat)) ∧ w'.cell? ⟨g4, 1, none⟩ = some (.int .i64 (m : Nat))) (exact HS.out _ (by repeat (first | exact Below.refl _ _ | apply Below.drew | refine Below.alloc ?_ (by simp) _ | refine Below.setCell ?_ (by simp) _)))
      (first | (go_at_call 33; refine (l8Number_any _ _ (by first | exact hxn | exact hxm)).mono ?_; rintro e wq ⟨rfl, rfl⟩))
    all_goals
      go_wp2_with fail
      go_meet
      case rel => exact ⟨rfl, ⟨by simp, fun o => World.cell?_alloc_at _ _ _ _ (by simp), fun o => World.frozen?_alloc_at _ _ _ _ (by simp)⟩, by repeat (first | exact Below.refl _ _ | apply Below.drew | refine Below.alloc ?_ (by simp) _)⟩
  case rest =>
  obtain ⟨rfl, hX, b⟩ := hcut
  replace X0 := Hid.intro (X0.out.kept b)
  replace B0 := B0.trans (b.mono B0.size)
  clear b HS hlt1 hlt4 hg1 hg4 hcap1 hcap4 q1 hxn hxm
  have c0 : wc.cell? ⟨w6.heap.size, 0, none⟩ = some (.int .i64 (k : Nat)) := hX.cell 0
  have c1 : wc.cell? ⟨w6.heap.size, 1, none⟩ = some (.string p) := hX.cell 1
  have c2 : wc.cell? ⟨w6.heap.size, 2, none⟩ = some (.string to) := hX.cell 2
  have c3 : wc.cell? ⟨w6.heap.size, 3, none⟩ = some (.int .i64 (unfoldI n)) := hX.cell 3
  have c4 : wc.cell? ⟨w6.heap.size, 4, none⟩ = some (.int .i64 (unfoldI m)) := hX.cell 4
  have c5 : wc.cell? ⟨w6.heap.size, 5, none⟩ = some (.string d) := hX.cell 5
  have hne : ¬ w.heap.size = w6.heap.size := by omega
  go_wp2_with fail
  refine (specShowCall_any ⟨k, p, to, unfoldI n, unfoldI m, d⟩ _).mono ?_
  rintro e w9 ⟨rfl, b⟩
  have hxi := hX.hi
  replace c0 := (b.cell (p := ⟨w6.heap.size, 0, none⟩) hxi).trans c0
  replace c1 := (b.cell (p := ⟨w6.heap.size, 1, none⟩) hxi).trans c1
  replace c2 := (b.cell (p := ⟨w6.heap.size, 2, none⟩) hxi).trans c2
  replace c3 := (b.cell (p := ⟨w6.heap.size, 3, none⟩) hxi).trans c3
  replace c4 := (b.cell (p := ⟨w6.heap.size, 4, none⟩) hxi).trans c4
  replace c5 := (b.cell (p := ⟨w6.heap.size, 5, none⟩) hxi).trans c5
  replace X0 := Hid.intro (X0.out.kept b)
  replace B0 := B0.trans (b.mono B0.size)
  clear b hX hxi
  have hca : caOf ⟨k, p.data.toList, to.data.toList, n, m, d.data.toList⟩ = ⟨k, p, to, unfoldI n, unfoldI m, d⟩ := by
    simp only [caOf, ba_of]
  have hi := shC_is HO.out
  have hoc := outC_of HO.out
  rw [hca] at hi hoc
  clear HO hca
  by_cases hE : shC ⟨k, p, to, unfoldI n, unfoldI m, d⟩ = s
  · have hb : ((shC ⟨k, p, to, unfoldI n, unfoldI m, d⟩).toList == s.toList) = true := by rw [hE]; exact beq_self_eq_true _
    rw [if_pos (hi.1 hE)] at hoc
    clear hi hE
    have k0 : w9.cell? ⟨w.heap.size, 0, none⟩ = some (.int .i64 0) := X0.out.cell 0
    have f0 : w9.frozen? ⟨w.heap.size, 0, none⟩ = false := X0.out.fro 0
    have k1 : w9.cell? ⟨w.heap.size, 1, none⟩ = some (.string ⟨#[]⟩) := X0.out.cell 1
    have f1 : w9.frozen? ⟨w.heap.size, 1, none⟩ = false := X0.out.fro 1
    have k2 : w9.cell? ⟨w.heap.size, 2, none⟩ = some (.string ⟨#[]⟩) := X0.out.cell 2
    have f2 : w9.frozen? ⟨w.heap.size, 2, none⟩ = false := X0.out.fro 2
    have k3 : w9.cell? ⟨w.heap.size, 3, none⟩ = some (.int .i64 0) := X0.out.cell 3
    have f3 : w9.frozen? ⟨w.heap.size, 3, none⟩ = false := X0.out.fro 3
    have k4 : w9.cell? ⟨w.heap.size, 4, none⟩ = some (.int .i64 0) := X0.out.cell 4
    have f4 : w9.frozen? ⟨w.heap.size, 4, none⟩ = false := X0.out.fro 4
    have k5 : w9.cell? ⟨w.heap.size, 5, none⟩ = some (.string ⟨#[]⟩) := X0.out.cell 5
    have f5 : w9.frozen? ⟨w.heap.size, 5, none⟩ = false := X0.out.fro 5
    have o1 := set6_only w.heap.size w9 (.int .i64 (k : Nat)) (.string p) (.string to) (.int .i64 (unfoldI n)) (.int .i64 (unfoldI m)) (.string d)
    clear X0
    go_wp2
    exact bodyPost_ret (v := .tuple #[caV ⟨k, p, to, unfoldI n, unfoldI m, d⟩, .bool true]) (by simp [results, Try.results19, go_sem, k0, k1, k2, k3, k4, k5]) rfl ⟨by rw [hoc]; rfl, B0.trans (o1.below B0.size (fun k hk h => by omega))⟩
  · have hb : ((shC ⟨k, p, to, unfoldI n, unfoldI m, d⟩).toList == s.toList) = false := bstr_ne hE
    rw [if_neg (fun h => hE (hi.2 h))] at hoc
    clear hi hE
    have k0 : w9.cell? ⟨w.heap.size, 0, none⟩ = some (.int .i64 0) := X0.out.cell 0
    have f0 : w9.frozen? ⟨w.heap.size, 0, none⟩ = false := X0.out.fro 0
    have k1 : w9.cell? ⟨w.heap.size, 1, none⟩ = some (.string ⟨#[]⟩) := X0.out.cell 1
    have f1 : w9.frozen? ⟨w.heap.size, 1, none⟩ = false := X0.out.fro 1
    have k2 : w9.cell? ⟨w.heap.size, 2, none⟩ = some (.string ⟨#[]⟩) := X0.out.cell 2
    have f2 : w9.frozen? ⟨w.heap.size, 2, none⟩ = false := X0.out.fro 2
    have k3 : w9.cell? ⟨w.heap.size, 3, none⟩ = some (.int .i64 0) := X0.out.cell 3
    have f3 : w9.frozen? ⟨w.heap.size, 3, none⟩ = false := X0.out.fro 3
    have k4 : w9.cell? ⟨w.heap.size, 4, none⟩ = some (.int .i64 0) := X0.out.cell 4
    have f4 : w9.frozen? ⟨w.heap.size, 4, none⟩ = false := X0.out.fro 4
    have k5 : w9.cell? ⟨w.heap.size, 5, none⟩ = some (.string ⟨#[]⟩) := X0.out.cell 5
    have f5 : w9.frozen? ⟨w.heap.size, 5, none⟩ = false := X0.out.fro 5
    have o1 := set6_only w.heap.size w9 (.int .i64 0) (.string ⟨#[]⟩) (.string ⟨#[]⟩) (.int .i64 0) (.int .i64 0) (.string ⟨#[]⟩)
    clear X0
    go_wp2
    exact bodyPost_ret (v := .tuple #[caV caZ, .bool false]) (by simp [results, Try.results19, go_sem, k0, k1, k2, k3, k4, k5, caZ]) rfl ⟨by rw [hoc]; rfl, B0.trans (o1.below B0.size (fun k hk h => by omega))⟩
end Go.Proofs.Ythicdhjipebghaa
