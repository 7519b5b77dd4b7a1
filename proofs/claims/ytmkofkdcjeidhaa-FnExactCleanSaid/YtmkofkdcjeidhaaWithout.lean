/- The contracts of the program's without and withoutPoints. -/
import Derived.Test.YtmkofkdcjeidhaaSClean
import Derived.Laws.CopyOwn
import Derived.Deep.RegionLaw
namespace Go.Proofs.Ytmkofkdcjeidhaa
open Go.RowKit
set_option linter.unusedVariables false

/-- m empty texts. -/
def Zs (m : Nat) : List Value := (madeCells (Value.string ⟨#[]⟩).cells m).toList
theorem Zs_length (m : Nat) : (Zs m).length = m := by
  rw [Zs, Array.length_toList, size_madeCells]
theorem make_zs (m : Nat) (w : World) (h : m ≤ 1000) : (Instr.makeSlice 29 (.int .i64 m) (.int .i64 m)).run Try.prog w = .ok (.slice (some ⟨w.heap.size, 0, none⟩) m m) (w.alloc (.cells (Zs m).toArray 9)) := by
  obtain ⟨i0, hi, hz0, hz1, hz2⟩ := info_parts Try.info9
  have h := run_make (P := Try.prog) w 29 9 i0 (.string ⟨#[]⟩) Try.underlying29 hi hz0 .i64 .i64 m m (by omega) (by omega) (by rw [hz2]; omega) (by omega)
  rw [h, hz1]
  simp only [Int.toNat_natCast, Nat.mul_one]
  rfl
theorem Try.size9 : (Try.prog.info? 9).map (·.size) = some 1 := by kernel_rfl

theorem splice2 (Z X Y : List Value) (k : Nat) (hk : X.length = k) (hZ : Z.length = k + Y.length) : splice (splice Z 0 X) k Y = X ++ Y := by
  subst hk
  unfold splice
  have e1 : (Z.take 0 ++ (X ++ Z.drop (0 + X.length))).take X.length = X := by simp
  have e2 : (Z.take 0 ++ (X ++ Z.drop (0 + X.length))).drop (X.length + Y.length) = [] := by
    apply List.drop_eq_nil_of_le
    simp
    omega
  rw [e1, e2]
  simp

theorem sVals_take (L : List (List UInt8)) (k : Nat) : sVals (L.take k) = (sVals L).take k := by simp [sVals, List.map_take]
theorem sVals_drop (L : List (List UInt8)) (k : Nat) : sVals (L.drop k) = (sVals L).drop k := by simp [sVals, List.map_drop]

/-- The cells of a piece of a row. -/
theorem cellsFrom {w w' : World} {base g n c : Nat} {L : List (List UInt8)} (h : RowN w base g n c L) (hb : Below w.heap.size w w') (k : Nat) (X : List Value) (hX : ∀ j v, X[j]? = some v → (sVals L)[k + j]? = some v) :
    ∀ j v, X[j]? = some v → w'.cell? ((⟨g, k, none⟩ : Addr).add j) = some v := by
  intro j v hv
  have h1 := hX j v hv
  have hlt : k + j < n := by
    have := (List.getElem?_eq_some_iff.1 h1).1
    rw [sVals_length, h.1] at this
    exact this
  have hadd : (⟨g, k, none⟩ : Addr).add j = ⟨g, k + j, none⟩ := by unfold Addr.add; split <;> simp_all
  have h2 : RowS w' base (.slice (some ⟨g, 0, none⟩) n c) L := h.2.kept hb
  have h3 := h.1
  subst h3
  rw [hadd, World.ownsRow.cellAt h2 (k + j) (by omega), h1]

set_option maxHeartbeats 1000000 in
theorem without_any (g c n a b m base : Nat) (L : List (List UInt8)) (w : World) (hm : Hid (m + (b - a) = n)) (hab : a ≤ b) (hbn : b ≤ n) (hn60 : n ≤ 100) (hc : n ≤ c) (hc2 : c ≤ 9223372036854775807) (r : Hid (RowN w base g n c L)) :
    Calls Try.prog 44 #[.slice (some ⟨g, 0, none⟩) n c, .int .i64 a, .int .i64 b] w fun e w' => e = .returned (.slice (some ⟨w.heap.size, 0, none⟩) m m) ∧ RowN w' w.heap.size w.heap.size m m (L.take a ++ L.drop b) ∧ Below w.heap.size w w' := by
  have hq : (n : Int) - ((b : Int) - (a : Int)) = (m : Int) := by have := hm.out; omega
  have ham : a ≤ m := by have := hm.out; omega
  have hm60 : m ≤ 100 := by have := hm.out; omega
  have hmk := make_zs m w (by omega)
  obtain ⟨X, hX⟩ : ∃ X, X = sVals (L.take a) := ⟨_, rfl⟩
  obtain ⟨Y, hY⟩ : ∃ Y, Y = sVals (L.drop b) := ⟨_, rfl⟩
  have hXl : X.length = a := by rw [hX, sVals_length, List.length_take, r.out.1]; omega
  have hYl : Y.length = n - b := by rw [hY, sVals_length, List.length_drop, r.out.1]
  have HX := Hid.intro hX
  have HY := Hid.intro hY
  have HXl := Hid.intro hXl
  have HYl := Hid.intro hYl
  clear hX hY hXl hYl
  have HZ := Hid.intro (Zs_length m)
  go_enter Try.func44, Try.ntmps44
  go_wp2_with (refine wpList_copy_splice rfl _ _ 29 29 rfl 9 Try.underlying29 Try.size9 _ _ _ _ _ _ rfl rfl w.heap.size 0 (Zs m) 9 ?h1 X ?h2 ?h3 ?h4 ?h5 w.heap.size w ?h6 ?h7 ?_)
  case h1 => exact heap_alloc_new w _
  case h2 => rw [HXl.out]; exact (Nat.min_eq_left ham).symm
  case h3 =>
    intro _ j v hv
    have := cellsFrom r.out ((Below.refl _ w).alloc (Nat.le_refl _) (.cells (Zs m).toArray 9)) 0 X (fun j v hv => by
      rw [HX.out, sVals_take, List.getElem?_take] at hv
      split at hv
      · rw [Nat.zero_add]; exact hv
      · cases hv) j v hv
    have hadd : (⟨g, 0, none⟩ : Addr).add j = ⟨g, j, none⟩ := by unfold Addr.add; split <;> simp_all
    rw [hadd] at this
    exact this
  case h4 => rw [HXl.out, HZ.out]; omega
  case h5 => rw [HX.out]; exact sVals_one
  case h6 => exact (Below.refl _ w).alloc (Nat.le_refl _) _
  case h7 => exact Nat.le_refl _
  intro w2 HG hb2
  have hsz2 : w.heap.size < w2.heap.size := (Array.getElem?_eq_some_iff.1 HG.out).1
  clear hmk
  have hl1 := length_splice (Zs m) 0 X (by rw [HXl.out, HZ.out]; omega)
  have k1 : Hid (w2.drew.heap[w.heap.size]? = some (.cells (splice (Zs m) 0 X).toArray 9 (0, 0))) := HG.out
  have k2 : Hid (Y.length = Nat.min (n - b) (m - a)) := by
    unfold Hid
    rw [HYl.out, show m - a = n - b by have := hm.out; omega]
    exact (Nat.min_self _).symm
  have k3 : Hid (0 < Y.length → (if m = a then some (⟨w.heap.size, 0, none⟩ : Addr) else some ⟨w.heap.size, a, none⟩) = some ⟨w.heap.size, a, none⟩ ∧ ∃ ad, (if c = b then some (⟨g, 0, none⟩ : Addr) else some ⟨g, b, none⟩) = some ad ∧ ∀ j v, Y[j]? = some v → w2.drew.cell? (ad.add j) = some v) := by
    intro hpos
    rw [HYl.out] at hpos
    rw [if_neg (by have := hm.out; omega), if_neg (by omega)]
    refine ⟨rfl, ⟨g, b, none⟩, rfl, ?_⟩
    exact cellsFrom r.out hb2.drew b Y (fun j v hv => by
      rw [HY.out, sVals_drop, List.getElem?_drop] at hv
      exact hv)
  have k4 : Hid (a + Y.length ≤ (splice (Zs m) 0 X).length) := by
    unfold Hid
    rw [hl1, HZ.out, HYl.out]
    have := hm.out
    omega
  have k5 : Hid (∀ v ∈ Y, v.oneCell' = true) := by
    unfold Hid
    rw [HY.out]
    exact sVals_one
  have k6 : Hid (Below w.heap.size w w2.drew) := hb2.drew
  clear hl1
  go_wp2
  go_region_law (refine step_copy_splice rfl (.tmp 22) (.tmp 25) 29 29 rfl 9 Try.underlying29 Try.size9 (if m = a then some ⟨w.heap.size, 0, none⟩ else some ⟨w.heap.size, a, none⟩) (if c = b then some ⟨g, 0, none⟩ else some ⟨g, b, none⟩) (m - a) (m - a) (n - b) (c - b) rfl rfl w.heap.size a (splice (Zs m) 0 X) 9 k1.out Y k2.out k3.out k4.out k5.out w.heap.size w k6.out (Nat.le_refl _) ?_; intro w4 hg4 hb4)
  clear k1 k2 k3 k4 k5 k6
  have HF : Hid (RowN w4 w.heap.size w.heap.size m m (L.take a ++ L.drop b)) := by
    have hg5 := hg4.out
    rw [splice2 (Zs m) X Y a HXl.out (by rw [HZ.out, HYl.out]; have := hm.out; omega)] at hg5
    refine RowN.of ?_ ⟨?_, .inr ⟨w.heap.size, m, _, rfl, Nat.le_refl _, hg5, Nat.le_refl _, by unfold maxLen; omega, ?_, ?_⟩⟩
    · rw [List.length_append, List.length_take, List.length_drop, r.out.1]
      have := hm.out
      omega
    · rw [sVals_length, List.length_append, List.length_take, List.length_drop, r.out.1]
      have := hm.out
      omega
    · rw [List.size_toArray, List.length_append, HXl.out, HYl.out]
      have := hm.out
      omega
    · rw [List.take_of_length_le (by rw [List.length_append, HXl.out, HYl.out]; have := hm.out; omega), HX.out, HY.out, ← sVals_append]
  generalize (if m = a then some (⟨w.heap.size, 0, none⟩ : Addr) else some ⟨w.heap.size, a, none⟩) = dp
  generalize (if c = b then some (⟨g, 0, none⟩ : Addr) else some ⟨g, b, none⟩) = sp
  go_wp2
  all_goals go_ret
  all_goals exact ⟨rfl, HF.out, hb4⟩

end Go.Proofs.Ytmkofkdcjeidhaa
