/- The laws' helpers over volumes: how great, copies, equal. -/
import Derived.Test.YtegdogdlohoheaaGreatVLawB
import Derived.Test.YtegdogdlohoheaaGreatVRow
namespace Go.Proofs.YtegdogdlohoheaaGreat
open Go.RowKit
set_option linter.unusedVariables false
theorem infoN' : (Tryz.prog.info? 76).map (fun i => (i.zero, i.size, i.bytes)) = some (some (.agg #[.int .i64 0, .int .i64 0, .int .i64 0, .int .i64 0, .int .i64 0, .string ⟨#[]⟩, .slice none 0 0, .int .i64 0, .int .i64 0]), 9, 96) := by kernel_rfl
theorem infoN : ∃ i, Tryz.prog.info? 76 = some i ∧ i.zero = some (.agg #[.int .i64 0, .int .i64 0, .int .i64 0, .int .i64 0, .int .i64 0, .string ⟨#[]⟩, .slice none 0 0, .int .i64 0, .int .i64 0]) ∧ i.size = 9 ∧ i.bytes = 96 := info_parts infoN'
/-- So many names and inodes. -/
def sizeL (L : List Nd) : Nat := L.length + (L.map fun n => n.names.length).sum
/-- Of each inode so many names at most. -/
def NmL (L : List Np) (m : Int) : Prop := ∀ p ∈ L, (p.n.names.length : Int) ≤ m
set_option maxRecDepth 100000 in
set_option maxHeartbeats 4000000 in
theorem eqInodeS_any (L1 L2 : List Np) (v1 v2 : Value) (N : Nat) (w : World) (hN : N ≤ w.heap.size) (h1 : VolR w N v1 L1) (h2 : VolR w N v2 L2) (he : L1.map Np.n = L2.map Np.n) :
    Calls Tryz.prog 55 #[v1, v2] w fun e w' => e = .returned (.bool true) ∧ Below w.heap.size w w' := by
  obtain ⟨a1, cap1, rfl, l1, m1, hc1⟩ := ndE_cell h1.row
  obtain ⟨a2, cap2, rfl, l2, m2, hc2⟩ := ndE_cell h2.row
  have hlen : L1.length = L2.length := by simpa using congrArg List.length he
  have H1 := Hid.intro hc1
  have H2 := Hid.intro hc2
  have M1 := Hid.intro h1.nms
  have M2 := Hid.intro h2.nms
  have HE := Hid.intro he
  clear hc1 hc2 h1 h2 he
  obtain ⟨m, hL2⟩ : ∃ m, L2.length = m := ⟨_, rfl⟩
  rw [hlen] at l1 ⊢
  rw [hL2] at l1 l2 ⊢
  go_enter Tryz.func55, Tryz.ntmps55
  go_wp2
  go_loopw [5] (fun i wr => ∃ (j : Nat), i = .int .i64 j ∧ j ≤ m ∧ Below w.heap.size w wr) (fun i _ => m - (intOf i).toNat)
  case atStart => exact ⟨0, rfl, Nat.zero_le _, Below.refl _ _⟩
  case round =>
    obtain ⟨j, rfl, hj, hbel⟩ := hrel
    by_cases hlt : j < m
    · obtain ⟨b1, o1, rfl, hb1, cc1⟩ := H1.out (by intro h; rw [h] at hlen; simp only [List.length_nil] at hlen; omega)
      obtain ⟨b2, o2, rfl, hb2, cc2⟩ := H2.out (by intro h; rw [h] at hL2; simp only [List.length_nil] at hL2; omega)
      have p := cc1 j (by omega)
      have q := cc2 j (by omega)
      have r1 := M1.out _ (List.getElem_mem (show j < L1.length by omega))
      have r2 := M2.out _ (List.getElem_mem (show j < L2.length by omega))
      have hn : L1[j].n = L2[j].n := by
        have : (L1.map Np.n)[j]? = (L2.map Np.n)[j]? := by rw [HE.out]
        simpa [List.getElem?_eq_getElem (show j < L1.length by omega), List.getElem?_eq_getElem (show j < L2.length by omega)] using this
      generalize L1[j] = ej at p r1 hn
      generalize L2[j] = ek at q r2 hn
      obtain ⟨nj, aj, cj⟩ := ej
      obtain ⟨nk, ak, ck⟩ := ek
      simp only [Np.v] at p q r1 r2 hn
      subst hn
      have hs := hbel.size
      have HC : Hid (∀ w', Below wr.heap.size wr w' → Below w.heap.size w w') := fun w' hb => hbel.trans (hb.mono hs)
      have HR1 := Hid.intro (r1.kept (hbel.mono hN))
      have HR2 := Hid.intro (r2.kept (hbel.mono hN))
      obtain ⟨x0, x1, x2, x3, x4, x5, x6, x7, x8⟩ := p.kept hbel (by omega)
      obtain ⟨y0, y1, y2, y3, y4, y5, y6, y7, y8⟩ := q.kept hbel (by omega)
      have i1 : (0 : Int) ≤ (j : Int) ∧ (j : Int) < (m : Int) := by omega
      have HJ : Hid (j < m) := hlt
      have hjl : (j : Int) < (m : Int) := by omega
      clear cc1 cc2 p q r1 r2
      go_wp2
      go_region_with (go_at_call 70; refine (eqInode_any nj _ _ N _ (by simp [go_sem] <;> omega) (by first | exact HR1.out | exact HR1.out.kept (Below.refl _ _).drew | exact HR1.out.kept (Below.refl _ _).drew.drew) (by first | exact HR2.out | exact HR2.out.kept (Below.refl _ _).drew | exact HR2.out.kept (Below.refl _ _).drew.drew)).mono ?_; rintro e w2 ⟨rfl, b2⟩; have B2 := HC.out w2 (by first | exact b2 | exact ((Below.refl _ _).drew).trans b2 | exact ((Below.refl _ _).drew.drew).trans b2); clear b2)
      all_goals
        clear HC
        go_wp2
        go_roundw
        case rel => exact ⟨j + 1, by go_num, by omega, B2⟩
        case measure => simp [intOf]; omega
    · obtain rfl : j = m := by omega
      go_wp2
      go_ret
      exact ⟨rfl, hbel⟩
end Go.Proofs.YtegdogdlohoheaaGreat
