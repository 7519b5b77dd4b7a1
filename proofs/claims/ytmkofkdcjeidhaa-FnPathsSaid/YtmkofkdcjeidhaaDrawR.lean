/- The contracts of DrawBelow, of fresh and of big. -/
import Derived.Test.YtmkofkdcjeidhaaDrawQ
import Derived.OwnWalk
namespace Go.Proofs.Ytmkofkdcjeidhaa
open Go.RowKit
set_option linter.unusedVariables false

theorem lits_tail : okLits #[.string ⟨#[]⟩, .string ⟨#[47, 97]⟩, .string ⟨#[47, 46, 46, 47, 97]⟩, .string ⟨#[97]⟩, .string ⟨#[47]⟩] := by
  intro v hv
  simp at hv
  rcases hv with rfl | rfl | rfl | rfl | rfl <;> exact ⟨_, rfl, by decide⟩

set_option maxHeartbeats 400000 in
theorem drawBelow_any (zs : List Int) (len N cap : Nat) (a : Option Addr) (w : World) (hl : len ≤ 1048576) (hN : N ≤ w.heap.size) (hr : RowOk w N a len zs) :
    Calls Try.prog 10 #[.slice a len cap] w fun e w' => ∃ s t : ByteArray, e = .returned (.tuple #[.string s, .string t]) ∧ s.size ≤ 6000 ∧ t.size ≤ 6000 ∧ Below w.heap.size w w' := by
  have HR := Hid.intro hr
  clear hr
  go_enter Try.func10, Try.ntmps10
  go_wp2_with fail
  refine (new_any zs len w.heap.size cap a w hl (Nat.le_refl _) (fun j hj => by obtain ⟨b, off, e, hb, r⟩ := HR.out j hj; exact ⟨b, off, e, by omega, r⟩)).mono ?_
  rintro e w1 ⟨B, rfl, s1, g1⟩
  have C1 : Hid (Cur w.heap.size a len cap zs B w1) := ⟨hl, _, _, Nat.zero_le _, s1⟩
  have hB : w.heap.size ≤ B := s1.base
  clear s1
  go_wp2_with fail
  refine (pathC_any _ C1.out).mono ?_
  rintro e w2 ⟨t, rfl, ht, c2, g2⟩
  have C2 := Hid.intro c2
  clear c2
  go_wp2_with fail
  refine (pathC_any _ C2.out).mono ?_
  rintro e w3 ⟨s, rfl, hs, c3, g3⟩
  have C3 := Hid.intro c3
  have gr3 := grown_trans g2 g3
  clear c3 g2 g3
  go_wp2_with fail
  refine (onceC_any 2 _ C3.out (by omega) (by omega)).mono ?_
  rintro e w4 ⟨b4, rfl, c4, g4⟩
  have C4 := Hid.intro c4
  have gr4 := grown_trans gr3 g4
  clear c4 g4 gr3
  cases b4 with
  | true =>
    go_wp2_with fail
    refine (pickC_any 5 _ _ C4.out lits_tail rfl (by omega) (by omega)).mono ?_
    rintro e w5 ⟨s5, rfl, hs5, c5, g5⟩
    have gr5 := grown_trans gr4 g5
    clear c5 g5 gr4
    go_wp2
    go_ret2
    exact ⟨_, t, rfl, by rw [size_append]; omega, by omega, below_new g1 hB gr5⟩
  | false =>
    go_wp2
    go_ret2
    exact ⟨s, t, rfl, by omega, by omega, below_new g1 hB gr4⟩

theorem big_no (a : Option Addr) (len cap : Nat) (w : World) (hl : (len : Int) ≤ 1048576) :
    Calls Try.prog 9 #[.slice a len cap] w fun e w' => e = .returned (.bool false) ∧ w = w' := by
  go_enter Try.func9, Try.ntmps9
  go_wp2
  go_ret
  exact ⟨by simp; omega, rfl⟩

/-- Bytes as cells. -/
def byteVals (zs : List Int) : List Value := zs.map (Value.int .u8)
def Bytes (zs : List Int) : Prop := ∀ z ∈ zs, 0 ≤ z ∧ z < 256

theorem Try.info5 : (Try.prog.info? 5).map (fun i => (i.zero, i.size, i.bytes)) = some (some (.int .u8 0), 1, 1) := by kernel_rfl

theorem row_of_own {w : World} {base k : Nat} {v : Value} {ys : List Int} (hl : ys.length = k + 1) (hB : Bytes ys) (h : w.ownsRow base 5 1 v (k + 1) (byteVals ys)) : ∃ g c, v = .slice (some ⟨g, 0, none⟩) (k + 1) c ∧ RowOk w w.heap.size (some ⟨g, 0, none⟩) (k + 1) ys := by
  rcases h.2 with ⟨_, h0⟩ | ⟨g, cap, cur, rfl, _, hgg, _⟩
  · omega
  · refine ⟨g, cap, rfl, ?_⟩
    intro j hj
    have hlt : g < w.heap.size := (Array.getElem?_eq_some_iff.1 hgg).1
    have hc := World.ownsRow.cellAt h j (by omega)
    have hjy : j < ys.length := by omega
    have e : ys.getD j 0 = ys[j] := by rw [List.getD_eq_getElem?_getD, List.getElem?_eq_getElem hjy]; rfl
    have hb := hB ys[j] (List.getElem_mem hjy)
    refine ⟨g, 0, rfl, hlt, ?_, by rw [e]; exact hb.1, by rw [e]; exact hb.2⟩
    rw [Nat.zero_add, hc, e]
    simp [byteVals, hjy]

/-- A call that hands back a row of at most 601 bytes. -/
def FreshPost (w : World) (e : Ending) (w' : World) : Prop :=
  ∃ (g n c : Nat) (ys : List Int), e = .returned (.slice (some ⟨g, 0, none⟩) n c) ∧ n ≤ 601 ∧ RowOk w' w'.heap.size (some ⟨g, 0, none⟩) n ys ∧ Below w.heap.size w w'

set_option maxHeartbeats 400000 in
theorem fresh_any (zs : List Int) (len N cap : Nat) (a : Option Addr) (w : World) (hl : len ≤ 1048576) (hN : N ≤ w.heap.size) (hr : RowOk w N a len zs) :
    Calls Try.prog 15 #[.slice a len cap, .int .i64 3] w fun e w' => FreshPost w e w' := by
  obtain ⟨i0, hi0, hz0, hz1, hz2⟩ := info_parts Try.info5
  have HR := Hid.intro hr
  clear hr
  go_enter Try.func15, Try.ntmps15
  go_wp2
  go_loopw [5, 6] (fun v i wr => ∃ (k : Nat) (ys : List Int), i = .int .i64 (k : Int) ∧ k ≤ 600 ∧ k ≤ len ∧ Hid (ys.length = k + 1) ∧ Hid (Bytes ys) ∧ wr.ownsRow w.heap.size 5 1 v (k + 1) (byteVals ys) ∧ Below w.heap.size w wr) (fun _ i _ => 600 - (intOf i).toNat)
  case atStart => exact ⟨0, [3], rfl, by omega, by omega, rfl, by intro z hz; simp at hz; omega, World.ownsRow_lit w #[.int .u8 3] 1 (Nat.le_refl _) (by decide) rfl, (Below.refl _ _).alloc (Nat.le_refl _) _⟩
  case round =>
    obtain ⟨k, ys, rfl, hk6, hkl, hyl, HB, hown, hbel⟩ := hrel
    have hbs := hbel.size
    by_cases hlt : k < len
    · have g1 : (k : Int) < (len : Int) := by omega
      by_cases hlt6 : k < 600
      · have g2 : (k : Int) < 600 := by omega
        obtain ⟨b, off, ha, hb, hcz, z0, z1⟩ := HR.out k hlt
        have hcz' : wr.cell? ⟨b, off + k, none⟩ = some (.int .u8 (zs.getD k 0)) := (hbel.cell (p := ⟨b, off + k, none⟩) (by show b < _; omega)).trans hcz
        clear hcz
        subst ha
        generalize zs.getD k 0 = z at *
        go_wp2_with (at_builtin; refine wpList_append_own _ rfl _ _ 22 rfl w.heap.size 5 i0 (.int .u8 0) 1 1 Try.underlying22 hi0 hz0 hz1 hz2 rfl (by decide) _ _ _ rfl (hown.alloc _) ⟨wr.heap.size, 0, none⟩ 1 1 [.int .u8 ((z * 3 + 3 * ((k : Int) % 7 + 1)) % 256)] rfl rfl ?c1A ?c2A ?c3A ?c4A ?c5A ?_)
        case c1A => exact cell_one_new _ _ _
        case c2A => intro u hu; simp at hu; subst hu; rfl
        case c3A => unfold maxLen; omega
        case c4A => omega
        case c5A => simp; omega
        intro v' w4 hown' hgrow _
        have hb' := hbel.trans (((Below.refl _ wr).alloc hbs _).grown hgrow (by simp; omega) (fun k hk => (World.ownsRow.lt hown k hk).1))
        have OW : Hid (w4.ownsRow w.heap.size 5 1 v' (k + 1 + 1) (byteVals (ys ++ [(z * 3 + 3 * ((k : Int) % 7 + 1)) % 256]))) := by
          unfold Hid byteVals
          rw [List.map_append]
          exact hown'
        clear hown' hgrow hown hbel
        go_wp2
        go_roundw
        case rel => exact ⟨k + 1, ys ++ [(z * 3 + 3 * ((k : Int) % 7 + 1)) % 256], by go_num, by omega, by omega, by have := hyl.out; unfold Hid; simp [this], by
          intro q hq
          rcases List.mem_append.1 hq with hq | hq
          · exact HB.out q hq
          · simp at hq; omega, OW.out, hb'⟩
        case measure => simp [intOf]; omega
      · have g2 : ¬ (k : Int) < 600 := by omega
        have hrow := row_of_own hyl.out HB.out hown
        obtain ⟨g, c, hv, hro⟩ := hrow
        have HRO := Hid.intro hro
        rw [hv]
        clear hown hro hv
        go_wp2
        go_ret
        exact ⟨g, k + 1, c, ys, rfl, by omega, HRO.out, hbel⟩
    · have g1 : ¬ (k : Int) < (len : Int) := by omega
      have hrow := row_of_own hyl.out HB.out hown
      obtain ⟨g, c, hv, hro⟩ := hrow
      have HRO := Hid.intro hro
      rw [hv]
      clear hown hro hv
      go_wp2
      go_ret
      exact ⟨g, k + 1, c, ys, rfl, by omega, HRO.out, hbel⟩

end Go.Proofs.Ytmkofkdcjeidhaa
