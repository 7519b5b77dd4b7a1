/- take; KeptStep of the program. -/
import Derived.Test.YtkilepoimocoeaaTake
import Derived.Test.YtkilepoimocoeaaLeafC
namespace Go.Proofs.Ytkilepoimocoeaa
open Go.RowKit
set_option linter.unusedVariables false
theorem TookP.from {w w3 w' : World} {kb base : Nat} {K K' : Kp} {v : Value} {e : Ending} {g : Bool} (h : TookP w3 kb base K v e g K' w') (hb : Below w.heap.size w w3) (klt : kb < w.heap.size) : TookP w kb base K v e g K' w' := by
  obtain ⟨he, v', hk, hl, ht⟩ := h
  have z := hb.size
  refine ⟨he, v', hk, fun k hk' => ?_, ⟨?_, fun o ho => (ht.rest o ho).trans (hb.cell (p := ⟨kb, o, none⟩) klt)⟩⟩
  · rcases hl k hk' with h1 | h1
    · exact .inl h1
    · exact .inr (by omega)
  · exact (Below.any hb).then ht.only (fun k _ h => h)
set_option maxRecDepth 100000 in
set_option maxHeartbeats 4000000 in
theorem take_any (K : Kp) (v : Value) (kb base : Nat) (r : Rc) (w : World) (hb : base ≤ w.heap.size) (h : KOwn w kb base K v) (hs : Sm K) :
    Calls Try.prog 49 #[.pointer (some ⟨kb, 0, none⟩), rcV r] w fun e w' => TookP w kb base K v e (goB K r) (nextK K r) w' := by
  have HK := Hid.intro h
  have klt := h.1.lt
  clear h
  cases hrb : recB r with
  | false =>
    have hg : goB K r = false := goB_no1 hrb
    have HG := Hid.intro hg
    clear hg
    go_enter Try.func49, Try.ntmps49
    go_wp2_with fail
    refine (recOk_any r _).mono ?_
    rintro e w1 ⟨rfl, b1⟩
    have B1 : Below w.heap.size w w1 := ((Below.refl _ _).alloc (Nat.le_refl _) _).trans (b1.mono (by simp))
    clear b1
    go_wp2
    go_ret
    exact tookP_no HK.out HG.out rfl B1
  | true =>
    have key : ∀ (W3 : World), Below w.heap.size w W3 → KOwn W3 kb base K v ∧ base ≤ W3.heap.size := fun W3 hB => ⟨HK.out.stay hB, by have := hB.size; omega⟩
    have HKEY := Hid.intro key
    clear key
    have hkd : r.k = 1 ∨ r.k = 2 ∨ r.k = 3 ∨ r.k = 4 := by have := recB_out hrb; unfold recP at this; omega
    obtain ⟨k, t, i, vo, d⟩ := r
    rcases hkd with h | h | h | h
    all_goals
      dsimp only at h
      subst h
    · go_enter Try.func49, Try.ntmps49
      go_wp2_with fail
      obtain ⟨W, hW, bW, zW, cW, fW⟩ := boxed w #[.int .i64 1, .int .i64 t, .int .i64 i, .int .i64 vo, .string d] 43
      simp only [hW]
      refine (recOk_any ⟨1, t, i, vo, d⟩ _).mono ?_
      rintro e w1 ⟨rfl, b1⟩
      replace cW := keepC b1 (by omega) cW
      have z1 := b1.size
      have B1 := bW.trans (b1.mono (by omega))
      have hz1 : w.heap.size < w1.heap.size := by omega
      clear hW bW zW fW b1 z1
      go_wp2_with fail
      refine (recordOf_any ⟨1, t, i, vo, d⟩ _).mono ?_
      rintro e w2 ⟨rfl, b2⟩
      rw [show recI ⟨1, t, i, vo, d⟩ = .iface 89 (.agg #[.int .i64 t, .int .i64 vo]) from rfl]
      have B2 := B1.trans (b2.mono (by omega))
      have ta0 : ∀ w : World, (Instr.typeAssert (.iface 89 (.agg #[.int .i64 t, .int .i64 vo])) 101 89 true).run Try.prog w = .ok (.tuple #[.agg #[.int .i64 t, .int .i64 vo], .bool true]) w := fun _ => by kernel_rfl
      clear cW B1 b2 hz1
      go_wp2_with fail
      have B3 : Below w.heap.size w (w2.alloc (.cells #[.int .i64 t, .int .i64 vo] 89)) := B2.alloc B2.size _
      refine (takeHard_any K v kb base t vo i d _ (HKEY.out _ B3).1 hrb).mono ?_
      rintro e w4 hT
      have HT := Hid.intro (hT.from B3 klt)
      obtain ⟨rfl, _⟩ := hT
      clear HKEY HK
      go_wp2
      go_ret
      exact HT.out
    · go_enter Try.func49, Try.ntmps49
      go_wp2_with fail
      obtain ⟨W, hW, bW, zW, cW, fW⟩ := boxed w #[.int .i64 2, .int .i64 t, .int .i64 i, .int .i64 vo, .string d] 43
      simp only [hW]
      refine (recOk_any ⟨2, t, i, vo, d⟩ _).mono ?_
      rintro e w1 ⟨rfl, b1⟩
      replace cW := keepC b1 (by omega) cW
      have z1 := b1.size
      have B1 := bW.trans (b1.mono (by omega))
      have hz1 : w.heap.size < w1.heap.size := by omega
      clear hW bW zW fW b1 z1
      go_wp2_with fail
      refine (recordOf_any ⟨2, t, i, vo, d⟩ _).mono ?_
      rintro e w2 ⟨rfl, b2⟩
      rw [show recI ⟨2, t, i, vo, d⟩ = .iface 98 (.agg #[.int .i64 i, .int .i64 t, .string d]) from rfl]
      have B2 := B1.trans (b2.mono (by omega))
      have ta0 : ∀ w : World, (Instr.typeAssert (.iface 98 (.agg #[.int .i64 i, .int .i64 t, .string d])) 101 89 true).run Try.prog w = .ok (.tuple #[.agg #[.int .i64 0, .int .i64 0], .bool false]) w := fun _ => by kernel_rfl
      have ta1 : ∀ w : World, (Instr.typeAssert (.iface 98 (.agg #[.int .i64 i, .int .i64 t, .string d])) 101 98 true).run Try.prog w = .ok (.tuple #[.agg #[.int .i64 i, .int .i64 t, .string d], .bool true]) w := fun _ => by kernel_rfl
      clear cW B1 b2 hz1
      go_wp2_with fail
      have B3 : Below w.heap.size w (w2.alloc (.cells #[.int .i64 i, .int .i64 t, .string d] 98)) := B2.alloc B2.size _
      refine (takeEntry_any K v kb base i t vo d _ (HKEY.out _ B3).2 (HKEY.out _ B3).1 hs hrb).mono ?_
      rintro e w4 hT
      have HT := Hid.intro (hT.from B3 klt)
      obtain ⟨rfl, _⟩ := hT
      clear HKEY HK
      go_wp2
      go_ret
      exact HT.out
    · go_enter Try.func49, Try.ntmps49
      go_wp2_with fail
      obtain ⟨W, hW, bW, zW, cW, fW⟩ := boxed w #[.int .i64 3, .int .i64 t, .int .i64 i, .int .i64 vo, .string d] 43
      simp only [hW]
      refine (recOk_any ⟨3, t, i, vo, d⟩ _).mono ?_
      rintro e w1 ⟨rfl, b1⟩
      replace cW := keepC b1 (by omega) cW
      have z1 := b1.size
      have B1 := bW.trans (b1.mono (by omega))
      have hz1 : w.heap.size < w1.heap.size := by omega
      clear hW bW zW fW b1 z1
      go_wp2_with fail
      refine (recordOf_any ⟨3, t, i, vo, d⟩ _).mono ?_
      rintro e w2 ⟨rfl, b2⟩
      rw [show recI ⟨3, t, i, vo, d⟩ = .iface 94 (.agg #[.int .i64 i]) from rfl]
      have B2 := B1.trans (b2.mono (by omega))
      have ta0 : ∀ w : World, (Instr.typeAssert (.iface 94 (.agg #[.int .i64 i])) 101 89 true).run Try.prog w = .ok (.tuple #[.agg #[.int .i64 0, .int .i64 0], .bool false]) w := fun _ => by kernel_rfl
      have ta1 : ∀ w : World, (Instr.typeAssert (.iface 94 (.agg #[.int .i64 i])) 101 98 true).run Try.prog w = .ok (.tuple #[.agg #[.int .i64 0, .int .i64 0, .string ⟨#[]⟩], .bool false]) w := fun _ => by kernel_rfl
      have ta2 : ∀ w : World, (Instr.typeAssert (.iface 94 (.agg #[.int .i64 i])) 101 94 true).run Try.prog w = .ok (.tuple #[.agg #[.int .i64 i], .bool true]) w := fun _ => by kernel_rfl
      clear cW B1 b2 hz1
      go_wp2_with fail
      have B3 : Below w.heap.size w (w2.alloc (.cells #[.int .i64 i] 94)) := B2.alloc B2.size _
      refine (takeCut_any K v kb base i t vo d _ (HKEY.out _ B3).2 (HKEY.out _ B3).1 hs hrb).mono ?_
      rintro e w4 hT
      have HT := Hid.intro (hT.from B3 klt)
      obtain ⟨rfl, _⟩ := hT
      clear HKEY HK
      go_wp2
      go_ret
      exact HT.out
    · go_enter Try.func49, Try.ntmps49
      go_wp2_with fail
      obtain ⟨W, hW, bW, zW, cW, fW⟩ := boxed w #[.int .i64 4, .int .i64 t, .int .i64 i, .int .i64 vo, .string d] 43
      simp only [hW]
      refine (recOk_any ⟨4, t, i, vo, d⟩ _).mono ?_
      rintro e w1 ⟨rfl, b1⟩
      replace cW := keepC b1 (by omega) cW
      have z1 := b1.size
      have B1 := bW.trans (b1.mono (by omega))
      have hz1 : w.heap.size < w1.heap.size := by omega
      clear hW bW zW fW b1 z1
      go_wp2_with fail
      refine (recordOf_any ⟨4, t, i, vo, d⟩ _).mono ?_
      rintro e w2 ⟨rfl, b2⟩
      rw [show recI ⟨4, t, i, vo, d⟩ = .iface 91 (.agg #[.int .i64 i, .int .i64 t, .string d]) from rfl]
      have B2 := B1.trans (b2.mono (by omega))
      have ta0 : ∀ w : World, (Instr.typeAssert (.iface 91 (.agg #[.int .i64 i, .int .i64 t, .string d])) 101 89 true).run Try.prog w = .ok (.tuple #[.agg #[.int .i64 0, .int .i64 0], .bool false]) w := fun _ => by kernel_rfl
      have ta1 : ∀ w : World, (Instr.typeAssert (.iface 91 (.agg #[.int .i64 i, .int .i64 t, .string d])) 101 98 true).run Try.prog w = .ok (.tuple #[.agg #[.int .i64 0, .int .i64 0, .string ⟨#[]⟩], .bool false]) w := fun _ => by kernel_rfl
      have ta2 : ∀ w : World, (Instr.typeAssert (.iface 91 (.agg #[.int .i64 i, .int .i64 t, .string d])) 101 94 true).run Try.prog w = .ok (.tuple #[.agg #[.int .i64 0], .bool false]) w := fun _ => by kernel_rfl
      have ta3 : ∀ w : World, (Instr.typeAssert (.iface 91 (.agg #[.int .i64 i, .int .i64 t, .string d])) 101 91 true).run Try.prog w = .ok (.tuple #[.agg #[.int .i64 i, .int .i64 t, .string d], .bool true]) w := fun _ => by kernel_rfl
      clear cW B1 b2 hz1
      go_wp2_with fail
      have B3 : Below w.heap.size w (w2.alloc (.cells #[.int .i64 i, .int .i64 t, .string d] 91)) := B2.alloc B2.size _
      refine (takeSnap_any K v kb base i t vo d _ (HKEY.out _ B3).2 (HKEY.out _ B3).1 hs hrb).mono ?_
      rintro e w4 hT
      have HT := Hid.intro (hT.from B3 klt)
      obtain ⟨rfl, _⟩ := hT
      clear HKEY HK
      go_wp2
      go_ret
      exact HT.out
end Go.Proofs.Ytkilepoimocoeaa
