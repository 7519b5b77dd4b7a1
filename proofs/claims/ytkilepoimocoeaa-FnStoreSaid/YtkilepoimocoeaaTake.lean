/- take: whatever the record. -/
import Derived.Test.YtkilepoimocoeaaTakeEB
import Derived.Test.YtkilepoimocoeaaTakeSB
import Derived.Test.YtkilepoimocoeaaRecI
namespace Go.Proofs.Ytkilepoimocoeaa
open Go.RowKit
set_option linter.unusedVariables false
/-- A Kept that the call owns, at block kb: its entries are a row of the call's own, elsewhere. -/
def KOwn (w : World) (kb base : Nat) (K : Kp) (v : Value) : Prop := KAt w kb K v ∧ OwnE w base v K.e ∧ ∀ k, v.ownBlock = some k → ¬ kb = k
/-- What take leaves. -/
def TookP (w : World) (kb base : Nat) (K : Kp) (v : Value) (e : Ending) (g : Bool) (K' : Kp) (w' : World) : Prop := e = .returned (.bool g) ∧ ∃ v', KOwn w' kb base K' v' ∧ Loc v v' w ∧ Took kb v w w'
theorem nextK_no {K : Kp} {r : Rc} (h : goB K r = false) : nextK K r = K := by unfold nextK; rw [h]; rfl
theorem nextK_yes {K : Kp} {r : Rc} (h : goB K r = true) : nextK K r = stepK K r := by unfold nextK; rw [if_pos h]
theorem goB_no1 {K : Kp} {r : Rc} (h : recB r = false) : goB K r = false := by unfold goB; rw [h]; rfl
theorem goB_no2 {K : Kp} {r : Rc} (h : ¬ fitsP K r) : goB K r = false := by unfold goB; rw [fitsB_no h]; cases recB r <;> rfl
theorem Loc.same (v : Value) (w : World) : Loc v v w := fun k hk => .inl hk
theorem KOwn.stay {w w' : World} {kb base : Nat} {K : Kp} {v : Value} (h : KOwn w kb base K v) (hb : Below w.heap.size w w') : KOwn w' kb base K v := ⟨h.1.below hb h.1.lt, h.2.1.kept hb, h.2.2⟩
/-- Nothing was taken. -/
theorem tookP_no {w w' : World} {kb base : Nat} {K : Kp} {v : Value} {e : Ending} {r : Rc} (h : KOwn w kb base K v) (hg : goB K r = false) (he : e = .returned (.bool false)) (hb : Below w.heap.size w w') : TookP w kb base K v e (goB K r) (nextK K r) w' := by
  rw [hg, nextK_no hg]
  exact ⟨he, v, h.stay hb, Loc.same v w, Took.of_below hb h.1.lt⟩
theorem takeHard_any (K : Kp) (v : Value) (kb base : Nat) (t vo i : Int) (d : ByteArray) (w : World) (h : KOwn w kb base K v) (hr : recB ⟨1, t, i, vo, d⟩ = true) :
    Calls Try.prog 80 #[.pointer (some ⟨kb, 0, none⟩), .agg #[.int .i64 t, .int .i64 vo]] w fun e w' => TookP w kb base K v e (goB K ⟨1, t, i, vo, d⟩) (nextK K ⟨1, t, i, vo, d⟩) w' := by
  by_cases hf : K.t < t ∨ (t = K.t ∧ (K.v = -1 ∨ vo = K.v))
  · have hg : goB K ⟨1, t, i, vo, d⟩ = true := goB_mk (recB_out hr) (.inl ⟨rfl, hf⟩)
    have fin : ∀ (e : Ending) (w' : World), e = .returned (.bool true) ∧ KAt w' kb { K with t := t, v := vo } v ∧ Took kb v w w' ∧ Only (fun k => k = kb) w w' → TookP w kb base K v e (goB K ⟨1, t, i, vo, d⟩) (nextK K ⟨1, t, i, vo, d⟩) w' := by
      rintro e w' ⟨he, hk, ht, hO⟩
      rw [hg, nextK_yes hg]
      refine ⟨he, v, ⟨hk, ?_, h.2.2⟩, Loc.same v w, ht⟩
      exact h.2.1.only hO (fun k hk e => h.2.2 k hk e.symm)
    rcases hf with hf | ⟨rfl, hf⟩
    · exact (takeHard_gt K v kb t vo w h.1 hf).mono fin
    · exact (takeHard_eq K v kb vo w h.1 hf).mono fin
  · have hg : goB K ⟨1, t, i, vo, d⟩ = false := goB_no2 (by simp only [fitsP]; omega)
    exact (takeHard_no K v kb t vo w h.1 hf).mono fun e w' ⟨he, hb⟩ => tookP_no h hg he hb

theorem stepK_2 (K : Kp) (i t vo : Int) (d : ByteArray) : stepK K ⟨2, t, i, vo, d⟩ = { K with e := K.e ++ [⟨t, d⟩] } := rfl
theorem stepK_3 (K : Kp) (i t vo : Int) (d : ByteArray) : stepK K ⟨3, t, i, vo, d⟩ = { K with e := K.e.take (i - K.si - 1).toNat } := rfl
theorem stepK_4 (K : Kp) (i t vo : Int) (d : ByteArray) : stepK K ⟨4, t, i, vo, d⟩ = { K with si := i, st := t, sd := d, e := behL K.e (i - K.si) t } := rfl
theorem KOwn.row {w : World} {kb base : Nat} {K : Kp} {v : Value} (h : KOwn w kb base K v) : RowE w w.heap.size v K.e := h.2.1.rowAll
theorem new_loc {w w' : World} {v v' : Value} {L : List En} (h : OwnE w' w.heap.size v' L) : Loc v v' w := fun k hk => .inr (h.lt k hk).1
theorem takeEntry_any (K : Kp) (v : Value) (kb base : Nat) (i t vo : Int) (d : ByteArray) (w : World) (hb : base ≤ w.heap.size) (h : KOwn w kb base K v) (hs : Sm K) (hr : recB ⟨2, t, i, vo, d⟩ = true) :
    Calls Try.prog 81 #[.pointer (some ⟨kb, 0, none⟩), .agg #[.int .i64 i, .int .i64 t, .string d]] w fun e w' => TookP w kb base K v e (goB K ⟨2, t, i, vo, d⟩) (nextK K ⟨2, t, i, vo, d⟩) w' := by
  obtain ⟨a, cap, rfl⟩ := h.2.1.slice
  by_cases h1 : i = K.si + K.e.length + 1
  · by_cases h2 : K.e.length < 60
    · cases h3 : inB t (lastT K) K.t with
      | true =>
        have h4 := inB_out h3
        have hg : goB K ⟨2, t, i, vo, d⟩ = true := goB_mk (recB_out hr) (.inr (.inl ⟨rfl, h1, h2, h4.1, h4.2⟩))
        refine (takeEntry_yes K a cap kb w.heap.size i t d w h.1 hs (Nat.le_refl _) h.row base hb h.2.1 h.2.2 h1 h2 h3).mono ?_
        rintro e w' ⟨v', he, hk, ho, hl, ht⟩
        rw [hg, nextK_yes hg, stepK_2]
        refine ⟨he, v', ⟨hk, ho, fun k hk' e => ?_⟩, hl, ht⟩
        rcases hl k hk' with h5 | h5
        · exact h.2.2 k h5 e
        · have := h.1.lt; omega
      | false =>
        have h4 := inB_not h3
        have hg : goB K ⟨2, t, i, vo, d⟩ = false := goB_no2 (by simp only [fitsP]; omega)
        exact (takeEntry_no3 K a cap kb w.heap.size i t d w h.1 hs (Nat.le_refl _) h.row h1 h2 h3).mono fun e w' ⟨he, hb⟩ => tookP_no h hg he hb
    · have hg : goB K ⟨2, t, i, vo, d⟩ = false := goB_no2 (by simp only [fitsP]; omega)
      exact (takeEntry_no2 K a cap kb i t d w h.1 hs h1 h2).mono fun e w' ⟨he, hb⟩ => tookP_no h hg he hb
  · have hg : goB K ⟨2, t, i, vo, d⟩ = false := goB_no2 (by simp only [fitsP]; omega)
    exact (takeEntry_no1 K a cap kb i t d w h.1 hs h1).mono fun e w' ⟨he, hb⟩ => tookP_no h hg he hb
/-- A row in a block of its own, new. -/
theorem own_new {w w' : World} {kb base : Nat} {K' : Kp} {v' : Value} (hb : base ≤ w.heap.size) (klt : kb < w.heap.size) (hk : KAt w' kb K' v') (ho : OwnE w' w.heap.size v' K'.e) : KOwn w' kb base K' v' :=
  ⟨hk, ho.lower hb, fun k hk' e => by have := (ho.lt k hk').1; omega⟩
theorem takeCut_any (K : Kp) (v : Value) (kb base : Nat) (i t vo : Int) (d : ByteArray) (w : World) (hb : base ≤ w.heap.size) (h : KOwn w kb base K v) (hs : Sm K) (hr : recB ⟨3, t, i, vo, d⟩ = true) :
    Calls Try.prog 82 #[.pointer (some ⟨kb, 0, none⟩), .agg #[.int .i64 i]] w fun e w' => TookP w kb base K v e (goB K ⟨3, t, i, vo, d⟩) (nextK K ⟨3, t, i, vo, d⟩) w' := by
  obtain ⟨a, cap, rfl⟩ := h.2.1.slice
  cases h3 : inB i (K.si + 1) (K.si + K.e.length) with
  | true =>
    have h4 := inB_out h3
    have hg : goB K ⟨3, t, i, vo, d⟩ = true := goB_mk (recB_out hr) (.inr (.inr (.inl ⟨rfl, by show K.si < i; omega, h4.2⟩)))
    refine (takeCut_yes K a cap kb w.heap.size (i - K.si - 1).toNat i w h.1 hs (Nat.le_refl _) h.row (by omega) (by omega)).mono ?_
    rintro e w' ⟨v', he, hk, ho, ht⟩
    rw [hg, nextK_yes hg, stepK_3]
    exact ⟨he, v', own_new hb h.1.lt hk ho, new_loc ho, ht⟩
  | false =>
    have h4 := inB_not h3
    have hg : goB K ⟨3, t, i, vo, d⟩ = false := goB_no2 (by simp only [fitsP]; omega)
    exact (takeCut_no K a cap kb i w h.1 hs h3).mono fun e w' ⟨he, hb⟩ => tookP_no h hg he hb
theorem takeSnap_any (K : Kp) (v : Value) (kb base : Nat) (i t vo : Int) (d : ByteArray) (w : World) (hb : base ≤ w.heap.size) (h : KOwn w kb base K v) (hs : Sm K) (hr : recB ⟨4, t, i, vo, d⟩ = true) :
    Calls Try.prog 83 #[.pointer (some ⟨kb, 0, none⟩), .agg #[.int .i64 i, .int .i64 t, .string d]] w fun e w' => TookP w kb base K v e (goB K ⟨4, t, i, vo, d⟩) (nextK K ⟨4, t, i, vo, d⟩) w' := by
  have hi : i ≤ 100000 := by have := recB_out hr; unfold recP at this; dsimp only at this; omega
  have hrow := h.row
  obtain ⟨a, cap, rfl⟩ := h.2.1.slice
  by_cases h1 : K.si < i ∧ t ≤ K.t
  · have hg : goB K ⟨4, t, i, vo, d⟩ = true := goB_mk (recB_out hr) (.inr (.inr (.inr ⟨rfl, h1.1, h1.2⟩)))
    have fin : ∀ (L : List En), behL K.e (i - K.si) t = L → ∀ (e : Ending) (w' : World), (∃ v', e = .returned (.bool true) ∧ KAt w' kb { K with si := i, st := t, sd := d, e := L } v' ∧ OwnE w' w.heap.size v' L ∧ Took kb (.slice a K.e.length cap) w w') → TookP w kb base K (.slice a K.e.length cap) e (goB K ⟨4, t, i, vo, d⟩) (nextK K ⟨4, t, i, vo, d⟩) w' := by
      rintro L hL e w' ⟨v', he, hk, ho, ht⟩
      rw [hg, nextK_yes hg, stepK_4, hL]
      exact ⟨he, v', own_new hb h.1.lt hk ho, new_loc ho, ht⟩
    by_cases h2 : (K.e.length : Int) < i - K.si
    · exact (takeSnap_out K a cap kb i t d w h.1 hs ⟨h1.1, hi⟩ h1.2 h2).mono (fin [] (behL_out (.inr h2)))
    · obtain ⟨n, hn⟩ : ∃ n : Nat, i - K.si = n + 1 := ⟨(i - K.si - 1).toNat, by omega⟩
      have hlt : n < K.e.length := by omega
      obtain ⟨a', cap', hv, q1, q2, q3⟩ := id hrow
      simp only [Value.slice.injEq, true_and] at hv
      obtain ⟨rfl, rfl⟩ := hv
      obtain ⟨b, off, rfl, hbN, hcc⟩ := q3 (by intro h; rw [h] at hlt; simp at hlt)
      obtain ⟨c0, _⟩ := hcc n hlt
      by_cases hx : K.e[n].t = t
      · rw [hx] at c0
        exact (takeSnap_same K _ cap kb i t b off n d w h.1 hs ⟨h1.1, hi⟩ h1.2 rfl hbN (by omega) hlt c0 w.heap.size (Nat.le_refl _) hrow _ rfl).mono (fin _ (by rw [hn]; exact behL_yes hlt hx))
      · exact (takeSnap_term K _ cap kb i t b off n _ d w h.1 hs ⟨h1.1, hi⟩ h1.2 rfl hbN (by omega) hlt c0 hx).mono (fin [] (by rw [hn]; exact behL_term hlt hx))
  · have hg : goB K ⟨4, t, i, vo, d⟩ = false := goB_no2 (by simp only [fitsP]; omega)
    exact (takeSnap_no K a cap kb i t d w h.1 hs h1).mono fun e w' ⟨he, hb⟩ => tookP_no h hg he hb
end Go.Proofs.Ytkilepoimocoeaa
