/- l3Copy, l3Behind. -/
import Derived.Test.YtkilepoimocoeaaCopy
import Derived.Test.YtkilepoimocoeaaFits
namespace Go.Proofs.Ytkilepoimocoeaa
open Go.RowKit
set_option linter.unusedVariables false
theorem add_block (a : Addr) (j : Nat) : (a.add j).block = a.block := by unfold Addr.add; split <;> rfl
theorem made0 (w : World) (base : Nat) (h : base ≤ w.heap.size) : OwnE (w.alloc (.cells #[] 96)) base (.slice (some ⟨w.heap.size, 0, none⟩) 0 0) [] := World.ownsRow_made w #[] 0 h (by decide) rfl
theorem made2 (w : World) (A B : Obj) (base : Nat) (h : base ≤ w.heap.size + 2) : OwnE (((w.alloc A).alloc B).alloc (.cells #[] 96)) base (.slice (some ⟨w.heap.size + 1 + 1, 0, none⟩) 0 0) [] := by
  have := made0 ((w.alloc A).alloc B) base (by simp; omega)
  simpa using this
/-- Cells of a row that is read, in a later world. -/
theorem cells_later {w W : World} {b off : Nat} {xs : List Value} (hb : Below w.heap.size w W) (hlt : b < w.heap.size) (h : ∀ j u, xs[j]? = some u → w.cell? ((⟨b, off, none⟩ : Addr).add j) = some u) : ∀ j u, xs[j]? = some u → W.cell? ((⟨b, off, none⟩ : Addr).add j) = some u :=
  fun j u hu => (hb.cell (p := (⟨b, off, none⟩ : Addr).add j) (by rw [add_block]; exact hlt)).trans (h j u hu)
theorem three_below (w : World) (A B C : Obj) : Below w.heap.size w (((w.alloc A).alloc B).alloc C) := (((Below.refl _ _).alloc (Nat.le_refl _) _).alloc (by simp) _).alloc (by simp; omega) _
/-- Two blocks that were laid first, behind a step that keeps them. -/
theorem two_cells {S : Nat → Prop} {w w1 : World} {A B : Array Value} {T T' : TypeId} {C : Obj} (hO : Only S (((w.alloc (.cells A T)).alloc (.cells B T')).alloc C) w1) (h1 : ¬ S w.heap.size) (h2 : ¬ S (w.heap.size + 1)) :
    (∀ o, w1.cell? ⟨w.heap.size, o, none⟩ = A[o]?) ∧ (∀ o, w1.frozen? ⟨w.heap.size, o, none⟩ = false) ∧ (∀ o, w1.cell? ⟨w.heap.size + 1, o, none⟩ = B[o]?) ∧ (∀ o, w1.frozen? ⟨w.heap.size + 1, o, none⟩ = false) ∧ w.heap.size + 1 + 1 < w1.heap.size := by
  refine ⟨fun o => ?_, fun o => ?_, fun o => ?_, fun o => ?_, ?_⟩
  · rw [hO.cell (by simp; omega) h1, World.cell?_alloc_past _ _ _ (by simp; omega), World.cell?_alloc_past _ _ _ (by simp), World.cell?_alloc_at _ _ _ _ rfl]
  · rw [hO.frozen (by simp; omega) h1, World.frozen?_alloc_past _ _ _ (by simp; omega), World.frozen?_alloc_past _ _ _ (by simp), World.frozen?_alloc_at _ _ _ _ rfl]
  · rw [hO.cell (by simp) h2, World.cell?_alloc_past _ _ _ (by simp), World.cell?_alloc_at _ _ _ _ (by simp)]
  · rw [hO.frozen (by simp) h2, World.frozen?_alloc_past _ _ _ (by simp), World.frozen?_alloc_at _ _ _ _ (by simp)]
  · have := hO.size; simp at this; omega
set_option maxRecDepth 100000 in
set_option maxHeartbeats 2000000 in
theorem l3Copy_any (K : Kp) (v : Value) (N : Nat) (w : World) (hN : N ≤ w.heap.size) (hr : RowE w N v K.e) (hl : K.e.length ≤ 2000000) :
    Calls Try.prog 43 #[kpV K v] w fun e w' => ∃ v', e = .returned (kpV K v') ∧ NewE w w' v' K.e := by
  obtain ⟨i0, hi, hz0, hz1, hz2⟩ := info_parts Try.infoE
  by_cases h0 : K.e = []
  · obtain ⟨a, cap, rfl, h1, h2, h3⟩ := hr
    have hl0 : K.e.length = 0 := by rw [h0]; rfl
    have H0 := Hid.intro h0
    clear h0 h3
    rw [hl0]
    cases a with
    | none =>
      go_enter Try.func43, Try.ntmps43
      go_wp2
      refine bodyPost_ret (v := kpV K (.slice (some ⟨w.heap.size + 1 + 1, 0, none⟩) 0 0)) (by simp [results, Try.results43, go_sem]) rfl ⟨_, rfl, ?_, three_below _ _ _ _⟩
      rw [H0.out]
      exact made2 w _ _ w.heap.size (by omega)
    | some a =>
      go_enter Try.func43, Try.ntmps43
      go_wp2
      refine bodyPost_ret (v := kpV K (.slice (some ⟨w.heap.size + 1 + 1, 0, none⟩) 0 0)) (by simp [results, Try.results43, go_sem]) rfl ⟨_, rfl, ?_, three_below _ _ _ _⟩
      rw [H0.out]
      exact made2 w _ _ w.heap.size (by omega)
  · obtain ⟨a, cap, rfl, h1, h2, h3⟩ := id hr
    obtain ⟨b, off, rfl, hb, h4⟩ := h3 h0
    have HCL := Hid.intro (hr.cells h0).2
    have HL := Hid.intro hl
    clear h3 h4 hr
    go_enter Try.func43, Try.ntmps43
    go_wp2_with (at_builtin; refine app_E rfl _ _ rfl (w.heap.size + 1 + 1) (.slice (some ⟨w.heap.size + 1 + 1, 0, none⟩) 0 0) [] K.e rfl (made2 w _ _ _ (by omega)) ⟨b, off, none⟩ cap rfl (cells_later (three_below _ _ _ _) (by omega) HCL.out) (by have := HL.out; simp; omega) (by simp) h0 ?_; intro g cap' w1 hown hO hloc; have HO := Hid.intro hown; have HP := Hid.intro hO; obtain ⟨c1, f1, c2, f2, hz⟩ := two_cells hO (by simp only [Value.ownBlock, Option.some.injEq]; omega) (by simp only [Value.ownBlock, Option.some.injEq]; omega); clear hown hO hloc)
    refine bodyPost_ret (v := kpV K (.slice (some ⟨g, 0, none⟩) K.e.length cap')) (by simp [results, Try.results43, go_sem, c2]) rfl ⟨_, rfl, ?_, ?_⟩
    · have hO := HO.out
      simp only [List.length_nil, Nat.zero_add, List.nil_append] at hO
      refine OwnE.lower (OwnE.only hO (S := fun k => k = w.heap.size ∨ k = w.heap.size + 1) ?_ ?_) (by omega)
      · repeat (refine Only.setCell ?_ (by simp) _)
        exact Only.refl _ _
      · intro k hk h
        have := (hO.lt k hk).1
        omega
    · repeat (refine Below.setCell ?_ (by simp) _)
      exact (three_below _ _ _ _).trans (HP.out.below (by simp; omega) (fun k hk h => by simp [Value.ownBlock] at h; omega))
theorem behL_yes {L : List En} {n : Nat} {t : Int} (h : n < L.length) (ht : L[n].t = t) : behL L ((n : Int) + 1) t = L.drop (n + 1) := by
  unfold behL
  rw [if_pos ⟨by omega, by omega, by simp [List.getD_eq_getElem?_getD, h, ht]⟩]
  congr 1
theorem behL_term {L : List En} {n : Nat} {t : Int} (h : n < L.length) (ht : ¬ L[n].t = t) : behL L ((n : Int) + 1) t = [] := by
  unfold behL
  rw [if_neg]
  rintro ⟨_, _, h3⟩
  simp [List.getD_eq_getElem?_getD, h] at h3
  exact ht h3
theorem behL_out {L : List En} {n t : Int} (h : n < 1 ∨ (L.length : Int) < n) : behL L n t = [] := by
  unfold behL
  rw [if_neg]
  rintro ⟨h1, h2, _⟩
  omega
theorem made1 (w : World) (A : Obj) (base : Nat) (h : base ≤ w.heap.size + 1) : OwnE ((w.alloc A).alloc (.cells #[] 96)) base (.slice (some ⟨w.heap.size + 1, 0, none⟩) 0 0) [] := by
  have := made0 (w.alloc A) base (by simp; omega)
  simpa using this
theorem two_below (w : World) (A B : Obj) : Below w.heap.size w ((w.alloc A).alloc B) := ((Below.refl _ _).alloc (Nat.le_refl _) _).alloc (by simp) _
set_option maxRecDepth 100000 in
set_option maxHeartbeats 2000000 in
theorem l3Behind_out (K : Kp) (a : Option Addr) (cap : Nat) (i t : Int) (w : World) (hs : -1000 ≤ K.si ∧ K.si ≤ 1000000) (hl : K.e.length ≤ 2000000) (hi : -1000000 ≤ i ∧ i ≤ 1000000) (ho : i - K.si < 1 ∨ (K.e.length : Int) < i - K.si) :
    Calls Try.prog 58 #[kpV K (.slice a K.e.length cap), .int .i64 i, .int .i64 t] w fun e w' => ∃ v', e = .returned v' ∧ NewE w w' v' [] := by
  obtain ⟨s1, s2⟩ := hs
  obtain ⟨i1, i2⟩ := hi
  rcases ho with ho | ho
  · go_enter Try.func58, Try.ntmps58
    go_wp2
    go_ret
    exact ⟨_, rfl, made1 w _ _ (by omega), two_below _ _ _⟩
  · have h1 : 1 ≤ i - K.si := by omega
    go_enter Try.func58, Try.ntmps58
    go_wp2
    go_ret
    exact ⟨_, rfl, made1 w _ _ (by omega), two_below _ _ _⟩
set_option maxRecDepth 100000 in
set_option maxHeartbeats 2000000 in
theorem l3Behind_term (K : Kp) (b off cap n : Nat) (i t x : Int) (w : World) (hb : b < w.heap.size) (hs : -1000 ≤ K.si ∧ K.si ≤ 1000000) (hl : K.e.length ≤ 2000000) (hn : i = K.si + (n + 1)) (hlt : n < K.e.length) (hlc : K.e.length ≤ cap) (hcap : cap ≤ 9223372036854775807)
    (c0 : w.cell? ⟨b, off + n * 2, none⟩ = some (.int .i64 x)) (hx : ¬ x = t) :
    Calls Try.prog 58 #[kpV K (.slice (some ⟨b, off, none⟩) K.e.length cap), .int .i64 i, .int .i64 t] w fun e w' => ∃ v', e = .returned v' ∧ NewE w w' v' [] := by
  obtain ⟨s1, s2⟩ := hs
  have e1 : i - K.si = (n : Int) + 1 := by omega
  have e2 : (n : Int) + 1 ≤ K.e.length := by omega
  have hx' : (x == t) = false := by simpa using hx
  clear hn
  go_enter Try.func58, Try.ntmps58
  go_wp2
  go_ret
  exact ⟨_, rfl, made1 w _ _ (by omega), two_below _ _ _⟩
set_option maxRecDepth 100000 in
set_option maxHeartbeats 2000000 in
theorem l3Behind_last (K : Kp) (b off cap n : Nat) (i t : Int) (w : World) (hb : b < w.heap.size) (hs : -1000 ≤ K.si ∧ K.si ≤ 1000000) (hl : K.e.length ≤ 2000000) (hn : i = K.si + (n + 1)) (hlt : n + 1 = K.e.length) (hlc : K.e.length ≤ cap) (hcap : cap ≤ 9223372036854775807)
    (c0 : w.cell? ⟨b, off + n * 2, none⟩ = some (.int .i64 t)) :
    Calls Try.prog 58 #[kpV K (.slice (some ⟨b, off, none⟩) K.e.length cap), .int .i64 i, .int .i64 t] w fun e w' => ∃ v', e = .returned v' ∧ NewE w w' v' [] := by
  obtain ⟨s1, s2⟩ := hs
  have e1 : i - K.si = (n : Int) + 1 := by omega
  rw [← hlt] at hl hlc ⊢
  clear hn hlt
  by_cases hcn : cap = n + 1
  · subst hcn
    go_enter Try.func58, Try.ntmps58
    go_wp2
    go_ret
    exact ⟨_, rfl, made1 w _ _ (by omega), two_below _ _ _⟩
  · go_enter Try.func58, Try.ntmps58
    go_wp2
    go_ret
    exact ⟨_, rfl, made1 w _ _ (by omega), two_below _ _ _⟩
set_option maxRecDepth 100000 in
set_option maxHeartbeats 2000000 in
theorem l3Behind_yes (K : Kp) (b off cap n : Nat) (i t : Int) (M : List En) (w : World) (hb : b < w.heap.size) (hs : -1000 ≤ K.si ∧ K.si ≤ 1000000) (hl : K.e.length ≤ 2000000) (hn : i = K.si + (n + 1)) (hlt : n + 1 < K.e.length) (hlc : K.e.length ≤ cap) (hcap : cap ≤ 9223372036854775807)
    (c0 : w.cell? ⟨b, off + n * 2, none⟩ = some (.int .i64 t)) (hM : Hid (M.length = K.e.length - (n + 1))) (hcl : Hid (∀ j u, (enF M)[j]? = some u → w.cell? ((⟨b, off + (n + 1) * 2, none⟩ : Addr).add j) = some u)) :
    Calls Try.prog 58 #[kpV K (.slice (some ⟨b, off, none⟩) K.e.length cap), .int .i64 i, .int .i64 t] w fun e w' => ∃ v', e = .returned v' ∧ NewE w w' v' M := by
  obtain ⟨s1, s2⟩ := hs
  have e1 : i - K.si = (n : Int) + 1 := by omega
  have e2 : (n : Int) + 1 ≤ K.e.length := by omega
  have e3 : ¬ cap = n + 1 := by omega
  have HL := Hid.intro hl
  clear hn
  go_enter Try.func58, Try.ntmps58
  have hMne : M ≠ [] := by
    intro h
    have := hM.out
    rw [h] at this
    simp at this
    omega
  have HMne := Hid.intro hMne
  clear hMne
  go_wp2_with (at_builtin; refine app_E rfl _ _ rfl (w.heap.size + 1) (.slice (some ⟨w.heap.size + 1, 0, none⟩) 0 0) [] M rfl (made1 w _ _ (by omega)) ⟨b, off + (n + 1) * 2, none⟩ (cap - (n + 1)) (by rw [hM.out]; rfl) (cells_later (two_below _ _ _) hb hcl.out) (by have := HL.out; have := hM.out; simp; omega) (by simp) HMne.out ?_; intro g cap' w1 hown hO hloc; have HO := Hid.intro hown; have HP := Hid.intro hO; clear hown hO hloc)
  go_ret
  have hO := HO.out
  simp only [List.length_nil, Nat.zero_add, List.nil_append] at hO
  exact ⟨_, rfl, OwnE.lower (by simpa using hO) (by omega), (two_below _ _ _).trans (HP.out.below (by simp; omega) (fun k hk h => by simp only [Value.ownBlock, Option.some.injEq] at h; omega))⟩

theorem l3Behind_any (K : Kp) (v : Value) (N : Nat) (i t : Int) (w : World) (hN : N ≤ w.heap.size) (hr : RowE w N v K.e) (hs : -1000 ≤ K.si ∧ K.si ≤ 1000000) (hl : K.e.length ≤ 2000000) (hi : -1000000 ≤ i ∧ i ≤ 1000000) :
    Calls Try.prog 58 #[kpV K v, .int .i64 i, .int .i64 t] w fun e w' => ∃ v', e = .returned v' ∧ NewE w w' v' (behL K.e (i - K.si) t) := by
  by_cases ho : i - K.si < 1 ∨ (K.e.length : Int) < i - K.si
  · obtain ⟨a, cap, rfl, _⟩ := hr
    rw [behL_out ho]
    exact l3Behind_out K a cap i t w hs hl hi ho
  · obtain ⟨n, hn⟩ : ∃ n : Nat, i - K.si = n + 1 := ⟨(i - K.si - 1).toNat, by omega⟩
    have hlt : n < K.e.length := by omega
    obtain ⟨a, cap, rfl, h1, h2, h3⟩ := id hr
    obtain ⟨b, off, rfl, hb, h4⟩ := h3 (by intro h; rw [h] at hlt; simp at hlt)
    obtain ⟨c0, _⟩ := h4 n hlt
    rw [hn]
    by_cases hx : K.e[n].t = t
    · rw [behL_yes hlt hx]
      rw [hx] at c0
      by_cases hq : n + 1 = K.e.length
      · rw [List.drop_eq_nil_of_le (by omega)]
        exact l3Behind_last K b off cap n i t w (by omega) hs hl (by omega) hq h1 h2 c0
      · refine l3Behind_yes K b off cap n i t _ w (by omega) hs hl (by omega) (by omega) h1 h2 c0 (by unfold Hid; simp) ?_
        have hd := hr.drop (n := n + 1) (by omega)
        rw [← List.length_drop] at hd
        exact (hd.cells (by intro h; have := congrArg List.length h; simp at this; omega)).2
    · rw [behL_term hlt hx]
      exact l3Behind_term K b off cap n i t _ w (by omega) hs hl (by omega) hlt h1 h2 c0 hx
end Go.Proofs.Ytkilepoimocoeaa
