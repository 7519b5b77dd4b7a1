/- l3Step at an entry; whatever the record. -/
import Derived.Test.YtkilepoimocoeaaStepS
namespace Go.Proofs.Ytkilepoimocoeaa
open Go.RowKit
set_option linter.unusedVariables false
theorem l3Step_3any (K : Kp) (v : Value) (base : Nat) (t i vo : Int) (d : ByteArray) (w : World) (ho : OwnE w base v K.e) (hs : Sx K) (hg : goB K ⟨3, t, i, vo, d⟩ = true) :
    Calls Try.prog 42 #[kpV K v, rcV ⟨3, t, i, vo, d⟩] w fun e w' => SteppedP w base K v e (goB K ⟨3, t, i, vo, d⟩) (nextK K ⟨3, t, i, vo, d⟩) w' := by
  have hr := (goB_out hg).1
  have hf := (goB_out hg).2
  have hrb := recB_yes hr
  have hz : t = 0 ∧ vo = 0 ∧ d.size = 0 := by unfold recP at hr; dsimp only at hr; omega
  have hfi : K.si < i ∧ i ≤ K.si + K.e.length := by unfold fitsP at hf; dsimp only at hf; omega
  obtain ⟨rfl, rfl, hd⟩ := hz
  obtain rfl := empty_of hd
  rw [hg, nextK_yes hg, stepK_3]
  obtain ⟨n, hn⟩ : ∃ n : Nat, (i - K.si - 1).toNat = n := ⟨_, rfl⟩
  rw [hn]
  rcases ho.look with ⟨_, h0⟩ | ⟨g, cap, rfl, hb1, hb2, hc1, hc2⟩
  · rw [h0] at hfi; simp at hfi; omega
  · refine (l3Step_3 K g 0 cap n i w hs hrb (by omega) (by omega) hc1 hc2).mono ?_
    rintro e w' ⟨he, hb⟩
    have hp := (ho.kept hb).pop (m := n) (by omega)
    exact ⟨_, he, hp, Loc.same _ _, Below.any hb⟩
set_option maxRecDepth 100000 in
set_option maxHeartbeats 4000000 in
theorem l3Step_2 (K : Kp) (v : Value) (base : Nat) (t i vo : Int) (d : ByteArray) (w : World) (hb : base ≤ w.heap.size) (ho : OwnE w base v K.e) (hs : Sx K) (hg : goB K ⟨2, t, i, vo, d⟩ = true) :
    Calls Try.prog 42 #[kpV K v, rcV ⟨2, t, i, vo, d⟩] w fun e w' => SteppedP w base K v e (goB K ⟨2, t, i, vo, d⟩) (nextK K ⟨2, t, i, vo, d⟩) w' := by
  have hrb : recB ⟨2, t, i, vo, d⟩ = true := recB_yes (goB_out hg).1
  have hfb : fitsB K ⟨2, t, i, vo, d⟩ = true := fitsB_yes (goB_out hg).2
  have hle : K.e.length ≤ 1000 := hs.2.2
  rw [hg, nextK_yes hg, stepK_2]
  have HO := Hid.intro ho
  have HS := Hid.intro hs
  obtain ⟨a, cap, rfl⟩ := ho.slice
  clear ho hs hg
  go_enter Try.func42, Try.ntmps42
  go_wp2_with fail
  obtain ⟨W, hW, bW, zW, c1, f1, c2, f2, c3, f3⟩ := boxed3 w #[.int .i64 K.t, .int .i64 K.v, .int .i64 K.si, .int .i64 K.st, .string K.sd, .slice a K.e.length cap] #[.int .i64 2, .int .i64 t, .int .i64 i, .int .i64 vo, .string d] #[.int .i64 0, .int .i64 0, .int .i64 0, .int .i64 0, .string ⟨#[]⟩, .slice none 0 0] 28 43 28
  simp only [hW]
  refine (specRecOk_any ⟨2, t, i, vo, d⟩ _).mono ?_
  rintro e w1 ⟨rfl, b1⟩
  replace c1 := keepC b1 (by omega) c1
  replace f1 := keepF b1 (by omega) f1
  replace c2 := keepC b1 (by omega) c2
  replace c3 := keepC b1 (by omega) c3
  replace f3 := keepF b1 (by omega) f3
  have z1 := b1.size
  have B1 := bW.trans (b1.mono (by omega))
  have hz1 : w.heap.size + 1 + 1 < w1.heap.size := by omega
  clear hW bW zW b1 f2 z1
  go_wp2_with fail
  refine (l3Fits_any K _ w1.heap.size ⟨2, t, i, vo, d⟩ w1 (Nat.le_refl _) (HO.out.kept B1).rowAll HS.out).mono ?_
  rintro e w2 ⟨rfl, b2⟩
  replace c1 := keepC b2 (by omega) c1
  replace f1 := keepF b2 (by omega) f1
  replace c2 := keepC b2 (by omega) c2
  replace c3 := keepC b2 (by omega) c3
  replace f3 := keepF b2 (by omega) f3
  have z2 := b2.size
  have B2 := B1.trans (b2.mono (by omega))
  have hz2 : w.heap.size + 1 + 1 < w2.heap.size := by omega
  have H2 := Hid.intro (HO.out.kept B2)
  have HC1 := Hid.intro c1
  have HF1 := Hid.intro f1
  have HC3 := Hid.intro c3
  have HF3 := Hid.intro f3
  have HB2 := Hid.intro B2
  have HV : Hid (∀ k, (Value.slice a K.e.length cap).ownBlock = some k → k < w.heap.size) := fun k hk => (HO.out.lt k hk).2
  clear b2 z2 B1 hz1 B2
  go_wp2_with (at_builtin; refine app_E rfl _ _ rfl base (.slice a K.e.length cap) K.e [⟨t, d⟩] rfl (H2.out.kept ((Below.refl _ _).alloc (Nat.le_refl _) _)) ⟨w2.heap.size, 0, none⟩ 1 rfl (by intro j u hu; simp only [enF, enC, List.flatMap_cons, List.flatMap_nil, List.append_nil] at hu; rcases j with _ | _ | j <;> simp at hu <;> subst hu <;> simp [Addr.add, go_sem]) (by simp; omega) (by simp; omega) (by simp) ?_; intro g cap' w3 o3 hO hloc; have H3 := Hid.intro o3; have HP := Hid.intro hO; have HL := Hid.intro hloc; have keep : ∀ b, b < w2.heap.size → w.heap.size ≤ b → (∀ o, w3.cell? ⟨b, o, none⟩ = w2.cell? ⟨b, o, none⟩) ∧ (∀ o, w3.frozen? ⟨b, o, none⟩ = w2.frozen? ⟨b, o, none⟩) := (fun b hb1 hb2 => ⟨fun o => by rw [hO.cell (by simp; omega) (fun h => by have := HV.out b h.symm; omega), World.cell?_alloc_past _ _ _ hb1], fun o => by rw [hO.frozen (by simp; omega) (fun h => by have := HV.out b h.symm; omega), World.frozen?_alloc_past _ _ _ hb1]⟩); have d1 : ∀ o, w3.cell? ⟨w.heap.size, o, none⟩ = #[.int .i64 K.t, .int .i64 K.v, .int .i64 K.si, .int .i64 K.st, .string K.sd, .slice a K.e.length cap][o]? := (fun o => ((keep w.heap.size (by omega) (Nat.le_refl _)).1 o).trans (HC1.out o)); have g1 : ∀ o, w3.frozen? ⟨w.heap.size, o, none⟩ = false := (fun o => ((keep w.heap.size (by omega) (Nat.le_refl _)).2 o).trans (HF1.out o)); have d3 : ∀ o, w3.cell? ⟨w.heap.size + 1 + 1, o, none⟩ = #[.int .i64 0, .int .i64 0, .int .i64 0, .int .i64 0, .string ⟨#[]⟩, .slice none 0 0][o]? := (fun o => ((keep (w.heap.size + 1 + 1) (by omega) (by omega)).1 o).trans (HC3.out o)); have g3 : ∀ o, w3.frozen? ⟨w.heap.size + 1 + 1, o, none⟩ = false := (fun o => ((keep (w.heap.size + 1 + 1) (by omega) (by omega)).2 o).trans (HF3.out o)); have hz3 : w.heap.size + 1 + 1 < w3.heap.size := (by have := hO.size; simp at this; omega); clear keep o3 hO hloc)
  refine bodyPost_ret (v := .tuple #[.agg #[.int .i64 K.t, .int .i64 K.v, .int .i64 K.si, .int .i64 K.st, .string K.sd, .slice (some ⟨g, 0, none⟩) (K.e.length + 1) cap'], .bool true]) (by simp [results, Try.results42, go_sem, d3]) rfl ⟨_, rfl, ?_, ?_, ?_⟩
  · refine OwnE.only H3.out (S := fun k => k = w.heap.size ∨ k = w.heap.size + 1 + 1) ?_ (fun k hk h => ?_)
    · repeat (refine Only.setCell ?_ (by simp) _)
      exact Only.refl _ _
    · simp only [Value.ownBlock, Option.some.injEq] at hk
      subst hk
      rcases HL.out with h1 | h1
      · have := HV.out g h1.symm; omega
      · simp at h1; omega
  · intro k hk
    simp only [Value.ownBlock, Option.some.injEq] at hk
    subst hk
    rcases HL.out with h1 | h1
    · exact .inl h1.symm
    · simp at h1; exact .inr (by omega)
  · have hO1 : Only (fun k => some k = (Value.slice a K.e.length cap).ownBlock) w w3 := (Below.any (HB2.out.trans (((Below.refl _ _).alloc (Nat.le_refl _) _).mono (by omega)))).trans HP.out
    refine Only.then hO1 (T := fun k => w.heap.size ≤ k) ?_ (fun k hk h => by omega)
    repeat (refine Only.setCell ?_ (by simp <;> omega) _)
    exact Only.refl _ _
theorem l3StepX_any (K : Kp) (v : Value) (base : Nat) (r : Rc) (w : World) (hb : base ≤ w.heap.size) (ho : OwnE w base v K.e) (hs : Sx K) :
    Calls Try.prog 42 #[kpV K v, rcV r] w fun e w' => SteppedP w base K v e (goB K r) (nextK K r) w' := by
  cases hg : goB K r with
  | false => have := l3Step_no K v base r w ho hs hg; rw [hg] at this; exact this
  | true =>
    have hkd : r.k = 1 ∨ r.k = 2 ∨ r.k = 3 ∨ r.k = 4 := by have := (goB_out hg).1; unfold recP at this; omega
    obtain ⟨k, t, i, vo, d⟩ := r
    rcases hkd with h | h | h | h
    all_goals
      dsimp only at h
      subst h
      rw [← hg]
    · exact l3Step_1 K v base t i vo d w ho hs hg
    · exact l3Step_2 K v base t i vo d w hb ho hs hg
    · exact l3Step_3any K v base t i vo d w ho hs hg
    · exact l3Step_4 K v base t i vo d w hb ho hs hg
theorem l3Step_any (K : Kp) (v : Value) (base : Nat) (r : Rc) (w : World) (hb : base ≤ w.heap.size) (ho : OwnE w base v K.e) (hs : Sm K) :
    Calls Try.prog 42 #[kpV K v, rcV r] w fun e w' => SteppedP w base K v e (goB K r) (nextK K r) w' := l3StepX_any K v base r w hb ho hs.x
end Go.Proofs.Ytkilepoimocoeaa
