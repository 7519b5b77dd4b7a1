/- takeEntry. -/
import Derived.Test.YtkilepoimocoeaaTakeC
import Derived.Deep.RegionHeld3
import Derived.Deep.AppendLies
import Derived.Deep.RegionLaw
namespace Go.Proofs.Ytkilepoimocoeaa
open Go.RowKit
set_option linter.unusedVariables false
/-- What takeEntry's test reads. -/
def SE (K : Kp) (a : Option Addr) (cap kb B : Nat) (i t : Int) (w' : World) : Prop := w'.cell? ⟨kb, 0, none⟩ = some (.int .i64 K.t) ∧ w'.cell? ⟨kb, 1, none⟩ = some (.int .i64 K.v) ∧ w'.cell? ⟨kb, 2, none⟩ = some (.int .i64 K.si) ∧ w'.cell? ⟨kb, 3, none⟩ = some (.int .i64 K.st) ∧ w'.cell? ⟨kb, 4, none⟩ = some (.string K.sd) ∧ w'.cell? ⟨kb, 5, none⟩ = some (.slice a K.e.length cap) ∧ w'.cell? ⟨B, 0, none⟩ = some (.int .i64 i) ∧ w'.cell? ⟨B, 1, none⟩ = some (.int .i64 t)
theorem take1 {P : Program} {md : Region.Mode} {ops : Array Oper} {Q : Exit → Act → World → Prop} {S : World → Prop} {i : Nat} {oi : Oper} {d : Option Nat} {v : Value} {fuel : Nat} {listed : Array Bool} {a : Act} {w : World} (hi : ops[i]? = some oi) (hd : oi.dst = d)
    (hs : Region.noSelect ops = true) (hf : Region.free md ops listed i = true) (hr : (Region.ready md ops listed).contains i = true)
    (hQ : ∀ c a w, Q (.panic c) (a.put oi.dst v) w → Q (.panic c) a w) (hy : YieldsIf P ops S oi v a) (hS : S w)
    (h : wpAnyH P md ops Q S fuel (listed.setIfInBounds i true) (a.put d v) w) : wpAnyH P md ops Q S (fuel + 1) listed a w := by
  subst hd
  exact wpAnyH_take hi hs hf hr hQ hy hS h
theorem KAt.only {S : Nat → Prop} {w w' : World} {kb : Nat} {K : Kp} {v : Value} (h : KAt w kb K v) (hO : Only S w w') (hS : ¬ S kb) : KAt w' kb K v :=
  ⟨Nat.lt_of_lt_of_le h.lt hO.size, (hO.cell h.lt hS).trans h.c0, (hO.cell h.lt hS).trans h.c1, (hO.cell h.lt hS).trans h.c2, (hO.cell h.lt hS).trans h.c3, (hO.cell h.lt hS).trans h.c4, (hO.cell h.lt hS).trans h.c5, fun o => (hO.frozen h.lt hS).trans (h.f o)⟩
/-- What stands when a row was appended to and its slice stored. -/
theorem fin_app {K : Kp} {kb base g : Nat} {v v' : Value} {L : List En} {w w3 X w5 : World} (klt : kb < w.heap.size) (B3 : Below w.heap.size w w3) (BX : Below w3.heap.size w3 X) (K3 : KAt w3 kb K v) (hO : Only (fun k => some k = v.ownBlock) X w5)
    (hkb : ∀ k, v.ownBlock = some k → ¬ kb = k) (o5 : OwnE w5 base v' L) (hv : v'.ownBlock = some g) (hloc : v.ownBlock = some g ∨ g = X.heap.size) :
    KAt (w5.setCell ⟨kb, 5, none⟩ v') kb { K with e := L } v' ∧ OwnE (w5.setCell ⟨kb, 5, none⟩ v') base v' L ∧ Loc v v' w ∧ Took kb v w (w5.setCell ⟨kb, 5, none⟩ v') := by
  have hS : ¬ some kb = v.ownBlock := fun h => hkb kb h.symm rfl
  have KX := K3.below BX K3.lt
  have z3 := B3.size
  have zX := BX.size
  have hg : ¬ g = kb := by
    rcases hloc with h | h
    · exact fun e => hkb g h e.symm
    · have := K3.lt; omega
  have T3 : Took kb v w X := (Took.of_below B3 klt).below BX klt
  have T5 : Took kb v w w5 := ⟨T3.only.then hO (fun k _ h => .inr h), fun o ho => (hO.cell KX.lt hS).trans (T3.rest o ho)⟩
  refine ⟨((KX.only hO hS).set5 v').ents L, OwnE.only o5 ((Only.refl (fun k => k = kb) _).setCell rfl _) (fun k hk h => hg (by rw [hv] at hk; simp only [Option.some.injEq] at hk; omega)), ?_, T5.setCell (by omega) _⟩
  intro k hk
  rw [hv] at hk
  simp only [Option.some.injEq] at hk
  subst hk
  rcases hloc with h | h
  · exact .inl h
  · exact .inr (by omega)
/-- append of one row of entries onto one of the call's own, inside a region that draws its order. -/
theorem step_E {w : World} {ops : Array Oper} {o : Oper} {a : Act} {KK : Act → World → Prop} {Q : Exit → Act → World → Prop} {E : Prop} (hgd : o.guard = none) (s x : Operand)
    (ho : o.op = .call { callee := .builtin .append, args := #[s, x], argTypes := #[26, 26] })
    (base : Nat) (v : Value) (L M : List En) (hs : a.eval s = v) (hown : OwnE w base v L) (ad : Addr) (m c : Nat) (hx : a.eval x = .slice (some ad) m c) (hm : m = M.length)
    (hnews : ∀ j u, (enF M)[j]? = some u → w.cell? (ad.add j) = some u) (hlen : L.length + M.length ≤ 4000000) (hbase : base ≤ w.heap.size) (hne : 0 < M.length)
    (h : ∀ g cap' w', OwnE w' base (.slice (some ⟨g, 0, none⟩) (L.length + m) cap') (L ++ M) → Only (fun k => some k = v.ownBlock) w w' → (v.ownBlock = some g ∨ g = w.heap.size) → g < w'.heap.size →
      KK (a.put o.dst (.slice (some ⟨g, 0, none⟩) (L.length + m) cap')) w') : if Region.wanted o (yielded ops a.tmps) = true then Oper.wp Try.prog o a w KK Q else E := by
  obtain ⟨i0, hi, hz0, hz1, hz2⟩ := info_parts Try.infoE
  subst hm
  refine step_append_lies w hgd s x 26 ho base 96 i0 (.agg #[.int .i64 0, .string ⟨#[]⟩]) 2 24 Try.underlying26 hi hz0 hz1 hz2 rfl (by decide) v L.length (enF L) hs hown ad M.length c (enF M) hx (enF_len M) hnews enF_one hne (by unfold maxLen; omega) (by omega) hbase w.heap.size rfl ?_
  intro g cap' w' hown' hgrow hloc hg
  exact h g cap' w' (OwnE.mk hown' (by simp) (by rw [enF_append])) (grown_only hgrow) hloc hg
set_option maxRecDepth 100000 in
set_option maxHeartbeats 8000000 in
theorem takeEntry_no1 (K : Kp) (a : Option Addr) (cap kb : Nat) (i t : Int) (d : ByteArray) (w : World) (hk : KAt w kb K (.slice a K.e.length cap)) (hs : Sm K) (h : ¬ i = K.si + K.e.length + 1) :
    Calls Try.prog 81 #[.pointer (some ⟨kb, 0, none⟩), .agg #[.int .i64 i, .int .i64 t, .string d]] w fun e w' => e = .returned (.bool false) ∧ Below w.heap.size w w' := by
  have HK := Hid.intro hk
  have HS := Hid.intro hs
  obtain ⟨klt, k0, k1, k2, k3, k4, k5, kf⟩ := hk
  obtain ⟨s1, s2, s3⟩ := hs
  have hne : ¬ kb = w.heap.size := by omega
  have e1 : IntKind.i64.wrap (K.si + K.e.length + 1) = K.si + K.e.length + 1 := wraps_i64 _ (by omega) (by omega)
  have e2 : (i == K.si + K.e.length + 1) = false := by simpa using h
  have e3 : (i != K.si + K.e.length + 1) = true := by simpa using h
  go_enter Try.func81, Try.ntmps81
  go_wp2
  obtain ⟨W, hW, bW, zW, cW, fW⟩ := boxed w #[.int .i64 i, .int .i64 t, .string d] 98
  simp only [hW]
  have HC : Hid (∀ w', Below W.heap.size W w' → SE K a cap kb w.heap.size i t w') :=
    fun w' hb => by
      have q := (HK.out.below bW klt).below hb (by omega)
      exact ⟨q.c0, q.c1, q.c2, q.c3, q.c4, q.c5, atCell hb (by rw [cW]; rfl) (by omega), atCell hb (by rw [cW]; rfl) (by omega)⟩
  have HB : Hid (∀ w', Below W.heap.size W w' → Below w.heap.size w w' ∧ w.heap.size < w'.heap.size) := fun w' hb => ⟨bW.trans (hb.mono (by omega)), by have := hb.size; omega⟩
  have HCW := Hid.intro cW
  have hzW : w.heap.size < W.heap.size := by omega
  have HFW := Hid.intro fW
  clear hW k0 k1 k2 k3 k4 k5 kf zW bW cW fW
  refine wp_region_held_drew (S := SE K a cap kb w.heap.size i t) (by kernel_rfl) (HC.out _ (Below.refl _ _).drew) (fun hHeld => ?_)
  refine take1 (i := 0) (d := some 5) (v := ?_) rfl rfl (by kernel_rfl) (by kernel_rfl) (by kernel_rfl) (fun _ _ _ h => h) (Or.inl ⟨by rfl, ?_⟩) (by assumption) ?_
  rotate_left 1
  · intro w hSw
    obtain ⟨q0, q1, q2, q3, q4, q5, q6, q7⟩ := hSw
    go_simp <;> with_reducible rfl
  simp only [Act.put, List.setIfInBounds_toArray]
  try simp only [List.set_cons_succ]
  try simp only [List.set_cons_zero]
  refine take1 (i := 1) (d := some 6) (v := ?_) rfl rfl (by kernel_rfl) (by kernel_rfl) (by kernel_rfl) (fun _ _ _ h => h) (Or.inl ⟨by rfl, ?_⟩) (by assumption) ?_
  rotate_left 1
  · intro w hSw
    obtain ⟨q0, q1, q2, q3, q4, q5, q6, q7⟩ := hSw
    go_simp <;> with_reducible rfl
  simp only [Act.put, List.setIfInBounds_toArray]
  try simp only [List.set_cons_succ]
  try simp only [List.set_cons_zero]
  refine take1 (i := 2) (d := some 7) (v := ?_) rfl rfl (by kernel_rfl) (by kernel_rfl) (by kernel_rfl) (fun _ _ _ h => h) (Or.inl ⟨by rfl, ?_⟩) (by assumption) ?_
  rotate_left 1
  · intro w hSw
    obtain ⟨q0, q1, q2, q3, q4, q5, q6, q7⟩ := hSw
    go_simp <;> with_reducible rfl
  simp only [Act.put, List.setIfInBounds_toArray]
  try simp only [List.set_cons_succ]
  try simp only [List.set_cons_zero]
  refine take1 (i := 3) (d := some 8) (v := ?_) rfl rfl (by kernel_rfl) (by kernel_rfl) (by kernel_rfl) (fun _ _ _ h => h) (Or.inl ⟨by rfl, ?_⟩) (by assumption) ?_
  rotate_left 1
  · intro w hSw
    obtain ⟨q0, q1, q2, q3, q4, q5, q6, q7⟩ := hSw
    go_simp <;> with_reducible rfl
  simp only [Act.put, List.setIfInBounds_toArray]
  try simp only [List.set_cons_succ]
  try simp only [List.set_cons_zero]
  refine take1 (i := 4) (d := some 9) (v := ?_) rfl rfl (by kernel_rfl) (by kernel_rfl) (by kernel_rfl) (fun _ _ _ h => h) (Or.inl ⟨by rfl, ?_⟩) (by assumption) ?_
  rotate_left 1
  · intro w hSw
    obtain ⟨q0, q1, q2, q3, q4, q5, q6, q7⟩ := hSw
    go_simp <;> with_reducible rfl
  simp only [Act.put, List.setIfInBounds_toArray]
  try simp only [List.set_cons_succ]
  try simp only [List.set_cons_zero]
  refine wpAnyH_ready (rs := [5]) (by kernel_rfl) (by simp) ?_
  refine AllReadyH.cons rfl (fun KK hKK => ?_) AllReadyH.nil
  go_simp
  refine (last_any K _ _ _ _ rfl (by omega) (by omega) (by omega)).mono ?_
  rintro e w2 ⟨rfl, b2⟩
  have BW : Below W.heap.size W w2 := ((Below.refl _ _).drew).trans b2
  go_simp
  refine hKK.out _ _ (HC.out _ BW) (fun hHeld2 => ?_)
  clear hKK KK hHeld
  have hHeld := hHeld2
  clear hHeld2
  refine take1 (i := 6) (d := some 11) (v := ?_) rfl rfl (by kernel_rfl) (by kernel_rfl) (by kernel_rfl) (fun _ _ _ h => h) (Or.inl ⟨by rfl, ?_⟩) (by assumption) ?_
  rotate_left 1
  · intro w hSw
    obtain ⟨q0, q1, q2, q3, q4, q5, q6, q7⟩ := hSw
    go_simp <;> with_reducible rfl
  simp only [Act.put, List.setIfInBounds_toArray]
  try simp only [List.set_cons_succ]
  try simp only [List.set_cons_zero]
  refine take1 (i := 7) (d := some 12) (v := ?_) rfl rfl (by kernel_rfl) (by kernel_rfl) (by kernel_rfl) (fun _ _ _ h => h) (Or.inl ⟨by rfl, ?_⟩) (by assumption) ?_
  rotate_left 1
  · intro w hSw
    obtain ⟨q0, q1, q2, q3, q4, q5, q6, q7⟩ := hSw
    go_simp <;> with_reducible rfl
  simp only [Act.put, List.setIfInBounds_toArray]
  try simp only [List.set_cons_succ]
  try simp only [List.set_cons_zero]
  refine take1 (i := 8) (d := some 13) (v := ?_) rfl rfl (by kernel_rfl) (by kernel_rfl) (by kernel_rfl) (fun _ _ _ h => h) (Or.inl ⟨by rfl, ?_⟩) (by assumption) ?_
  rotate_left 1
  · intro w hSw
    obtain ⟨q0, q1, q2, q3, q4, q5, q6, q7⟩ := hSw
    go_simp <;> with_reducible rfl
  simp only [Act.put, List.setIfInBounds_toArray]
  try simp only [List.set_cons_succ]
  try simp only [List.set_cons_zero]
  refine take1 (i := 9) (d := some 14) (v := undef) rfl rfl (by kernel_rfl) (by kernel_rfl) (by kernel_rfl) (fun _ _ _ h => h) (Or.inr ⟨by rfl, rfl⟩) (by assumption) ?_
  simp only [Act.put, List.setIfInBounds_toArray]
  try simp only [List.set_cons_succ]
  try simp only [List.set_cons_zero]
  refine take1 (i := 10) (d := some 15) (v := undef) rfl rfl (by kernel_rfl) (by kernel_rfl) (by kernel_rfl) (fun _ _ _ h => h) (Or.inr ⟨by rfl, rfl⟩) (by assumption) ?_
  simp only [Act.put, List.setIfInBounds_toArray]
  try simp only [List.set_cons_succ]
  try simp only [List.set_cons_zero]
  refine take1 (i := 11) (d := some 16) (v := undef) rfl rfl (by kernel_rfl) (by kernel_rfl) (by kernel_rfl) (fun _ _ _ h => h) (Or.inr ⟨by rfl, rfl⟩) (by assumption) ?_
  simp only [Act.put, List.setIfInBounds_toArray]
  try simp only [List.set_cons_succ]
  try simp only [List.set_cons_zero]
  refine take1 (i := 12) (d := some 17) (v := undef) rfl rfl (by kernel_rfl) (by kernel_rfl) (by kernel_rfl) (fun _ _ _ h => h) (Or.inr ⟨by rfl, rfl⟩) (by assumption) ?_
  simp only [Act.put, List.setIfInBounds_toArray]
  try simp only [List.set_cons_succ]
  try simp only [List.set_cons_zero]
  refine take1 (i := 13) (d := some 18) (v := undef) rfl rfl (by kernel_rfl) (by kernel_rfl) (by kernel_rfl) (fun _ _ _ h => h) (Or.inr ⟨by rfl, rfl⟩) (by assumption) ?_
  simp only [Act.put, List.setIfInBounds_toArray]
  try simp only [List.set_cons_succ]
  try simp only [List.set_cons_zero]
  refine take1 (i := 14) (d := some 19) (v := undef) rfl rfl (by kernel_rfl) (by kernel_rfl) (by kernel_rfl) (fun _ _ _ h => h) (Or.inr ⟨by rfl, rfl⟩) (by assumption) ?_
  simp only [Act.put, List.setIfInBounds_toArray]
  try simp only [List.set_cons_succ]
  try simp only [List.set_cons_zero]
  refine take1 (i := 15) (d := some 20) (v := ?_) rfl rfl (by kernel_rfl) (by kernel_rfl) (by kernel_rfl) (fun _ _ _ h => h) (Or.inl ⟨by rfl, ?_⟩) (by assumption) ?_
  rotate_left 1
  · intro w hSw
    obtain ⟨q0, q1, q2, q3, q4, q5, q6, q7⟩ := hSw
    go_simp <;> with_reducible rfl
  simp only [Act.put, List.setIfInBounds_toArray]
  try simp only [List.set_cons_succ]
  try simp only [List.set_cons_zero]
  refine take1 (i := 16) (d := some 21) (v := ?_) rfl rfl (by kernel_rfl) (by kernel_rfl) (by kernel_rfl) (fun _ _ _ h => h) (Or.inl ⟨by rfl, ?_⟩) (by assumption) ?_
  rotate_left 1
  · intro w hSw
    obtain ⟨q0, q1, q2, q3, q4, q5, q6, q7⟩ := hSw
    go_simp <;> with_reducible rfl
  simp only [Act.put, List.setIfInBounds_toArray]
  try simp only [List.set_cons_succ]
  try simp only [List.set_cons_zero]
  refine take1 (i := 17) (d := some 22) (v := undef) rfl rfl (by kernel_rfl) (by kernel_rfl) (by kernel_rfl) (fun _ _ _ h => h) (Or.inr ⟨by rfl, rfl⟩) (by assumption) ?_
  simp only [Act.put, List.setIfInBounds_toArray]
  try simp only [List.set_cons_succ]
  try simp only [List.set_cons_zero]
  refine take1 (i := 18) (d := some 23) (v := undef) rfl rfl (by kernel_rfl) (by kernel_rfl) (by kernel_rfl) (fun _ _ _ h => h) (Or.inr ⟨by rfl, rfl⟩) (by assumption) ?_
  simp only [Act.put, List.setIfInBounds_toArray]
  try simp only [List.set_cons_succ]
  try simp only [List.set_cons_zero]
  refine take1 (i := 19) (d := some 24) (v := undef) rfl rfl (by kernel_rfl) (by kernel_rfl) (by kernel_rfl) (fun _ _ _ h => h) (Or.inr ⟨by rfl, rfl⟩) (by assumption) ?_
  simp only [Act.put, List.setIfInBounds_toArray]
  try simp only [List.set_cons_succ]
  try simp only [List.set_cons_zero]
  refine take1 (i := 20) (d := some 25) (v := undef) rfl rfl (by kernel_rfl) (by kernel_rfl) (by kernel_rfl) (fun _ _ _ h => h) (Or.inr ⟨by rfl, rfl⟩) (by assumption) ?_
  simp only [Act.put, List.setIfInBounds_toArray]
  try simp only [List.set_cons_succ]
  try simp only [List.set_cons_zero]
  refine take1 (i := 21) (d := some 26) (v := undef) rfl rfl (by kernel_rfl) (by kernel_rfl) (by kernel_rfl) (fun _ _ _ h => h) (Or.inr ⟨by rfl, rfl⟩) (by assumption) ?_
  simp only [Act.put, List.setIfInBounds_toArray]
  try simp only [List.set_cons_succ]
  try simp only [List.set_cons_zero]
  refine take1 (i := 22) (d := some 27) (v := undef) rfl rfl (by kernel_rfl) (by kernel_rfl) (by kernel_rfl) (fun _ _ _ h => h) (Or.inr ⟨by rfl, rfl⟩) (by assumption) ?_
  simp only [Act.put, List.setIfInBounds_toArray]
  try simp only [List.set_cons_succ]
  try simp only [List.set_cons_zero]
  refine take1 (i := 23) (d := some 28) (v := undef) rfl rfl (by kernel_rfl) (by kernel_rfl) (by kernel_rfl) (fun _ _ _ h => h) (Or.inr ⟨by rfl, rfl⟩) (by assumption) ?_
  simp only [Act.put, List.setIfInBounds_toArray]
  try simp only [List.set_cons_succ]
  try simp only [List.set_cons_zero]
  refine take1 (i := 24) (d := some 29) (v := undef) rfl rfl (by kernel_rfl) (by kernel_rfl) (by kernel_rfl) (fun _ _ _ h => h) (Or.inr ⟨by rfl, rfl⟩) (by assumption) ?_
  simp only [Act.put, List.setIfInBounds_toArray]
  try simp only [List.set_cons_succ]
  try simp only [List.set_cons_zero]
  refine take1 (i := 25) (d := some 30) (v := undef) rfl rfl (by kernel_rfl) (by kernel_rfl) (by kernel_rfl) (fun _ _ _ h => h) (Or.inr ⟨by rfl, rfl⟩) (by assumption) ?_
  simp only [Act.put, List.setIfInBounds_toArray]
  try simp only [List.set_cons_succ]
  try simp only [List.set_cons_zero]
  refine take1 (i := 26) (d := some 31) (v := undef) rfl rfl (by kernel_rfl) (by kernel_rfl) (by kernel_rfl) (fun _ _ _ h => h) (Or.inr ⟨by rfl, rfl⟩) (by assumption) ?_
  simp only [Act.put, List.setIfInBounds_toArray]
  try simp only [List.set_cons_succ]
  try simp only [List.set_cons_zero]
  refine take1 (i := 27) (d := some 32) (v := undef) rfl rfl (by kernel_rfl) (by kernel_rfl) (by kernel_rfl) (fun _ _ _ h => h) (Or.inr ⟨by rfl, rfl⟩) (by assumption) ?_
  simp only [Act.put, List.setIfInBounds_toArray]
  try simp only [List.set_cons_succ]
  try simp only [List.set_cons_zero]
  refine take1 (i := 28) (d := some 33) (v := undef) rfl rfl (by kernel_rfl) (by kernel_rfl) (by kernel_rfl) (fun _ _ _ h => h) (Or.inr ⟨by rfl, rfl⟩) (by assumption) ?_
  simp only [Act.put, List.setIfInBounds_toArray]
  try simp only [List.set_cons_succ]
  try simp only [List.set_cons_zero]
  refine take1 (i := 29) (d := some 34) (v := undef) rfl rfl (by kernel_rfl) (by kernel_rfl) (by kernel_rfl) (fun _ _ _ h => h) (Or.inr ⟨by rfl, rfl⟩) (by assumption) ?_
  simp only [Act.put, List.setIfInBounds_toArray]
  try simp only [List.set_cons_succ]
  try simp only [List.set_cons_zero]
  refine take1 (i := 30) (d := some 35) (v := ?_) rfl rfl (by kernel_rfl) (by kernel_rfl) (by kernel_rfl) (fun _ _ _ h => h) (Or.inl ⟨by rfl, ?_⟩) (by assumption) ?_
  rotate_left 1
  · intro w hSw
    obtain ⟨q0, q1, q2, q3, q4, q5, q6, q7⟩ := hSw
    go_simp <;> with_reducible rfl
  simp only [Act.put, List.setIfInBounds_toArray]
  try simp only [List.set_cons_succ]
  try simp only [List.set_cons_zero]
  refine wpAnyH_done (by kernel_rfl) ?_ _
  have B2 := HB.out _ BW
  clear HC HB hHeld
  go_wp2
  go_ret
  exact ⟨rfl, B2.1⟩
end Go.Proofs.Ytkilepoimocoeaa
