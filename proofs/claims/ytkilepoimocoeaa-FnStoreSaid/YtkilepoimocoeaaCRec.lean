/- l3Rec: a drawn record. -/
import Derived.Test.YtkilepoimocoeaaCAnyA
import Derived.Deep.CutBlock
namespace Go.Proofs.Ytkilepoimocoeaa
open Go.RowKit
set_option linter.unusedVariables false
section
variable {N : Nat} {a : Option Addr} {len cap : Nat} {zs : List Int} {B : Nat}
/-- The numbers of a Kept are small, right or not. -/
structure Bn (m : Nat) (K : Kp) : Prop where
  t0 : -10 ≤ K.t
  t1 : K.t ≤ 200000
  i0 : -10 ≤ K.si
  i1 : K.si ≤ 200000
  e : K.e.length ≤ m
theorem Bd.n {m : Nat} {K : Kp} (h : Bd m K) : Bn m K := ⟨h.t0, h.t1, h.i0, h.i1, h.e⟩
theorem Bn.up {m n : Nat} {K : Kp} (h : Bn m K) (hn : m ≤ n) : Bn n K := ⟨h.t0, h.t1, h.i0, h.i1, Nat.le_trans h.e hn⟩
/-- A step leaves them small. -/
theorem Bn.next {m : Nat} {K : Kp} (h : Bn m K) (r : Rc) : Bn (m + 1) (nextK K r) := by
  unfold nextK
  split
  · rename_i hg
    obtain ⟨hr, hf⟩ := goB_out hg
    obtain ⟨t0, t1, i0, i1, e⟩ := h
    unfold recP at hr
    unfold fitsP at hf
    unfold stepK
    split
    · exact ⟨by simp only; omega, by simp only; omega, i0, i1, by simp only; omega⟩
    · split
      · exact ⟨t0, t1, i0, i1, by simp; omega⟩
      · split
        · exact ⟨t0, t1, i0, i1, by simp; omega⟩
        · have := behL_len K.e (r.i - K.si) r.t
          exact ⟨t0, t1, by simp only; omega, by simp only; omega, by simp only; omega⟩
  · exact h.up (by omega)
/-- A drawn record. -/
def DrawRc (N : Nat) (a : Option Addr) (len cap : Nat) (zs : List Int) (B : Nat) (w : World) (e : Ending) (w' : World) : Prop :=
  ∃ r : Rc, e = .returned (rcV r) ∧ r.d.size ≤ 1700 ∧ Cur N a len cap zs B w' ∧ w.grownBy w' (some B)
/-- What stands while a record is drawn. -/
structure DR (N : Nat) (a : Option Addr) (len cap : Nat) (zs : List Int) (B base : Nat) (w u : World) (b : Nat) (K : Kp) (v : Value) (r : Rc) : Prop where
  hB : B < w.heap.size
  k : Blk u w.heap.size #[.int .i64 K.t, .int .i64 K.v, .int .i64 K.si, .int .i64 K.st, .string K.sd, v]
  z : Blk u (w.heap.size + 1) #[.int .i64 0, .int .i64 0, .int .i64 0, .int .i64 0, .string ⟨#[]⟩]
  x : Blk u b #[.int .i64 r.k, .int .i64 r.t, .int .i64 r.i, .int .i64 r.v, .string r.d]
  hb : w.heap.size + 1 < b
  own : OwnX u base v K.e
  ne : ∀ k, v.ownBlock = some k → k ≠ B ∧ k < w.heap.size
  cur : Cur N a len cap zs B u
  o : Only (fun k => k = B ∨ w.heap.size ≤ k) w u
section
variable {base : Nat} {w u u' : World} {b : Nat} {K : Kp} {v : Value} {r : Rc}
theorem DR.step (h : DR N a len cap zs B base w u b K v r) (g : u.grownBy u' (some B)) (c' : Cur N a len cap zs B u') : DR N a len cap zs B base w u' b K v r :=
  ⟨h.hB, h.k.only (grown_only g) (by have := h.hB; simp; omega), h.z.only (grown_only g) (by have := h.hB; simp; omega), h.x.only (grown_only g) (by have := h.hB; have := h.hb; simp; omega), h.hb, h.own.only (grown_only g) (fun k hk e => (h.ne k hk).1 (by simpa using e)), h.ne, c', Only.then h.o (grown_only g) (by intro k hk e; left; simpa using e)⟩
theorem DR.kept (h : DR N a len cap zs B base w u b K v r) (g : Below u.heap.size u u') : DR N a len cap zs B base w u' b K v r :=
  ⟨h.hB, h.k.kept g, h.z.kept g, h.x.kept g, h.hb, h.own.kept g, h.ne, h.cur.kept (grown_below g), h.o.trans (Below.any g)⟩
theorem DR.far {S : Nat → Prop} (h : DR N a len cap zs B base w u b K v r) (ho : Only S u u') (hs : ∀ k, S k → b < k) : DR N a len cap zs B base w u' b K v r :=
  ⟨h.hB, h.k.only ho (fun e => by have := hs _ e; have := h.hb; omega), h.z.only ho (fun e => by have := hs _ e; have := h.hb; omega), h.x.only ho (fun e => by have := hs _ e; omega), h.hb, h.own.only ho (fun k hk e => by have := hs _ e; have := h.hb; have := (h.ne k hk).2; omega), h.ne, h.cur.only ho (fun k e => by have := hs _ e; have := h.hb; have := h.hB; omega), Only.then h.o ho (fun k hk e => by right; have := hs _ e; have := h.hb; omega)⟩
theorem DR.put {r' : Rc} (h : DR N a len cap zs B base w u b K v r) (ho : Only (fun k => k = b) u u') (hx : Blk u' b #[.int .i64 r'.k, .int .i64 r'.t, .int .i64 r'.i, .int .i64 r'.v, .string r'.d]) : DR N a len cap zs B base w u' b K v r' :=
  ⟨h.hB, h.k.only ho (by have := h.hb; omega), h.z.only ho (by have := h.hb; omega), hx, h.hb, h.own.only ho (fun k hk e => by have := h.hb; have := (h.ne k hk).2; omega), h.ne, h.cur.only ho (by have := h.hB; have := h.hb; intro k hk; omega), Only.then h.o ho (by have := h.hb; intro k hk e; omega)⟩
theorem DR.setK (h : DR N a len cap zs B base w u b K v r) (y : Int) : DR N a len cap zs B base w (u.setCell ⟨b, 0, none⟩ (.int .i64 y)) b K v { r with k := y } := h.put (only_set _ _ _ _) (by simpa using h.x.set 0 (by simp) (.int .i64 y))
theorem DR.setT (h : DR N a len cap zs B base w u b K v r) (y : Int) : DR N a len cap zs B base w (u.setCell ⟨b, 1, none⟩ (.int .i64 y)) b K v { r with t := y } := h.put (only_set _ _ _ _) (by simpa using h.x.set 1 (by simp) (.int .i64 y))
theorem DR.setI (h : DR N a len cap zs B base w u b K v r) (y : Int) : DR N a len cap zs B base w (u.setCell ⟨b, 2, none⟩ (.int .i64 y)) b K v { r with i := y } := h.put (only_set _ _ _ _) (by simpa using h.x.set 2 (by simp) (.int .i64 y))
theorem DR.setV (h : DR N a len cap zs B base w u b K v r) (y : Int) : DR N a len cap zs B base w (u.setCell ⟨b, 3, none⟩ (.int .i64 y)) b K v { r with v := y } := h.put (only_set _ _ _ _) (by simpa using h.x.set 3 (by simp) (.int .i64 y))
theorem DR.setD (h : DR N a len cap zs B base w u b K v r) (y : ByteArray) : DR N a len cap zs B base w (u.setCell ⟨b, 4, none⟩ (.string y)) b K v { r with d := y } := h.put (only_set _ _ _ _) (by simpa using h.x.set 4 (by simp) (.string y))
theorem DR.end (h : DR N a len cap zs B base w u b K v r) (hd : r.d.size ≤ 1700) : DrawRc N a len cap zs B w (.returned (rcV r)) (((((u.setCell ⟨w.heap.size + 1, 0, none⟩ (.int .i64 r.k)).setCell ⟨w.heap.size + 1, 1, none⟩ (.int .i64 r.t)).setCell ⟨w.heap.size + 1, 2, none⟩ (.int .i64 r.i)).setCell ⟨w.heap.size + 1, 3, none⟩ (.int .i64 r.v)).setCell ⟨w.heap.size + 1, 4, none⟩ (.string r.d)) := by
  have ho : Only (fun k => k = w.heap.size + 1) u (((((u.setCell ⟨w.heap.size + 1, 0, none⟩ (.int .i64 r.k)).setCell ⟨w.heap.size + 1, 1, none⟩ (.int .i64 r.t)).setCell ⟨w.heap.size + 1, 2, none⟩ (.int .i64 r.i)).setCell ⟨w.heap.size + 1, 3, none⟩ (.int .i64 r.v)).setCell ⟨w.heap.size + 1, 4, none⟩ (.string r.d)) := by
    repeat (refine Only.setCell ?_ (by simp) _)
    exact Only.refl _ _
  exact ⟨r, rfl, hd, h.cur.only ho (by have := h.hB; intro k hk; omega), grown_of (Only.then h.o ho (by intro k hk e; omega))⟩
end
theorem own_slice {w : World} {base n : Nat} {v : Value} {xs : List Value} (h : w.ownsRow base 5 1 v n xs) : ∃ a cap, v = .slice a n cap := by
  rcases h.2 with ⟨rfl, rfl⟩ | ⟨g, cap, cur, rfl, _⟩
  · exact ⟨_, _, rfl⟩
  · exact ⟨_, _, rfl⟩
def lenV : Value → Nat
  | .slice _ n _ => n
  | _ => 0
theorem lenV_own {w : World} {base n : Nat} {v : Value} {xs : List Value} (h : w.ownsRow base 5 1 v n xs) : lenV v = n := by
  obtain ⟨a, cap, rfl⟩ := own_slice h
  rfl
set_option maxRecDepth 100000 in
set_option maxHeartbeats 8000000 in
theorem l3Rec_any (K : Kp) (v : Value) (base : Nat) (w : World) (c : Cur N a len cap zs B w) (ho : OwnX w base v K.e) (hB : B < base) (hd : Bn 200 K) :
    Calls Try.prog 41 #[.pointer (some ⟨B, 0, none⟩), kpV K v] w fun e w' => DrawRc N a len cap zs B w e w' := by
  obtain ⟨i0, hi0, hz0, hz1, hz2⟩ := info_parts Try.infoU8
  obtain ⟨a0, c0, rfl⟩ := ho.slice
  obtain ⟨W, hW, bW, zW, cY, fY, cW, fW⟩ := boxed2 w #[.int .i64 K.t, .int .i64 K.v, .int .i64 K.si, .int .i64 K.st, .string K.sd, .slice a0 K.e.length c0] #[.int .i64 0, .int .i64 0, .int .i64 0, .int .i64 0, .string ⟨#[]⟩] 28 43
  have C := Hid.intro (c.kept (grown_below bW))
  have hBw := c.lt
  have HBW := Hid.intro bW
  have HN : Hid (∀ k, (Value.slice a0 K.e.length c0).ownBlock = some k → k ≠ B ∧ k < w.heap.size) := fun k hk => by have := ho.lt k hk; omega
  have HO := Hid.intro (ho.kept bW)
  have HBD := Hid.intro hd
  have bt0 := hd.t0
  have bt1 := hd.t1
  have bi0 := hd.i0
  have bi1 := hd.i1
  have be := hd.e
  clear c ho hd
  go_enter Try.func41, Try.ntmps41
  go_wp2_with fail
  try simp only [hW]
  refine (belowC_any 4 W C.out (by omega) (by omega)).mono ?_
  rintro e w1 ⟨x, rfl, x0, x1, c1, g1⟩
  go_upto_region 2 with fail
  obtain ⟨kd, hkd⟩ : ∃ kd : Int, 1 + x = kd := ⟨_, rfl⟩
  simp only [hkd]
  obtain ⟨X, hX, bX, zX, dX, eX⟩ := boxed w1 #[.int .i64 kd, .int .i64 0, .int .i64 0, .int .i64 0, .string ⟨#[]⟩] 43
  try simp only [hX]
  have HD : Hid (DR N a len cap zs B base w X w1.heap.size K (.slice a0 K.e.length c0) ⟨kd, 0, 0, 0, ⟨#[]⟩⟩) := by
    have z1 := g1.size
    have k1 : Blk w1 w.heap.size #[.int .i64 K.t, .int .i64 K.v, .int .i64 K.si, .int .i64 K.st, .string K.sd, .slice a0 K.e.length c0] := (Blk.mk (by omega) cY fY : Blk W _ _).only (grown_only g1) (by simp; omega)
    have r1 : Blk w1 (w.heap.size + 1) #[.int .i64 0, .int .i64 0, .int .i64 0, .int .i64 0, .string ⟨#[]⟩] := (Blk.mk (by omega) cW fW : Blk W _ _).only (grown_only g1) (by simp; omega)
    refine ⟨hBw, k1.kept bX, r1.kept bX, ⟨by omega, dX, eX⟩, by omega, (HO.out.only (grown_only g1) (fun k hk e => (HN.out k hk).1 (by simpa using e))).kept bX, HN.out, c1.kept (grown_below bX), ?_⟩
    exact (Only.then (b := W) (T := fun k => some k = some B) (Below.any HBW.out) (grown_only g1) (by intro k hk h; left; simpa using h)).trans (Below.any bX)
  clear hW hX bX zX dX eX cW fW cY fY HBW C c1 g1 bW zW HO HN
  have hk4 : kd = 1 ∨ kd = 2 ∨ kd = 3 ∨ kd = 4 := by omega
  generalize w1.heap.size = b at *
  have ck := HD.out.k.cell
  go_upto_region 3 with fail
  clear ck
  have cx := HD.out.x.cell
  go_upto_block 0 with fail
  clear cx
  go_cut [] from 7 (fun wc => ∃ r : Rc, r.d.size ≤ 8 ∧ DR N a len cap zs B base w wc b K (.slice a0 K.e.length c0) r)
  case first =>
    rcases hk4 with hk | hk | hk | hk
    · have f1 : (kd == 1) = true := by simpa using hk
      go_upto_region 11 with fail
      refine wp_region_held_drew (S := fun w' => w'.cell? ⟨w.heap.size, 0, none⟩ = some (.int .i64 K.t) ∧ w'.cell? ⟨w.heap.size, 2, none⟩ = some (.int .i64 K.si) ∧ w'.cell? ⟨w.heap.size, 5, none⟩ = some (.slice a0 K.e.length c0)) (by kernel_rfl) ?hS11 (fun hHeld => ?_)
      case hS11 => simp [HD.out.k.cell]
      replace HD := Hid.intro (HD.out.kept (u' := X.drew) (Below.refl _ _).drew)
      generalize X.drew = D at HD hHeld ⊢
      refine take1 (i := 0) (d := some 70) (v := ?_) rfl rfl (by kernel_rfl) (by kernel_rfl) (by kernel_rfl) (fun _ _ _ h => h) (Or.inl ⟨by rfl, ?_⟩) (by assumption) ?_
      rotate_left 1
      · intro w hSw
        obtain ⟨e0, e1, e2⟩ := hSw
        go_simp <;> with_reducible rfl
      simp only [Act.put, List.setIfInBounds_toArray]
      try simp only [List.set_cons_succ]
      try simp only [List.set_cons_zero]
      refine take1 (i := 1) (d := some 71) (v := ?_) rfl rfl (by kernel_rfl) (by kernel_rfl) (by kernel_rfl) (fun _ _ _ h => h) (Or.inl ⟨by rfl, ?_⟩) (by assumption) ?_
      rotate_left 1
      · intro w hSw
        obtain ⟨e0, e1, e2⟩ := hSw
        go_simp <;> with_reducible rfl
      simp only [Act.put, List.setIfInBounds_toArray]
      try simp only [List.set_cons_succ]
      try simp only [List.set_cons_zero]
      refine take1 (i := 2) (d := some 72) (v := ?_) rfl rfl (by kernel_rfl) (by kernel_rfl) (by kernel_rfl) (fun _ _ _ h => h) (Or.inl ⟨by rfl, ?_⟩) (by assumption) ?_
      rotate_left 1
      · intro w hSw
        obtain ⟨e0, e1, e2⟩ := hSw
        go_simp <;> with_reducible rfl
      simp only [Act.put, List.setIfInBounds_toArray]
      try simp only [List.set_cons_succ]
      try simp only [List.set_cons_zero]
      refine wpAnyH_ready (rs := [3]) (by kernel_rfl) (by simp) ?_
      refine AllReadyH.cons rfl (fun KK hKK => ?_) AllReadyH.nil
      go_simp
      refine (belowC_any 3 D HD.out.cur (by omega) (by omega)).mono ?_
      rintro e x1 ⟨y, rfl, y0, y1, c1, g1⟩
      replace HD := Hid.intro (HD.out.step g1 c1)
      clear c1 g1
      go_simp
      refine hKK.out _ _ ⟨by have := HD.out.k.cell 0; simpa using this, by have := HD.out.k.cell 2; simpa using this, by have := HD.out.k.cell 5; simpa using this⟩ (fun hHeld2 => ?_)
      clear hKK KK hHeld
      have hHeld := hHeld2
      clear hHeld2
      refine take1 (i := 4) (d := some 74) (v := ?_) rfl rfl (by kernel_rfl) (by kernel_rfl) (by kernel_rfl) (fun _ _ _ h => h) (Or.inl ⟨by rfl, ?_⟩) (by assumption) ?_
      rotate_left 1
      · intro w hSw
        obtain ⟨e0, e1, e2⟩ := hSw
        go_simp <;> with_reducible rfl
      simp only [Act.put, List.setIfInBounds_toArray]
      try simp only [List.set_cons_succ]
      try simp only [List.set_cons_zero]
      simp only [wraps_i64 (K.t + y) (by omega) (by omega)]
      refine take1 (i := 5) (d := some 75) (v := ?_) rfl rfl (by kernel_rfl) (by kernel_rfl) (by kernel_rfl) (fun _ _ _ h => h) (Or.inl ⟨by rfl, ?_⟩) (by assumption) ?_
      rotate_left 1
      · intro w hSw
        obtain ⟨e0, e1, e2⟩ := hSw
        go_simp <;> with_reducible rfl
      simp only [Act.put, List.setIfInBounds_toArray]
      try simp only [List.set_cons_succ]
      try simp only [List.set_cons_zero]
      simp only [wraps_i64 (K.t + y - 1) (by omega) (by omega)]
      refine take1 (i := 6) (d := some 76) (v := ?_) rfl rfl (by kernel_rfl) (by kernel_rfl) (by kernel_rfl) (fun _ _ _ h => h) (Or.inl ⟨by rfl, ?_⟩) (by assumption) ?_
      rotate_left 1
      · intro w hSw
        obtain ⟨e0, e1, e2⟩ := hSw
        go_simp <;> with_reducible rfl
      simp only [Act.put, List.setIfInBounds_toArray]
      try simp only [List.set_cons_succ]
      try simp only [List.set_cons_zero]
      have cx := HD.out.x.cell
      have fx := HD.out.x.fro
      replace HD := Hid.intro (HD.out.setT (K.t + y - 1))
      refine wpAnyH_ready (rs := [7]) (by kernel_rfl) (by simp) ?_
      refine AllReadyH.cons rfl (fun KK hKK => ?_) AllReadyH.nil
      go_simp
      refine hKK.out _ _ ⟨by have := HD.out.k.cell 0; simpa using this, by have := HD.out.k.cell 2; simpa using this, by have := HD.out.k.cell 5; simpa using this⟩ (fun hHeld2 => ?_)
      clear hKK KK hHeld hHeld2 cx fx
      refine wpAnyH_done (by kernel_rfl) ?_ _
      clear hk f1
      go_wp2_with fail
      refine (belowC_any 6 _ HD.out.cur (by omega) (by omega)).mono ?_
      rintro e x2 ⟨y, rfl, y0, y1, c1, g1⟩
      replace HD := Hid.intro (HD.out.step g1 c1)
      clear c1 g1
      have cx := HD.out.x.cell
      have fx := HD.out.x.fro
      have HF := Hid.intro (HD.out.setV (y - 1))
      go_wp2_with fail
      go_meet
      case rel =>
        refine ⟨_, ?_, HF.out⟩
        exact Nat.zero_le _
    · have f1 : (kd == 1) = false := by simp [hk]
      have f2 : (kd == 2) = true := by simpa using hk
      have ck := HD.out.k.cell
      have cx := HD.out.x.cell
      have fx := HD.out.x.fro
      have HE := Hid.intro ((HD.out.setT K.t).setI (K.si + (K.e.length : Int) + 1))
      go_wp2_with fail
      refine (text_any 8 _ HE.out.cur (by omega) (by omega)).mono ?_
      rintro e x2 ⟨d, rfl, d0, c1, g1⟩
      replace HE := Hid.intro (HE.out.step g1 c1)
      clear c1 g1 ck
      replace cx := HE.out.x.cell
      replace fx := HE.out.x.fro
      have HF := Hid.intro (HE.out.setD d)
      go_wp2_with fail
      go_meet
      case rel =>
        refine ⟨_, ?_, HF.out⟩
        simp only
        omega
    · have f1 : (kd == 1) = false := by simp [hk]
      have f2 : (kd == 2) = false := by simp [hk]
      have f3 : (kd == 3) = true := by simpa using hk
      go_upto_region 18 with fail
      refine wp_region_held_drew (S := fun w' => w'.cell? ⟨w.heap.size, 0, none⟩ = some (.int .i64 K.t) ∧ w'.cell? ⟨w.heap.size, 2, none⟩ = some (.int .i64 K.si) ∧ w'.cell? ⟨w.heap.size, 5, none⟩ = some (.slice a0 K.e.length c0)) (by kernel_rfl) ?hS18 (fun hHeld => ?_)
      case hS18 => simp [HD.out.k.cell]
      replace HD := Hid.intro (HD.out.kept (u' := X.drew) (Below.refl _ _).drew)
      generalize X.drew = D at HD hHeld ⊢
      refine take1 (i := 0) (d := some 94) (v := ?_) rfl rfl (by kernel_rfl) (by kernel_rfl) (by kernel_rfl) (fun _ _ _ h => h) (Or.inl ⟨by rfl, ?_⟩) (by assumption) ?_
      rotate_left 1
      · intro w hSw
        obtain ⟨e0, e1, e2⟩ := hSw
        go_simp <;> with_reducible rfl
      simp only [Act.put, List.setIfInBounds_toArray]
      try simp only [List.set_cons_succ]
      try simp only [List.set_cons_zero]
      refine take1 (i := 1) (d := some 95) (v := ?_) rfl rfl (by kernel_rfl) (by kernel_rfl) (by kernel_rfl) (fun _ _ _ h => h) (Or.inl ⟨by rfl, ?_⟩) (by assumption) ?_
      rotate_left 1
      · intro w hSw
        obtain ⟨e0, e1, e2⟩ := hSw
        go_simp <;> with_reducible rfl
      simp only [Act.put, List.setIfInBounds_toArray]
      try simp only [List.set_cons_succ]
      try simp only [List.set_cons_zero]
      refine take1 (i := 2) (d := some 96) (v := ?_) rfl rfl (by kernel_rfl) (by kernel_rfl) (by kernel_rfl) (fun _ _ _ h => h) (Or.inl ⟨by rfl, ?_⟩) (by assumption) ?_
      rotate_left 1
      · intro w hSw
        obtain ⟨e0, e1, e2⟩ := hSw
        go_simp <;> with_reducible rfl
      simp only [Act.put, List.setIfInBounds_toArray]
      try simp only [List.set_cons_succ]
      try simp only [List.set_cons_zero]
      refine take1 (i := 3) (d := some 97) (v := ?_) rfl rfl (by kernel_rfl) (by kernel_rfl) (by kernel_rfl) (fun _ _ _ h => h) (Or.inl ⟨by rfl, ?_⟩) (by assumption) ?_
      rotate_left 1
      · intro w hSw
        obtain ⟨e0, e1, e2⟩ := hSw
        go_simp <;> with_reducible rfl
      simp only [Act.put, List.setIfInBounds_toArray]
      try simp only [List.set_cons_succ]
      try simp only [List.set_cons_zero]
      refine take1 (i := 4) (d := some 98) (v := ?_) rfl rfl (by kernel_rfl) (by kernel_rfl) (by kernel_rfl) (fun _ _ _ h => h) (Or.inl ⟨by rfl, ?_⟩) (by assumption) ?_
      rotate_left 1
      · intro w hSw
        obtain ⟨e0, e1, e2⟩ := hSw
        go_simp <;> with_reducible rfl
      simp only [Act.put, List.setIfInBounds_toArray]
      try simp only [List.set_cons_succ]
      try simp only [List.set_cons_zero]
      refine take1 (i := 5) (d := some 99) (v := ?_) rfl rfl (by kernel_rfl) (by kernel_rfl) (by kernel_rfl) (fun _ _ _ h => h) (Or.inl ⟨by rfl, ?_⟩) (by assumption) ?_
      rotate_left 1
      · intro w hSw
        obtain ⟨e0, e1, e2⟩ := hSw
        go_simp <;> with_reducible rfl
      simp only [Act.put, List.setIfInBounds_toArray]
      try simp only [List.set_cons_succ]
      try simp only [List.set_cons_zero]
      refine take1 (i := 6) (d := some 100) (v := ?_) rfl rfl (by kernel_rfl) (by kernel_rfl) (by kernel_rfl) (fun _ _ _ h => h) (Or.inl ⟨by rfl, ?_⟩) (by assumption) ?_
      rotate_left 1
      · intro w hSw
        obtain ⟨e0, e1, e2⟩ := hSw
        go_simp <;> with_reducible rfl
      simp only [Act.put, List.setIfInBounds_toArray]
      try simp only [List.set_cons_succ]
      try simp only [List.set_cons_zero]
      refine take1 (i := 7) (d := some 101) (v := ?_) rfl rfl (by kernel_rfl) (by kernel_rfl) (by kernel_rfl) (fun _ _ _ h => h) (Or.inl ⟨by rfl, ?_⟩) (by assumption) ?_
      rotate_left 1
      · intro w hSw
        obtain ⟨e0, e1, e2⟩ := hSw
        go_simp <;> with_reducible rfl
      simp only [Act.put, List.setIfInBounds_toArray]
      try simp only [List.set_cons_succ]
      try simp only [List.set_cons_zero]
      simp only [wraps_i64 ((K.e.length : Int) + 2) (by omega) (by omega)]
      refine wpAnyH_ready (rs := [8]) (by kernel_rfl) (by simp) ?_
      refine AllReadyH.cons rfl (fun KK hKK => ?_) AllReadyH.nil
      go_simp
      refine (belowC_any ((K.e.length : Int) + 2) D HD.out.cur (by omega) (by omega)).mono ?_
      rintro e x1 ⟨y, rfl, y0, y1, c1, g1⟩
      replace HD := Hid.intro (HD.out.step g1 c1)
      clear c1 g1
      go_simp
      refine hKK.out _ _ ⟨by have := HD.out.k.cell 0; simpa using this, by have := HD.out.k.cell 2; simpa using this, by have := HD.out.k.cell 5; simpa using this⟩ (fun hHeld2 => ?_)
      clear hKK KK hHeld
      have hHeld := hHeld2
      clear hHeld2
      refine take1 (i := 9) (d := some 103) (v := ?_) rfl rfl (by kernel_rfl) (by kernel_rfl) (by kernel_rfl) (fun _ _ _ h => h) (Or.inl ⟨by rfl, ?_⟩) (by assumption) ?_
      rotate_left 1
      · intro w hSw
        obtain ⟨e0, e1, e2⟩ := hSw
        go_simp <;> with_reducible rfl
      simp only [Act.put, List.setIfInBounds_toArray]
      try simp only [List.set_cons_succ]
      try simp only [List.set_cons_zero]
      simp only [wraps_i64 (K.si + y) (by omega) (by omega)]
      refine take1 (i := 10) (d := some 104) (v := ?_) rfl rfl (by kernel_rfl) (by kernel_rfl) (by kernel_rfl) (fun _ _ _ h => h) (Or.inl ⟨by rfl, ?_⟩) (by assumption) ?_
      rotate_left 1
      · intro w hSw
        obtain ⟨e0, e1, e2⟩ := hSw
        go_simp <;> with_reducible rfl
      simp only [Act.put, List.setIfInBounds_toArray]
      try simp only [List.set_cons_succ]
      try simp only [List.set_cons_zero]
      have cx := HD.out.x.cell
      have fx := HD.out.x.fro
      replace HD := Hid.intro (HD.out.setI (K.si + y))
      refine wpAnyH_ready (rs := [11]) (by kernel_rfl) (by simp) ?_
      refine AllReadyH.cons rfl (fun KK hKK => ?_) AllReadyH.nil
      go_simp
      refine hKK.out _ _ ⟨by have := HD.out.k.cell 0; simpa using this, by have := HD.out.k.cell 2; simpa using this, by have := HD.out.k.cell 5; simpa using this⟩ (fun hHeld2 => ?_)
      clear hKK KK hHeld hHeld2 cx fx
      refine wpAnyH_done (by kernel_rfl) ?_ _
      try go_wp2_with fail
      go_meet
      case rel =>
        refine ⟨_, ?_, HD.out⟩
        exact Nat.zero_le _
    · have f1 : (kd == 1) = false := by simp [hk]
      have f2 : (kd == 2) = false := by simp [hk]
      have f3 : (kd == 3) = false := by simp [hk]
      go_upto_region 4 with fail
      refine wp_region_held_drew (S := fun w' => w'.cell? ⟨w.heap.size, 0, none⟩ = some (.int .i64 K.t) ∧ w'.cell? ⟨w.heap.size, 2, none⟩ = some (.int .i64 K.si) ∧ w'.cell? ⟨w.heap.size, 5, none⟩ = some (.slice a0 K.e.length c0)) (by kernel_rfl) ?hS4 (fun hHeld => ?_)
      case hS4 => simp [HD.out.k.cell]
      replace HD := Hid.intro (HD.out.kept (u' := X.drew) (Below.refl _ _).drew)
      generalize X.drew = D at HD hHeld ⊢
      refine take1 (i := 0) (d := some 23) (v := ?_) rfl rfl (by kernel_rfl) (by kernel_rfl) (by kernel_rfl) (fun _ _ _ h => h) (Or.inl ⟨by rfl, ?_⟩) (by assumption) ?_
      rotate_left 1
      · intro w hSw
        obtain ⟨e0, e1, e2⟩ := hSw
        go_simp <;> with_reducible rfl
      simp only [Act.put, List.setIfInBounds_toArray]
      try simp only [List.set_cons_succ]
      try simp only [List.set_cons_zero]
      refine take1 (i := 1) (d := some 24) (v := ?_) rfl rfl (by kernel_rfl) (by kernel_rfl) (by kernel_rfl) (fun _ _ _ h => h) (Or.inl ⟨by rfl, ?_⟩) (by assumption) ?_
      rotate_left 1
      · intro w hSw
        obtain ⟨e0, e1, e2⟩ := hSw
        go_simp <;> with_reducible rfl
      simp only [Act.put, List.setIfInBounds_toArray]
      try simp only [List.set_cons_succ]
      try simp only [List.set_cons_zero]
      refine take1 (i := 2) (d := some 25) (v := ?_) rfl rfl (by kernel_rfl) (by kernel_rfl) (by kernel_rfl) (fun _ _ _ h => h) (Or.inl ⟨by rfl, ?_⟩) (by assumption) ?_
      rotate_left 1
      · intro w hSw
        obtain ⟨e0, e1, e2⟩ := hSw
        go_simp <;> with_reducible rfl
      simp only [Act.put, List.setIfInBounds_toArray]
      try simp only [List.set_cons_succ]
      try simp only [List.set_cons_zero]
      refine take1 (i := 3) (d := some 26) (v := ?_) rfl rfl (by kernel_rfl) (by kernel_rfl) (by kernel_rfl) (fun _ _ _ h => h) (Or.inl ⟨by rfl, ?_⟩) (by assumption) ?_
      rotate_left 1
      · intro w hSw
        obtain ⟨e0, e1, e2⟩ := hSw
        go_simp <;> with_reducible rfl
      simp only [Act.put, List.setIfInBounds_toArray]
      try simp only [List.set_cons_succ]
      try simp only [List.set_cons_zero]
      refine take1 (i := 4) (d := some 27) (v := ?_) rfl rfl (by kernel_rfl) (by kernel_rfl) (by kernel_rfl) (fun _ _ _ h => h) (Or.inl ⟨by rfl, ?_⟩) (by assumption) ?_
      rotate_left 1
      · intro w hSw
        obtain ⟨e0, e1, e2⟩ := hSw
        go_simp <;> with_reducible rfl
      simp only [Act.put, List.setIfInBounds_toArray]
      try simp only [List.set_cons_succ]
      try simp only [List.set_cons_zero]
      refine take1 (i := 5) (d := some 28) (v := ?_) rfl rfl (by kernel_rfl) (by kernel_rfl) (by kernel_rfl) (fun _ _ _ h => h) (Or.inl ⟨by rfl, ?_⟩) (by assumption) ?_
      rotate_left 1
      · intro w hSw
        obtain ⟨e0, e1, e2⟩ := hSw
        go_simp <;> with_reducible rfl
      simp only [Act.put, List.setIfInBounds_toArray]
      try simp only [List.set_cons_succ]
      try simp only [List.set_cons_zero]
      refine take1 (i := 6) (d := some 29) (v := ?_) rfl rfl (by kernel_rfl) (by kernel_rfl) (by kernel_rfl) (fun _ _ _ h => h) (Or.inl ⟨by rfl, ?_⟩) (by assumption) ?_
      rotate_left 1
      · intro w hSw
        obtain ⟨e0, e1, e2⟩ := hSw
        go_simp <;> with_reducible rfl
      simp only [Act.put, List.setIfInBounds_toArray]
      try simp only [List.set_cons_succ]
      try simp only [List.set_cons_zero]
      refine take1 (i := 7) (d := some 30) (v := ?_) rfl rfl (by kernel_rfl) (by kernel_rfl) (by kernel_rfl) (fun _ _ _ h => h) (Or.inl ⟨by rfl, ?_⟩) (by assumption) ?_
      rotate_left 1
      · intro w hSw
        obtain ⟨e0, e1, e2⟩ := hSw
        go_simp <;> with_reducible rfl
      simp only [Act.put, List.setIfInBounds_toArray]
      try simp only [List.set_cons_succ]
      try simp only [List.set_cons_zero]
      simp only [wraps_i64 ((K.e.length : Int) + 3) (by omega) (by omega)]
      refine wpAnyH_ready (rs := [8]) (by kernel_rfl) (by simp) ?_
      refine AllReadyH.cons rfl (fun KK hKK => ?_) AllReadyH.nil
      go_simp
      refine (belowC_any ((K.e.length : Int) + 3) D HD.out.cur (by omega) (by omega)).mono ?_
      rintro e x1 ⟨y, rfl, y0, y1, c1, g1⟩
      replace HD := Hid.intro (HD.out.step g1 c1)
      clear c1 g1
      go_simp
      refine hKK.out _ _ ⟨by have := HD.out.k.cell 0; simpa using this, by have := HD.out.k.cell 2; simpa using this, by have := HD.out.k.cell 5; simpa using this⟩ (fun hHeld2 => ?_)
      clear hKK KK hHeld
      have hHeld := hHeld2
      clear hHeld2
      refine take1 (i := 9) (d := some 32) (v := ?_) rfl rfl (by kernel_rfl) (by kernel_rfl) (by kernel_rfl) (fun _ _ _ h => h) (Or.inl ⟨by rfl, ?_⟩) (by assumption) ?_
      rotate_left 1
      · intro w hSw
        obtain ⟨e0, e1, e2⟩ := hSw
        go_simp <;> with_reducible rfl
      simp only [Act.put, List.setIfInBounds_toArray]
      try simp only [List.set_cons_succ]
      try simp only [List.set_cons_zero]
      simp only [wraps_i64 (K.si + y) (by omega) (by omega)]
      refine take1 (i := 10) (d := some 33) (v := ?_) rfl rfl (by kernel_rfl) (by kernel_rfl) (by kernel_rfl) (fun _ _ _ h => h) (Or.inl ⟨by rfl, ?_⟩) (by assumption) ?_
      rotate_left 1
      · intro w hSw
        obtain ⟨e0, e1, e2⟩ := hSw
        go_simp <;> with_reducible rfl
      simp only [Act.put, List.setIfInBounds_toArray]
      try simp only [List.set_cons_succ]
      try simp only [List.set_cons_zero]
      have cx := HD.out.x.cell
      have fx := HD.out.x.fro
      replace HD := Hid.intro (HD.out.setI (K.si + y))
      refine wpAnyH_ready (rs := [11]) (by kernel_rfl) (by simp) ?_
      refine AllReadyH.cons rfl (fun KK hKK => ?_) AllReadyH.nil
      go_simp
      refine hKK.out _ _ ⟨by have := HD.out.k.cell 0; simpa using this, by have := HD.out.k.cell 2; simpa using this, by have := HD.out.k.cell 5; simpa using this⟩ (fun hHeld2 => ?_)
      clear hKK KK hHeld hHeld2 cx fx
      refine wpAnyH_done (by kernel_rfl) ?_ _
      obtain ⟨m, rfl⟩ := Int.eq_ofNat_of_zero_le y0
      clear f1 f2 f3 hk
      go_wp2_with fail
      refine (belowC_any 8 _ HD.out.cur (by omega) (by omega)).mono ?_
      rintro e x2 ⟨t, rfl, t0, t1, c1, g1⟩
      replace HD := Hid.intro (HD.out.step g1 c1)
      clear c1 g1
      have cx := HD.out.x.cell
      have fx := HD.out.x.fro
      have ck := HD.out.k.cell
      replace HD := Hid.intro (HD.out.setT (1 + t))
      go_upto_region 6 with fail
      generalize x2.setCell ⟨b, 1, none⟩ (.int .i64 (1 + t)) = Y at HD ⊢
      replace cx := HD.out.x.cell
      replace fx := HD.out.x.fro
      replace ck := HD.out.k.cell
      have hsub : K.si + (m : Int) - K.si = (m : Int) := by omega
      go_upto_region 7 with fail
      try simp only [hsub]
      generalize hr0 : ({ k := kd, t := 1 + t, i := K.si + (m : Int), v := 0, d := ⟨#[]⟩ } : Rc) = r0 at HD
      have hr0d : r0.d.size ≤ 8 := by rw [← hr0]; exact Nat.zero_le _
      clear hr0 cx fx ck
      go_cut [56] from 44 (fun s wc => ∃ q : Bool, s = .bool q ∧ (q = true → 1 ≤ m ∧ m ≤ K.e.length) ∧ DR N a len cap zs B base w wc b K (.slice a0 K.e.length c0) r0)
      case first =>
        have ck := HD.out.k.cell
        by_cases h1 : 1 ≤ m
        · have j1 : (1 : Int) ≤ (m : Int) := by omega
          by_cases h2 : m ≤ K.e.length
          · have j2 : (m : Int) ≤ (K.e.length : Int) := by omega
            go_wp2_with fail
            refine (onceC_any 2 _ HD.out.cur (by omega) (by omega)).mono ?_
            rintro e x3 ⟨q, rfl, c1, g1⟩
            have HE := Hid.intro (HD.out.step g1 c1)
            clear c1 g1
            go_wp2_with fail
            go_meet
            case rel => exact ⟨q, by first | rfl | simp, fun _ => ⟨h1, h2⟩, HE.out⟩
          · have j2 : ¬ (m : Int) ≤ (K.e.length : Int) := by omega
            go_wp2_with fail
            go_meet
            case rel => exact ⟨false, by first | rfl | simp, (fun h => by cases h), HD.out⟩
        · have j1 : ¬ (1 : Int) ≤ (m : Int) := by omega
          go_wp2_with fail
          go_meet
          case rel => exact ⟨false, by first | rfl | simp, (fun h => by cases h), HD.out⟩
      case rest =>
      obtain ⟨q, rfl, hq, hd⟩ := hcut
      replace HD := Hid.intro hd
      clear hd
      go_upto_if 56 with fail
      go_cut [] from 44 (fun wc => ∃ r : Rc, r.d.size ≤ 8 ∧ DR N a len cap zs B base w wc b K (.slice a0 K.e.length c0) r)
      case first =>
        cases q with
        | false =>
          go_wp2_with fail
          go_meet
          case rel => exact ⟨r0, hr0d, HD.out⟩
        | true =>
          obtain ⟨h1, h2⟩ := hq rfl
          obtain ⟨a3, c3, hv3, hlc, hcm, hcell⟩ := HD.out.own.rowAll
          obtain ⟨g, o, rfl, hgl, hcs⟩ := hcell (by intro h; rw [h] at h2; simp at h2; omega)
          simp only [Value.slice.injEq, true_and] at hv3
          obtain ⟨rfl, rfl⟩ := hv3
          obtain ⟨p, rfl⟩ : ∃ p, m = 1 + p := ⟨m - 1, by omega⟩
          obtain ⟨hc0, _⟩ := hcs p (by omega)
          generalize K.e[p] = em at hc0
          have hcast : ((1 + p : Nat) : Int) = 1 + (p : Int) := by omega
          simp only [hcast]
          have ij : (0 : Int) ≤ (p : Int) ∧ (p : Int) < (K.e.length : Int) := by omega
          have hjl : (p : Int) < (K.e.length : Int) := by omega
          have ck := HD.out.k.cell
          have cx := HD.out.x.cell
          have fx := HD.out.x.fro
          have HF := Hid.intro (HD.out.setT em.t)
          clear hcs hcell
          go_wp2_with fail
          go_meet
          case rel =>
            refine ⟨_, ?_, HF.out⟩
            exact hr0d
      case rest =>
      obtain ⟨r, hrd, hd⟩ := hcut
      replace HD := Hid.intro hd
      clear hd
      go_wp2_with fail
      refine (text_any 8 _ HD.out.cur (by omega) (by omega)).mono ?_
      rintro e x3 ⟨d, rfl, d0, c1, g1⟩
      replace HD := Hid.intro (HD.out.step g1 c1)
      clear c1 g1
      have cx := HD.out.x.cell
      have fx := HD.out.x.fro
      have HF := Hid.intro (HD.out.setD d)
      go_wp2_with fail
      go_meet
      case rel =>
        refine ⟨_, ?_, HF.out⟩
        simp only
        omega
  case rest =>
  obtain ⟨r, hrd, hd⟩ := hcut
  replace HD := Hid.intro hd
  clear hd
  go_wp2_with fail
  refine (onceC_any 10 _ HD.out.cur (by omega) (by omega)).mono ?_
  rintro e w3 ⟨q, rfl, c1, g1⟩
  replace HD := Hid.intro (HD.out.step g1 c1)
  clear c1 g1
  cases q with
  | false =>
    have cz := HD.out.z.cell
    have fz := HD.out.z.fro
    have cx := HD.out.x.cell
    have fx := HD.out.x.fro
    have hqb : w.heap.size + 1 ≠ b := by have := HD.out.hb; omega
    have hbq : b ≠ w.heap.size + 1 := by have := HD.out.hb; omega
    have fin := Hid.intro (HD.out.end (by omega))
    go_wp2
    exact bodyPost_ret (v := rcV r) (by simp [results, Try.results41, go_sem, cz]) rfl fin.out
  | true =>
    go_wp2_with fail
    refine (belowC_any 5 _ HD.out.cur (by omega) (by omega)).mono ?_
    rintro e w4 ⟨x5, rfl, x50, x51, c1, g1⟩
    replace HD := Hid.intro (HD.out.step g1 c1)
    clear c1 g1
    have hx5 : x5 = 0 ∨ x5 = 1 ∨ x5 = 2 ∨ x5 = 3 ∨ x5 = 4 := by omega
    rcases hx5 with rfl | rfl | rfl | rfl | rfl
    · go_wp2_with fail
      refine (belowC_any 7 _ HD.out.cur (by omega) (by omega)).mono ?_
      rintro e w5 ⟨y, rfl, y0, y1, c1, g1⟩
      replace HD := Hid.intro (HD.out.step g1 c1)
      clear c1 g1
      have HE := Hid.intro (HD.out.setK (y - 1))
      have cz := HD.out.z.cell
      have fz := HD.out.z.fro
      have cx := HD.out.x.cell
      have fx := HD.out.x.fro
      have hqb : w.heap.size + 1 ≠ b := by have := HD.out.hb; omega
      have hbq : b ≠ w.heap.size + 1 := by have := HD.out.hb; omega
      have fin := Hid.intro (HE.out.end (by simp only; omega))
      go_wp2
      exact bodyPost_ret (v := rcV { r with k := y - 1 }) (by simp [results, Try.results41, go_sem, cz]) rfl fin.out
    · go_wp2_with fail
      refine (pickIntP_any (fun x => -10 ≤ x ∧ x ≤ 100001) 4 _ w4 HD.out.cur (okIntsP_map _ [-1, 0, 100000, 100001] (by simp)) rfl (by omega) (by omega)).mono ?_
      rintro e w5 ⟨y, rfl, hy, c1, g1⟩
      replace HD := Hid.intro (HD.out.step g1 c1)
      clear c1 g1
      have HE := Hid.intro (HD.out.setT y)
      have cz := HD.out.z.cell
      have fz := HD.out.z.fro
      have cx := HD.out.x.cell
      have fx := HD.out.x.fro
      have hqb : w.heap.size + 1 ≠ b := by have := HD.out.hb; omega
      have hbq : b ≠ w.heap.size + 1 := by have := HD.out.hb; omega
      have fin := Hid.intro (HE.out.end (by simp only; omega))
      go_wp2
      exact bodyPost_ret (v := rcV { r with t := y }) (by simp [results, Try.results41, go_sem, cz]) rfl fin.out
    · go_wp2_with fail
      refine (pickIntP_any (fun x => -10 ≤ x ∧ x ≤ 100001) 4 _ w4 HD.out.cur (okIntsP_map _ [-1, 0, 100000, 100001] (by simp)) rfl (by omega) (by omega)).mono ?_
      rintro e w5 ⟨y, rfl, hy, c1, g1⟩
      replace HD := Hid.intro (HD.out.step g1 c1)
      clear c1 g1
      have HE := Hid.intro (HD.out.setI y)
      have cz := HD.out.z.cell
      have fz := HD.out.z.fro
      have cx := HD.out.x.cell
      have fx := HD.out.x.fro
      have hqb : w.heap.size + 1 ≠ b := by have := HD.out.hb; omega
      have hbq : b ≠ w.heap.size + 1 := by have := HD.out.hb; omega
      have fin := Hid.intro (HE.out.end (by simp only; omega))
      go_wp2
      exact bodyPost_ret (v := rcV { r with i := y }) (by simp [results, Try.results41, go_sem, cz]) rfl fin.out
    · go_wp2_with fail
      refine (pickIntP_any (fun x => -10 ≤ x ∧ x ≤ 100001) 5 _ w4 HD.out.cur (okIntsP_map _ [-2, -1, 0, 4, 5] (by simp)) rfl (by omega) (by omega)).mono ?_
      rintro e w5 ⟨y, rfl, hy, c1, g1⟩
      replace HD := Hid.intro (HD.out.step g1 c1)
      clear c1 g1
      have HE := Hid.intro (HD.out.setV y)
      have cz := HD.out.z.cell
      have fz := HD.out.z.fro
      have cx := HD.out.x.cell
      have fx := HD.out.x.fro
      have hqb : w.heap.size + 1 ≠ b := by have := HD.out.hb; omega
      have hbq : b ≠ w.heap.size + 1 := by have := HD.out.hb; omega
      have fin := Hid.intro (HE.out.end (by simp only; omega))
      go_wp2
      exact bodyPost_ret (v := rcV { r with v := y }) (by simp [results, Try.results41, go_sem, cz]) rfl fin.out
    · go_wp2_with fail
      refine (belowC_any 2 _ HD.out.cur (by omega) (by omega)).mono ?_
      rintro e w5 ⟨y, rfl, y0, y1, c1, g1⟩
      replace HD := Hid.intro (HD.out.step g1 c1)
      clear c1 g1
      have hbw := HD.out.x.hi
      go_wp2_with fail
      go_loopw [9] (fun s wr => ∃ pre : List UInt8, pre.length ≤ 1601 ∧ wr.ownsRow w5.heap.size 5 1 s pre.length (cellsOf pre) ∧ w5.heap.size ≤ wr.heap.size ∧ DR N a len cap zs B base w wr b K (.slice a0 K.e.length c0) r) (fun s _ => 1700 - lenV s)
      case atStart => exact ⟨[], by simp, varStart w5, by simp, HD.out.kept ((Below.refl _ _).alloc (Nat.le_refl _) _)⟩
      case round =>
        obtain ⟨pre, hp, hown, hwz, hd⟩ := hrel
        obtain ⟨asl, csl, rfl⟩ := own_slice hown
        replace HD := Hid.intro hd
        clear hd
        by_cases hlt : (pre.length : Int) < 1600 + y
        · go_wp2_with (at_builtin; refine wpList_append_own _ rfl _ _ 22 rfl w5.heap.size 5 i0 (.int .u8 0) 1 1 Try.underlying22 hi0 hz0 hz1 hz2 rfl (by decide) _ _ _ rfl (hown.alloc _) ⟨wr.heap.size, 0, none⟩ 1 1 [.int .u8 5] rfl rfl ?c1A ?c2A ?c3A ?c4A ?c5A ?_)
          case c1A => exact cell_one_new _ _ _
          case c2A => intro u hu; simp at hu; subst hu; rfl
          case c3A => unfold maxLen; omega
          case c4A => omega
          case c5A => simp; omega
          intro v' w6 hown' hgrow _
          have hz6 := hgrow.size
          have HE := Hid.intro ((HD.out.kept ((Below.refl wr.heap.size wr).alloc (Nat.le_refl _) (.cells #[.int .u8 5] 5))).far (grown_only hgrow) (fun k hk => by have := (hown.lt k hk.symm).1; omega))
          have e5 : (((UInt8.ofNat 5).toNat : Nat) : Int) = 5 := by decide
          rw [← e5, ← cellsOf_snoc] at hown'
          have hlv := lenV_own hown'
          clear hgrow hown HD
          go_wp2
          go_roundw
          case rel =>
            refine ⟨pre ++ [UInt8.ofNat 5], by simp; omega, by simpa using hown', ?_, HE.out⟩
            simp at hz6
            omega
          case measure => rw [hlv]; simp [lenV]; omega
        · have hcv := conv_own hown
          clear hown
          have HE := Hid.intro (HD.out.setD ⟨pre.toArray⟩)
          have cz := HD.out.z.cell
          have fz := HD.out.z.fro
          have cx := HD.out.x.cell
          have fx := HD.out.x.fro
          have hqb : w.heap.size + 1 ≠ b := by have := HD.out.hb; omega
          have hbq : b ≠ w.heap.size + 1 := by have := HD.out.hb; omega
          have fin := Hid.intro (HE.out.end (by simp [ByteArray.size]; omega))
          go_wp2
          exact bodyPost_ret (v := rcV { r with d := ⟨pre.toArray⟩ }) (by simp [results, Try.results41, go_sem, cz]) rfl fin.out
end
end Go.Proofs.Ytkilepoimocoeaa
