/- l3AnyKept: a drawn Kept, right or not. -/
import Derived.Test.YtkilepoimocoeaaCKept
import Derived.Test.YtkilepoimocoeaaCAnyA
namespace Go.Proofs.Ytkilepoimocoeaa
open Go.RowKit
set_option linter.unusedVariables false
section
variable {N : Nat} {a : Option Addr} {len cap : Nat} {zs : List Int} {B : Nat}
set_option maxRecDepth 100000 in
set_option maxHeartbeats 8000000 in
theorem l3AnyKept_any (w : World) (c : Cur N a len cap zs B w) :
    Calls Try.prog 54 #[.pointer (some ⟨B, 0, none⟩)] w fun e w' => DrawK 101 N a len cap zs B w e w' := by
  obtain ⟨W, hW, bW, zW, cW, fW⟩ := boxed w #[.int .i64 0, .int .i64 0, .int .i64 0, .int .i64 0, .string ⟨#[]⟩, .slice none 0 0] 28
  have C := Hid.intro (c.kept (grown_below bW))
  have hBw := c.lt
  have HBW := Hid.intro bW
  clear c
  go_enter Try.func54, Try.ntmps54
  go_wp2_with fail
  try simp only [hW]
  clear hW bW
  refine (l3Kept_any W C.out).mono ?_
  rintro e w1 ⟨K, v, rfl, o1, d1, c1, g1⟩
  obtain ⟨av, cv, rfl⟩ := o1.slice
  have HO := Hid.intro o1
  have HBD := Hid.intro d1
  have C1 := Hid.intro c1
  have HG := Hid.intro g1
  have z1 := g1.size
  clear o1 d1 c1 g1 C
  go_upto_region 2 with fail
  obtain ⟨X, hX, bX, zX, dX, eX⟩ := boxed w1 #[.int .i64 K.t, .int .i64 K.v, .int .i64 K.si, .int .i64 K.st, .string K.sd, .slice av K.e.length cv] 28
  try simp only [hX]
  have HD : Hid (DK N a len cap zs B w X w.heap.size w1.heap.size K (.slice av K.e.length cv)) := by
    have r1 : Blk w1 w.heap.size #[.int .i64 0, .int .i64 0, .int .i64 0, .int .i64 0, .string ⟨#[]⟩, .slice none 0 0] := (Blk.mk (by omega) cW fW : Blk W _ _).only (grown_only HG.out) (by simp; omega)
    refine ⟨hBw, r1.kept bX, ⟨by omega, dX, eX⟩, Nat.le_refl _, by omega, (HO.out.kept bX).lower (by omega), (fun k hk => by have := HO.out.lt k hk; omega), C1.out.kept (grown_below bX), ?_⟩
    exact (Only.then (b := W) (T := fun k => some k = some B) (Below.any HBW.out) (grown_only HG.out) (by intro k hk h; left; simpa using h)).trans (Below.any bX)
  clear hX bX zX dX eX cW fW HBW HG C1 zW z1 HO
  generalize w1.heap.size = b at *
  have HL : Hid (K.e.length ≤ 100) := HBD.out.e
  go_wp2_with fail
  refine (onceC_any 8 X HD.out.cur (by omega) (by omega)).mono ?_
  rintro e w2 ⟨q, rfl, c2, g2⟩
  replace HD := Hid.intro (HD.out.step g2 c2)
  clear c2 g2
  cases q with
  | false =>
    have cr := HD.out.r.cell
    have fr := HD.out.r.fro
    have cx := HD.out.x.cell
    go_wp2
    exact bodyPost_ret (v := kpV K (.slice av K.e.length cv)) (by simp [results, Try.results54, go_sem, cr]) rfl (HD.out.end ⟨HBD.out.t0, HBD.out.t1, HBD.out.v0, HBD.out.v1, HBD.out.i0, HBD.out.i1, by have := HBD.out.e; omega, by have := HBD.out.s; omega⟩)
  | true =>
    go_wp2_with fail
    refine (belowC_any 6 w2 HD.out.cur (by omega) (by omega)).mono ?_
    rintro e w3 ⟨x, rfl, x0, x1, c3, g3⟩
    replace HD := Hid.intro (HD.out.step g3 c3)
    clear c3 g3
    have hx : x = 0 ∨ x = 1 ∨ x = 2 ∨ x = 3 ∨ x = 4 ∨ x = 5 := by omega
    rcases hx with rfl | rfl | rfl | rfl | rfl | rfl
    · go_wp2_with fail
      refine (pickIntP_any (fun x => -1 ≤ x ∧ x ≤ 100001) 4 _ w3 HD.out.cur (okIntsP_map _ [-1, 0, 100000, 100001] (by simp)) rfl (by omega) (by omega)).mono ?_
      rintro e w4 ⟨y, rfl, hy, c4, g4⟩
      replace HD := Hid.intro (HD.out.step g4 c4)
      have HE := Hid.intro (HD.out.setT y)
      clear c4 g4
      have cr := HD.out.r.cell
      have fr := HD.out.r.fro
      have cx := HD.out.x.cell
      have fx := HD.out.x.fro
      have bd := HBD.out
      have be : K.e.length ≤ 101 := by have := bd.e; omega
      have bs : K.sd.size ≤ 101 := by have := bd.s; omega
      have hqb : w.heap.size ≠ b := by have := HD.out.hb; omega
      have hbq : b ≠ w.heap.size := by have := HD.out.hb; omega
      go_wp2
      exact bodyPost_ret (v := kpV { K with t := y } (.slice av K.e.length cv)) (by simp [results, Try.results54, go_sem, cr]) rfl (HE.out.end ⟨by simp; omega, by simp; omega, bd.v0, bd.v1, bd.i0, bd.i1, be, bs⟩)
    · go_wp2_with fail
      refine (pickIntP_any (fun x => -2 ≤ x ∧ x ≤ 5) 2 _ w3 HD.out.cur (okIntsP_map _ [-2, 5] (by simp)) rfl (by omega) (by omega)).mono ?_
      rintro e w4 ⟨y, rfl, hy, c4, g4⟩
      replace HD := Hid.intro (HD.out.step g4 c4)
      have HE := Hid.intro (HD.out.setVo y)
      clear c4 g4
      have cr := HD.out.r.cell
      have fr := HD.out.r.fro
      have cx := HD.out.x.cell
      have fx := HD.out.x.fro
      have bd := HBD.out
      have be : K.e.length ≤ 101 := by have := bd.e; omega
      have bs : K.sd.size ≤ 101 := by have := bd.s; omega
      have hqb : w.heap.size ≠ b := by have := HD.out.hb; omega
      have hbq : b ≠ w.heap.size := by have := HD.out.hb; omega
      go_wp2
      exact bodyPost_ret (v := kpV { K with v := y } (.slice av K.e.length cv)) (by simp [results, Try.results54, go_sem, cr]) rfl (HE.out.end ⟨bd.t0, bd.t1, by simp; omega, by simp; omega, bd.i0, bd.i1, be, bs⟩)
    · go_wp2_with fail
      refine (pickIntP_any (fun x => -1 ≤ x ∧ x ≤ 100001) 5 _ w3 HD.out.cur (okIntsP_map _ [-1, 0, 3, 100000, 100001] (by simp)) rfl (by omega) (by omega)).mono ?_
      rintro e w4 ⟨y, rfl, hy, c4, g4⟩
      replace HD := Hid.intro (HD.out.step g4 c4)
      have HE := Hid.intro (HD.out.setSi y)
      clear c4 g4
      have cr := HD.out.r.cell
      have fr := HD.out.r.fro
      have cx := HD.out.x.cell
      have fx := HD.out.x.fro
      have bd := HBD.out
      have be : K.e.length ≤ 101 := by have := bd.e; omega
      have bs : K.sd.size ≤ 101 := by have := bd.s; omega
      have hqb : w.heap.size ≠ b := by have := HD.out.hb; omega
      have hbq : b ≠ w.heap.size := by have := HD.out.hb; omega
      go_wp2
      exact bodyPost_ret (v := kpV { K with si := y } (.slice av K.e.length cv)) (by simp [results, Try.results54, go_sem, cr]) rfl (HE.out.end ⟨bd.t0, bd.t1, bd.v0, bd.v1, by simp; omega, by simp; omega, be, bs⟩)
    · go_wp2_with fail
      refine (belowC_any 10 w3 HD.out.cur (by omega) (by omega)).mono ?_
      rintro e w4 ⟨y, rfl, y0, y1, c4, g4⟩
      replace HD := Hid.intro (HD.out.step g4 c4)
      have HE := Hid.intro (HD.out.setSt (y - 1))
      clear c4 g4
      have cr := HD.out.r.cell
      have fr := HD.out.r.fro
      have cx := HD.out.x.cell
      have fx := HD.out.x.fro
      have bd := HBD.out
      have be : K.e.length ≤ 101 := by have := bd.e; omega
      have bs : K.sd.size ≤ 101 := by have := bd.s; omega
      have hqb : w.heap.size ≠ b := by have := HD.out.hb; omega
      have hbq : b ≠ w.heap.size := by have := HD.out.hb; omega
      go_wp2
      exact bodyPost_ret (v := kpV { K with st := y - 1 } (.slice av K.e.length cv)) (by simp [results, Try.results54, go_sem, cr]) rfl (HE.out.end ⟨bd.t0, bd.t1, bd.v0, bd.v1, bd.i0, bd.i1, be, bs⟩)
    · go_upto_region 14 with fail
      refine wp_region_held_drew (S := fun w' => w'.cell? ⟨b, 0, none⟩ = some (.int .i64 K.t) ∧ w'.cell? ⟨b, 1, none⟩ = some (.int .i64 K.v)) (by kernel_rfl) ?hsw3 (fun hHeld => ?_)
      case hsw3 => simp [HD.out.x.cell]
      replace HD := Hid.intro (HD.out.kept (u' := w3.drew) (Below.refl _ _).drew)
      generalize w3.drew = D at HD hHeld ⊢
      refine take1 (i := 0) (d := some 44) (v := ?_) rfl rfl (by kernel_rfl) (by kernel_rfl) (by kernel_rfl) (fun _ _ _ h => h) (Or.inl ⟨by rfl, ?_⟩) (by assumption) ?_
      rotate_left 1
      · intro w hSw
        obtain ⟨e0, e1⟩ := hSw
        go_simp <;> with_reducible rfl
      simp only [Act.put, List.setIfInBounds_toArray]
      try simp only [List.set_cons_succ]
      try simp only [List.set_cons_zero]
      refine take1 (i := 2) (d := some 46) (v := ?_) rfl rfl (by kernel_rfl) (by kernel_rfl) (by kernel_rfl) (fun _ _ _ h => h) (Or.inl ⟨by rfl, ?_⟩) (by assumption) ?_
      rotate_left 1
      · intro w hSw
        obtain ⟨e0, e1⟩ := hSw
        go_simp <;> with_reducible rfl
      simp only [Act.put, List.setIfInBounds_toArray]
      try simp only [List.set_cons_succ]
      try simp only [List.set_cons_zero]
      refine wpAnyH_ready (rs := [1, 3]) (by kernel_rfl) (by simp) ?_
      refine AllReadyH.cons rfl (fun KK hKK => ?_) (AllReadyH.cons rfl (fun KK hKK => ?_) AllReadyH.nil)
      · skip
        have cx := HD.out.x.cell
        go_simp
        refine hKK.out _ _ ⟨by have := HD.out.x.cell 0; simpa using this, by have := HD.out.x.cell 1; simpa using this⟩ (fun hHeld2 => ?_)
        clear cx
        clear hKK KK hHeld
        have hHeld := hHeld2
        clear hHeld2
        refine wpAnyH_ready (rs := [3]) (by kernel_rfl) (by simp) ?_
        refine AllReadyH.cons rfl (fun KK hKK => ?_) AllReadyH.nil
        go_simp
        refine (belowC_any 10 D HD.out.cur (by omega) (by omega)).mono ?_
        rintro e x1 ⟨y, rfl, y0, y1, c1, g1⟩
        replace HD := Hid.intro (HD.out.step g1 c1)
        clear c1 g1
        go_simp
        refine hKK.out _ _ ⟨by have := HD.out.x.cell 0; simpa using this, by have := HD.out.x.cell 1; simpa using this⟩ (fun hHeld2 => ?_)
        clear hKK KK hHeld
        have hHeld := hHeld2
        clear hHeld2
        refine take1 (i := 4) (d := some 48) (v := ?_) rfl rfl (by kernel_rfl) (by kernel_rfl) (by kernel_rfl) (fun _ _ _ h => h) (Or.inl ⟨by rfl, ?_⟩) (by assumption) ?_
        rotate_left 1
        · intro w hSw
          obtain ⟨e0, e1⟩ := hSw
          go_simp <;> with_reducible rfl
        simp only [Act.put, List.setIfInBounds_toArray]
        try simp only [List.set_cons_succ]
        try simp only [List.set_cons_zero]
        simp only [wraps_i64 (y - 1) (by omega) (by omega)]
        refine take1 (i := 5) (d := some 49) (v := ?_) rfl rfl (by kernel_rfl) (by kernel_rfl) (by kernel_rfl) (fun _ _ _ h => h) (Or.inl ⟨by rfl, ?_⟩) (by assumption) ?_
        rotate_left 1
        · intro w hSw
          obtain ⟨e0, e1⟩ := hSw
          go_simp <;> with_reducible rfl
        simp only [Act.put, List.setIfInBounds_toArray]
        try simp only [List.set_cons_succ]
        try simp only [List.set_cons_zero]
        refine wpAnyH_ready (rs := [6]) (by kernel_rfl) (by simp) ?_
        refine AllReadyH.cons rfl (fun KK hKK => ?_) AllReadyH.nil
        go_simp
        have bX := (Below.refl x1.heap.size x1).alloc (Nat.le_refl _) (.cells #[.int .i64 (y - 1), .string (⟨#[]⟩)] 96)
        have cX := Hid.intro (en_news (w := x1) ⟨y - 1, ⟨#[]⟩⟩ 96)
        generalize hbk : x1.heap.size = bk at cX ⊢
        simp only at cX
        generalize x1.alloc (.cells #[.int .i64 (y - 1), .string (⟨#[]⟩)] 96) = Z at bX cX ⊢
        replace HD := Hid.intro (HD.out.kept bX)
        have hwz : w.heap.size ≤ Z.heap.size := HD.out.o.size
        clear bX hbk
        refine hKK.out _ _ ⟨by have := HD.out.x.cell 0; simpa using this, by have := HD.out.x.cell 1; simpa using this⟩ (fun hHeld2 => ?_)
        clear hKK KK hHeld
        have hHeld := hHeld2
        clear hHeld2
        refine wpAnyH_ready (rs := [7]) (by kernel_rfl) (by simp) ?_
        refine AllReadyH.cons rfl (fun KK hKK => ?_) AllReadyH.nil
        refine step_X rfl _ _ rfl w.heap.size (.slice av K.e.length cv) K.e [⟨y - 1, ⟨#[]⟩⟩] rfl HD.out.own ⟨bk, 0, none⟩ 1 1 rfl rfl cX.out (by have := HL.out; simp; omega) (by omega) (by simp) ?_
        intro bb cap' w5 o5 hO5 hloc
        have HX5 := Hid.intro (HD.out.appx hO5)
        have HD5 := Hid.intro (HD.out.app (u := Z) hO5 o5 hloc)
        clear o5 hO5 hloc cX
        go_simp
        refine hKK.out _ _ ⟨by have := HX5.out.cell 0; simpa using this, by have := HX5.out.cell 1; simpa using this⟩ (fun hHeld2 => ?_)
        clear hKK KK hHeld
        have hHeld := hHeld2
        clear hHeld2
        refine take1 (i := 8) (d := some 52) (v := ?_) rfl rfl (by kernel_rfl) (by kernel_rfl) (by kernel_rfl) (fun _ _ _ h => h) (Or.inl ⟨by rfl, ?_⟩) (by assumption) ?_
        rotate_left 1
        · intro w hSw
          obtain ⟨e0, e1⟩ := hSw
          go_simp <;> with_reducible rfl
        simp only [Act.put, List.setIfInBounds_toArray]
        try simp only [List.set_cons_succ]
        try simp only [List.set_cons_zero]
        refine wpAnyH_ready (rs := [9]) (by kernel_rfl) (by simp) ?_
        refine AllReadyH.cons rfl (fun KK hKK => ?_) AllReadyH.nil
        have cx := HX5.out.cell
        have fx := HX5.out.fro
        go_simp
        refine hKK.out _ _ ⟨by have := HD5.out.x.cell 0; simpa using this, by have := HD5.out.x.cell 1; simpa using this⟩ (fun hHeld2 => ?_)
        clear hKK KK hHeld hHeld2 cx fx HX5 HD
        refine wpAnyH_done (by kernel_rfl) ?_ _
        have bd := HBD.out
        have be : K.e.length ≤ 101 := by have := bd.e; omega
        have bs : K.sd.size ≤ 101 := by have := bd.s; omega
        have hlen : (K.e ++ [(⟨y - 1, ⟨#[]⟩⟩ : En)]).length = K.e.length + 1 := by simp
        rw [hlen] at HD5
        generalize w5.setCell ⟨b, 5, none⟩ (.slice bb (K.e.length + 1) cap') = Y at HD5 ⊢
        have cr := HD5.out.r.cell
        have fr := HD5.out.r.fro
        have cx := HD5.out.x.cell
        go_wp2
        exact bodyPost_ret (v := kpV { K with e := K.e ++ [(⟨y - 1, ⟨#[]⟩⟩ : En)] } (.slice bb (K.e.length + 1) cap')) (by simp [results, Try.results54, go_sem, cr]) rfl (HD5.out.end ⟨bd.t0, bd.t1, bd.v0, bd.v1, bd.i0, bd.i1, by have := HL.out; simp only [hlen]; omega, bs⟩)
      · skip
        go_simp
        refine (belowC_any 10 D HD.out.cur (by omega) (by omega)).mono ?_
        rintro e x1 ⟨y, rfl, y0, y1, c1, g1⟩
        replace HD := Hid.intro (HD.out.step g1 c1)
        clear c1 g1
        go_simp
        refine hKK.out _ _ ⟨by have := HD.out.x.cell 0; simpa using this, by have := HD.out.x.cell 1; simpa using this⟩ (fun hHeld2 => ?_)
        clear hKK KK hHeld
        have hHeld := hHeld2
        clear hHeld2
        refine take1 (i := 4) (d := some 48) (v := ?_) rfl rfl (by kernel_rfl) (by kernel_rfl) (by kernel_rfl) (fun _ _ _ h => h) (Or.inl ⟨by rfl, ?_⟩) (by assumption) ?_
        rotate_left 1
        · intro w hSw
          obtain ⟨e0, e1⟩ := hSw
          go_simp <;> with_reducible rfl
        simp only [Act.put, List.setIfInBounds_toArray]
        try simp only [List.set_cons_succ]
        try simp only [List.set_cons_zero]
        simp only [wraps_i64 (y - 1) (by omega) (by omega)]
        refine take1 (i := 5) (d := some 49) (v := ?_) rfl rfl (by kernel_rfl) (by kernel_rfl) (by kernel_rfl) (fun _ _ _ h => h) (Or.inl ⟨by rfl, ?_⟩) (by assumption) ?_
        rotate_left 1
        · intro w hSw
          obtain ⟨e0, e1⟩ := hSw
          go_simp <;> with_reducible rfl
        simp only [Act.put, List.setIfInBounds_toArray]
        try simp only [List.set_cons_succ]
        try simp only [List.set_cons_zero]
        refine wpAnyH_ready (rs := [1, 6]) (by kernel_rfl) (by simp) ?_
        refine AllReadyH.cons rfl (fun KK hKK => ?_) (AllReadyH.cons rfl (fun KK hKK => ?_) AllReadyH.nil)
        · skip
          have cx := HD.out.x.cell
          go_simp
          refine hKK.out _ _ ⟨by have := HD.out.x.cell 0; simpa using this, by have := HD.out.x.cell 1; simpa using this⟩ (fun hHeld2 => ?_)
          clear cx
          clear hKK KK hHeld
          have hHeld := hHeld2
          clear hHeld2
          refine wpAnyH_ready (rs := [6]) (by kernel_rfl) (by simp) ?_
          refine AllReadyH.cons rfl (fun KK hKK => ?_) AllReadyH.nil
          go_simp
          have bX := (Below.refl x1.heap.size x1).alloc (Nat.le_refl _) (.cells #[.int .i64 (y - 1), .string (⟨#[]⟩)] 96)
          have cX := Hid.intro (en_news (w := x1) ⟨y - 1, ⟨#[]⟩⟩ 96)
          generalize hbk : x1.heap.size = bk at cX ⊢
          simp only at cX
          generalize x1.alloc (.cells #[.int .i64 (y - 1), .string (⟨#[]⟩)] 96) = Z at bX cX ⊢
          replace HD := Hid.intro (HD.out.kept bX)
          have hwz : w.heap.size ≤ Z.heap.size := HD.out.o.size
          clear bX hbk
          refine hKK.out _ _ ⟨by have := HD.out.x.cell 0; simpa using this, by have := HD.out.x.cell 1; simpa using this⟩ (fun hHeld2 => ?_)
          clear hKK KK hHeld
          have hHeld := hHeld2
          clear hHeld2
          refine wpAnyH_ready (rs := [7]) (by kernel_rfl) (by simp) ?_
          refine AllReadyH.cons rfl (fun KK hKK => ?_) AllReadyH.nil
          refine step_X rfl _ _ rfl w.heap.size (.slice av K.e.length cv) K.e [⟨y - 1, ⟨#[]⟩⟩] rfl HD.out.own ⟨bk, 0, none⟩ 1 1 rfl rfl cX.out (by have := HL.out; simp; omega) (by omega) (by simp) ?_
          intro bb cap' w5 o5 hO5 hloc
          have HX5 := Hid.intro (HD.out.appx hO5)
          have HD5 := Hid.intro (HD.out.app (u := Z) hO5 o5 hloc)
          clear o5 hO5 hloc cX
          go_simp
          refine hKK.out _ _ ⟨by have := HX5.out.cell 0; simpa using this, by have := HX5.out.cell 1; simpa using this⟩ (fun hHeld2 => ?_)
          clear hKK KK hHeld
          have hHeld := hHeld2
          clear hHeld2
          refine take1 (i := 8) (d := some 52) (v := ?_) rfl rfl (by kernel_rfl) (by kernel_rfl) (by kernel_rfl) (fun _ _ _ h => h) (Or.inl ⟨by rfl, ?_⟩) (by assumption) ?_
          rotate_left 1
          · intro w hSw
            obtain ⟨e0, e1⟩ := hSw
            go_simp <;> with_reducible rfl
          simp only [Act.put, List.setIfInBounds_toArray]
          try simp only [List.set_cons_succ]
          try simp only [List.set_cons_zero]
          refine wpAnyH_ready (rs := [9]) (by kernel_rfl) (by simp) ?_
          refine AllReadyH.cons rfl (fun KK hKK => ?_) AllReadyH.nil
          have cx := HX5.out.cell
          have fx := HX5.out.fro
          go_simp
          refine hKK.out _ _ ⟨by have := HD5.out.x.cell 0; simpa using this, by have := HD5.out.x.cell 1; simpa using this⟩ (fun hHeld2 => ?_)
          clear hKK KK hHeld hHeld2 cx fx HX5 HD
          refine wpAnyH_done (by kernel_rfl) ?_ _
          have bd := HBD.out
          have be : K.e.length ≤ 101 := by have := bd.e; omega
          have bs : K.sd.size ≤ 101 := by have := bd.s; omega
          have hlen : (K.e ++ [(⟨y - 1, ⟨#[]⟩⟩ : En)]).length = K.e.length + 1 := by simp
          rw [hlen] at HD5
          generalize w5.setCell ⟨b, 5, none⟩ (.slice bb (K.e.length + 1) cap') = Y at HD5 ⊢
          have cr := HD5.out.r.cell
          have fr := HD5.out.r.fro
          have cx := HD5.out.x.cell
          go_wp2
          exact bodyPost_ret (v := kpV { K with e := K.e ++ [(⟨y - 1, ⟨#[]⟩⟩ : En)] } (.slice bb (K.e.length + 1) cap')) (by simp [results, Try.results54, go_sem, cr]) rfl (HD5.out.end ⟨bd.t0, bd.t1, bd.v0, bd.v1, bd.i0, bd.i1, by have := HL.out; simp only [hlen]; omega, bs⟩)
        · skip
          go_simp
          have bX := (Below.refl x1.heap.size x1).alloc (Nat.le_refl _) (.cells #[.int .i64 (y - 1), .string (⟨#[]⟩)] 96)
          have cX := Hid.intro (en_news (w := x1) ⟨y - 1, ⟨#[]⟩⟩ 96)
          generalize hbk : x1.heap.size = bk at cX ⊢
          simp only at cX
          generalize x1.alloc (.cells #[.int .i64 (y - 1), .string (⟨#[]⟩)] 96) = Z at bX cX ⊢
          replace HD := Hid.intro (HD.out.kept bX)
          have hwz : w.heap.size ≤ Z.heap.size := HD.out.o.size
          clear bX hbk
          refine hKK.out _ _ ⟨by have := HD.out.x.cell 0; simpa using this, by have := HD.out.x.cell 1; simpa using this⟩ (fun hHeld2 => ?_)
          clear hKK KK hHeld
          have hHeld := hHeld2
          clear hHeld2
          refine wpAnyH_ready (rs := [1]) (by kernel_rfl) (by simp) ?_
          refine AllReadyH.cons rfl (fun KK hKK => ?_) AllReadyH.nil
          have cx := HD.out.x.cell
          go_simp
          refine hKK.out _ _ ⟨by have := HD.out.x.cell 0; simpa using this, by have := HD.out.x.cell 1; simpa using this⟩ (fun hHeld2 => ?_)
          clear cx
          clear hKK KK hHeld
          have hHeld := hHeld2
          clear hHeld2
          refine wpAnyH_ready (rs := [7]) (by kernel_rfl) (by simp) ?_
          refine AllReadyH.cons rfl (fun KK hKK => ?_) AllReadyH.nil
          refine step_X rfl _ _ rfl w.heap.size (.slice av K.e.length cv) K.e [⟨y - 1, ⟨#[]⟩⟩] rfl HD.out.own ⟨bk, 0, none⟩ 1 1 rfl rfl cX.out (by have := HL.out; simp; omega) (by omega) (by simp) ?_
          intro bb cap' w5 o5 hO5 hloc
          have HX5 := Hid.intro (HD.out.appx hO5)
          have HD5 := Hid.intro (HD.out.app (u := Z) hO5 o5 hloc)
          clear o5 hO5 hloc cX
          go_simp
          refine hKK.out _ _ ⟨by have := HX5.out.cell 0; simpa using this, by have := HX5.out.cell 1; simpa using this⟩ (fun hHeld2 => ?_)
          clear hKK KK hHeld
          have hHeld := hHeld2
          clear hHeld2
          refine take1 (i := 8) (d := some 52) (v := ?_) rfl rfl (by kernel_rfl) (by kernel_rfl) (by kernel_rfl) (fun _ _ _ h => h) (Or.inl ⟨by rfl, ?_⟩) (by assumption) ?_
          rotate_left 1
          · intro w hSw
            obtain ⟨e0, e1⟩ := hSw
            go_simp <;> with_reducible rfl
          simp only [Act.put, List.setIfInBounds_toArray]
          try simp only [List.set_cons_succ]
          try simp only [List.set_cons_zero]
          refine wpAnyH_ready (rs := [9]) (by kernel_rfl) (by simp) ?_
          refine AllReadyH.cons rfl (fun KK hKK => ?_) AllReadyH.nil
          have cx := HX5.out.cell
          have fx := HX5.out.fro
          go_simp
          refine hKK.out _ _ ⟨by have := HD5.out.x.cell 0; simpa using this, by have := HD5.out.x.cell 1; simpa using this⟩ (fun hHeld2 => ?_)
          clear hKK KK hHeld hHeld2 cx fx HX5 HD
          refine wpAnyH_done (by kernel_rfl) ?_ _
          have bd := HBD.out
          have be : K.e.length ≤ 101 := by have := bd.e; omega
          have bs : K.sd.size ≤ 101 := by have := bd.s; omega
          have hlen : (K.e ++ [(⟨y - 1, ⟨#[]⟩⟩ : En)]).length = K.e.length + 1 := by simp
          rw [hlen] at HD5
          generalize w5.setCell ⟨b, 5, none⟩ (.slice bb (K.e.length + 1) cap') = Y at HD5 ⊢
          have cr := HD5.out.r.cell
          have fr := HD5.out.r.fro
          have cx := HD5.out.x.cell
          go_wp2
          exact bodyPost_ret (v := kpV { K with e := K.e ++ [(⟨y - 1, ⟨#[]⟩⟩ : En)] } (.slice bb (K.e.length + 1) cap')) (by simp [results, Try.results54, go_sem, cr]) rfl (HD5.out.end ⟨bd.t0, bd.t1, bd.v0, bd.v1, bd.i0, bd.i1, by have := HL.out; simp only [hlen]; omega, bs⟩)
    · have HE := Hid.intro (HD.out.setSd (K.sd ++ ⟨#[120]⟩))
      have cr := HD.out.r.cell
      have fr := HD.out.r.fro
      have cx := HD.out.x.cell
      have fx := HD.out.x.fro
      have bd := HBD.out
      have be : K.e.length ≤ 101 := by have := bd.e; omega
      have bs : K.sd.size ≤ 101 := by have := bd.s; omega
      have hqb : w.heap.size ≠ b := by have := HD.out.hb; omega
      have hbq : b ≠ w.heap.size := by have := HD.out.hb; omega
      have bs2 : (K.sd ++ (⟨#[120]⟩ : ByteArray)).size = K.sd.size + 1 := by simp [ByteArray.size_append]; rfl
      have hsz : K.sd.size + 1 ≤ 9223372036854775807 := by omega
      go_wp2
      exact bodyPost_ret (v := kpV { K with sd := K.sd ++ ⟨#[120]⟩ } (.slice av K.e.length cv)) (by simp [results, Try.results54, go_sem, cr]) rfl (HE.out.end ⟨bd.t0, bd.t1, bd.v0, bd.v1, bd.i0, bd.i1, be, by have := bd.s; simp only [bs2]; omega⟩)
end
end Go.Proofs.Ytkilepoimocoeaa
