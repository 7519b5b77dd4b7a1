/- Marks: markText; rows of slots that are marked hold their marks. -/
import Derived.Test.YthicdhjipebghaaFSlot
import Derived.Deep.RegionWith
import Derived.OwnWalk
import Derived.RegionTactic
import Derived.ChangeAlike
namespace Go.Proofs.Ythicdhjipebghaa
open Go.RowKit
set_option linter.unusedVariables false
/-- The mark of a number, its digits ahead of acc. -/
def markD : Nat → Nat → List UInt8 → List UInt8
  | 0, _, acc => acc
  | fuel + 1, k, acc => if k = 0 then acc else markD fuel (k / 10) ((48 + UInt8.ofNat (k % 10)) :: acc)
def markS (k : Nat) : ByteArray := ⟨(109 :: markD 12 k []).toArray⟩
theorem val_strM {a b : ByteArray} (h : a = b) : Value.string a = .string b := by rw [h]
theorem conv_one (w : World) (x : Int) : (convert 73 9 (.slice (some ⟨w.heap.size, 0, none⟩) 1 1)).run Try.prog (w.alloc (.cells #[.int .u8 x] 5)) = .ok (.string ⟨#[UInt8.ofNat x.toNat]⟩) (w.alloc (.cells #[.int .u8 x] 5)) :=
  run_convert_bytes_arg (P := Try.prog) _ 73 5 Try.underlying73 Try.underlying5 w.heap.size 0 1 1 [x] rfl (fun i hi => by
    obtain rfl : i = 0 := by omega
    rw [World.cell?_alloc_at _ _ _ _ rfl]; rfl) 9 Try.underlying9
theorem append_one (c : UInt8) (l : List UInt8) : (ByteArray.mk #[c]) ++ ⟨l.toArray⟩ = ⟨(c :: l).toArray⟩ := by
  apply ByteArray.ext
  rw [ByteArray.data_append]
  apply Array.ext'
  simp
set_option maxHeartbeats 400000 in
theorem markText_any (k : Nat) (w : World) (h1 : 1 ≤ k) (hk : k ≤ 100000000000) :
    Calls Try.prog 25 #[.int .i64 k] w fun e w' => e = .returned (.string (markS k)) ∧ Below w.heap.size w w' := by
  have g1 : ¬ (k : Int) ≤ 0 := by omega
  go_enter Try.func25, Try.ntmps25
  go_wp2
  go_loopw [0, 3] (fun c o wr => ∃ (fuel m : Nat) (acc : List UInt8), c = .int .i64 m ∧ o = .string ⟨acc.toArray⟩ ∧ m ≤ 100000000000 ∧ Hid (m < 10 ^ fuel) ∧ acc.length ≤ 13 ∧ Hid (acc.length + fuel = 12) ∧ Hid (markD fuel m acc = markD 12 k []) ∧ Below w.heap.size w wr) (fun c _ _ => (intOf c).toNat)
  case atStart => exact ⟨12, k, [], rfl, rfl, hk, by unfold Hid; omega, by simp, rfl, rfl, Below.refl _ _⟩
  case round =>
    obtain ⟨fuel, m, acc, rfl, rfl, hm, HF, ha, HA, HD, hbel⟩ := hrel
    by_cases hz : 0 < m
    · have hcv := conv_one wr (48 + (m : Int) % 10)
      go_wp2
      obtain ⟨f, hf⟩ : ∃ f, fuel = f + 1 := by
        cases fuel with
        | zero => have := HF.out; simp at this; omega
        | succ f => exact ⟨f, rfl⟩
      subst hf
      go_roundw
      case rel => exact ⟨f, m / 10, (48 + UInt8.ofNat (m % 10)) :: acc, by go_num, val_strM (append_one _ acc), by omega, by have := HF.out; unfold Hid; rw [Nat.pow_succ] at this; omega, by have := HA.out; simp; omega, by have := HA.out; unfold Hid; simp; omega, by have := HD.out; unfold Hid; rw [← this, markD, if_neg (by omega)], hbel.alloc hbel.size _⟩
      case measure => simp [intOf]; omega
    · obtain rfl : m = 0 := by omega
      have HE : Hid (acc = markD 12 k []) := by
        have := HD.out
        unfold Hid
        rw [← this]
        cases fuel <;> simp [markD]
      go_wp2
      go_ret
      exact ⟨ret_str (by rw [markS, ← HE.out]; exact append_one 109 acc), hbel⟩
def markI (x : Int) : ByteArray := markS x.toNat
theorem markText_int (x : Int) (w : World) (h1 : 1 ≤ x) (hk : x ≤ 100000000000) :
    Calls Try.prog 25 #[.int .i64 x] w fun e w' => e = .returned (.string (markI x)) ∧ Below w.heap.size w w' := by
  obtain ⟨k, rfl⟩ := Int.eq_ofNat_of_zero_le (show 0 ≤ x by omega)
  exact markText_any k w (by omega) (by omega)
/-- The mark of place j, from q on. -/
def mkSl (q : Int) (j : Nat) : Sl := ⟨(q + 9 * (j : Nat)), (q + 9 * (j : Nat)) + 1, (q + 9 * (j : Nat)) + 1 + 1, ⟨(q + 9 * (j : Nat)) + 1 + 1 + 1, markI ((q + 9 * (j : Nat)) + 1 + 1 + 1 + 1), markI ((q + 9 * (j : Nat)) + 1 + 1 + 1 + 1 + 1), (q + 9 * (j : Nat)) + 1 + 1 + 1 + 1 + 1 + 1, (q + 9 * (j : Nat)) + 1 + 1 + 1 + 1 + 1 + 1 + 1, markI ((q + 9 * (j : Nat)) + 1 + 1 + 1 + 1 + 1 + 1 + 1 + 1)⟩⟩
def markFL (q : Int) (L : List Sl) : Nat → List Sl
  | 0 => L
  | j + 1 => (markFL q L j).set j (mkSl q j)
theorem markFL_len (q : Int) (L : List Sl) (j : Nat) : (markFL q L j).length = L.length := by
  induction j with
  | zero => rfl
  | succ j ih => simp [markFL, ih]
theorem markFL_get (q : Int) (L : List Sl) (n i : Nat) (hi : i < n) (hL : i < (markFL q L n).length) : (markFL q L n)[i] = mkSl q i := by
  induction n with
  | zero => omega
  | succ n ih =>
    simp only [markFL, List.getElem_set]
    split
    · rename_i h; subst h; rfl
    · exact ih (by omega) (by rw [markFL_len] at hL ⊢; exact hL)
theorem ownsF_below {w w' : World} {base n g cap : Nat} {xs : List Value} (h : w.ownsRow base 49 9 (.slice (some ⟨g, 0, none⟩) n cap) n xs) (hb : Below w.heap.size w w') : w'.ownsRow base 49 9 (.slice (some ⟨g, 0, none⟩) n cap) n xs := by
  refine ⟨h.1, ?_⟩
  rcases h.2 with hn | ⟨g', cap', cur, e, hg, hgg, rest⟩
  · exact .inl hn
  · exact .inr ⟨g', cap', cur, e, hg, (hb.block _ (Array.getElem?_eq_some_iff.1 hgg).1).trans hgg, rest⟩
set_option maxRecDepth 100000 in
set_option maxHeartbeats 8000000 in
theorem markSlotS_any (L : List Sl) (v : Value) (base : Nat) (q : Int) (w : World) (hb : base ≤ w.heap.size) (ho : Own slE 49 w base v L) (hl : L.length ≤ 1000) (h1 : 1 ≤ q) (h2 : q ≤ 100000) :
    Calls Try.prog 11 #[v, .int .i64 q] w fun e w' => e = .returned (.int .i64 (q + 9 * (L.length : Nat))) ∧ Own slE 49 w' base v (markFL q L L.length) ∧ Only (fun k => some k = v.ownBlock) w w' := by
  rcases ho.look with ⟨rfl, rfl⟩ | ⟨g, cap, rfl, hg1, hg2, hc1, hc2⟩
  · go_enter Try.func11, Try.ntmps11
    go_wp2
    refine wp_loop_rounds 1 ?_
    rw [rounds_succ]
    go_wp2
    go_ret
    exact ⟨ret_int (by simp), ho, Only.refl _ _⟩
  · obtain ⟨n, hn⟩ : ∃ n, L.length = n := ⟨_, rfl⟩
    have HO := Hid.intro ho
    have HN := Hid.intro hn
    rw [hn] at hl hc1 HO ⊢
    clear ho hn
    go_enter Try.func11, Try.ntmps11
    go_wp2
    go_loopw [1, 5] (fun x i wr => ∃ (j : Nat), i = .int .i64 j ∧ x = .int .i64 (q + 9 * (j : Nat)) ∧ j ≤ n ∧ Hid (Own slE 49 wr base (.slice (some ⟨g, 0, none⟩) n cap) (markFL q L j)) ∧ Only (fun k => some k = some g) w wr) (fun _ i _ => n - (intOf i).toNat)
    case atStart => exact ⟨0, rfl, by simp, Nat.zero_le _, HO, Only.refl _ _⟩
    case round =>
      obtain ⟨j, rfl, rfl, hj, HR, hO⟩ := hrel
      by_cases hlt : j < n
      · have hml : (markFL q L j).length = n := by rw [markFL_len]; exact HN.out
        have HML := Hid.intro hml
        have hgw : g < wr.heap.size := (HR.out.lt g rfl).2
        clear hml
        obtain ⟨y0, q0⟩ := HR.out.has HML.out hlt (i := 0) (by decide)
        obtain ⟨y1, q1⟩ := HR.out.has HML.out hlt (i := 1) (by decide)
        obtain ⟨y2, q2⟩ := HR.out.has HML.out hlt (i := 2) (by decide)
        obtain ⟨y3, q3⟩ := HR.out.has HML.out hlt (i := 3) (by decide)
        obtain ⟨y4, q4⟩ := HR.out.has HML.out hlt (i := 4) (by decide)
        obtain ⟨y5, q5⟩ := HR.out.has HML.out hlt (i := 5) (by decide)
        obtain ⟨y6, q6⟩ := HR.out.has HML.out hlt (i := 6) (by decide)
        obtain ⟨y7, q7⟩ := HR.out.has HML.out hlt (i := 7) (by decide)
        obtain ⟨y8, q8⟩ := HR.out.has HML.out hlt (i := 8) (by decide)
        simp only [Nat.add_zero, show slE.n = 9 from rfl] at q0 q1 q2 q3 q4 q5 q6 q7 q8
        have f0 := HR.out.frozen HML.out
        obtain ⟨x0, hx0⟩ : ∃ x0, q + 9 * (j : Int) = x0 := ⟨_, rfl⟩
        have hb0 : 1 ≤ x0 ∧ x0 ≤ 200000 := by omega
        have hb1 := hb0.1
        have hb2 := hb0.2
        have HX0 := Hid.intro hx0
        rw [hx0]
        have HV0 : Hid (wr.ownsRow base 49 9 (.slice (some ⟨g, 0, none⟩) n cap) n (slE.f (markFL q L j))) := by
          have := HR.out
          unfold Own at this
          rw [HML.out] at this
          exact this
        have HP0 : Hid (Only (fun k => some k = some g) w wr) := hO
        clear HR hO hx0 hb0
        obtain ⟨V1, hV1⟩ : ∃ V1, V1 = ((((wr.setCell ⟨g, j * 9, none⟩ (.int .i64 (x0))).setCell ⟨g, j * 9 + 1, none⟩ (.int .i64 (x0 + 1))).setCell ⟨g, j * 9 + 2, none⟩ (.int .i64 (x0 + 1 + 1))).setCell ⟨g, j * 9 + 3, none⟩ (.int .i64 (x0 + 1 + 1 + 1))) := ⟨_, rfl⟩
        have HVV1 : Hid (V1.ownsRow base 49 9 (.slice (some ⟨g, 0, none⟩) n cap) n (((((slE.f (markFL q L j)).set (j * 9) (.int .i64 (x0))).set (j * 9 + 1) (.int .i64 (x0 + 1))).set (j * 9 + 2) (.int .i64 (x0 + 1 + 1))).set (j * 9 + 3) (.int .i64 (x0 + 1 + 1 + 1)))) := by
          unfold Hid; rw [hV1]
          exact (World.ownsRow.stored (World.ownsRow.stored (World.ownsRow.stored (World.ownsRow.stored HV0.out (j * 9) (.int .i64 (x0))).1 (j * 9 + 1) (.int .i64 (x0 + 1))).1 (j * 9 + 2) (.int .i64 (x0 + 1 + 1))).1 (j * 9 + 3) (.int .i64 (x0 + 1 + 1 + 1))).1
        have HPV1 : Hid (Only (fun k => some k = some g) w V1) := by
          unfold Hid; rw [hV1]
          exact ((((HP0.out.setCell (p := ⟨g, j * 9, none⟩) rfl (.int .i64 (x0))).setCell (p := ⟨g, j * 9 + 1, none⟩) rfl (.int .i64 (x0 + 1))).setCell (p := ⟨g, j * 9 + 2, none⟩) rfl (.int .i64 (x0 + 1 + 1))).setCell (p := ⟨g, j * 9 + 3, none⟩) rfl (.int .i64 (x0 + 1 + 1 + 1)))
        have t4 : V1.cell? ⟨g, j * 9 + 4, none⟩ = some y4 := by rw [hV1]; simp [go_sem, q4]
        have t5 : V1.cell? ⟨g, j * 9 + 5, none⟩ = some y5 := by rw [hV1]; simp [go_sem, q5]
        have t6 : V1.cell? ⟨g, j * 9 + 6, none⟩ = some y6 := by rw [hV1]; simp [go_sem, q6]
        have t7 : V1.cell? ⟨g, j * 9 + 7, none⟩ = some y7 := by rw [hV1]; simp [go_sem, q7]
        have t8 : V1.cell? ⟨g, j * 9 + 8, none⟩ = some y8 := by rw [hV1]; simp [go_sem, q8]
        have tf : ∀ o, V1.frozen? ⟨g, o, none⟩ = false := fun o => by rw [hV1]; simp [f0]
        have tg : g < V1.heap.size := by rw [hV1]; simpa using hgw
        clear HV0 HP0
        go_upto_region 12 with fail
        simp only [← hV1]
        clear hV1 q0 q1 q2 q3 q4 q5 q6 q7 q8 f0 hgw
        go_wp2_with fail
        refine (markText_int _ _ (by omega) (by omega)).mono ?_
        rintro e u4 ⟨rfl, b4⟩
        have hgu : g < u4.heap.size := Nat.lt_of_lt_of_le tg b4.size
        have q4 := (b4.cell (p := ⟨g, j * 9 + 4, none⟩) tg).trans t4
        have q5 := (b4.cell (p := ⟨g, j * 9 + 5, none⟩) tg).trans t5
        have q6 := (b4.cell (p := ⟨g, j * 9 + 6, none⟩) tg).trans t6
        have q7 := (b4.cell (p := ⟨g, j * 9 + 7, none⟩) tg).trans t7
        have q8 := (b4.cell (p := ⟨g, j * 9 + 8, none⟩) tg).trans t8
        have f0 : ∀ o, u4.frozen? ⟨g, o, none⟩ = false := fun o => (b4.frozen (p := ⟨g, o, none⟩) tg).trans (tf o)
        have HVu := Hid.intro (ownsF_below HVV1.out b4)
        have HPu := Hid.intro (HPV1.out.trans (Below.any b4))
        clear HVV1 HPV1 b4 tf tg t4 t5 t6 t7 t8
        have hgw := hgu
        clear hgu
        obtain ⟨V2, hV2⟩ : ∃ V2, V2 = (u4.setCell ⟨g, j * 9 + 4, none⟩ (.string (markI (x0 + 1 + 1 + 1 + 1)))) := ⟨_, rfl⟩
        have HVV2 : Hid (V2.ownsRow base 49 9 (.slice (some ⟨g, 0, none⟩) n cap) n ((((((slE.f (markFL q L j)).set (j * 9) (.int .i64 (x0))).set (j * 9 + 1) (.int .i64 (x0 + 1))).set (j * 9 + 2) (.int .i64 (x0 + 1 + 1))).set (j * 9 + 3) (.int .i64 (x0 + 1 + 1 + 1))).set (j * 9 + 4) (.string (markI (x0 + 1 + 1 + 1 + 1))))) := by
          unfold Hid; rw [hV2]
          exact (World.ownsRow.stored HVu.out (j * 9 + 4) (.string (markI (x0 + 1 + 1 + 1 + 1)))).1
        have HPV2 : Hid (Only (fun k => some k = some g) w V2) := by
          unfold Hid; rw [hV2]
          exact (HPu.out.setCell (p := ⟨g, j * 9 + 4, none⟩) rfl (.string (markI (x0 + 1 + 1 + 1 + 1))))
        have t5 : V2.cell? ⟨g, j * 9 + 5, none⟩ = some y5 := by rw [hV2]; simp [go_sem, q5]
        have t6 : V2.cell? ⟨g, j * 9 + 6, none⟩ = some y6 := by rw [hV2]; simp [go_sem, q6]
        have t7 : V2.cell? ⟨g, j * 9 + 7, none⟩ = some y7 := by rw [hV2]; simp [go_sem, q7]
        have t8 : V2.cell? ⟨g, j * 9 + 8, none⟩ = some y8 := by rw [hV2]; simp [go_sem, q8]
        have tf : ∀ o, V2.frozen? ⟨g, o, none⟩ = false := fun o => by rw [hV2]; simp [f0]
        have tg : g < V2.heap.size := by rw [hV2]; simpa using hgw
        clear HVu HPu
        go_upto_region 14 with fail
        simp only [← hV2]
        clear hV2 q4 q5 q6 q7 q8 f0 hgw
        go_wp2_with fail
        refine (markText_int _ _ (by omega) (by omega)).mono ?_
        rintro e u5 ⟨rfl, b5⟩
        have hgu : g < u5.heap.size := Nat.lt_of_lt_of_le tg b5.size
        have q5 := (b5.cell (p := ⟨g, j * 9 + 5, none⟩) tg).trans t5
        have q6 := (b5.cell (p := ⟨g, j * 9 + 6, none⟩) tg).trans t6
        have q7 := (b5.cell (p := ⟨g, j * 9 + 7, none⟩) tg).trans t7
        have q8 := (b5.cell (p := ⟨g, j * 9 + 8, none⟩) tg).trans t8
        have f0 : ∀ o, u5.frozen? ⟨g, o, none⟩ = false := fun o => (b5.frozen (p := ⟨g, o, none⟩) tg).trans (tf o)
        have HVu := Hid.intro (ownsF_below HVV2.out b5)
        have HPu := Hid.intro (HPV2.out.trans (Below.any b5))
        clear HVV2 HPV2 b5 tf tg t5 t6 t7 t8
        have hgw := hgu
        clear hgu
        obtain ⟨V3, hV3⟩ : ∃ V3, V3 = (((u5.setCell ⟨g, j * 9 + 5, none⟩ (.string (markI (x0 + 1 + 1 + 1 + 1 + 1)))).setCell ⟨g, j * 9 + 6, none⟩ (.int .i64 (x0 + 1 + 1 + 1 + 1 + 1 + 1))).setCell ⟨g, j * 9 + 7, none⟩ (.int .i64 (x0 + 1 + 1 + 1 + 1 + 1 + 1 + 1))) := ⟨_, rfl⟩
        have HVV3 : Hid (V3.ownsRow base 49 9 (.slice (some ⟨g, 0, none⟩) n cap) n (((((((((slE.f (markFL q L j)).set (j * 9) (.int .i64 (x0))).set (j * 9 + 1) (.int .i64 (x0 + 1))).set (j * 9 + 2) (.int .i64 (x0 + 1 + 1))).set (j * 9 + 3) (.int .i64 (x0 + 1 + 1 + 1))).set (j * 9 + 4) (.string (markI (x0 + 1 + 1 + 1 + 1)))).set (j * 9 + 5) (.string (markI (x0 + 1 + 1 + 1 + 1 + 1)))).set (j * 9 + 6) (.int .i64 (x0 + 1 + 1 + 1 + 1 + 1 + 1))).set (j * 9 + 7) (.int .i64 (x0 + 1 + 1 + 1 + 1 + 1 + 1 + 1)))) := by
          unfold Hid; rw [hV3]
          exact (World.ownsRow.stored (World.ownsRow.stored (World.ownsRow.stored HVu.out (j * 9 + 5) (.string (markI (x0 + 1 + 1 + 1 + 1 + 1)))).1 (j * 9 + 6) (.int .i64 (x0 + 1 + 1 + 1 + 1 + 1 + 1))).1 (j * 9 + 7) (.int .i64 (x0 + 1 + 1 + 1 + 1 + 1 + 1 + 1))).1
        have HPV3 : Hid (Only (fun k => some k = some g) w V3) := by
          unfold Hid; rw [hV3]
          exact (((HPu.out.setCell (p := ⟨g, j * 9 + 5, none⟩) rfl (.string (markI (x0 + 1 + 1 + 1 + 1 + 1)))).setCell (p := ⟨g, j * 9 + 6, none⟩) rfl (.int .i64 (x0 + 1 + 1 + 1 + 1 + 1 + 1))).setCell (p := ⟨g, j * 9 + 7, none⟩) rfl (.int .i64 (x0 + 1 + 1 + 1 + 1 + 1 + 1 + 1)))
        have t8 : V3.cell? ⟨g, j * 9 + 8, none⟩ = some y8 := by rw [hV3]; simp [go_sem, q8]
        have tf : ∀ o, V3.frozen? ⟨g, o, none⟩ = false := fun o => by rw [hV3]; simp [f0]
        have tg : g < V3.heap.size := by rw [hV3]; simpa using hgw
        clear HVu HPu
        go_upto_region 20 with fail
        simp only [← hV3]
        clear hV3 q5 q6 q7 q8 f0 hgw
        go_wp2_with fail
        refine (markText_int _ _ (by omega) (by omega)).mono ?_
        rintro e u8 ⟨rfl, b8⟩
        have hgu : g < u8.heap.size := Nat.lt_of_lt_of_le tg b8.size
        have q8 := (b8.cell (p := ⟨g, j * 9 + 8, none⟩) tg).trans t8
        have f0 : ∀ o, u8.frozen? ⟨g, o, none⟩ = false := fun o => (b8.frozen (p := ⟨g, o, none⟩) tg).trans (tf o)
        have HVu := Hid.intro (ownsF_below HVV3.out b8)
        have HPu := Hid.intro (HPV3.out.trans (Below.any b8))
        clear HVV3 HPV3 b8 tf tg t8
        have hgw := hgu
        clear hgu
        obtain ⟨V4, hV4⟩ : ∃ V4, V4 = (u8.setCell ⟨g, j * 9 + 8, none⟩ (.string (markI (x0 + 1 + 1 + 1 + 1 + 1 + 1 + 1 + 1)))) := ⟨_, rfl⟩
        have HVV4 : Hid (V4.ownsRow base 49 9 (.slice (some ⟨g, 0, none⟩) n cap) n ((((((((((slE.f (markFL q L j)).set (j * 9) (.int .i64 (x0))).set (j * 9 + 1) (.int .i64 (x0 + 1))).set (j * 9 + 2) (.int .i64 (x0 + 1 + 1))).set (j * 9 + 3) (.int .i64 (x0 + 1 + 1 + 1))).set (j * 9 + 4) (.string (markI (x0 + 1 + 1 + 1 + 1)))).set (j * 9 + 5) (.string (markI (x0 + 1 + 1 + 1 + 1 + 1)))).set (j * 9 + 6) (.int .i64 (x0 + 1 + 1 + 1 + 1 + 1 + 1))).set (j * 9 + 7) (.int .i64 (x0 + 1 + 1 + 1 + 1 + 1 + 1 + 1))).set (j * 9 + 8) (.string (markI (x0 + 1 + 1 + 1 + 1 + 1 + 1 + 1 + 1))))) := by
          unfold Hid; rw [hV4]
          exact (World.ownsRow.stored HVu.out (j * 9 + 8) (.string (markI (x0 + 1 + 1 + 1 + 1 + 1 + 1 + 1 + 1)))).1
        have HPV4 : Hid (Only (fun k => some k = some g) w V4) := by
          unfold Hid; rw [hV4]
          exact (HPu.out.setCell (p := ⟨g, j * 9 + 8, none⟩) rfl (.string (markI (x0 + 1 + 1 + 1 + 1 + 1 + 1 + 1 + 1))))
        have HS : Hid (Own slE 49 V4 base (.slice (some ⟨g, 0, none⟩) n cap) (markFL q L (j + 1))) := by
          unfold Hid Own
          rw [markFL_len, HN.out, markFL, Enc.f_set slE _ j _ (by rw [HML.out]; exact hlt), mkSl, HX0.out]
          exact HVV4.out
        clear HVu HPu HVV4
        go_wp2
        simp only [← hV4]
        clear hV4
        go_roundw
        case rel => exact ⟨j + 1, by go_num, by have := HX0.out; go_num, by omega, HS, HPV4.out⟩
        case measure => simp [intOf]; omega
      · obtain rfl : j = n := by omega
        go_wp2
        go_ret
        exact ⟨rfl, HR.out, hO⟩
set_option maxRecDepth 100000 in
set_option maxHeartbeats 8000000 in
theorem heldSlotS_any (M : List Sl) (v : Value) (N : Nat) (q : Int) (w : World) (hN : N ≤ w.heap.size) (hr : Row slE w N v M) (hM : ∀ i (h : i < M.length), M[i] = mkSl q i) (hl : M.length ≤ 1000) (h1 : 1 ≤ q) (h2 : q ≤ 100000) :
    Calls Try.prog 12 #[v, .int .i64 q] w fun e w' => e = .returned (.int .i64 (q + 9 * (M.length : Nat))) ∧ Below w.heap.size w w' := by
  obtain ⟨a, cap, rfl, lc, hm, hcells⟩ := slE_cell hr
  have HC := Hid.intro hcells
  have HM := Hid.intro hM
  clear hcells hM
  go_enter Try.func12, Try.ntmps12
  go_wp2
  go_loopw [1, 5] (fun x i wr => ∃ (j : Nat), i = .int .i64 j ∧ x = .int .i64 (q + 9 * (j : Nat)) ∧ j ≤ M.length ∧ Below w.heap.size w wr) (fun _ i _ => M.length - (intOf i).toNat)
  case atStart => exact ⟨0, rfl, by simp, Nat.zero_le _, Below.refl _ _⟩
  case round =>
    obtain ⟨j, rfl, rfl, hj, hbel⟩ := hrel
    by_cases hlt : j < M.length
    · obtain ⟨b, off, rfl, hbN, hcc⟩ := HC.out (by intro h; rw [h] at hlt; simp at hlt)
      have hd := (hcc j hlt).at hbel (by omega)
      rw [HM.out j hlt] at hd
      obtain ⟨x0, hx0⟩ : ∃ x0, q + 9 * (j : Int) = x0 := ⟨_, rfl⟩
      have hb0 : 1 ≤ x0 ∧ x0 ≤ 200000 := by omega
      have hb1 := hb0.1
      have hb2 := hb0.2
      have HX0 := Hid.intro hx0
      rw [mkSl, hx0] at hd
      obtain ⟨g0, g1, g2, g3, g4, g5, g6, g7, g8⟩ := hd
      replace g0 : wr.cell? ⟨b, off + j * 9, none⟩ = some (.int .i64 (x0)) := g0
      replace g1 : wr.cell? ⟨b, off + j * 9 + 1, none⟩ = some (.int .i64 (x0 + 1)) := g1
      replace g2 : wr.cell? ⟨b, off + j * 9 + 2, none⟩ = some (.int .i64 (x0 + 1 + 1)) := g2
      replace g3 : wr.cell? ⟨b, off + j * 9 + 3, none⟩ = some (.int .i64 (x0 + 1 + 1 + 1)) := g3
      replace g4 : wr.cell? ⟨b, off + j * 9 + 4, none⟩ = some (.string (markI (x0 + 1 + 1 + 1 + 1))) := g4
      replace g5 : wr.cell? ⟨b, off + j * 9 + 5, none⟩ = some (.string (markI (x0 + 1 + 1 + 1 + 1 + 1))) := g5
      replace g6 : wr.cell? ⟨b, off + j * 9 + 6, none⟩ = some (.int .i64 (x0 + 1 + 1 + 1 + 1 + 1 + 1)) := g6
      replace g7 : wr.cell? ⟨b, off + j * 9 + 7, none⟩ = some (.int .i64 (x0 + 1 + 1 + 1 + 1 + 1 + 1 + 1)) := g7
      replace g8 : wr.cell? ⟨b, off + j * 9 + 8, none⟩ = some (.string (markI (x0 + 1 + 1 + 1 + 1 + 1 + 1 + 1 + 1))) := g8
      have hs := hbel.size
      have HX : Hid (∀ w', Below wr.heap.size wr w' → w'.cell? ⟨b, off + j * 9 + 4, none⟩ = some (.string (markI (x0 + 1 + 1 + 1 + 1))) ∧ w'.cell? ⟨b, off + j * 9 + 5, none⟩ = some (.string (markI (x0 + 1 + 1 + 1 + 1 + 1))) ∧ w'.cell? ⟨b, off + j * 9 + 6, none⟩ = some (.int .i64 (x0 + 1 + 1 + 1 + 1 + 1 + 1)) ∧ w'.cell? ⟨b, off + j * 9 + 7, none⟩ = some (.int .i64 (x0 + 1 + 1 + 1 + 1 + 1 + 1 + 1)) ∧ w'.cell? ⟨b, off + j * 9 + 8, none⟩ = some (.string (markI (x0 + 1 + 1 + 1 + 1 + 1 + 1 + 1 + 1))) ∧ Below w.heap.size w w') := fun w' hb => ⟨atCell hb g4 (by omega), atCell hb g5 (by omega), atCell hb g6 (by omega), atCell hb g7 (by omega), atCell hb g8 (by omega), hbel.trans (hb.mono hs)⟩
      have i1 : (0 : Int) ≤ (j : Int) ∧ (j : Int) < (M.length : Int) := by omega
      have i2 : (j : Int) < (M.length : Int) := by omega
      rw [hx0]
      clear hcc hx0 hb0
      go_upto_region 16 with fail
      clear g0 g1 g2 g3
      have BW0 : Below wr.heap.size wr wr := Below.refl _ _
      go_region_with (go_at_call 25; refine (markText_int _ _ (by omega) (by omega)).mono ?_; rintro e w1 ⟨rfl, b1⟩; have BW1 : Below wr.heap.size wr w1 := (by first | exact BW0.trans (b1.mono BW0.size) | exact BW0.trans (((Below.refl _ _).drew.trans b1).mono BW0.size)); obtain ⟨x4, x5, x6, x7, x8, B1⟩ := HX.out w1 BW1; clear b1)
      all_goals
        clear g4 g5 g6 g7 g8 x4
        go_upto_region 19 with fail
        go_region_with (go_at_call 25; refine (markText_int _ _ (by omega) (by omega)).mono ?_; rintro e w2 ⟨rfl, b2⟩; have BW2 : Below wr.heap.size wr w2 := (by first | exact BW1.trans (b2.mono BW1.size) | exact BW1.trans (((Below.refl _ _).drew.trans b2).mono BW1.size)); clear x5 x6 x7 x8; obtain ⟨x4, x5, x6, x7, x8, B2⟩ := HX.out w2 BW2; clear b2)
        all_goals
          clear x4 x5
          go_upto_region 28 with fail
          clear x6 x7
          go_region_with (go_at_call 25; refine (markText_int _ _ (by omega) (by omega)).mono ?_; rintro e w3 ⟨rfl, b3⟩; have BW3 : Below wr.heap.size wr w3 := (by first | exact BW2.trans (b3.mono BW2.size) | exact BW2.trans (((Below.refl _ _).drew.trans b3).mono BW2.size)); clear x8; obtain ⟨x4, x5, x6, x7, x8, B3⟩ := HX.out w3 BW3; clear b3)
          all_goals
            clear HX x4 x5 x6 x7
            go_wp2
            go_roundw
            case rel => exact ⟨j + 1, by go_num, by have := HX0.out; go_num, by omega, B3⟩
            case measure => simp [intOf]; omega
    · obtain rfl : j = M.length := by omega
      go_wp2
      go_ret
      exact ⟨rfl, hbel⟩
end Go.Proofs.Ythicdhjipebghaa
