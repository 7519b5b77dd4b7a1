/- Marks: rows of entries and messages that are marked hold their marks. -/
import Derived.Test.YtdnngbdkmdphoaaEEnt
import Derived.Deep.RegionWith
import Derived.OwnWalk
import Derived.RegionTactic
import Derived.ChangeAlike
namespace Go.Proofs.Ytdnngbdkmdphoaa
open Go.RowKit
set_option linter.unusedVariables false
/-- The mark of a number, its digits ahead of acc. -/
def markD : Nat → Nat → List UInt8 → List UInt8
  | 0, _, acc => acc
  | fuel + 1, k, acc => if k = 0 then acc else markD fuel (k / 10) ((48 + UInt8.ofNat (k % 10)) :: acc)
def markS (k : Nat) : ByteArray := ⟨(109 :: markD 12 k []).toArray⟩
theorem conv_one (w : World) (x : Int) : (convert 51 9 (.slice (some ⟨w.heap.size, 0, none⟩) 1 1)).run Try.prog (w.alloc (.cells #[.int .u8 x] 5)) = .ok (.string ⟨#[UInt8.ofNat x.toNat]⟩) (w.alloc (.cells #[.int .u8 x] 5)) :=
  run_convert_bytes_arg (P := Try.prog) _ 51 5 Try.underlying51 Try.underlying5 w.heap.size 0 1 1 [x] rfl (fun i hi => by
    obtain rfl : i = 0 := by omega
    rw [World.cell?_alloc_at _ _ _ _ rfl]; rfl) 9 Try.underlying9
theorem append_one (c : UInt8) (l : List UInt8) : (ByteArray.mk #[c]) ++ ⟨l.toArray⟩ = ⟨(c :: l).toArray⟩ := by
  apply ByteArray.ext
  rw [ByteArray.data_append]
  apply Array.ext'
  simp
set_option maxHeartbeats 400000 in
theorem markText_any (k : Nat) (w : World) (h1 : 1 ≤ k) (hk : k ≤ 100000000000) :
    Calls Try.prog 61 #[.int .i64 k] w fun e w' => e = .returned (.string (markS k)) ∧ Below w.heap.size w w' := by
  have g1 : ¬ (k : Int) ≤ 0 := by omega
  go_enter Try.func61, Try.ntmps61
  go_wp2
  go_loopw [0, 3] (fun c o wr => ∃ (fuel m : Nat) (acc : List UInt8), c = .int .i64 m ∧ o = .string ⟨acc.toArray⟩ ∧ m ≤ 100000000000 ∧ Hid (m < 10 ^ fuel) ∧ acc.length ≤ 13 ∧ Hid (acc.length + fuel = 12) ∧ Hid (markD fuel m acc = markD 12 k []) ∧ Below w.heap.size w wr) (fun c _ _ => (intOf c).toNat)
  case atStart => exact ⟨12, k, [], rfl, rfl, hk, by unfold Hid; omega, by simp, rfl, rfl, Below.refl _ _⟩
  case round =>
    obtain ⟨fuel, m, acc, rfl, rfl, hm, HF, ha, HA, HD, hbel⟩ := hrel
    by_cases hz : 0 < m
    · have hcv := conv_one wr (48 + (m : Int) % 10)
      go_wp2
      obtain ⟨f, hf⟩ : ∃ f, fuel = f + 1 := by
        cases fuel with
        | zero => have := HF.out; simp at this; omega
        | succ f => exact ⟨f, rfl⟩
      subst hf
      go_roundw
      case rel => exact ⟨f, m / 10, (48 + UInt8.ofNat (m % 10)) :: acc, by go_num, val_str (append_one _ acc), by omega, by have := HF.out; unfold Hid; rw [Nat.pow_succ] at this; omega, by have := HA.out; simp; omega, by have := HA.out; unfold Hid; simp; omega, by have := HD.out; unfold Hid; rw [← this, markD, if_neg (by omega)], hbel.alloc hbel.size _⟩
      case measure => simp [intOf]; omega
    · obtain rfl : m = 0 := by omega
      have HE : Hid (acc = markD 12 k []) := by
        have := HD.out
        unfold Hid
        rw [← this]
        cases fuel <;> simp [markD]
      go_wp2
      go_ret
      exact ⟨ret_str (by rw [markS, ← HE.out]; exact append_one 109 acc), hbel⟩
def markI (x : Int) : ByteArray := markS x.toNat
theorem markText_int (x : Int) (w : World) (h1 : 1 ≤ x) (hk : x ≤ 100000000000) :
    Calls Try.prog 61 #[.int .i64 x] w fun e w' => e = .returned (.string (markI x)) ∧ Below w.heap.size w w' := by
  obtain ⟨k, rfl⟩ := Int.eq_ofNat_of_zero_le (show 0 ≤ x by omega)
  exact markText_any k w (by omega) (by omega)
/-- The mark of place j, from q on. -/
def mkE (q : Int) (j : Nat) : En := ⟨q + 2 * j, markI (q + 2 * j + 1)⟩
def markEL (q : Int) (L : List En) : Nat → List En
  | 0 => L
  | j + 1 => (markEL q L j).set j (mkE q j)
theorem markEL_len (q : Int) (L : List En) (j : Nat) : (markEL q L j).length = L.length := by
  induction j with
  | zero => rfl
  | succ j ih => simp [markEL, ih]
theorem markEL_get (q : Int) (L : List En) (n i : Nat) (hi : i < n) (hL : i < (markEL q L n).length) : (markEL q L n)[i] = mkE q i := by
  induction n with
  | zero => omega
  | succ n ih =>
    simp only [markEL, List.getElem_set]
    split
    · rename_i h; subst h; rfl
    · exact ih (by omega) (by rw [markEL_len] at hL ⊢; exact hL)
theorem ownsRow_below {w w' : World} {base : Nat} {e : TypeId} {size : Nat} {v : Value} {n : Nat} {xs : List Value} (h : w.ownsRow base e size v n xs) (hb : Below w.heap.size w w') : w'.ownsRow base e size v n xs := by
  refine ⟨h.1, ?_⟩
  rcases h.2 with hn | ⟨g, cap, cur, rfl, hg, hgg, rest⟩
  · exact .inl hn
  · exact .inr ⟨g, cap, cur, rfl, hg, (hb.block g (Array.getElem?_eq_some_iff.1 hgg).1).trans hgg, rest⟩
/-- Two places of one entry are stored, something made between. -/
theorem OwnEn_store2 {w w1 : World} {base g cap n j : Nat} {M : List En} (h : Own enE 49 w base (.slice (some ⟨g, 0, none⟩) n cap) M) (hn : M.length = n) (hj : j < n) (e : En) (hb : Below (w.setCell ⟨g, j * 2, none⟩ (.int .i64 e.t)).heap.size (w.setCell ⟨g, j * 2, none⟩ (.int .i64 e.t)) w1) :
    Own enE 49 (w1.setCell ⟨g, j * 2 + 1, none⟩ (.string e.d)) base (.slice (some ⟨g, 0, none⟩) n cap) (M.set j e) := by
  subst hn
  unfold Own at h ⊢
  rw [Enc.f_set enE M j e hj, List.length_set]
  exact (World.ownsRow.stored (ownsRow_below (World.ownsRow.stored h (j * 2) (.int .i64 e.t)).1 hb) (j * 2 + 1) (.string e.d)).1
set_option maxRecDepth 100000 in
set_option maxHeartbeats 2000000 in
theorem markE_any (L : List En) (v : Value) (base : Nat) (q : Int) (w : World) (hb : base ≤ w.heap.size) (ho : Own enE 49 w base v L) (hl : L.length ≤ 2000000) (h1 : 1 ≤ q) (h2 : q ≤ 100000000) :
    Calls Try.prog 43 #[v, .int .i64 q] w fun e w' => e = .returned (.int .i64 (q + 2 * (L.length : Nat))) ∧ Own enE 49 w' base v (markEL q L L.length) ∧ Only (fun k => some k = v.ownBlock) w w' := by
  rcases ho.look with ⟨rfl, rfl⟩ | ⟨g, cap, rfl, hg1, hg2, hc1, hc2⟩
  · go_enter Try.func43, Try.ntmps43
    go_wp2
    refine wp_loop_rounds 1 ?_
    rw [rounds_succ]
    go_wp2
    go_ret
    exact ⟨ret_int (by simp), ho, Only.refl _ _⟩
  · obtain ⟨n, hn⟩ : ∃ n, L.length = n := ⟨_, rfl⟩
    have HO := Hid.intro ho
    have HN := Hid.intro hn
    rw [hn] at hl hc1 HO ⊢
    clear ho hn
    go_enter Try.func43, Try.ntmps43
    go_wp2
    go_loopw [1, 5] (fun x i wr => ∃ (j : Nat), i = .int .i64 j ∧ x = .int .i64 (q + 2 * (j : Nat)) ∧ j ≤ n ∧ Hid (Own enE 49 wr base (.slice (some ⟨g, 0, none⟩) n cap) (markEL q L j)) ∧ Only (fun k => some k = some g) w wr) (fun _ i _ => n - (intOf i).toNat)
    case atStart => exact ⟨0, rfl, by simp, Nat.zero_le _, HO, Only.refl _ _⟩
    case round =>
      obtain ⟨j, rfl, rfl, hj, HR, hO⟩ := hrel
      by_cases hlt : j < n
      · have hml : (markEL q L j).length = n := by rw [markEL_len]; exact HN.out
        have HML := Hid.intro hml
        obtain ⟨y0, q0⟩ := HR.out.has hml hlt (i := 0) (by decide)
        obtain ⟨y1, q1⟩ := HR.out.has hml hlt (i := 1) (by decide)
        simp only [Nat.add_zero, show enE.n = 2 from rfl] at q0 q1
        have f0 := HR.out.frozen hml
        have hgw : g < wr.heap.size := (HR.out.lt g rfl).2
        have HG := Hid.intro hgw
        clear hml
        go_wp2_with fail
        refine (markText_int _ _ (by omega) (by omega)).mono ?_
        rintro e w1 ⟨rfl, b1⟩
        have hb1 : Below g (wr.setCell ⟨g, j * 2, none⟩ (.int .i64 (q + 2 * (j : Nat)))) w1 := b1.mono (by simp; have := HG.out; omega)
        have r0 : w1.cell? ⟨g, j * 2 + 1, none⟩ = some y1 := by
          rw [b1.cell (p := ⟨g, j * 2 + 1, none⟩) (by simpa using HG.out)]
          simp [go_sem, q1]
        have r1 : w1.frozen? ⟨g, j * 2 + 1, none⟩ = false := by
          rw [b1.frozen (p := ⟨g, j * 2 + 1, none⟩) (by simpa using HG.out)]
          simp [f0]
        have O1 : Only (fun k => some k = some g) w w1 := (hO.setCell (p := ⟨g, j * 2, none⟩) rfl _).trans (Below.any b1)
        have HS : Hid (Own enE 49 (w1.setCell ⟨g, j * 2 + 1, none⟩ (.string (markI (q + 2 * (j : Nat) + 1)))) base (.slice (some ⟨g, 0, none⟩) n cap) (markEL q L (j + 1))) := by
          exact OwnEn_store2 HR.out HML.out hlt (mkE q j) b1
        clear q0 q1 f0 HR b1 hb1
        go_wp2
        go_roundw
        case rel => exact ⟨j + 1, by go_num, by go_num, by omega, HS, O1.setCell rfl _⟩
        case measure => simp [intOf]; omega
      · obtain rfl : j = n := by omega
        go_wp2
        go_ret
        exact ⟨rfl, HR.out, hO⟩

set_option maxRecDepth 100000 in
set_option maxHeartbeats 2000000 in
theorem heldE_any (M : List En) (v : Value) (N : Nat) (q : Int) (w : World) (hN : N ≤ w.heap.size) (hr : Row enE w N v M) (hM : ∀ i (h : i < M.length), M[i] = mkE q i) (hl : M.length ≤ 2000000) (h1 : 1 ≤ q) (h2 : q ≤ 100000000) :
    Calls Try.prog 44 #[v, .int .i64 q] w fun e w' => e = .returned (.int .i64 (q + 2 * (M.length : Nat))) ∧ Below w.heap.size w w' := by
  obtain ⟨a, cap, rfl, lc, hm, hcells⟩ := enE_cell hr
  have HC := Hid.intro hcells
  have HM := Hid.intro hM
  clear hcells hM
  go_enter Try.func44, Try.ntmps44
  go_wp2
  go_loopw [1, 5] (fun x i wr => ∃ (j : Nat), i = .int .i64 j ∧ x = .int .i64 (q + 2 * (j : Nat)) ∧ j ≤ M.length ∧ Below w.heap.size w wr) (fun _ i _ => M.length - (intOf i).toNat)
  case atStart => exact ⟨0, rfl, by simp, Nat.zero_le _, Below.refl _ _⟩
  case round =>
    obtain ⟨j, rfl, rfl, hj, hbel⟩ := hrel
    by_cases hlt : j < M.length
    · obtain ⟨b, off, rfl, hbN, hcc⟩ := HC.out (by intro h; rw [h] at hlt; simp at hlt)
      obtain ⟨c0, c1⟩ := hcc j hlt
      rw [HM.out j hlt] at c0 c1
      have g0 : wr.cell? ⟨b, off + j * 2, none⟩ = some (.int .i64 (q + 2 * (j : Nat))) := atCell hbel c0 (by omega)
      have hs := hbel.size
      have HX : Hid (∀ w', Below wr.heap.size wr w' → w'.cell? ⟨b, off + j * 2 + 1, none⟩ = some (.string (markI (q + 2 * (j : Nat) + 1))) ∧ Below w.heap.size w w') := fun w' hb => ⟨atCell (hbel.trans (hb.mono hs)) c1 (by omega), hbel.trans (hb.mono hs)⟩
      have g1 := (HX.out wr (Below.refl _ _)).1
      have i1 : (0 : Int) ≤ (j : Int) ∧ (j : Int) < (M.length : Int) := by omega
      have i2 : (j : Int) < (M.length : Int) := by omega
      clear hcc c0 c1
      go_wp2
      go_region_with (go_at_call 61; refine (markText_int _ _ (by omega) (by omega)).mono ?_; rintro e w1 ⟨rfl, b1⟩; obtain ⟨x1, B1⟩ := HX.out w1 (by first | exact b1 | exact ((Below.refl _ _).drew).trans b1); clear b1)
      all_goals
        clear HX g0 g1
        go_wp2
        go_roundw
        case rel => exact ⟨j + 1, by go_num, by go_num, by omega, B1⟩
        case measure => simp [intOf]; omega
    · obtain rfl : j = M.length := by omega
      go_wp2
      go_ret
      exact ⟨rfl, hbel⟩
set_option maxRecDepth 100000 in
set_option maxHeartbeats 2000000 in
theorem markMsg_any (a : Ms) (v : Value) (base : Nat) (q : Int) (w : World) (hb : base ≤ w.heap.size) (ho : Own enE 49 w base v a.es) (hl : a.es.length ≤ 1000) (h1 : 1 ≤ q) (h2 : q ≤ 100000000) :
    Calls Try.prog 15 #[msV a v, .int .i64 q] w fun e w' => e = .returned (.int .i64 (q + 2 * (a.es.length : Nat))) ∧ Own enE 49 w' base v (markEL q a.es a.es.length) ∧ Only (fun k => some k = v.ownBlock) w w' := by
  have HO := Hid.intro ho
  clear ho
  go_enter Try.func15, Try.ntmps15
  go_wp2_with fail
  obtain ⟨W, hW, bW, zW, c1, f1⟩ := boxed w (msA a v) 29
  try simp only [hW]
  refine (markE_any a.es v base q W (by omega) (HO.out.kept bW) (by omega) h1 h2).mono ?_
  rintro e w1 ⟨rfl, h, ho⟩
  have HB := Hid.intro ((Below.any bW (S := fun k => some k = v.ownBlock)).trans ho)
  have H := Hid.intro h
  clear hW bW c1 f1 h ho
  go_wp2
  go_ret
  exact ⟨rfl, H.out, HB.out⟩
set_option maxRecDepth 100000 in
set_option maxHeartbeats 2000000 in
theorem heldMsg_any (a : Ms) (M : List En) (v : Value) (N : Nat) (q : Int) (w : World) (hN : N ≤ w.heap.size) (hr : Row enE w N v M) (hM : ∀ i (h : i < M.length), M[i] = mkE q i) (hl : M.length ≤ 1000) (h1 : 1 ≤ q) (h2 : q ≤ 100000000) :
    Calls Try.prog 16 #[msV a v, .int .i64 q] w fun e w' => e = .returned (.int .i64 (q + 2 * (M.length : Nat))) ∧ Below w.heap.size w w' := by
  have HR := Hid.intro hr
  have HM := Hid.intro hM
  clear hr hM
  go_enter Try.func16, Try.ntmps16
  go_wp2_with fail
  obtain ⟨W, hW, bW, zW, c1, f1⟩ := boxed w (msA a v) 29
  try simp only [hW]
  refine (heldE_any M v N q W (by omega) (HR.out.kept (bW.mono hN)) HM.out (by omega) h1 h2).mono ?_
  rintro e w1 ⟨rfl, b1⟩
  have HB := Hid.intro (bW.trans (b1.mono (by omega)))
  clear hW bW b1 c1 f1
  have hneg : ¬ q + 2 * (M.length : Int) < 0 := by omega
  go_wp2
  go_ret
  exact ⟨rfl, HB.out⟩
end Go.Proofs.Ytdnngbdkmdphoaa
