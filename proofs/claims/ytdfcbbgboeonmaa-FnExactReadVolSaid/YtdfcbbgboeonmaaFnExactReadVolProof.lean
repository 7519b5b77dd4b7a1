/- What is proved: at every argument the law FnExactReadVol answers true and leaves its arguments as they were (Rows.FnExactReadVolSaid); no condition. -/
import Derived.Test.YtdfcbbgboeonmaaVLawD
import Derived.Deep.RegionWith
import Derived.Test.YtdfcbbgboeonmaaTCurVo
import Derived.Deep.CutRange
import Derived.Deep.CutBlock
import Derived.Deep.RegionHeld3
import Derived.Test.YtdfcbbgboeonmaaTL8I
import Derived.Test.YtdfcbbgboeonmaaTVolIff
import Derived.Test.YtdfcbbgboeonmaaTSpecVol
import Derived.Test.YtdfcbbgboeonmaaTWholeV
import Derived.Test.YtdfcbbgboeonmaaGRow
import Derived.ProofKit
import Derived.OpenShut
import Derived.ShutString
import Derived.ChangeOld
import Derived.Deep.Slices
import Derived.Test.YtdfcbbgboeonmaaVImpF
import Derived.Test.YtdfcbbgboeonmaaRows
import Derived.WalkKit
import Derived.Below
namespace Go.Proofs.Ytdfcbbgboeonmaa
open Go.RowKit
set_option linter.unusedVariables false
/-- The mark of a number, its digits ahead of acc. -/
def markD : Nat → Nat → List UInt8 → List UInt8
  | 0, _, acc => acc
  | fuel + 1, k, acc => if k = 0 then acc else markD fuel (k / 10) ((48 + UInt8.ofNat (k % 10)) :: acc)
def markS (k : Nat) : ByteArray := ⟨(109 :: markD 12 k []).toArray⟩
theorem val_strM {a b : ByteArray} (h : a = b) : Value.string a = .string b := by rw [h]
theorem conv_one (w : World) (x : Int) : (convert 66 9 (.slice (some ⟨w.heap.size, 0, none⟩) 1 1)).run Try.prog (w.alloc (.cells #[.int .u8 x] 5)) = .ok (.string ⟨#[UInt8.ofNat x.toNat]⟩) (w.alloc (.cells #[.int .u8 x] 5)) :=
  run_convert_bytes_arg (P := Try.prog) _ 66 5 Try.underlying66 Try.underlying5 w.heap.size 0 1 1 [x] rfl (fun i hi => by
    obtain rfl : i = 0 := by omega
    rw [World.cell?_alloc_at _ _ _ _ rfl]; rfl) 9 Try.underlying9
theorem append_one (c : UInt8) (l : List UInt8) : (ByteArray.mk #[c]) ++ ⟨l.toArray⟩ = ⟨(c :: l).toArray⟩ := by
  apply ByteArray.ext
  rw [ByteArray.data_append]
  apply Array.ext'
  simp
set_option maxHeartbeats 400000 in
theorem markText_any (k : Nat) (w : World) (h1 : 1 ≤ k) (hk : k ≤ 100000000000) :
    Calls Try.prog 75 #[.int .i64 k] w fun e w' => e = .returned (.string (markS k)) ∧ Below w.heap.size w w' := by
  have g1 : ¬ (k : Int) ≤ 0 := by omega
  go_enter Try.func75, Try.ntmps75
  go_wp2
  go_loopw [0, 3] (fun c o wr => ∃ (fuel m : Nat) (acc : List UInt8), c = .int .i64 m ∧ o = .string ⟨acc.toArray⟩ ∧ m ≤ 100000000000 ∧ Hid (m < 10 ^ fuel) ∧ acc.length ≤ 13 ∧ Hid (acc.length + fuel = 12) ∧ Hid (markD fuel m acc = markD 12 k []) ∧ Below w.heap.size w wr) (fun c _ _ => (intOf c).toNat)
  case atStart => exact ⟨12, k, [], rfl, rfl, hk, by unfold Hid; omega, by simp, rfl, rfl, Below.refl _ _⟩
  case round =>
    obtain ⟨fuel, m, acc, rfl, rfl, hm, HF, ha, HA, HD, hbel⟩ := hrel
    by_cases hz : 0 < m
    · have hcv := conv_one wr (48 + (m : Int) % 10)
      go_wp2
      obtain ⟨f, hf⟩ : ∃ f, fuel = f + 1 := by
        cases fuel with
        | zero => have := HF.out; simp at this; omega
        | succ f => exact ⟨f, rfl⟩
      subst hf
      go_roundw
      case rel => exact ⟨f, m / 10, (48 + UInt8.ofNat (m % 10)) :: acc, by go_num, val_strM (append_one _ acc), by omega, by have := HF.out; unfold Hid; rw [Nat.pow_succ] at this; omega, by have := HA.out; simp; omega, by have := HA.out; unfold Hid; simp; omega, by have := HD.out; unfold Hid; rw [← this, markD, if_neg (by omega)], hbel.alloc hbel.size _⟩
      case measure => simp [intOf]; omega
    · obtain rfl : m = 0 := by omega
      have HE : Hid (acc = markD 12 k []) := by
        have := HD.out
        unfold Hid
        rw [← this]
        cases fuel <;> simp [markD]
      go_wp2
      go_ret
      exact ⟨ret_str (by rw [markS, ← HE.out]; exact append_one 109 acc), hbel⟩
def markI (x : Int) : ByteArray := markS x.toNat
theorem markText_int (x : Int) (w : World) (h1 : 1 ≤ x) (hk : x ≤ 100000000000) :
    Calls Try.prog 75 #[.int .i64 x] w fun e w' => e = .returned (.string (markI x)) ∧ Below w.heap.size w w' := by
  obtain ⟨k, rfl⟩ := Int.eq_ofNat_of_zero_le (show 0 ≤ x by omega)
  exact markText_any k w (by omega) (by omega)
/-- The mark of place j, from q on. -/
def mkD (q : Int) (j : Nat) : Di := ⟨markI (q + 2 * j), q + 2 * j + 1⟩
def markDL (q : Int) (L : List Di) : Nat → List Di
  | 0 => L
  | j + 1 => (markDL q L j).set j (mkD q j)
theorem markDL_len (q : Int) (L : List Di) (j : Nat) : (markDL q L j).length = L.length := by
  induction j with
  | zero => rfl
  | succ j ih => simp [markDL, ih]
theorem markDL_get (q : Int) (L : List Di) (n i : Nat) (hi : i < n) (hL : i < (markDL q L n).length) : (markDL q L n)[i] = mkD q i := by
  induction n with
  | zero => omega
  | succ n ih =>
    simp only [markDL, List.getElem_set]
    split
    · rename_i h; subst h; rfl
    · exact ih (by omega) (by rw [markDL_len] at hL ⊢; exact hL)
set_option maxRecDepth 100000 in
set_option maxHeartbeats 2000000 in
theorem markD_any (L : List Di) (v : Value) (base : Nat) (q : Int) (w : World) (hb : base ≤ w.heap.size) (ho : Own diE 63 w base v L) (hl : L.length ≤ 2000000) (h1 : 1 ≤ q) (h2 : q ≤ 100000000) :
    Calls Try.prog 76 #[v, .int .i64 q] w fun e w' => e = .returned (.int .i64 (q + 2 * (L.length : Nat))) ∧ Own diE 63 w' base v (markDL q L L.length) ∧ Only (fun k => some k = v.ownBlock) w w' := by
  rcases ho.look with ⟨rfl, rfl⟩ | ⟨g, cap, rfl, hg1, hg2, hc1, hc2⟩
  · go_enter Try.func76, Try.ntmps76
    go_wp2
    refine wp_loop_rounds 1 ?_
    rw [rounds_succ]
    go_wp2
    go_ret
    exact ⟨ret_int (by simp), ho, Only.refl _ _⟩
  · obtain ⟨n, hn⟩ : ∃ n, L.length = n := ⟨_, rfl⟩
    have HO := Hid.intro ho
    have HN := Hid.intro hn
    rw [hn] at hl hc1 HO ⊢
    clear ho hn
    go_enter Try.func76, Try.ntmps76
    go_wp2
    go_loopw [1, 5] (fun x i wr => ∃ (j : Nat), i = .int .i64 j ∧ x = .int .i64 (q + 2 * (j : Nat)) ∧ j ≤ n ∧ Hid (Own diE 63 wr base (.slice (some ⟨g, 0, none⟩) n cap) (markDL q L j)) ∧ Only (fun k => some k = some g) w wr) (fun _ i _ => n - (intOf i).toNat)
    case atStart => exact ⟨0, rfl, by simp, Nat.zero_le _, HO, Only.refl _ _⟩
    case round =>
      obtain ⟨j, rfl, rfl, hj, HR, hO⟩ := hrel
      by_cases hlt : j < n
      · have hml : (markDL q L j).length = n := by rw [markDL_len]; exact HN.out
        have HML := Hid.intro hml
        have hgw : g < wr.heap.size := (HR.out.lt g rfl).2
        have HG := Hid.intro hgw
        clear hml
        go_wp2_with fail
        refine (markText_int _ _ (by omega) (by omega)).mono ?_
        rintro e w1 ⟨rfl, b1⟩
        have HR1 := Hid.intro (HR.out.kept b1)
        obtain ⟨y0, q0⟩ := HR1.out.has HML.out hlt (i := 0) (by decide)
        obtain ⟨y1, q1⟩ := HR1.out.has HML.out hlt (i := 1) (by decide)
        simp only [Nat.add_zero, show diE.n = 2 from rfl] at q0 q1
        have f0 := HR1.out.frozen HML.out
        have O1 : Only (fun k => some k = some g) w w1 := hO.trans (Below.any b1)
        have HS : Hid (Own diE 63 ((w1.setCell ⟨g, j * 2, none⟩ (.string (markI (q + 2 * (j : Nat))))).setCell ⟨g, j * 2 + 1, none⟩ (.int .i64 (q + 2 * (j : Nat) + 1))) base (.slice (some ⟨g, 0, none⟩) n cap) (markDL q L (j + 1))) := HR1.out.store HML.out hlt (mkD q j)
        clear HR b1 HR1 hO
        go_wp2
        go_roundw
        case rel => exact ⟨j + 1, by go_num, by go_num, by omega, HS, (O1.setCell rfl _).setCell rfl _⟩
        case measure => simp [intOf]; omega
      · obtain rfl : j = n := by omega
        go_wp2
        go_ret
        exact ⟨rfl, HR.out, hO⟩
set_option maxRecDepth 100000 in
set_option maxHeartbeats 2000000 in
theorem heldD_any (M : List Di) (v : Value) (N : Nat) (q : Int) (w : World) (hN : N ≤ w.heap.size) (hr : Row diE w N v M) (hM : ∀ i (h : i < M.length), M[i] = mkD q i) (hl : M.length ≤ 2000000) (h1 : 1 ≤ q) (h2 : q ≤ 100000000) :
    Calls Try.prog 77 #[v, .int .i64 q] w fun e w' => e = .returned (.int .i64 (q + 2 * (M.length : Nat))) ∧ Below w.heap.size w w' := by
  obtain ⟨a, cap, rfl, lc, hm, hcells⟩ := diE_cell hr
  have HC := Hid.intro hcells
  have HM := Hid.intro hM
  clear hcells hM
  go_enter Try.func77, Try.ntmps77
  go_wp2
  go_loopw [1, 5] (fun x i wr => ∃ (j : Nat), i = .int .i64 j ∧ x = .int .i64 (q + 2 * (j : Nat)) ∧ j ≤ M.length ∧ Below w.heap.size w wr) (fun _ i _ => M.length - (intOf i).toNat)
  case atStart => exact ⟨0, rfl, by simp, Nat.zero_le _, Below.refl _ _⟩
  case round =>
    obtain ⟨j, rfl, rfl, hj, hbel⟩ := hrel
    by_cases hlt : j < M.length
    · obtain ⟨b, off, rfl, hbN, hcc⟩ := HC.out (by intro h; rw [h] at hlt; simp at hlt)
      obtain ⟨c0, c1⟩ := hcc j hlt
      rw [HM.out j hlt] at c0 c1
      have g0 : wr.cell? ⟨b, off + j * 2, none⟩ = some (.string (markI (q + 2 * (j : Nat)))) := atCell hbel c0 (by omega)
      have hs := hbel.size
      have HX : Hid (∀ w', Below wr.heap.size wr w' → w'.cell? ⟨b, off + j * 2, none⟩ = some (.string (markI (q + 2 * (j : Nat)))) ∧ w'.cell? ⟨b, off + j * 2 + 1, none⟩ = some (.int .i64 (q + 2 * (j : Nat) + 1)) ∧ Below w.heap.size w w') := fun w' hb => ⟨atCell (hbel.trans (hb.mono hs)) c0 (by omega), atCell (hbel.trans (hb.mono hs)) c1 (by omega), hbel.trans (hb.mono hs)⟩
      have i1 : (0 : Int) ≤ (j : Int) ∧ (j : Int) < (M.length : Int) := by omega
      have i2 : (j : Int) < (M.length : Int) := by omega
      clear hcc c0 c1
      go_wp2
      go_region_with (go_at_call 75; refine (markText_int _ _ (by omega) (by omega)).mono ?_; rintro e w1 ⟨rfl, b1⟩; obtain ⟨x0, x1, B1⟩ := HX.out w1 (by first | exact b1 | exact ((Below.refl _ _).drew).trans b1); clear b1)
      all_goals
        clear HX g0
        go_wp2
        go_roundw
        case rel => exact ⟨j + 1, by go_num, by go_num, by omega, B1⟩
        case measure => simp [intOf]; omega
    · obtain rfl : j = M.length := by omega
      go_wp2
      go_ret
      exact ⟨rfl, hbel⟩
end Go.Proofs.Ytdfcbbgboeonmaa
namespace Go.Proofs.Ytdfcbbgboeonmaa
open Go.RowKit
set_option linter.unusedVariables false
/-- An inode that is marked from q on. -/
def mkN (q : Int) (p : Np) : Np := ⟨⟨q, q + 1, q + 2, q + 3, q + 4, markI (q + 5), markDL (q + 6) p.n.names p.n.names.length, q + 6 + 2 * (p.n.names.length : Nat), q + 7 + 2 * (p.n.names.length : Nat)⟩, p.a, p.cap⟩
theorem mkN_len (q : Int) (p : Np) : (mkN q p).n.names.length = p.n.names.length := by simp [mkN, markDL_len]
theorem mkN_v (q : Int) (p : Np) : (mkN q p).v = p.v := by
  unfold Np.v
  rw [mkN_len]
  rfl
/-- The mark that inode j begins with. -/
def kqI (q : Int) (M : List Np) : Nat → Int
  | 0 => q
  | j + 1 => kqI q M j + 8 + 2 * ((M.getD j ndE.z).n.names.length : Nat)
def mkAt (q : Int) (M : List Np) (j : Nat) : Np := mkN (kqI q M j) (M.getD j ndE.z)
def markNL (q : Int) (M : List Np) : Nat → List Np
  | 0 => M
  | j + 1 => (markNL q M j).set j (mkAt q M j)
theorem markNL_len (q : Int) (M : List Np) (j : Nat) : (markNL q M j).length = M.length := by
  induction j with
  | zero => rfl
  | succ j ih => simp [markNL, ih]
theorem markNL_get (q : Int) (M : List Np) (n i : Nat) (hi : i < n) (hL : i < (markNL q M n).length) : (markNL q M n)[i] = mkAt q M i := by
  induction n with
  | zero => omega
  | succ n ih =>
    simp only [markNL, List.getElem_set]
    split
    · rename_i h; subst h; rfl
    · exact ih (by omega) (by rw [markNL_len] at hL ⊢; exact hL)
theorem markNL_late (q : Int) (M : List Np) (n i : Nat) (hi : n ≤ i) (hL : i < (markNL q M n).length) : (markNL q M n)[i] = M[i]'(by rw [markNL_len] at hL; exact hL) := by
  induction n with
  | zero => rfl
  | succ n ih =>
    simp only [markNL, List.getElem_set]
    rw [if_neg (by omega)]
    exact ih (by omega) (by rw [markNL_len] at hL ⊢; exact hL)
theorem getD_at {M : List Np} {j : Nat} (h : j < M.length) : M.getD j ndE.z = M[j] := by simp [List.getD_eq_getElem?_getD, h]
theorem mkAt_v {q : Int} {M : List Np} {j : Nat} (h : j < M.length) : (mkAt q M j).v = M[j].v := by
  unfold mkAt
  rw [mkN_v, getD_at h]
theorem markNL_v (q : Int) (M : List Np) (n i : Nat) (hL : i < (markNL q M n).length) : (markNL q M n)[i].v = (M[i]'(by rw [markNL_len] at hL; exact hL)).v := by
  by_cases h : i < n
  · rw [markNL_get q M n i h hL, mkAt_v (by rw [markNL_len] at hL; exact hL)]
  · rw [markNL_late q M n i (by omega) hL]
theorem getD_names {M : List Np} (h : ∀ p ∈ M, p.n.names.length ≤ 12) (j : Nat) : (M.getD j ndE.z).n.names.length ≤ 12 := by
  by_cases hj : j < M.length
  · rw [getD_at hj]; exact h _ (List.getElem_mem hj)
  · rw [List.getD_eq_getElem?_getD, List.getElem?_eq_none (by omega)]
    simp [ndE, ndZ]
theorem kqI_bd {q : Int} {M : List Np} (h : ∀ p ∈ M, p.n.names.length ≤ 12) (j : Nat) : q ≤ kqI q M j ∧ kqI q M j ≤ q + 32 * j := by
  induction j with
  | zero => simp [kqI]
  | succ j ih =>
    have := getD_names h j
    simp only [kqI]
    omega
/-- Rows of inodes and rows of names lie in blocks of two kinds. -/
theorem own_apart {α β : Type} {E : Enc α} {F : Enc β} {T U : TypeId} (hTU : T ≠ U) {w : World} {B C : Nat} {u v : Value} {L : List α} {M : List β} (h : Own E T w B u L) (k : Own F U w C v M) {g : Nat} (hu : u.ownBlock = some g) (hv : v.ownBlock = some g) : False := by
  rcases h.2 with ⟨h0, _⟩ | ⟨g1, cap1, cur1, h1, _, hg1, _⟩
  · rw [h0] at hu; cases hu
  · rcases k.2 with ⟨k0, _⟩ | ⟨g2, cap2, cur2, k1, _, hg2, _⟩
    · rw [k0] at hv; cases hv
    · rw [h1] at hu
      rw [k1] at hv
      obtain rfl : g1 = g := by simpa [Value.ownBlock] using hu
      obtain rfl : g2 = g1 := by simpa [Value.ownBlock] using hv
      rw [hg1] at hg2
      simp only [Option.some.injEq, Obj.cells.injEq] at hg2
      exact hTU hg2.2.1
theorem ownsRow_belowM {w w' : World} {base : Nat} {e : TypeId} {size : Nat} {v : Value} {n : Nat} {xs : List Value} (h : w.ownsRow base e size v n xs) (hb : Below w.heap.size w w') : w'.ownsRow base e size v n xs := by
  refine ⟨h.1, ?_⟩
  rcases h.2 with hn | ⟨g, cap, cur, rfl, hg, hgg, rest⟩
  · exact .inl hn
  · exact .inr ⟨g, cap, cur, rfl, hg, (hb.block g (Array.getElem?_eq_some_iff.1 hgg).1).trans hgg, rest⟩
theorem set_same {α : Type} {xs : List α} {i : Nat} {v : α} (h : xs[i]? = some v) : xs.set i v = xs := by
  apply List.ext_getElem?
  intro q
  rw [List.getElem?_set]
  by_cases hq : i = q
  · subst hq
    have hl : i < xs.length := (List.getElem?_eq_some_iff.1 h).1
    rw [if_pos rfl, if_pos hl, h]
  · rw [if_neg hq]
/-- All cells of an element but the seventh are stored: with the seventh as it was the element is stored. -/
theorem set9 (S : List Np) (j : Nat) (h : j < S.length) (e : Np) (hv : e.v = S[j].v) :
    ndE.f (S.set j e) = (((((((((ndE.f S).set (j * 9) (.int .i64 e.n.id)).set (j * 9 + 1) (.int .i64 e.n.kind)).set (j * 9 + 2) (.int .i64 e.n.mode)).set (j * 9 + 3) (.int .i64 e.n.uid)).set (j * 9 + 4) (.int .i64 e.n.gid)).set (j * 9 + 5) (.string e.n.data)).set (j * 9 + 7) (.int .i64 e.n.maxb)).set (j * 9 + 8) (.int .i64 e.n.maxi)) := by
  rw [Enc.f_set ndE S j e h]
  have h6 : ((((((((ndE.f S).set (j * 9) (.int .i64 e.n.id)).set (j * 9 + 1) (.int .i64 e.n.kind)).set (j * 9 + 2) (.int .i64 e.n.mode)).set (j * 9 + 3) (.int .i64 e.n.uid)).set (j * 9 + 4) (.int .i64 e.n.gid)).set (j * 9 + 5) (.string e.n.data)))[j * 9 + 6]? = some e.v := by
    rw [List.getElem?_set_ne (by omega), List.getElem?_set_ne (by omega), List.getElem?_set_ne (by omega), List.getElem?_set_ne (by omega), List.getElem?_set_ne (by omega), List.getElem?_set_ne (by omega)]
    have := ndE.f_at S j h 6 (by decide)
    rw [show ndE.n = 9 from rfl] at this
    rw [this, hv]
    rfl
  show setL (ndE.f S) (j * 9) [.int .i64 e.n.id, .int .i64 e.n.kind, .int .i64 e.n.mode, .int .i64 e.n.uid, .int .i64 e.n.gid, .string e.n.data, e.v, .int .i64 e.n.maxb, .int .i64 e.n.maxi] = _
  simp only [setL, Nat.add_assoc, Nat.reduceAdd]
  rw [set_same h6]
/-- So far marked: j inodes. -/
structure MkS (w : World) (base top g n cap : Nat) (q : Int) (M : List Np) (j : Nat) (wr : World) : Prop where
  own : Own ndE 60 wr base (.slice (some ⟨g, 0, none⟩) n cap) (markNL q M j)
  nms : ∀ i (h : i < (markNL q M j).length), Own diE 63 wr base (markNL q M j)[i].v (markNL q M j)[i].n.names
  bel : Only (fun k => base ≤ k ∧ k < top) w wr
set_option maxRecDepth 100000 in
set_option maxHeartbeats 8000000 in
theorem markN_any (M : List Np) (v : Value) (base top : Nat) (q : Int) (w : World) (hb : base ≤ w.heap.size) (ho : VolO w base v M) (hi : Inc M) (htv : ∀ k, v.ownBlock = some k → k < top) (htn : ∀ p ∈ M, ∀ k, p.v.ownBlock = some k → k < top) (hl : M.length ≤ 24) (hn : ∀ p ∈ M, p.n.names.length ≤ 12) (h1 : 1 ≤ q) (h2 : q ≤ 1000) :
    Calls Try.prog 46 #[v, .int .i64 q] w fun e w' => e = .returned (.int .i64 (kqI q M M.length)) ∧ VolR w' w'.heap.size v (markNL q M M.length) ∧ Only (fun k => base ≤ k ∧ k < top) w w' := by
  rcases ho.own.look with ⟨rfl, rfl⟩ | ⟨g, cap, rfl, hg1, hg2, hc1, hc2⟩
  · go_enter Try.func46, Try.ntmps46
    go_wp2
    refine wp_loop_rounds 1 ?_
    rw [rounds_succ]
    go_wp2
    go_ret
    exact ⟨rfl, ⟨Row.nil, fun p hp => by cases hp⟩, Only.refl _ _⟩
  · obtain ⟨n, hnn⟩ : ∃ n, M.length = n := ⟨_, rfl⟩
    have HN := Hid.intro hnn
    have HI := Hid.intro hi
    have HNM := Hid.intro hn
    have HTN := Hid.intro htn
    have htg := htv g rfl
    have HKB : Hid (∀ j, q ≤ kqI q M j ∧ kqI q M j ≤ q + 32 * j) := fun j => kqI_bd hn j
    have HS0 : Hid (MkS w base top g n cap q M 0 w) := ⟨by rw [← hnn]; exact ho.own, fun i hi => ho.nms _ (List.getElem_mem hi), Only.refl _ _⟩
    rw [hnn] at hl hc1 ⊢
    clear ho hi hn hnn htv htn
    go_enter Try.func46, Try.ntmps46
    go_wp2
    go_loopw [1, 5] (fun x i wr => ∃ (j : Nat) (q0 : Int), i = .int .i64 j ∧ x = .int .i64 q0 ∧ Hid (q0 = kqI q M j) ∧ j ≤ n ∧ Hid (MkS w base top g n cap q M j wr)) (fun _ i _ => n - (intOf i).toNat)
    case atStart => exact ⟨0, q, rfl, rfl, rfl, Nat.zero_le _, HS0⟩
    case round =>
      obtain ⟨j, q0, rfl, rfl, HQ, hj, HS⟩ := hrel
      have hkb := HKB.out j
      have hq0 : 1 ≤ q0 ∧ q0 ≤ 1000 + 32 * 24 := by have := HQ.out; omega
      clear hkb
      by_cases hlt : j < n
      · have HML : Hid ((markNL q M j).length = n) := by unfold Hid; rw [markNL_len]; exact HN.out
        have hjM : j < M.length := by have := HN.out; omega
        have hjS : j < (markNL q M j).length := by have := HML.out; omega
        obtain ⟨p, hp⟩ : ∃ p, M[j] = p := ⟨_, rfl⟩
        have hSj : (markNL q M j)[j] = p := by rw [markNL_late q M j j (Nat.le_refl _) hjS, hp]
        have hat : mkAt q M j = mkN q0 p := by unfold mkAt; rw [getD_at hjM, hp, ← HQ.out]
        have hkn : kqI q M (j + 1) = q0 + 8 + 2 * (p.n.names.length : Nat) := by
          simp only [kqI]
          rw [getD_at hjM, hp, ← HQ.out]
        have hpn : p.n.names.length ≤ 12 := by rw [← hp]; exact HNM.out _ (List.getElem_mem hjM)
        have hop := HS.out.nms j hjS
        rw [hSj] at hop
        have HOP := Hid.intro hop
        have hgne : ∀ k, p.v.ownBlock = some k → k ≠ g := fun k hk e => own_apart (T := 60) (U := 63) (by decide) HS.out.own hop rfl (e ▸ hk)
        have HGN := Hid.intro hgne
        have hgw : g < wr.heap.size := (HS.out.own.lt g rfl).2
        have HG := Hid.intro hgw
        have c6 := HS.out.own.at j hjS 6 (by decide)
        rw [hSj] at c6
        obtain ⟨y0, a0⟩ := HS.out.own.has HML.out hlt (i := 0) (by decide)
        obtain ⟨y1, a1⟩ := HS.out.own.has HML.out hlt (i := 1) (by decide)
        obtain ⟨y2, a2⟩ := HS.out.own.has HML.out hlt (i := 2) (by decide)
        obtain ⟨y3, a3⟩ := HS.out.own.has HML.out hlt (i := 3) (by decide)
        obtain ⟨y4, a4⟩ := HS.out.own.has HML.out hlt (i := 4) (by decide)
        obtain ⟨y5, a5⟩ := HS.out.own.has HML.out hlt (i := 5) (by decide)
        obtain ⟨y7, a7⟩ := HS.out.own.has HML.out hlt (i := 7) (by decide)
        obtain ⟨y8, a8⟩ := HS.out.own.has HML.out hlt (i := 8) (by decide)
        simp only [Nat.add_zero, show ndE.n = 9 from rfl] at a0 a1 a2 a3 a4 a5 a7 a8 c6
        replace c6 : wr.cell? ⟨g, j * 9 + 6, none⟩ = some p.v := c6
        have f0 := HS.out.own.frozen HML.out
        have hbs : base ≤ wr.heap.size := Nat.le_trans hb HS.out.bel.size
        have HSJ := Hid.intro hSj
        have HAT := Hid.intro hat
        have HKN := Hid.intro hkn
        have HP := Hid.intro hp
        have HJS := Hid.intro hjS
        have HPN := Hid.intro hpn
        clear hSj hat hkn hp hop hgne hpn
        obtain ⟨WA, hWA⟩ : ∃ WA, WA = (((((wr.setCell ⟨g, j * 9, none⟩ (.int .i64 (q0))).setCell ⟨g, j * 9 + 1, none⟩ (.int .i64 (q0 + 1))).setCell ⟨g, j * 9 + 2, none⟩ (.int .i64 (q0 + 1 + 1))).setCell ⟨g, j * 9 + 3, none⟩ (.int .i64 (q0 + 1 + 1 + 1))).setCell ⟨g, j * 9 + 4, none⟩ (.int .i64 (q0 + 1 + 1 + 1 + 1))) := ⟨_, rfl⟩
        have ownA : Hid (WA.ownsRow base 60 9 (.slice (some ⟨g, 0, none⟩) n cap) n ((((((ndE.f (markNL q M j)).set (j * 9) (.int .i64 (q0))).set (j * 9 + 1) (.int .i64 (q0 + 1))).set (j * 9 + 2) (.int .i64 (q0 + 1 + 1))).set (j * 9 + 3) (.int .i64 (q0 + 1 + 1 + 1))).set (j * 9 + 4) (.int .i64 (q0 + 1 + 1 + 1 + 1)))) := by
          unfold Hid
          rw [hWA]
          have h0 : wr.ownsRow base 60 9 (.slice (some ⟨g, 0, none⟩) n cap) n (ndE.f (markNL q M j)) := by
            have := HS.out.own
            unfold Own at this
            rw [HML.out] at this
            exact this
          exact (World.ownsRow.stored (World.ownsRow.stored (World.ownsRow.stored (World.ownsRow.stored (World.ownsRow.stored h0 _ _).1 _ _).1 _ _).1 _ _).1 _ _).1
        have onA : Hid (Only (fun k => k = g) wr WA) := by
          unfold Hid
          rw [hWA]
          exact (((((Only.refl (fun k => k = g) wr).setCell (p := ⟨g, j * 9, none⟩) rfl _).setCell (p := ⟨g, j * 9 + 1, none⟩) rfl _).setCell (p := ⟨g, j * 9 + 2, none⟩) rfl _).setCell (p := ⟨g, j * 9 + 3, none⟩) rfl _).setCell (p := ⟨g, j * 9 + 4, none⟩) rfl _
        have r5 : WA.cell? ⟨g, j * 9 + 5, none⟩ = some y5 := by rw [hWA]; simp [go_sem, a5]
        have r6 : WA.cell? ⟨g, j * 9 + 6, none⟩ = some p.v := by rw [hWA]; simp [go_sem, c6]
        have r7 : WA.cell? ⟨g, j * 9 + 7, none⟩ = some y7 := by rw [hWA]; simp [go_sem, a7]
        have r8 : WA.cell? ⟨g, j * 9 + 8, none⟩ = some y8 := by rw [hWA]; simp [go_sem, a8]
        have rf : ∀ o, WA.frozen? ⟨g, o, none⟩ = false := fun o => by rw [hWA]; simp [f0]
        have gA : g < WA.heap.size := by rw [hWA]; simpa using hgw
        go_upto_region 14 with fail
        simp only [← hWA]
        clear hWA a0 a1 a2 a3 a4 a5 a7 a8 c6 f0
        go_wp2_with fail
        refine (markText_int _ _ (by omega) (by omega)).mono ?_
        rintro e w1 ⟨rfl, b1⟩
        replace r5 := (b1.cell (p := ⟨g, j * 9 + 5, none⟩) gA).trans r5
        replace r6 := (b1.cell (p := ⟨g, j * 9 + 6, none⟩) gA).trans r6
        replace r7 := (b1.cell (p := ⟨g, j * 9 + 7, none⟩) gA).trans r7
        replace r8 := (b1.cell (p := ⟨g, j * 9 + 8, none⟩) gA).trans r8
        replace rf : ∀ o, w1.frozen? ⟨g, o, none⟩ = false := fun o => (b1.frozen (p := ⟨g, o, none⟩) gA).trans (rf o)
        have g1' : g < w1.heap.size := Nat.lt_of_lt_of_le gA b1.size
        have own1 := Hid.intro (World.ownsRow.stored (ownsRow_belowM ownA.out b1) (j * 9 + 5) (.string (markI (q0 + 1 + 1 + 1 + 1 + 1)))).1
        have on1 : Hid (Only (fun k => k = g) wr (w1.setCell ⟨g, j * 9 + 5, none⟩ (.string (markI (q0 + 1 + 1 + 1 + 1 + 1))))) := (onA.out.trans (Below.any b1)).setCell (p := ⟨g, j * 9 + 5, none⟩) rfl _
        clear b1 ownA onA
        go_upto_region 16 with fail
        obtain ⟨W1, hW1⟩ : ∃ W1, W1 = w1.setCell ⟨g, j * 9 + 5, none⟩ (.string (markI (q0 + 1 + 1 + 1 + 1 + 1))) := ⟨_, rfl⟩
        simp only [← hW1] at own1 on1 ⊢
        have s6 : W1.cell? ⟨g, j * 9 + 6, none⟩ = some p.v := by rw [hW1]; simp [go_sem, r6]
        have s7 : W1.cell? ⟨g, j * 9 + 7, none⟩ = some y7 := by rw [hW1]; simp [go_sem, r7]
        have s8 : W1.cell? ⟨g, j * 9 + 8, none⟩ = some y8 := by rw [hW1]; simp [go_sem, r8]
        have sf : ∀ o, W1.frozen? ⟨g, o, none⟩ = false := fun o => by rw [hW1]; simp [rf]
        have gW : g < W1.heap.size := by rw [hW1]; simpa using g1'
        clear hW1 r5 r6 r7 r8 rf g1' gA
        have hop1 : Hid (Own diE 63 W1 base p.v p.n.names) := HOP.out.only on1.out HGN.out
        have hbW : base ≤ W1.heap.size := Nat.le_trans hbs on1.out.size
        go_wp2_with fail
        refine (markD_any p.n.names p.v base _ W1 hbW hop1.out (by have := HPN.out; omega) (by omega) (by omega)).mono ?_
        rintro e w2 ⟨rfl, o2, q2⟩
        have t7 := (q2.cell (b := g) (o := j * 9 + 7) gW (fun h => HGN.out g h.symm rfl)).trans s7
        have t8 := (q2.cell (b := g) (o := j * 9 + 8) gW (fun h => HGN.out g h.symm rfl)).trans s8
        have tf : ∀ o, w2.frozen? ⟨g, o, none⟩ = false := fun o => (q2.frozen (b := g) (o := o) gW (fun h => HGN.out g h.symm rfl)).trans (sf o)
        have O2 := Hid.intro o2
        have Q2 := Hid.intro q2
        have ownB : Hid (w2.ownsRow base 60 9 (.slice (some ⟨g, 0, none⟩) n cap) n (((((((ndE.f (markNL q M j)).set (j * 9) (.int .i64 (q0))).set (j * 9 + 1) (.int .i64 (q0 + 1))).set (j * 9 + 2) (.int .i64 (q0 + 1 + 1))).set (j * 9 + 3) (.int .i64 (q0 + 1 + 1 + 1))).set (j * 9 + 4) (.int .i64 (q0 + 1 + 1 + 1 + 1))).set (j * 9 + 5) (.string (markI (q0 + 1 + 1 + 1 + 1 + 1))))) := by
          unfold Hid
          refine ⟨own1.out.1, ?_⟩
          rcases own1.out.2 with hn | ⟨g', cap', cur, hv, hg, hgg, rest⟩
          · exact .inl hn
          · have hgg' : g' = g := by simp only [Value.slice.injEq, Option.some.injEq, Addr.mk.injEq, and_true, true_and] at hv; exact hv.1.symm
            exact .inr ⟨g', cap', cur, hv, hg, (q2.block g' (by rw [hgg']; exact gW) (by rw [hgg']; exact fun h => HGN.out g h.symm rfl)).trans hgg, rest⟩
        clear s6 s7 s8 sf own1 o2 q2 hop1
        have hfin : Hid (∀ a b : Int, a = q0 + 6 + 2 * (p.n.names.length : Nat) → b = q0 + 7 + 2 * (p.n.names.length : Nat) → MkS w base top g n cap q M (j + 1) ((w2.setCell ⟨g, j * 9 + 7, none⟩ (.int .i64 a)).setCell ⟨g, j * 9 + 8, none⟩ (.int .i64 b))) := by
          intro a b ha hb2
          subst ha hb2
          have hset : markNL q M (j + 1) = (markNL q M j).set j (mkN q0 p) := by rw [markNL, HAT.out]
          have hO2 : Only (fun k => some k = p.v.ownBlock ∨ k = g) wr ((w2.setCell ⟨g, j * 9 + 7, none⟩ (.int .i64 (q0 + 6 + 2 * (p.n.names.length : Nat)))).setCell ⟨g, j * 9 + 8, none⟩ (.int .i64 (q0 + 7 + 2 * (p.n.names.length : Nat)))) := (((on1.out.mono (fun k _ h => Or.inr h)).trans (Q2.out.mono (fun k _ h => Or.inl h))).setCell (p := ⟨g, j * 9 + 7, none⟩) (.inr rfl) _).setCell (p := ⟨g, j * 9 + 8, none⟩) (.inr rfl) _
          have hOg : Only (fun k => k = g) w2 ((w2.setCell ⟨g, j * 9 + 7, none⟩ (.int .i64 (q0 + 6 + 2 * (p.n.names.length : Nat)))).setCell ⟨g, j * 9 + 8, none⟩ (.int .i64 (q0 + 7 + 2 * (p.n.names.length : Nat)))) := ((Only.refl (fun k => k = g) w2).setCell (p := ⟨g, j * 9 + 7, none⟩) rfl _).setCell (p := ⟨g, j * 9 + 8, none⟩) rfl _
          refine ⟨?_, ?_, ?_⟩
          · have hx := (World.ownsRow.stored (World.ownsRow.stored ownB.out (j * 9 + 7) (.int .i64 (q0 + 6 + 2 * (p.n.names.length : Nat)))).1 (j * 9 + 8) (.int .i64 (q0 + 7 + 2 * (p.n.names.length : Nat)))).1
            have he := set9 (markNL q M j) j HJS.out (mkN q0 p) (by rw [mkN_v, HSJ.out])
            unfold Own
            rw [markNL_len, HN.out, hset, he]
            simp only [mkN]
            simp only [Int.add_assoc, Int.reduceAdd] at hx ⊢
            exact hx
          · intro i hi2
            by_cases hij : i = j
            · subst hij
              have e1 : (markNL q M (i + 1))[i] = mkN q0 p := by rw [markNL_get q M (i + 1) i (by omega) hi2, HAT.out]
              rw [e1, mkN_v]
              have h3 := O2.out.only hOg HGN.out
              simp only [mkN]
              have h4 : markDL (q0 + 6) p.n.names p.n.names.length = markDL (q0 + 1 + 1 + 1 + 1 + 1 + 1) p.n.names p.n.names.length := by
                rw [show q0 + 6 = q0 + 1 + 1 + 1 + 1 + 1 + 1 by omega]
              rw [h4]
              exact h3
            · have hi3 : i < (markNL q M j).length := by rw [markNL_len] at hi2 ⊢; exact hi2
              have e1 : (markNL q M (j + 1))[i] = (markNL q M j)[i] := by simp only [markNL]; rw [List.getElem_set_ne (by omega)]
              rw [e1]
              refine (HS.out.nms i hi3).only hO2 (fun k hk h => ?_)
              have hkM := markNL_v q M j i hi3
              rw [hkM] at hk
              rcases h with h | h
              · have hjM : j < M.length := by have := HN.out; omega
                have hiM : i < M.length := by rw [markNL_len] at hi3; exact hi3
                have hpv : M[j].v.ownBlock = some k := by rw [HP.out]; exact h.symm
                rcases Nat.lt_or_gt_of_ne hij with hc | hc
                · have := HI.out i j hc hjM k k hk hpv; omega
                · have := HI.out j i hc hiM k k hpv hk; omega
              · have hnn := HS.out.nms i hi3
                rw [hkM] at hnn
                exact own_apart (T := 60) (U := 63) (by decide) HS.out.own hnn rfl (h ▸ hk)
          · refine HS.out.bel.then hO2 (fun k hk h => ?_)
            rcases h with h | h
            · have h5 := HTN.out M[j] (List.getElem_mem hjM) k (by rw [HP.out]; exact h.symm)
              exact ⟨(HOP.out.lt k h.symm).1, h5⟩
            · have h5 := (HS.out.own.lt g rfl).1
              exact ⟨by omega, by omega⟩
        have hpn := HPN.out
        clear HS HOP O2 Q2 ownB on1 HGN HSJ HAT HP HJS HML
        go_wp2
        go_roundw
        case rel => exact ⟨j + 1, q0 + 8 + 2 * (p.n.names.length : Nat), by go_num, by go_num, HKN.out.symm, by omega, hfin.out _ _ (by omega) (by omega)⟩
        case measure => simp [intOf]; omega
      · obtain rfl : j = n := by omega
        have HV : Hid (VolR wr wr.heap.size (.slice (some ⟨g, 0, none⟩) j cap) (markNL q M j)) := ⟨HS.out.own.rowAll, fun p hp => by
          obtain ⟨i, hi, rfl⟩ := List.mem_iff_getElem.1 hp
          exact (HS.out.nms i hi).rowAll⟩
        have HBE := Hid.intro HS.out.bel
        clear HS
        have hqe : q0 = kqI q M j := HQ.out
        go_wp2
        go_ret
        exact ⟨ret_int hqe, HV.out, HBE.out⟩
end Go.Proofs.Ytdfcbbgboeonmaa
namespace Go.Proofs.Ytdfcbbgboeonmaa
open Go.RowKit
set_option linter.unusedVariables false
set_option maxRecDepth 100000 in
set_option maxHeartbeats 8000000 in
theorem heldN_any (P M : List Np) (v : Value) (N : Nat) (q : Int) (w : World) (hN : N ≤ w.heap.size) (hr : VolR w N v P) (hP : ∀ i (h : i < P.length), P[i] = mkAt q M i) (hl : P.length ≤ 24) (hn : ∀ p ∈ M, p.n.names.length ≤ 12) (h1 : 1 ≤ q) (h2 : q ≤ 1000) :
    Calls Try.prog 47 #[v, .int .i64 q] w fun e w' => e = .returned (.int .i64 (kqI q M P.length)) ∧ Below w.heap.size w w' := by
  obtain ⟨a, cap, rfl, lc, hm, hcells⟩ := ndE_cell hr.row
  have HC := Hid.intro hcells
  have HP := Hid.intro hP
  have HR := Hid.intro hr.nms
  have HKB : Hid (∀ j, q ≤ kqI q M j ∧ kqI q M j ≤ q + 32 * j) := fun j => kqI_bd hn j
  have HD : Hid (∀ j, (M.getD j ndE.z).n.names.length ≤ 12) := fun j => getD_names hn j
  clear hcells hP hr hn
  go_enter Try.func47, Try.ntmps47
  go_wp2
  go_loopw [1, 5] (fun x i wr => ∃ (j : Nat) (q0 : Int), i = .int .i64 j ∧ x = .int .i64 q0 ∧ Hid (q0 = kqI q M j) ∧ j ≤ P.length ∧ Hid (Below w.heap.size w wr)) (fun _ i _ => P.length - (intOf i).toNat)
  case atStart => exact ⟨0, q, rfl, rfl, rfl, Nat.zero_le _, Below.refl _ _⟩
  case round =>
    obtain ⟨j, q0, rfl, rfl, HQ, hj, HB⟩ := hrel
    have hkb := HKB.out j
    have hq0 : 1 ≤ q0 ∧ q0 ≤ 1000 + 32 * 24 := by have := HQ.out; omega
    clear hkb
    by_cases hlt : j < P.length
    · obtain ⟨b, off, rfl, hbN, hcc⟩ := HC.out (by intro h; rw [h] at hlt; simp at hlt)
      have hc := hcc j hlt
      have hrj := HR.out _ (List.getElem_mem hlt)
      have hat : P[j] = mkN q0 (M.getD j ndE.z) := by rw [HP.out j hlt]; unfold mkAt; rw [← HQ.out]
      have hpn := HD.out j
      have hkn : kqI q M (j + 1) = q0 + 8 + 2 * ((M.getD j ndE.z).n.names.length : Nat) := by simp only [kqI]; rw [← HQ.out]
      rw [hat] at hc hrj
      generalize M.getD j ndE.z = p at hc hrj hpn hkn
      have hln := mkN_len q0 p
      obtain ⟨c0, c1, c2, c3, c4, c5, c6, c7, c8⟩ := hc.kept HB.out (by omega)
      have HRJ := Hid.intro (hrj.kept (HB.out.mono hN))
      have HKN := Hid.intro hkn
      have hs := HB.out.size
      have d0 : wr.cell? ⟨b, off + j * 9, none⟩ = some (.int .i64 q0) := c0
      have d1 : wr.cell? ⟨b, off + j * 9 + 1, none⟩ = some (.int .i64 (q0 + 1)) := c1
      have d2 : wr.cell? ⟨b, off + j * 9 + 2, none⟩ = some (.int .i64 (q0 + 1 + 1)) := by rw [c2]; simp only [mkN, Int.add_assoc, Int.reduceAdd]
      have d3 : wr.cell? ⟨b, off + j * 9 + 3, none⟩ = some (.int .i64 (q0 + 1 + 1 + 1)) := by rw [c3]; simp only [mkN, Int.add_assoc, Int.reduceAdd]
      have d4 : wr.cell? ⟨b, off + j * 9 + 4, none⟩ = some (.int .i64 (q0 + 1 + 1 + 1 + 1)) := by rw [c4]; simp only [mkN, Int.add_assoc, Int.reduceAdd]
      have d5 : wr.cell? ⟨b, off + j * 9 + 5, none⟩ = some (.string (markI (q0 + 1 + 1 + 1 + 1 + 1))) := by rw [c5]; simp only [mkN, Int.add_assoc, Int.reduceAdd]
      have d6 : wr.cell? ⟨b, off + j * 9 + 6, none⟩ = some (mkN q0 p).v := c6
      have d7 : wr.cell? ⟨b, off + j * 9 + 7, none⟩ = some (.int .i64 (q0 + 1 + 1 + 1 + 1 + 1 + 1 + 2 * (p.n.names.length : Nat))) := by rw [c7]; simp only [mkN, Int.add_assoc, Int.reduceAdd]
      have d8 : wr.cell? ⟨b, off + j * 9 + 8, none⟩ = some (.int .i64 (q0 + 1 + 1 + 1 + 1 + 1 + 1 + 2 * (p.n.names.length : Nat) + 1)) := by
        rw [c8]
        have e : q0 + 7 + 2 * (p.n.names.length : Nat) = q0 + 1 + 1 + 1 + 1 + 1 + 1 + 2 * (p.n.names.length : Nat) + 1 := by omega
        simp only [mkN, e]
      have HX : Hid (∀ w', Below wr.heap.size wr w' → w'.cell? ⟨b, off + j * 9 + 5, none⟩ = some (.string (markI (q0 + 1 + 1 + 1 + 1 + 1))) ∧ w'.cell? ⟨b, off + j * 9 + 6, none⟩ = some (mkN q0 p).v ∧ w'.cell? ⟨b, off + j * 9 + 7, none⟩ = some (.int .i64 (q0 + 1 + 1 + 1 + 1 + 1 + 1 + 2 * (p.n.names.length : Nat))) ∧ w'.cell? ⟨b, off + j * 9 + 8, none⟩ = some (.int .i64 (q0 + 1 + 1 + 1 + 1 + 1 + 1 + 2 * (p.n.names.length : Nat) + 1))) := fun w' hb => ⟨atCell hb d5 (by omega), atCell hb d6 (by omega), atCell hb d7 (by omega), atCell hb d8 (by omega)⟩
      have i1 : (0 : Int) ≤ (j : Int) ∧ (j : Int) < (P.length : Int) := by omega
      have i2 : (j : Int) < (P.length : Int) := by omega
      clear hcc hc hrj hat hkn c0 c1 c2 c3 c4 c5 c6 c7 c8
      go_upto_region 19 with fail
      clear d0 d1 d2 d3 d4
      go_cut [64] from 6 to 93 (fun s wc => s = .bool false ∧ Below wr.heap.size wr wc)
      case first =>
        clear d6 d7 d8
        go_region_with (go_at_call 75; refine (markText_int _ _ (by omega) (by omega)).mono ?_; rintro e w1 ⟨rfl, b1⟩; have x0 := (HX.out w1 (by first | exact b1 | exact ((Below.refl _ _).drew).trans b1)).1; have B1 : Below wr.heap.size wr w1 := (by first | exact b1 | exact ((Below.refl _ _).drew).trans b1); clear b1)
        all_goals
          clear HX d5
          go_wp2_with fail
          go_meet
          case rel => exact ⟨rfl, B1⟩
      case rest =>
      obtain ⟨rfl, bc⟩ := hcut
      clear d5 d6 d7 d8
      obtain ⟨d5, d6, d7, d8⟩ := HX.out wc bc
      have hbc := bc.size
      have HBC : Hid (Below w.heap.size w wc) := HB.out.trans (bc.mono hs)
      have HRC := Hid.intro (HRJ.out.kept (bc.mono (show N ≤ wr.heap.size by omega)))
      clear HX HB HRJ d5
      go_wp2_with fail
      refine (heldD_any (mkN q0 p).n.names (mkN q0 p).v N (q0 + 1 + 1 + 1 + 1 + 1 + 1) wc (by omega) HRC.out (fun i hi => ?_) (by rw [hln]; omega) (by omega) (by omega)).mono ?_
      · have e : (mkN q0 p).n.names = markDL (q0 + 1 + 1 + 1 + 1 + 1 + 1) p.n.names p.n.names.length := by
          show markDL (q0 + 6) p.n.names p.n.names.length = _
          rw [show q0 + 6 = q0 + 1 + 1 + 1 + 1 + 1 + 1 by omega]
        simp only [e] at hi ⊢
        exact markDL_get _ _ _ i (by rw [markDL_len] at hi; exact hi) hi
      rintro e w1 ⟨rfl, b1⟩
      rw [hln]
      replace d7 := atCell b1 d7 (by omega)
      replace d8 := atCell b1 d8 (by omega)
      have HBF : Hid (Below w.heap.size w w1) := HBC.out.trans (b1.mono (by omega))
      clear d6 b1 HRC HBC
      go_wp2_with fail
      go_roundw
      case rel => exact ⟨j + 1, q0 + 8 + 2 * (p.n.names.length : Nat), by go_num, by go_num, HKN.out.symm, by omega, HBF⟩
      case measure => simp [intOf]; omega
    · obtain rfl : j = P.length := by omega
      have hqe : q0 = kqI q M P.length := HQ.out
      go_wp2
      go_ret
      exact ⟨ret_int hqe, HB.out⟩
end Go.Proofs.Ytdfcbbgboeonmaa
namespace Go.Proofs.Ytdfcbbgboeonmaa
open Go.RowKit
set_option linter.unusedVariables false
theorem bstr_ne2 {a b : ByteArray} (h : ¬ a = b) : (a.toList == b.toList) = false := by
  rw [beq_eq_false_iff_ne]
  intro e
  rw [toList_go, toList_go] at e
  exact h ((ba_of a).symm.trans ((congrArg (fun l : List UInt8 => (⟨l.toArray⟩ : ByteArray)) e).trans (ba_of b)))
structure VoS (w5 : World) (g3 B nx : Nat) (wr : World) (u : Value) (M : List Np) : Prop where
  box : Blk wr g3 #[.int .i64 (nx : Nat), u]
  own : VolO wr B u M
  inc : Inc M
  only : Only (fun k => k = g3) w5 wr
  lt : g3 < B ∧ B = w5.heap.size
theorem VoS.kept {w5 : World} {g3 B nx : Nat} {wr w2 : World} {u : Value} {M : List Np} (h : VoS w5 g3 B nx wr u M) (hb : Below wr.heap.size wr w2) : VoS w5 g3 B nx w2 u M :=
  ⟨h.box.kept hb, h.own.kept hb, h.inc, h.only.trans (ob_any hb), h.lt⟩
theorem VoS.put {w5 : World} {g3 B nx : Nat} {wr w4 : World} {u : Value} {M : List Np} {p : Np} {g m cap C : Nat} (h : VoS w5 g3 B nx wr u M) (ho : Only (fun k => some k = u.ownBlock) wr w4) (hown : Own ndE 60 w4 B (.slice (some ⟨g, 0, none⟩) m cap) (M ++ [p]))
    (hp : Own diE 63 wr C p.v p.n.names) (hC : B ≤ C) (hM : ∀ x ∈ M, ∀ k, x.v.ownBlock = some k → k < C) :
    VoS w5 g3 B nx (w4.setCell ⟨g3, 1, none⟩ (.slice (some ⟨g, 0, none⟩) m cap)) (.slice (some ⟨g, 0, none⟩) m cap) (M ++ [p]) := by
  have hlt := h.lt
  have nb : ∀ k, some k = u.ownBlock → B ≤ k := fun k hk => (h.own.own.lt k hk.symm).1
  have h3 : ¬ some g3 = u.ownBlock := fun e => by have := nb g3 e; omega
  have bx := h.box.only ho h3
  refine ⟨⟨by simpa using bx.hi, fun o => ?_, fun o => ?_⟩, ⟨hown.only (set_only g3 1 w4 _) (fun k hk e => ?_), fun x hx => ?_⟩, h.inc.snoc C hM (fun k hk => (hp.lt k hk).1), (h.only.then ho (fun k hk e => by have := nb k e; omega)).trans (set_only g3 1 w4 _), hlt⟩
  · match o with
    | 0 => rw [World.cell?_setCell_other _ _ _ _ (by intro e2; simp at e2 <;> omega), bx.cell 0]; rfl
    | 1 => exact World.cell?_setCell_same _ _ _ (bx.cell 1)
    | o + 2 => rw [World.cell?_setCell_other _ _ _ _ (by intro e2; simp at e2 <;> omega), bx.cell (o + 2)]; simp
  · rw [World.frozen?_setCell]; exact bx.fro o
  · have := (hown.lt k hk).1; omega
  · rcases List.mem_append.1 hx with hx | hx
    · have h5 := h.own.nms x hx
      exact (h5.only ho (fun k hk e => own_ne h5 h.own.own hk e)).only (set_only g3 1 w4 _) (fun k hk e => by have := (h5.lt k hk).1; omega)
    · obtain rfl : x = p := by simpa using hx
      exact ((hp.only ho (fun k hk e => own_ne hp h.own.own hk e)).only (set_only g3 1 w4 _) (fun k hk e => by have := (hp.lt k hk).1; omega)).lower hC
set_option maxRecDepth 100000 in
set_option maxHeartbeats 4000000 in
theorem specReadVol_any (s : ByteArray) (w : World) (hs : s.size ≤ 1048576) :
    Calls Try.prog 14 #[.string s] w (RdV s.data.toList w) := by
  obtain ⟨i0, hi, hz0, hz1, hz2⟩ := info_parts Try.infoIn
  go_enter Try.func14, Try.ntmps14
  go_wp2_with fail
  obtain ⟨W, hW, bW, zW, cW, fW⟩ := boxed w #[.int .i64 0, .slice none 0 0] 29
  simp only [hW]
  have X0 : Hid (Blk W w.heap.size zV) := Hid.intro ⟨by omega, cW, fW⟩
  have B0 := bW
  clear hW cW fW bW zW
  refine (l8Vars_any s 0 2 _ hs (by omega) (by omega) (by omega)).mono ?_
  rintro e w1 ⟨⟨v2, ⟨xs, a1, rfl, HV, ha1, hl, hn2⟩ | ⟨rfl, HV⟩⟩, b⟩
  rotate_left 1
  · replace X0 := Hid.intro (X0.out.kept b)
    replace B0 := B0.trans (b.mono B0.size)
    have HP : Hid (outV s.data.toList = none) := by
      have h := HV.out
      rw [List.drop_zero] at h
      unfold Hid outV volO
      rcases varsO_less h with h1 | ⟨x, r1, h1, h⟩
      · simp only [h1, Option.bind_none]
      · rcases varsO_less h with h2 | ⟨y, r2, h2, h⟩
        · simp only [h1, cntO, h2, Option.bind_some, Option.bind_none]
        · rw [varsO] at h; cases h
    clear HV b
    have r0 : w1.cell? ⟨w.heap.size, 0, none⟩ = some (.int .i64 0) := X0.out.cell 0
    have r1 : w1.cell? ⟨w.heap.size, 1, none⟩ = some (.slice none 0 0) := X0.out.cell 1
    have f0 : w1.frozen? ⟨w.heap.size, 0, none⟩ = false := X0.out.fro 0
    have f1 : w1.frozen? ⟨w.heap.size, 1, none⟩ = false := X0.out.fro 1
    have o1 : Only (fun k => k = w.heap.size) w1 ((w1.setCell ⟨w.heap.size, 0, none⟩ (.int .i64 0)).setCell ⟨w.heap.size, 1, none⟩ (.slice none 0 0)) := (set_only w.heap.size 0 w1 (.int .i64 0)).setCell (p := ⟨w.heap.size, 1, none⟩) rfl (.slice none 0 0)
    clear X0
    go_wp2
    exact bodyPost_ret (v := .tuple #[volV 0 (.slice none 0 0), .bool false]) (by simp [results, Try.results14, go_sem, r0, r1]) rfl ⟨.inr ⟨rfl, HP⟩, B0.trans (o1.below B0.size (fun k hk h => by omega))⟩
  obtain ⟨nx, n, r1, rfl, h1, h2⟩ := varsO_two_yes HV.out
  rw [List.drop_zero] at h1
  have H1 := Hid.intro h1
  have H2 := Hid.intro h2
  obtain ⟨g4, cap4, rfl, hcap4, hg4, hlt4, hcell4⟩ := hn2
  have k0 : w1.cell? ⟨g4, 0, none⟩ = some (.int .i64 (nx : Nat)) := hcell4 0 (by simp)
  have k1 : w1.cell? ⟨g4, 1, none⟩ = some (.int .i64 (n : Nat)) := hcell4 1 (by simp)
  simp only [List.length_cons, List.length_nil, Nat.zero_add, Nat.reduceAdd] at hcap4 ⊢
  replace X0 := Hid.intro (X0.out.kept b)
  replace B0 := B0.trans (b.mono B0.size)
  clear HV hcell4 hl b h1 h2
  have hi6 : w.heap.size < w1.heap.size := X0.out.hi
  have q1 : (0 : Int) ≤ 1 ∧ (1 : Int) < (cap4 : Int) := by omega
  by_cases hm : 24 < n
  · have g1 : (24 : Int) < (n : Int) := by omega
    have HP : Hid (outV s.data.toList = none) := by
      unfold Hid outV volO
      simp only [H1.out, cntO, H2.out, Option.bind_some]
      rw [if_neg (by omega)]
      rfl
    have r0 : w1.cell? ⟨w.heap.size, 0, none⟩ = some (.int .i64 0) := X0.out.cell 0
    have r1 : w1.cell? ⟨w.heap.size, 1, none⟩ = some (.slice none 0 0) := X0.out.cell 1
    have f0 : w1.frozen? ⟨w.heap.size, 0, none⟩ = false := X0.out.fro 0
    have f1 : w1.frozen? ⟨w.heap.size, 1, none⟩ = false := X0.out.fro 1
    have o1 : Only (fun k => k = w.heap.size) w1 ((w1.setCell ⟨w.heap.size, 0, none⟩ (.int .i64 0)).setCell ⟨w.heap.size, 1, none⟩ (.slice none 0 0)) := (set_only w.heap.size 0 w1 (.int .i64 0)).setCell (p := ⟨w.heap.size, 1, none⟩) rfl (.slice none 0 0)
    clear X0
    go_wp2
    exact bodyPost_ret (v := .tuple #[volV 0 (.slice none 0 0), .bool false]) (by simp [results, Try.results14, go_sem, r0, r1]) rfl ⟨.inr ⟨rfl, HP⟩, B0.trans (o1.below B0.size (fun k hk h => by omega))⟩
  · have g1 : ¬ (24 : Int) < (n : Int) := by omega
    have HIO : Hid (volO s.data.toList = (inosO n (s.data.toList.drop a1)).bind fun y => some ((nx, y.1), y.2)) := by
      unfold Hid volO
      simp only [H1.out, cntO, H2.out, Option.bind_some]
      rw [if_pos (by omega), Option.bind_some]
    have HK1 := Hid.intro k1
    clear H1 H2
    go_upto_region 5 with fail
    obtain ⟨w5, hY, bY, zY, cY, fY⟩ := boxed w1 #[.int .i64 (nx : Nat), .slice none 0 0] 29
    simp only [hY]
    replace HK1 := Hid.intro (atCell bY HK1.out hlt4)
    have HI : Hid (VoS w5 w1.heap.size w5.heap.size nx w5 (.slice none 0 0) []) := ⟨⟨by omega, cY, fY⟩, ⟨Own.nil _ _, fun p hp => by cases hp⟩, (fun i j hij hj => by simp at hj), Only.refl _ _, by omega, rfl⟩
    replace X0 := Hid.intro (X0.out.kept bY)
    replace B0 := B0.trans (bY.mono B0.size)
    have hlt45 : g4 < w5.heap.size := by omega
    have hg43 : ¬ g4 = w1.heap.size := by omega
    have hg35 : w1.heap.size < w5.heap.size := by omega
    clear hY bY zY cY fY k0 k1
    generalize w1.heap.size = g3 at HI hi6 hg43 hg35 ⊢
    go_wp2
    go_loopw [5, 7] (fun x i wr => ∃ (a : Nat) (u : Value) (M : List Np), x = .int .i64 (a : Nat) ∧ i = .int .i64 (M.length : Nat) ∧ M.length ≤ n ∧ a ≤ s.size ∧ Hid (inosO n (s.data.toList.drop a1) = (inosO (n - M.length) (s.data.toList.drop a)).map fun y => (M.map Np.n ++ y.1, y.2)) ∧ Hid (VoS w5 g3 w5.heap.size nx wr u M)) (fun _ i _ => n - (intOf i).toNat)
    case atStart => exact ⟨a1, _, [], rfl, rfl, Nat.zero_le _, ha1, by unfold Hid; simp, HI⟩
    case round =>
      obtain ⟨a, u, M, rfl, rfl, hj, hal, HN, HI⟩ := hrel
      obtain ⟨va, vc, rfl⟩ := HI.out.own.own.slice
      have k10 := (HI.out.only.cell (o := 1) hlt45 hg43).trans HK1.out
      have hwg : w.heap.size ≤ w5.heap.size := B0.size
      by_cases hlt : M.length < n
      · have hjn : (M.length : Int) < (n : Int) := by omega
        have hMx : ∀ x ∈ M, ∀ k, x.v.ownBlock = some k → k < wr.heap.size := fun x hx k hk => ((HI.out.own.nms x hx).lt k hk).2
        have hwr : w5.heap.size ≤ wr.heap.size := HI.out.only.size
        go_wp2_with fail
        clear k10
        refine (l8Inode_any s a _ hs hal).mono ?_
        rintro e x1 ⟨⟨nd, vn, a4, rfl, G1, ha4, on⟩ | ⟨nd, va2, vl2, vc2, rfl, G1⟩, b⟩
        rotate_left 1
        · replace HI := Hid.intro (HI.out.kept b)
          clear b
          have HP : Hid (outV s.data.toList = none) := by
            unfold Hid outV
            rw [HIO.out, HN.out, inosO_no (by omega) G1.out]
            rfl
          have X0 : Hid (Blk x1 w.heap.size zV) := X0.out.only HI.out.only (by omega)
          have B0 : Below w.heap.size w x1 := B0.trans (HI.out.only.below hwg (fun k hk e => by omega))
          go_upto_region 9 with fail
          obtain ⟨x2, hY, bY, zY, cY, fY⟩ := boxed x1 (ndA nd (.slice va2 vl2 vc2)) 60
          try simp only [hY]
          replace X0 := Hid.intro (X0.out.kept bY)
          replace B0 := B0.trans (bY.mono B0.size)
          clear hY bY zY cY fY
          have r0 : x2.cell? ⟨w.heap.size, 0, none⟩ = some (.int .i64 0) := X0.out.cell 0
          have r1 : x2.cell? ⟨w.heap.size, 1, none⟩ = some (.slice none 0 0) := X0.out.cell 1
          have f0 : x2.frozen? ⟨w.heap.size, 0, none⟩ = false := X0.out.fro 0
          have f1 : x2.frozen? ⟨w.heap.size, 1, none⟩ = false := X0.out.fro 1
          have o1 : Only (fun k => k = w.heap.size) x2 ((x2.setCell ⟨w.heap.size, 0, none⟩ (.int .i64 0)).setCell ⟨w.heap.size, 1, none⟩ (.slice none 0 0)) := (set_only w.heap.size 0 x2 (.int .i64 0)).setCell (p := ⟨w.heap.size, 1, none⟩) rfl (.slice none 0 0)
          clear X0 HI
          go_wp2
          exact bodyPost_ret (v := .tuple #[volV 0 (.slice none 0 0), .bool false]) (by simp [results, Try.results14, go_sem, r0, r1]) rfl ⟨.inr ⟨rfl, HP⟩, B0.trans (o1.below B0.size (fun k hk h => by omega))⟩
        obtain ⟨na, nc, rfl⟩ := on.out.slice
        replace HI := Hid.intro (HI.out.kept b)
        have HN2 : Hid (inosO n (s.data.toList.drop a1) = (inosO (n - (M.length + 1)) (s.data.toList.drop a4)).map fun y => ((M.map Np.n ++ [nd]) ++ y.1, y.2)) := by
          unfold Hid
          rw [HN.out, inosO_yes (by omega) G1.out, Nat.sub_sub]
          cases inosO (n - (M.length + 1)) (s.data.toList.drop a4) <;> simp
        clear b HN
        go_upto_region 9 with fail
        obtain ⟨x2, hY, bY, zY, cY, fY⟩ := boxed x1 (ndA nd (.slice na nd.names.length nc)) 60
        try simp only [hY]
        replace HI := Hid.intro (HI.out.kept bY)
        replace on := Hid.intro (on.out.kept bY)
        clear hY bY zY fY
        have c0 : x2.cell? ⟨x1.heap.size, 0, none⟩ = some (.int .i64 nd.id) := cY 0
        have c1 : x2.cell? ⟨x1.heap.size, 1, none⟩ = some (.int .i64 nd.kind) := cY 1
        have c2 : x2.cell? ⟨x1.heap.size, 2, none⟩ = some (.int .i64 nd.mode) := cY 2
        have c3 : x2.cell? ⟨x1.heap.size, 3, none⟩ = some (.int .i64 nd.uid) := cY 3
        have c4 : x2.cell? ⟨x1.heap.size, 4, none⟩ = some (.int .i64 nd.gid) := cY 4
        have c5 : x2.cell? ⟨x1.heap.size, 5, none⟩ = some (.string nd.data) := cY 5
        have c6 : x2.cell? ⟨x1.heap.size, 6, none⟩ = some (.slice na nd.names.length nc) := cY 6
        have c7 : x2.cell? ⟨x1.heap.size, 7, none⟩ = some (.int .i64 nd.maxb) := cY 7
        have c8 : x2.cell? ⟨x1.heap.size, 8, none⟩ = some (.int .i64 nd.maxi) := cY 8
        have k6 : x2.cell? ⟨g3, 1, none⟩ = some (.slice va M.length vc) := HI.out.box.cell 1
        have hown : x2.ownsRow w5.heap.size 60 9 (.slice va M.length vc) M.length (ndE.f M) := HI.out.own.own
        have hwx : w5.heap.size ≤ x2.heap.size := HI.out.only.size
        have HM := Hid.intro (HI.out.kept (one_below x2 (.cells #[.int .i64 nd.id, .int .i64 nd.kind, .int .i64 nd.mode, .int .i64 nd.uid, .int .i64 nd.gid, .string nd.data, .slice na nd.names.length nc, .int .i64 nd.maxb, .int .i64 nd.maxi] 60)))
        have onM := Hid.intro (on.out.kept (one_below x2 (.cells #[.int .i64 nd.id, .int .i64 nd.kind, .int .i64 nd.mode, .int .i64 nd.uid, .int .i64 nd.gid, .string nd.data, .slice na nd.names.length nc, .int .i64 nd.maxb, .int .i64 nd.maxi] 60)))
        clear cY HI on
        go_upto_region 11 with fail
        go_wp2_with (at_builtin; refine wpList_append_own _ rfl _ _ 27 rfl w5.heap.size 60 i0 (.agg #[.int .i64 0, .int .i64 0, .int .i64 0, .int .i64 0, .int .i64 0, .string ⟨#[]⟩, .slice none 0 0, .int .i64 0, .int .i64 0]) 9 96 Try.underlying27 hi hz0 hz1 hz2 rfl (by decide) _ _ _ rfl (hown.alloc _) ⟨x2.heap.size, 0, none⟩ 1 1 (ndE.c ⟨nd, na, nc⟩) rfl rfl ?d1 ?d2 ?d3 ?d4 ?d5 ?_)
        case d1 =>
          intro j u hj
          rw [add_none, Nat.zero_add, World.cell?_alloc_at _ _ _ _ rfl]
          simpa [ndE] using hj
        case d2 => exact ndE.one _
        case d3 => unfold maxLen; omega
        case d4 => omega
        case d5 => simp; omega
        intro v' w9 hown' hgrow _
        have HOw : Own ndE 60 w9 w5.heap.size v' (M ++ [⟨nd, na, nc⟩]) := Own.mk hown' (by simp) (by rw [ndE.f_append, ndE.f_one1])
        have ho := grown_only hgrow
        obtain ⟨g, cap2, rfl⟩ : ∃ g cap, v' = .slice (some ⟨g, 0, none⟩) (M.length + 1) cap := by
          rcases HOw.look with ⟨_, h⟩ | ⟨g, cap, h, _⟩
          · simp at h
          · exact ⟨g, cap, by simpa using h⟩
        have hne3 : ¬ some g3 = (Value.slice va M.length vc).ownBlock := fun e => by have := (HM.out.own.own.lt g3 e.symm).1; omega
        have k7 := (ho.cell (o := 1) HM.out.box.hi hne3).trans (HM.out.box.cell 1)
        have f7 := (ho.frozen (o := 1) HM.out.box.hi hne3).trans (HM.out.box.fro 1)
        have HE := Hid.intro (HM.out.put ho HOw onM.out hwr hMx)
        have k7 : w9.cell? ⟨g3, 1, none⟩ = some (.slice va M.length vc) := k7
        clear HM hown hown' hgrow HOw ho hne3 onM hMx k6 c0 c1 c2 c3 c4 c5 c6 c7 c8
        go_wp2
        go_roundw
        case rel => exact ⟨a4, _, M ++ [⟨nd, na, nc⟩], rfl, by rw [List.length_append]; go_num, by rw [List.length_append, List.length_singleton]; omega, ha4, by unfold Hid; rw [List.length_append, List.length_singleton, List.map_append]; exact HN2.out, HE⟩
        case measure => simp [intOf]; omega
      · have hjn : ¬ (M.length : Int) < (n : Int) := by omega
        have e0 : n - M.length = 0 := by omega
        have HP : Hid (volO s.data.toList = some ((nx, M.map Np.n), s.data.toList.drop a)) := by
          unfold Hid
          rw [HIO.out, HN.out, e0]
          simp [inosO]
        have hwf : ∀ p ∈ M, NdSz p.n := fun p hp => (vol_wf HP.out (by simpa using hs) p.n (List.mem_map_of_mem hp)).1
        have hii := shV_is HP.out
        have hoc := outV_of HP.out
        have X0 : Hid (Blk wr w.heap.size zV) := X0.out.only HI.out.only (by omega)
        have B0 : Below w.heap.size w wr := B0.trans (HI.out.only.below hwg (fun k hk e => by omega))
        have k0 : wr.cell? ⟨g3, 0, none⟩ = some (.int .i64 (nx : Nat)) := HI.out.box.cell 0
        have k1 : wr.cell? ⟨g3, 1, none⟩ = some (.slice va M.length vc) := HI.out.box.cell 1
        clear HIO HN HP
        go_wp2_with fail
        clear k0 k1 k10
        refine (specShowVol_any (nx : Nat) M (.slice va M.length vc) wr.heap.size wr (Nat.le_refl _) HI.out.own.rowAll hwf).mono ?_
        rintro e w9 ⟨rfl, b⟩
        replace HI := Hid.intro (HI.out.kept b)
        replace X0 := Hid.intro (X0.out.kept b)
        replace B0 := B0.trans (b.mono B0.size)
        clear b
        by_cases hE : shV (nx : Nat) (M.map Np.n) = s
        · have hb : ((shV (nx : Nat) (M.map Np.n)).toList == s.toList) = true := by rw [hE]; exact beq_self_eq_true _
          rw [if_pos (hii.1 hE)] at hoc
          have HOC := Hid.intro hoc
          have k0 : w9.cell? ⟨g3, 0, none⟩ = some (.int .i64 (nx : Nat)) := HI.out.box.cell 0
          have k1 : w9.cell? ⟨g3, 1, none⟩ = some (.slice va M.length vc) := HI.out.box.cell 1
          have r0 : w9.cell? ⟨w.heap.size, 0, none⟩ = some (.int .i64 0) := X0.out.cell 0
          have r1 : w9.cell? ⟨w.heap.size, 1, none⟩ = some (.slice none 0 0) := X0.out.cell 1
          have f0 : w9.frozen? ⟨w.heap.size, 0, none⟩ = false := X0.out.fro 0
          have f1 : w9.frozen? ⟨w.heap.size, 1, none⟩ = false := X0.out.fro 1
          have hne3 : ¬ w.heap.size = g3 := by omega
          have o1 : Only (fun k => k = w.heap.size) w9 ((w9.setCell ⟨w.heap.size, 0, none⟩ (.int .i64 (nx : Nat))).setCell ⟨w.heap.size, 1, none⟩ (.slice va M.length vc)) := (set_only w.heap.size 0 w9 (.int .i64 (nx : Nat))).setCell (p := ⟨w.heap.size, 1, none⟩) rfl (.slice va M.length vc)
          have HV : Hid (VolO ((w9.setCell ⟨w.heap.size, 0, none⟩ (.int .i64 (nx : Nat))).setCell ⟨w.heap.size, 1, none⟩ (.slice va M.length vc)) w.heap.size (.slice va M.length vc) M ∧ Inc M) := ⟨(HI.out.own.only o1 (fun k hk e => by omega)).lower hwg, HI.out.inc⟩
          clear X0 HI hoc hii hE hwf
          go_wp2
          exact bodyPost_ret (v := .tuple #[volV (nx : Nat) (.slice va M.length vc), .bool true]) (by simp [results, Try.results14, go_sem, r0, r1]) rfl ⟨.inl ⟨nx, _, M, rfl, HOC, HV⟩, B0.trans (o1.below B0.size (fun k hk h => by omega))⟩
        · have hb : ((shV (nx : Nat) (M.map Np.n)).toList == s.toList) = false := bstr_ne2 hE
          rw [if_neg (fun h => hE (hii.2 h))] at hoc
          have HP := Hid.intro hoc
          clear hoc hii hE hwf
          have r0 : w9.cell? ⟨w.heap.size, 0, none⟩ = some (.int .i64 0) := X0.out.cell 0
          have r1 : w9.cell? ⟨w.heap.size, 1, none⟩ = some (.slice none 0 0) := X0.out.cell 1
          have f0 : w9.frozen? ⟨w.heap.size, 0, none⟩ = false := X0.out.fro 0
          have f1 : w9.frozen? ⟨w.heap.size, 1, none⟩ = false := X0.out.fro 1
          have o1 : Only (fun k => k = w.heap.size) w9 ((w9.setCell ⟨w.heap.size, 0, none⟩ (.int .i64 0)).setCell ⟨w.heap.size, 1, none⟩ (.slice none 0 0)) := (set_only w.heap.size 0 w9 (.int .i64 0)).setCell (p := ⟨w.heap.size, 1, none⟩) rfl (.slice none 0 0)
          clear X0 HI
          go_wp2
          exact bodyPost_ret (v := .tuple #[volV 0 (.slice none 0 0), .bool false]) (by simp [results, Try.results14, go_sem, r0, r1]) rfl ⟨.inr ⟨rfl, HP⟩, B0.trans (o1.below B0.size (fun k hk h => by omega))⟩
end Go.Proofs.Ytdfcbbgboeonmaa
namespace Go.Proofs.Ytdfcbbgboeonmaa
open Go.RowKit
set_option linter.unusedVariables false
set_option maxRecDepth 100000 in
set_option maxHeartbeats 1000000 in
theorem implReadVol_any (s : ByteArray) (w : World) (hs : s.size ≤ 1048576) :
    Calls Try.prog 15 #[.string s] w (RdV s.data.toList w) := by
  go_enter Try.func15, Try.ntmps15
  go_wp2_with fail
  obtain ⟨W, hW, bW, zW, cW, fW⟩ := boxed w #[.int .i64 0, .slice none 0 0] 29
  simp only [hW]
  refine (wholeV_any s _ hs).mono ?_
  rintro e w1 ⟨h, b1⟩
  have X : Blk w1 w.heap.size zV := ⟨by have := b1.size; omega, keepC b1 (by omega) cW, keepF b1 (by omega) fW⟩
  have B1 := bW.trans (b1.mono (by omega))
  clear hW cW fW b1
  have k0 : w1.cell? ⟨w.heap.size, 0, none⟩ = some (.int .i64 0) := X.cell 0
  have f0 : w1.frozen? ⟨w.heap.size, 0, none⟩ = false := X.fro 0
  have k1 : w1.cell? ⟨w.heap.size, 1, none⟩ = some (.slice none 0 0) := X.cell 1
  have f1 : w1.frozen? ⟨w.heap.size, 1, none⟩ = false := X.fro 1
  rcases h with ⟨nx, u, M, rfl, ho, hv⟩ | ⟨rfl, ho⟩
  · obtain ⟨ua, uc, rfl⟩ := hv.out.1.own.slice
    have HOn : Only (fun k => k = w.heap.size) w1 ((w1.setCell ⟨w.heap.size, 0, none⟩ (.int .i64 (nx : Nat))).setCell ⟨w.heap.size, 1, none⟩ (.slice ua M.length uc)) :=
      (set_only w.heap.size 0 w1 (.int .i64 (nx : Nat))).setCell (p := ⟨w.heap.size, 1, none⟩) rfl (.slice ua M.length uc)
    have HV : Hid (VolO ((w1.setCell ⟨w.heap.size, 0, none⟩ (.int .i64 (nx : Nat))).setCell ⟨w.heap.size, 1, none⟩ (.slice ua M.length uc)) w.heap.size (.slice ua M.length uc) M ∧ Inc M) :=
      ⟨(hv.out.1.only HOn (fun k hk h => by omega)).lower (by omega), hv.out.2⟩
    have B2 := B1.trans (HOn.below B1.size (fun k hk h => by omega))
    clear hv HOn
    go_wp2
    exact bodyPost_ret (v := .tuple #[volV (nx : Nat) (.slice ua M.length uc), .bool true]) (by simp [results, Try.results15, go_sem, k0, k1]) rfl ⟨.inl ⟨nx, _, M, rfl, ho, HV⟩, B2⟩
  · have HOn : Only (fun k => k = w.heap.size) w1 ((w1.setCell ⟨w.heap.size, 0, none⟩ (.int .i64 0)).setCell ⟨w.heap.size, 1, none⟩ (.slice none 0 0)) :=
      (set_only w.heap.size 0 w1 (.int .i64 0)).setCell (p := ⟨w.heap.size, 1, none⟩) rfl (.slice none 0 0)
    have B2 := B1.trans (HOn.below B1.size (fun k hk h => by omega))
    clear HOn
    go_wp2
    exact bodyPost_ret (v := .tuple #[volV 0 (.slice none 0 0), .bool false]) (by simp [results, Try.results15, go_sem, k0, k1]) rfl ⟨.inr ⟨rfl, ho⟩, B2⟩
end Go.Proofs.Ytdfcbbgboeonmaa
namespace Go.Proofs.Ytdfcbbgboeonmaa
open Go.ChangeShapes Go.WideShapes Go.ChangeAt Go.RowKit Go.Joins Go.Deep
set_option linter.unusedVariables false
theorem open_row {H : Type} {enc : TypeId × Value → H} {W : World} {sp : Nat → Bool} {held : Bool} {α : Type} (E : Enc α) (P : α → Prop) {TS Te : TypeId} (hu : Try.prog.underlying TS = some (.slice Te)) (hcl : Try.prog.cellsOf Te = E.n)
    (hel : ∀ fuel cs x, DataW.trod enc Try.prog W 0 sp held fuel Te cs = some x → ∃ a, cs = E.c a ∧ P a) {fuel : Nat} {c : Value} {x : DataW H × List MemPlace} (h : DataW.trod enc Try.prog W 0 sp held fuel TS [c] = some x) :
    ∃ L : List α, Row E W W.heap.size c L ∧ ∀ a ∈ L, P a := by
  rcases open_slice hu h with ⟨hc, _⟩ | ⟨a, len, cap, m, n, D, Pl, hc, _, hl, hm, hmm, _, hx⟩
  · simp only [List.cons.injEq, and_true] at hc
    subst hc
    exact ⟨[], Row.nil, by simp⟩
  · simp only [List.cons.injEq, and_true] at hc
    subst hc
    have hlm : len ≤ m := by rw [hmm]; split <;> omega
    have each : ∀ i, i < len → ∃ e : α, (∀ k, k < E.n → W.cell? (a.add (i * E.n + k)) = (E.c e)[k]?) ∧ P e := by
      intro i hi
      obtain ⟨cs, h1, h2⟩ := hx i (by omega)
      rw [hcl] at h1
      obtain ⟨e, rfl, hp⟩ := hel _ _ _ h2
      obtain ⟨_, hlen, hcell⟩ := World.cells?_some h1
      refine ⟨e, fun k hk => ?_, hp⟩
      have := hcell k hk
      rwa [Go.Deep.add_add] at this
    haveI : Inhabited α := ⟨E.z⟩
    obtain ⟨q, hq⟩ := choose_lt each
    have hll : ((List.range len).map q).length = len := by simp
    refine ⟨(List.range len).map q, ⟨some a, cap, by rw [hll], by rw [hll]; exact hl, hm, fun hL => ?_⟩, ?_⟩
    · have hpos : 0 < len := by
        rcases Nat.eq_zero_or_pos len with h0 | h0
        · subst h0; simp at hL
        · exact h0
      obtain ⟨b, off, spot⟩ := a
      have h00 := (hq 0 hpos).1 0 E.pos
      have hsome : ∃ u, (E.c (q 0))[0]? = some u := ⟨_, List.getElem?_eq_getElem (by rw [E.len]; exact E.pos)⟩
      obtain ⟨u0, hu0⟩ := hsome
      rw [hu0] at h00
      have hspot : spot = none := by simpa [Addr.add] using World.cell?_spot h00
      subst hspot
      refine ⟨b, off, rfl, by simpa [Addr.add] using World.block_lt_of_cell? W _ h00, fun j hj k hk => ?_⟩
      rw [hll] at hj
      have hjq := (hq j hj).1 k hk
      rw [add_none, ← Nat.add_assoc] at hjq
      simp only [List.getElem_map, List.getElem_range]
      exact hjq
    · intro e he
      simp only [List.mem_map, List.mem_range] at he
      obtain ⟨j, hj, rfl⟩ := he
      exact (hq j hj).2
theorem list1 {α : Type} {cs : List α} (h : cs.length = 1) : ∃ c0, cs = [c0] := by
  match cs, h with
  | [c0], _ => exact ⟨c0, rfl⟩
theorem list2 {α : Type} {cs : List α} (h : cs.length = 2) : ∃ c0 c1, cs = [c0, c1] := by
  match cs, h with
  | [c0, c1], _ => exact ⟨c0, c1, rfl⟩
theorem list3 {α : Type} {cs : List α} (h : cs.length = 3) : ∃ c0 c1 c2, cs = [c0, c1, c2] := by
  match cs, h with
  | [c0, c1, c2], _ => exact ⟨c0, c1, c2, rfl⟩
theorem list9 {α : Type} {cs : List α} (h : cs.length = 9) : ∃ c0 c1 c2 c3 c4 c5 c6 c7 c8, cs = [c0, c1, c2, c3, c4, c5, c6, c7, c8] := by
  match cs, h with
  | [c0, c1, c2, c3, c4, c5, c6, c7, c8], _ => exact ⟨c0, c1, c2, c3, c4, c5, c6, c7, c8, rfl⟩
end Go.Proofs.Ytdfcbbgboeonmaa
namespace Go.Proofs.Ytdfcbbgboeonmaa
open Go.ChangeShapes Go.WideShapes Go.ChangeAt Go.RowKit Go.Joins Go.Deep
set_option linter.unusedVariables false
theorem cells_i : Try.prog.cellsOf 3 = 1 := by kernel_rfl
theorem cells_s : Try.prog.cellsOf 9 = 1 := by kernel_rfl
theorem cells_Dirent : Try.prog.cellsOf 129 = 2 := by kernel_rfl
theorem cells_DirentS : Try.prog.cellsOf 96 = 1 := by kernel_rfl
theorem cells_Inode : Try.prog.cellsOf 98 = 9 := by kernel_rfl
theorem cells_InodeS : Try.prog.cellsOf 22 = 1 := by kernel_rfl
theorem cells_Vol : Try.prog.cellsOf 24 = 2 := by kernel_rfl
section
variable {H : Type} {enc : TypeId × Value → H} {W : World} {sp : Nat → Bool} {held : Bool}
theorem dirent_cells {fuel : Nat} {cs : List Value} {x : DataW H × List MemPlace} (h : DataW.trod enc Try.prog W 0 sp held fuel 129 cs = some x) : ∃ a : Di, cs = diE.c a ∧ (a.nm.size ≤ 9223372036854775807 ∧ (Lit.int .i64 a.id).wf = true) := by
  obtain ⟨xs, n, _, rfl, hl, hlen, hf⟩ := DataW.trod_struct Try.underlying129 h
  rw [cells_Dirent] at hl
  obtain ⟨c0, c1, rfl⟩ := list2 hl
  have hlen' : xs.length = 2 := by simpa using hlen
  obtain ⟨y0, y1, rfl⟩ := list2 hlen'
  have h0 := hf 0 _ rfl
  have h1 := hf 1 _ rfl
  simp [cells_i, cells_s] at h0 h1
  obtain ⟨d, e0, _, hd⟩ := DataW.trod_string Try.underlying9 h0
  obtain ⟨t, e1, _, hwf⟩ := DataW.trod_int Try.underlying3 h1
  simp only [List.cons.injEq, and_true] at e0 e1
  subst e0 e1
  exact ⟨⟨d, t⟩, rfl, hd, hwf⟩
theorem open_DirentS {fuel : Nat} {c : Value} {x : DataW H × List MemPlace} (h : DataW.trod enc Try.prog W 0 sp held fuel 96 [c] = some x) : ∃ L : List Di, Row diE W W.heap.size c L ∧ ∀ a ∈ L, (a.nm.size ≤ 9223372036854775807 ∧ (Lit.int .i64 a.id).wf = true) :=
  open_row diE _ Try.underlying96 cells_Dirent (fun _ _ _ h => dirent_cells h) h
theorem inode_cells {fuel : Nat} {cs : List Value} {x : DataW H × List MemPlace} (h : DataW.trod enc Try.prog W 0 sp held fuel 98 cs = some x) :
    ∃ p : Np, cs = ndE.c p ∧ (NdW p.n ∧ Row diE W W.heap.size p.v p.n.names) := by
  obtain ⟨xs, n, _, rfl, hl, hlen, hf⟩ := DataW.trod_struct Try.underlying98 h
  rw [cells_Inode] at hl
  obtain ⟨c0, c1, c2, c3, c4, c5, c6, c7, c8, rfl⟩ := list9 hl
  have hlen' : xs.length = 9 := by simpa using hlen
  obtain ⟨y0, y1, y2, y3, y4, y5, y6, y7, y8, rfl⟩ := list9 hlen'
  have h0 := hf 0 _ rfl
  have h1 := hf 1 _ rfl
  have h2 := hf 2 _ rfl
  have h3 := hf 3 _ rfl
  have h4 := hf 4 _ rfl
  have h5 := hf 5 _ rfl
  have h6 := hf 6 _ rfl
  have h7 := hf 7 _ rfl
  have h8 := hf 8 _ rfl
  simp [cells_i, cells_s, cells_DirentS] at h0 h1 h2 h3 h4 h5 h6 h7 h8
  obtain ⟨x0, e0, _⟩ := DataW.trod_int Try.underlying3 h0
  obtain ⟨x1, e1, _⟩ := DataW.trod_int Try.underlying3 h1
  obtain ⟨x2, e2, _⟩ := DataW.trod_int Try.underlying3 h2
  obtain ⟨x3, e3, _⟩ := DataW.trod_int Try.underlying3 h3
  obtain ⟨x4, e4, _⟩ := DataW.trod_int Try.underlying3 h4
  obtain ⟨x5, e5, _, hd⟩ := DataW.trod_string Try.underlying9 h5
  obtain ⟨x7, e7, _⟩ := DataW.trod_int Try.underlying3 h7
  obtain ⟨x8, e8, _⟩ := DataW.trod_int Try.underlying3 h8
  simp only [List.cons.injEq, and_true] at e0 e1 e2 e3 e4 e5 e7 e8
  subst e0 e1 e2 e3 e4 e5 e7 e8
  obtain ⟨L, hL, hz⟩ := open_DirentS h6
  obtain ⟨a, cap, rfl, _⟩ := hL.slice
  exact ⟨⟨⟨x0, x1, x2, x3, x4, x5, L, x7, x8⟩, a, cap⟩, rfl, ⟨⟨hd, fun e he => (hz e he).1⟩, fun e he => (hz e he).2⟩, hL⟩
theorem open_InodeS {fuel : Nat} {c : Value} {x : DataW H × List MemPlace} (h : DataW.trod enc Try.prog W 0 sp held fuel 22 [c] = some x) : ∃ L : List Np, VolR W W.heap.size c L ∧ ∀ p ∈ L, NdW p.n := by
  obtain ⟨L, hL, hp⟩ := open_row ndE _ Try.underlying22 cells_Inode (fun _ _ _ h => inode_cells h) h
  exact ⟨L, ⟨hL, fun p h => (hp p h).2⟩, fun p h => (hp p h).1⟩
theorem vol_cells {fuel : Nat} {cs : List Value} {x : DataW H × List MemPlace} (h : DataW.trod enc Try.prog W 0 sp held fuel 24 cs = some x) :
    ∃ (next : Int) (u : Value) (L : List Np), cs = [.int .i64 next, u] ∧ VolR W W.heap.size u L ∧ ∀ p ∈ L, NdW p.n := by
  obtain ⟨xs, n, _, rfl, hl, hlen, hf⟩ := DataW.trod_struct Try.underlying24 h
  rw [cells_Vol] at hl
  obtain ⟨c0, c1, rfl⟩ := list2 hl
  have hlen' : xs.length = 2 := by simpa using hlen
  obtain ⟨y0, y1, rfl⟩ := list2 hlen'
  have h0 := hf 0 _ rfl
  have h1 := hf 1 _ rfl
  simp [cells_i, cells_InodeS] at h0 h1
  obtain ⟨t, e0, _⟩ := DataW.trod_int Try.underlying3 h0
  simp only [List.cons.injEq, and_true] at e0
  subst e0
  obtain ⟨L, hL, hz⟩ := open_InodeS h1
  exact ⟨t, c1, L, rfl, hL, hz⟩
set_option maxRecDepth 100000 in
theorem open_Vol {r0 : Go.Reach} {b0 : Nat} {v : Value} {d : DataW H} {p : List MemPlace} (hval : Value.okWide Try.prog W r0 b0 24 v) (h : DataW.Trod enc Try.prog W 0 sp held 24 v d p) :
    ∃ (next : Int) (u : Value) (L : List Np), v = volV next u ∧ VolR W W.heap.size u L ∧ ∀ p ∈ L, NdW p.n := by
  obtain ⟨cs, rfl, hsz⟩ := okWide_struct Try.underlying24 hval
  obtain ⟨fuel, hf⟩ := h
  obtain ⟨next, u, L, hr, h1⟩ := vol_cells hf
  refine ⟨next, u, L, ?_, h1⟩
  have e : cs.toList = [.int .i64 next, u] := by simpa [Value.cells] using hr
  rw [volV, ← Array.toArray_toList (xs := cs), e]
end
end Go.Proofs.Ytdfcbbgboeonmaa
namespace Go.Proofs.Ytdfcbbgboeonmaa
open Go.ChangeShapes Go.WideShapes Go.ChangeAt Go.RowKit
set_option linter.unusedVariables false
set_option maxHeartbeats 2000000 in
theorem markVol_any (nx : Int) (M : List Np) (u : Value) (base top : Nat) (q : Int) (w : World) (hb : base ≤ w.heap.size) (ho : VolO w base u M) (hi : Inc M) (htv : ∀ k, u.ownBlock = some k → k < top) (htn : ∀ p ∈ M, ∀ k, p.v.ownBlock = some k → k < top) (hl : M.length ≤ 24) (hn : ∀ p ∈ M, p.n.names.length ≤ 12) (h1 : 1 ≤ q) (h2 : q ≤ 1000) :
    Calls Try.prog 16 #[volV nx u, .int .i64 q] w fun e w' => e = .returned (.int .i64 (kqI q M M.length)) ∧ VolR w' w'.heap.size u (markNL q M M.length) ∧ Only (fun k => base ≤ k ∧ k < top) w w' := by
  have HO := Hid.intro ho
  have HTV := Hid.intro htv
  have HTN := Hid.intro htn
  have HN := Hid.intro hn
  have HI := Hid.intro hi
  clear ho htv htn hn hi
  go_enter Try.func16, Try.ntmps16
  go_wp2_with fail
  obtain ⟨W, hW, bW, zW, cW, fW⟩ := boxed w #[.int .i64 nx, u] 29
  try simp only [hW]
  refine (markN_any M u base top q W (by omega) (HO.out.kept bW) HI.out HTV.out HTN.out hl HN.out h1 h2).mono ?_
  rintro e w1 ⟨rfl, r1, o1⟩
  have HR := Hid.intro r1
  have HB := Hid.intro ((Below.any bW : Only (fun k => base ≤ k ∧ k < top) w W).trans o1)
  generalize hzz : kqI q M M.length = z
  have HZ := Hid.intro hzz
  clear hzz
  clear hW bW cW fW r1 o1
  go_wp2
  go_ret
  exact ⟨ret_int HZ.out.symm, HR.out, HB.out⟩
set_option maxHeartbeats 2000000 in
theorem heldVol_any (nx : Int) (P M : List Np) (u : Value) (N : Nat) (q : Int) (w : World) (hN : N ≤ w.heap.size) (hr : VolR w N u P) (hP : ∀ i (h : i < P.length), P[i] = mkAt q M i) (hl : P.length ≤ 24) (hn : ∀ p ∈ M, p.n.names.length ≤ 12) (h1 : 1 ≤ q) (h2 : q ≤ 1000) :
    Calls Try.prog 17 #[volV nx u, .int .i64 q] w fun e w' => e = .returned (.int .i64 (kqI q M P.length)) ∧ Below w.heap.size w w' := by
  have HR := Hid.intro hr
  have HP := Hid.intro hP
  have HN := Hid.intro hn
  have hk := kqI_bd (q := q) hn P.length
  clear hr hP hn
  go_enter Try.func17, Try.ntmps17
  go_wp2_with fail
  obtain ⟨W, hW, bW, zW, cW, fW⟩ := boxed w #[.int .i64 nx, u] 29
  try simp only [hW]
  refine (heldN_any P M u N q W (by omega) (HR.out.kept (bW.mono hN)) HP.out hl HN.out h1 h2).mono ?_
  rintro e w1 ⟨rfl, b1⟩
  have HB := Hid.intro (bW.trans (b1.mono (by omega)))
  generalize hzz : kqI q M P.length = z at hk ⊢
  have HZ := Hid.intro hzz
  clear hzz
  have hz : ¬ z < 0 := by omega
  clear hW bW cW fW b1
  go_wp2
  go_ret
  exact ⟨ret_int HZ.out.symm, HB.out⟩
theorem nodeB_names {L : List Nd} {n : Nd} (h : nodeB L n = true) : n.names.length ≤ 12 := by
  unfold nodeB at h
  simp only [Bool.and_eq_true] at h
  obtain ⟨_, h⟩ := h
  split at h
  · simp only [Bool.and_eq_true, plainB, decide_eq_true_eq] at h
    omega
  · split at h
    · simp only [Bool.and_eq_true, plainB, decide_eq_true_eq] at h
      omega
    · split at h
      · simp only [Bool.and_eq_true, decide_eq_true_eq] at h
        omega
      · cases h
theorem volB_bd {next : Int} {L : List Nd} (h : volB next L = true) : L.length ≤ 24 ∧ ∀ n ∈ L, n.names.length ≤ 12 := by
  unfold volB at h
  simp only [Bool.and_eq_true] at h
  obtain ⟨⟨⟨⟨⟨⟨_, h2⟩, _⟩, h4⟩, _⟩, _⟩, _⟩ := h
  refine ⟨?_, fun n hn => nodeB_names (indB_mem L h4 n hn)⟩
  have : (1 : Int) ≤ (L.length : Int) ∧ (L.length : Int) ≤ 24 := by simpa [inB] using h2
  omega
/-- What ReadVol hands back, in one form. -/
def keyV (o : Option (Nat × List Nd)) : Nat × List Nd × Bool := match o with | none => (0, [], false) | some x => (x.1, x.2, true)
structure RdO (l : List UInt8) (B : Nat) (w' : World) (nx : Nat) (u : Value) (M : List Np) (b : Bool) : Prop where
  key : (nx, M.map Np.n, b) = keyV (outV l)
  own : VolO w' B u M
  inc : Inc M
  len : M.length ≤ 24
  nms : ∀ p ∈ M, p.n.names.length ≤ 12
theorem rdO_of {l : List UInt8} {w w' : World} {e : Ending} (h : RdV l w e w') : (∃ nx u M b, e = .returned (.tuple #[volV (nx : Nat) u, .bool b]) ∧ RdO l w.heap.size w' nx u M b) ∧ Below w.heap.size w w' := by
  obtain ⟨h, hb⟩ := h
  refine ⟨?_, hb⟩
  rcases h with ⟨nx, u, M, rfl, ho, hv⟩ | ⟨rfl, ho⟩
  · have hs := ho.out
    have hB : volB nx (M.map Np.n) = true := by
      unfold outV at hs
      obtain ⟨y, h1, h2⟩ := Option.bind_eq_some_iff.1 hs
      split at h2
      · rename_i hc
        have h3 := Option.some.inj h2
        rw [h3] at hc
        exact hc.2
      · cases h2
    have hbd := volB_bd hB
    refine ⟨nx, u, M, true, rfl, ⟨by rw [hs]; rfl, hv.out.1, hv.out.2, by simpa using hbd.1, fun p hp => hbd.2 p.n (List.mem_map.2 ⟨p, hp, rfl⟩)⟩⟩
  · exact ⟨0, .slice none 0 0, [], false, rfl, ⟨by rw [ho.out]; rfl, ⟨Own.nil _ _, fun p hp => by cases hp⟩, fun i j _ hj => by simp at hj, by simp, fun p hp => by cases hp⟩⟩
theorem VolR.only {w w' : World} {N : Nat} {u : Value} {L : List Np} {S : Nat → Prop} (h : VolR w N u L) (ho : Only S w w') (hN : N ≤ w.heap.size) (hs : ∀ k, k < N → ¬ S k) : VolR w' N u L := h.kept (ho.below hN hs)
theorem VolR.on {w w' : World} {u : Value} {L : List Np} (h : VolR w w.heap.size u L) (hb : Below w.heap.size w w') : VolR w' w'.heap.size u L := (h.kept hb).up hb.size
set_option maxRecDepth 100000 in
set_option maxHeartbeats 8000000 in
theorem readVol_law (s : ByteArray) (w : World) (hs : s.size ≤ maxLen) :
    Calls Try.prog 4 #[.string s] w fun e w' => e = .returned (.bool true) ∧ Below w.heap.size w w' := by
  unfold maxLen at hs
  by_cases hb : (1048576 : Int) < (s.size : Int)
  · go_enter Try.func4, Try.ntmps4
    go_wp2
    go_ret
    exact ⟨rfl, Below.refl _ _⟩
  · go_enter Try.func4, Try.ntmps4
    go_wp2_with fail
    refine (specReadVol_any s _ (by omega)).mono ?_
    intro e w1 hrd
    obtain ⟨⟨nx, u1, M1, bl, rfl, R1⟩, b1⟩ := rdO_of hrd
    clear hrd
    obtain ⟨a1, cap1, hu1⟩ := R1.own.own.slice
    have HR1 := Hid.intro R1
    clear R1
    subst hu1
    go_wp2_with fail
    obtain ⟨W2, hW2, bW2, zW2, cW2, fW2⟩ := boxed w1 #[.int .i64 (nx : Nat), .slice a1 M1.length cap1] 29
    simp only [hW2]
    have HV1 : Hid (VolR W2 W2.heap.size (.slice a1 M1.length cap1) M1) := HR1.out.own.rowAll.on bW2
    have HB2 : Hid (Below w.heap.size w W2) := b1.trans (bW2.mono b1.size)
    have z1 := b1.size
    clear hW2 bW2 fW2 b1
    refine (implReadVol_any s _ (by omega)).mono ?_
    intro e w3 hrd
    obtain ⟨⟨nx2, u2, M2, bl2, rfl, R2⟩, b3⟩ := rdO_of hrd
    clear hrd
    obtain ⟨a2, cap2, hu2⟩ := R2.own.own.slice
    have hkey := R2.key.trans HR1.out.key.symm
    simp only [Prod.mk.injEq] at hkey
    obtain ⟨rfl, hmap, rfl⟩ := hkey
    have HMAP := Hid.intro hmap
    have HR2 := Hid.intro R2
    clear R2 hmap
    subst hu2
    have c3 := keepC b3 (show w1.heap.size < W2.heap.size by omega) cW2
    have HV3 : Hid (VolR w3 w3.heap.size (.slice a1 M1.length cap1) M1) := HV1.out.on b3
    have HV1B : Hid (VolR w3 W2.heap.size (.slice a1 M1.length cap1) M1) := HV1.out.kept b3
    have HB3 : Hid (Below w.heap.size w w3) := HB2.out.trans (b3.mono HB2.out.size)
    have z3 := b3.size
    clear b3 cW2 HV1 HB2
    have h12 : w1.heap.size < w3.heap.size := by omega
    have hw3 : w.heap.size ≤ w3.heap.size := HB3.out.size
    go_upto_region 5 with fail
    obtain ⟨W4, hW4, bW4, zW4, cW4, fW4⟩ := boxed w3 #[.int .i64 (nx2 : Nat), .slice a2 M2.length cap2] 29
    simp only [hW4]
    have X1 := keepC bW4 h12 c3
    have HV1 : Hid (VolR W4 W4.heap.size (.slice a1 M1.length cap1) M1) := HV3.out.on bW4
    have HV2 : Hid (VolR W4 W4.heap.size (.slice a2 M2.length cap2) M2) := HR2.out.own.rowAll.on bW4
    have HO2 : Hid (VolO W4 W2.heap.size (.slice a2 M2.length cap2) M2) := HR2.out.own.kept bW4
    have HVB : Hid (VolR W4 W2.heap.size (.slice a1 M1.length cap1) M1) := HV1B.out.kept (bW4.mono (by omega))
    have HB4 : Hid (Below w.heap.size w W4) := HB3.out.trans (bW4.mono hw3)
    have X2 := cW4
    clear hW4 bW4 cW4 fW4 c3 HV3 HV1B HB3
    have hbb : (bl2 != bl2) = false := by simp
    go_wp2_with fail
    refine (eqVol_any (nx2 : Nat) M2 M1 _ _ W4.heap.size W4 (Nat.le_refl _) HV2.out HV1.out HMAP.out).mono ?_
    rintro e w5 ⟨rfl, b5⟩
    replace X1 := keepC b5 (by omega) X1
    replace X2 := keepC b5 (by omega) X2
    replace HO2 := Hid.intro (HO2.out.kept b5)
    replace HVB := Hid.intro (HVB.out.kept (b5.mono (by omega)))
    replace HB4 := Hid.intro (HB4.out.trans (b5.mono HB4.out.size))
    have z5 := b5.size
    clear b5 HV1 HV2
    go_wp2_with fail
    refine (markVol_any (nx2 : Nat) M2 _ W2.heap.size w3.heap.size 1 w5 (by omega) HO2.out HR2.out.inc (fun k hk => (HR2.out.own.own.lt k hk).2) (fun p hp k hk => ((HR2.out.own.nms p hp).lt k hk).2) HR2.out.len HR2.out.nms (by omega) (by omega)).mono ?_
    rintro e w6 ⟨rfl, r6, o6⟩
    replace X1 : ∀ o, w6.cell? ⟨w1.heap.size, o, none⟩ = (#[.int .i64 (nx2 : Nat), .slice a1 M1.length cap1] : Array Value)[o]? := fun o => (o6.cell (by omega) (by omega)).trans (X1 o)
    replace X2 : ∀ o, w6.cell? ⟨w3.heap.size, o, none⟩ = (#[.int .i64 (nx2 : Nat), .slice a2 M2.length cap2] : Array Value)[o]? := fun o => (o6.cell (by omega) (by omega)).trans (X2 o)
    replace HVB := Hid.intro (HVB.out.only o6 (by omega) (fun k hk h => by omega))
    replace HB4 := Hid.intro (HB4.out.trans (o6.below HB4.out.size (fun k hk h => by omega)))
    have HR6 := Hid.intro r6
    have z6 := o6.size
    have HMK : Hid (∀ i (h : i < (markNL 1 M2 M2.length).length), (markNL 1 M2 M2.length)[i] = mkAt 1 M2 i) := fun i h => markNL_get 1 M2 M2.length i (by rw [markNL_len] at h; exact h) h
    have HML : Hid ((markNL 1 M2 M2.length).length = M2.length) := markNL_len _ _ _
    have hkb := kqI_bd (q := 1) HR2.out.nms M2.length
    have hl24 := HR2.out.len
    have HNM := Hid.intro HR2.out.nms
    generalize hmm : kqI 1 M2 M2.length = mm at hkb ⊢
    have HMM := Hid.intro hmm
    have hm0 : ¬ mm < 0 := by omega
    have hmne : (mm != mm) = false := by simp
    clear r6 o6 hmm HO2
    go_wp2_with fail
    refine (heldVol_any (nx2 : Nat) _ M2 _ w6.heap.size 1 w6 (Nat.le_refl _) HR6.out HMK.out (by rw [HML.out]; exact hl24) HNM.out (by omega) (by omega)).mono ?_
    rintro e w7 ⟨rfl, b7⟩
    rw [HML.out, HMM.out]
    replace X1 := keepC b7 (by omega) X1
    replace X2 := keepC b7 (by omega) X2
    replace HR6 := Hid.intro (HR6.out.on b7)
    replace HVB := Hid.intro (HVB.out.kept (b7.mono (by omega)))
    replace HB4 := Hid.intro (HB4.out.trans (b7.mono HB4.out.size))
    have z7 := b7.size
    clear b7
    go_wp2_with fail
    refine (implReadVol_any s _ (by omega)).mono ?_
    intro e w8 hrd
    obtain ⟨⟨nx3, u3, M3, bl3, rfl, R3⟩, b8⟩ := rdO_of hrd
    clear hrd
    obtain ⟨a3, cap3, hu3⟩ := R3.own.own.slice
    have hkey := R3.key.trans HR1.out.key.symm
    simp only [Prod.mk.injEq] at hkey
    obtain ⟨rfl, hmap, rfl⟩ := hkey
    have HMAP3 := Hid.intro hmap
    have HR3 := Hid.intro R3
    clear R3 hmap
    subst hu3
    replace X1 := keepC b8 (by omega) X1
    replace X2 := keepC b8 (by omega) X2
    replace HR6 := Hid.intro (HR6.out.on b8)
    replace HVB := Hid.intro (HVB.out.kept (b8.mono (by omega)))
    replace HB4 := Hid.intro (HB4.out.trans (b8.mono HB4.out.size))
    have z8 := b8.size
    clear b8
    go_upto_region 16 with fail
    obtain ⟨W9, hW9, bW9, zW9, cW9, fW9⟩ := boxed w8 #[.int .i64 (nx3 : Nat), .slice a3 M3.length cap3] 29
    simp only [hW9]
    replace X1 := keepC bW9 (by omega) X1
    replace X2 := keepC bW9 (by omega) X2
    have X3 := cW9
    have HV3 : Hid (VolR W9 W9.heap.size (.slice a3 M3.length cap3) M3) := HR3.out.own.rowAll.on bW9
    replace HR6 := Hid.intro (HR6.out.on bW9)
    replace HVB := Hid.intro (HVB.out.kept (bW9.mono (by omega)))
    replace HB4 := Hid.intro (HB4.out.trans (bW9.mono HB4.out.size))
    clear hW9 bW9 cW9 fW9
    go_wp2_with fail
    refine (eqVol_any (nx3 : Nat) M3 M1 _ _ W9.heap.size W9 (Nat.le_refl _) HV3.out (HVB.out.up (by omega)) HMAP3.out).mono ?_
    rintro e wa ⟨rfl, ba⟩
    replace X2 := keepC ba (by omega) X2
    replace HR6 := Hid.intro (HR6.out.on ba)
    replace HB4 := Hid.intro (HB4.out.trans (ba.mono HB4.out.size))
    clear ba X1 X3 HV3 HVB
    go_wp2_with fail
    refine (heldVol_any (nx3 : Nat) _ M2 _ wa.heap.size 1 wa (Nat.le_refl _) HR6.out HMK.out (by rw [HML.out]; exact hl24) HNM.out (by omega) (by omega)).mono ?_
    rintro e wb ⟨rfl, bb⟩
    rw [HML.out, HMM.out]
    replace HB4 := Hid.intro (HB4.out.trans (bb.mono HB4.out.size))
    clear bb X2
    go_wp2
    go_ret
    exact ⟨rfl, HB4.out⟩
end Go.Proofs.Ytdfcbbgboeonmaa
namespace Go.Proofs.Ytdfcbbgboeonmaa
open Go.ChangeShapes Go.WideShapes Go.ChangeAt Go.RowKit
open Go.ChangeMaps (open_string shut_string)
set_option linter.unusedVariables false

theorem fnExactReadVol_own : ownKnob Try.prog.godebug = none := by kernel_rfl
theorem fnExactReadVol_laidOut : laidOutB Try.prog = true := by kernel_rfl

set_option maxRecDepth 100000 in
theorem fnExactReadVol_lifted (os : Os) (started : os.Started) (H : Type) (enc : TypeId × Value → H) :
    ReturnsInHanded {} Try.checked os 4 .any (Rows.fnExactReadVolSpec.pre6 enc Try.prog Try.f4 Rows.fnExactReadVolRow.domain false) (Rows.fnExactReadVolSpec.post enc Try.prog Try.f4 false true false false) := by
  refine returnsInHanded_of_change (C := Try.checked) fnExactReadVol_own started (by kernel_rfl) Try.func4
    (ChangeSpec.witness6 (enc := enc) (C := Try.checked) false ⟨#[], #[.string ByteArray.empty], []⟩ 8 (by kernel_rfl) (by kernel_rfl) (by kernel_rfl) (by kernel_rfl)) ?_
  intro W base args ds gs before hval0 hW hcnd _
  have hval : ∀ (j : Nat) t v, Try.f4.params[j]? = some t → args[j]? = some v → Value.okWide Try.prog W .any base t v := hval0
  have hW' := hW
  obtain ⟨p, q, hA0, hV, rfl, hfz, hnd⟩ := hW
  have hA : DataW.TrodAll enc Try.prog W 0 (fun _ => true) true Try.f4.params.toList args.toList ds p := hA0
  rw [Try.params4] at hA hval
  obtain ⟨v0, vs0, d0, ds0, p0, q0, hargs0, rfl, rfl, h0, r0⟩ := trodAll_cons hA
  obtain ⟨rfl, rfl, rfl⟩ := trodAll_nil r0
  obtain rfl : args = #[v0] := by cases args; simp_all
  obtain ⟨rfl, rfl⟩ := trodVars_none hV
  have k0 := h0
  have lt0 : ∀ x ∈ p0, x.block < W.heap.size := by obtain ⟨m, hm⟩ := k0; exact DataW.trod_lt m _ _ _ hm
  obtain ⟨a0, rfl, rfl, rfl, w0⟩ := open_string Try.underlying9 (hval 0 9 v0 rfl rfl) h0
  clear hA0 hval0
  refine (readVol_law a0 W w0).mono fun e W' ⟨he, bel⟩ => ?_
  subst he
  exact ⟨_, rfl, _, _, _, [], _, [], hW', trodAll_mk1 (shut_bool Try.underlying4 _), (trodAll_cons_mk (Below.trod fnExactReadVol_laidOut (by kernel_rfl) (of_decide_eq_true (by kernel_rfl)) k0 bel lt0) trodAll_mk0), rfl, bel.frame _, fun h => by cases h⟩

theorem fnExactReadVol_over : Rows.fnExactReadVolRow.holds Try.pinned (OpenSpec.ofChange Rows.fnExactReadVolSpec) :=
  OpenClaim.holds_of_wide 4 Try.f4 rfl rfl rfl rfl rfl rfl rfl ⟨rfl, rfl, rfl, rfl, rfl⟩ rfl rfl rfl rfl rfl (by kernel_rfl) Try.func4 (by kernel_rfl)
    (of_decide_eq_true (by kernel_rfl)) (by unfold Func.isWrapper; first | (rw [if_pos (by decide +kernel)]; kernel_rfl) | (rw [if_neg (by decide +kernel)]; exact ⟨rfl, rfl⟩))
    (fun os started H enc _ => fnExactReadVol_lifted os started H enc)

theorem fnExactReadVol_proved : Rows.FnExactReadVolSaid := fnExactReadVol_over
#print axioms fnExactReadVol_proved
end Go.Proofs.Ytdfcbbgboeonmaa
