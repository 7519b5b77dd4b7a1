/- Messages: how an entry and a message lie; when a message is right; small functions on both sides. -/
import Derived.Test.YtdnngbdkmdphoaaVName
import Derived.Test.YtdnngbdkmdphoaaGRow
import Derived.Test.YtdnngbdkmdphoaaPReg
import Derived.Deep.Cut
import Derived.Deep.CutRange
import Derived.Deep.RegionWith
import Derived.RegionTactic
namespace Go.Proofs.Ytdnngbdkmdphoaa
open Go.RowKit
set_option linter.unusedVariables false
/-- An entry. -/
structure En where
  t : Int
  d : ByteArray
def enE : Enc En := ⟨2, fun a => [.int .i64 a.t, .string a.d], ⟨0, ⟨#[]⟩⟩, fun _ => rfl, by decide, by intro a u hu; simp at hu; rcases hu with rfl | rfl <;> rfl⟩
abbrev enV (a : En) : Value := .agg #[.int .i64 a.t, .string a.d]
/-- A message. -/
structure Ms where
  k : Int
  f : Int
  g : Int
  m : Int
  i : Int
  j : Int
  c : Int
  y : Bool
  es : List En
  d : ByteArray
abbrev msA (a : Ms) (v : Value) : Array Value := #[.int .i64 a.k, .int .i64 a.f, .int .i64 a.g, .int .i64 a.m, .int .i64 a.i, .int .i64 a.j, .int .i64 a.c, .bool a.y, v, .string a.d]
@[reducible] def msV (a : Ms) (v : Value) : Value := .agg (msA a v)
theorem enE_cell {w : World} {N : Nat} {v : Value} {L : List En} (h : Row enE w N v L) : ∃ a cap, v = .slice a L.length cap ∧ L.length ≤ cap ∧ cap ≤ 9223372036854775807 ∧
    (L ≠ [] → ∃ b off, a = some ⟨b, off, none⟩ ∧ b < N ∧ ∀ j (h : j < L.length), w.cell? ⟨b, off + j * 2, none⟩ = some (.int .i64 L[j].t) ∧ w.cell? ⟨b, off + j * 2 + 1, none⟩ = some (.string L[j].d)) := by
  obtain ⟨a, cap, h0, h1, h2, h3⟩ := h
  refine ⟨a, cap, h0, h1, h2, fun hL => ?_⟩
  obtain ⟨b, off, ha, hb, hc⟩ := h3 hL
  refine ⟨b, off, ha, hb, fun j hj => ⟨?_, ?_⟩⟩
  · have := hc j hj 0 (by decide)
    simpa [enE] using this
  · have := hc j hj 1 (by decide)
    simpa [enE] using this
/-- May entries follow one another, none below lo, none above top? -/
def runB (lo top : Int) : List En → Bool
  | [] => true
  | e :: r => decide (lo ≤ e.t ∧ e.t ≤ top ∧ e.d.size ≤ 1600) && runB e.t top r
theorem runB_at {lo top : Int} {L : List En} {j : Nat} (h : j < L.length) : runB lo top (L.drop j) = (decide (lo ≤ L[j].t ∧ L[j].t ≤ top ∧ L[j].d.size ≤ 1600) && runB L[j].t top (L.drop (j + 1))) := by
  rw [List.drop_eq_getElem_cons h]; rfl
theorem runB_end {lo top : Int} {L : List En} {j : Nat} (h : L.length ≤ j) : runB lo top (L.drop j) = true := by
  rw [List.drop_eq_nil_of_le h]; rfl
/-- A bool as a number. -/
def bi (b : Bool) : Nat := if b then 1 else 0
theorem bi_t : bi true = 1 := rfl
theorem bi_f : bi false = 0 := rfl
theorem bi_inj {a b : Bool} (h : bi a = bi b) : a = b := by
  cases a <;> cases b <;> simp [bi] at h ⊢
abbrev placeP (i t : Int) : Prop := (i = 0 ∧ t = 0) ∨ ((1 ≤ i ∧ i ≤ 100000) ∧ (1 ≤ t ∧ t ≤ 100000))
/-- When a message is right. -/
def msgP (a : Ms) : Prop := ((0 ≤ a.f ∧ a.f ≤ 4) ∧ (0 ≤ a.g ∧ a.g ≤ 4) ∧ ¬ a.f = a.g ∧ (1 ≤ a.m ∧ a.m ≤ 100000)) ∧
  ((a.k = 1 ∧ placeP a.i a.j ∧ a.j ≤ a.m ∧ a.c = 0 ∧ bi a.y = 0 ∧ a.es.length = 0 ∧ a.d.size = 0) ∨
   (a.k = 2 ∧ a.i = 0 ∧ a.j = 0 ∧ a.c = 0 ∧ a.es.length = 0 ∧ a.d.size = 0) ∨
   (a.k = 3 ∧ placeP a.i a.j ∧ a.j ≤ a.m ∧ (0 ≤ a.c ∧ a.c ≤ 100000) ∧ a.es.length ≤ 4 ∧ bi (runB (max a.j 1) a.m a.es) = 1 ∧ a.i + a.es.length ≤ 100000 ∧ bi a.y = 0 ∧ a.d.size = 0) ∨
   (a.k = 4 ∧ (0 ≤ a.i ∧ a.i ≤ 100000) ∧ a.j = 0 ∧ a.c = 0 ∧ a.es.length = 0 ∧ a.d.size = 0) ∨
   (a.k = 5 ∧ (1 ≤ a.i ∧ a.i ≤ 100000) ∧ (1 ≤ a.j ∧ a.j ≤ a.m) ∧ a.d.size ≤ 20000 ∧ a.c = 0 ∧ bi a.y = 0 ∧ a.es.length = 0))
instance (a : Ms) : Decidable (msgP a) := by unfold msgP; infer_instance
def msgB (a : Ms) : Bool := decide (msgP a)
theorem msgB_iff (a : Ms) : msgB a = true ↔ msgP a := decide_eq_true_iff
theorem msgB_yes {a : Ms} (h : msgP a) : true = msgB a := ((msgB_iff a).2 h).symm
theorem msgB_no {a : Ms} (h : ¬ msgP a) : false = msgB a := by
  cases hb : msgB a with
  | false => rfl
  | true => exact absurd ((msgB_iff a).1 hb) h
/-- What two messages must have alike, where one names no more than its kind does. -/
def hasP (a b : Ms) : Prop := a.i = b.i ∧ a.j = b.j ∧ a.c = b.c ∧ bi a.y = bi b.y ∧ a.es.length = b.es.length ∧ a.d = b.d
instance (a b : Ms) : Decidable (hasP a b) := by unfold hasP; infer_instance
set_option maxHeartbeats 400000 in
theorem server_any (n : Int) (w : World) :
    Calls Try.prog 48 #[.int .i64 n] w fun e w' => e = .returned (.bool (inB n 0 4)) ∧ w = w' := by
  go_enter Try.func48, Try.ntmps48
  go_wp2_with (go_at_call 25; refine (within_any _ _ _ _).mono ?_; rintro e w9 ⟨rfl, rfl⟩)
  go_ret
  exact ⟨rfl, rfl⟩
set_option maxHeartbeats 400000 in
theorem l12Server_any (n : Int) (w : World) :
    Calls Try.prog 18 #[.int .i64 n] w fun e w' => e = .returned (.bool (inB n 0 4)) ∧ w = w' := by
  go_enter Try.func18, Try.ntmps18
  go_wp2_with (go_at_call 19; refine (l1In_any _ _ _ _).mono ?_; rintro e w9 ⟨rfl, rfl⟩)
  go_ret
  exact ⟨rfl, rfl⟩
def twoP (f g : Int) : Prop := (0 ≤ f ∧ f ≤ 4) ∧ (0 ≤ g ∧ g ≤ 4) ∧ ¬ f = g
instance (f g : Int) : Decidable (twoP f g) := by unfold twoP; infer_instance
set_option maxHeartbeats 1000000 in
theorem twoServers_any (f g : Int) (w : World) :
    Calls Try.prog 24 #[.int .i64 f, .int .i64 g] w fun e w' => e = .returned (.bool (decide (twoP f g))) ∧ w = w' := by
  by_cases h1 : 0 ≤ f ∧ f ≤ 4
  · have b1 := inB_true h1
    by_cases h2 : 0 ≤ g ∧ g ≤ 4
    · have b2 := inB_true h2
      by_cases h3 : f = g
      · have f3 : (f != g) = false := by simpa using h3
        go_enter Try.func24, Try.ntmps24
        go_wp2_with (go_at_call 48; refine (server_any _ _).mono ?_; rintro e w9 ⟨rfl, rfl⟩)
        go_ret
        exact ⟨ret_bool (by rw [decide_eq_false (by unfold twoP; omega)]), rfl⟩
      · have f3 : (f != g) = true := by simpa using h3
        go_enter Try.func24, Try.ntmps24
        go_wp2_with (go_at_call 48; refine (server_any _ _).mono ?_; rintro e w9 ⟨rfl, rfl⟩)
        go_ret
        exact ⟨ret_bool (by rw [decide_eq_true (by unfold twoP; omega)]), rfl⟩
    · have b2 := inB_false h2
      go_enter Try.func24, Try.ntmps24
      go_wp2_with (go_at_call 48; refine (server_any _ _).mono ?_; rintro e w9 ⟨rfl, rfl⟩)
      go_ret
      exact ⟨ret_bool (by rw [decide_eq_false (by unfold twoP; omega)]), rfl⟩
  · have b1 := inB_false h1
    go_enter Try.func24, Try.ntmps24
    go_wp2_with (go_at_call 48; refine (server_any _ _).mono ?_; rintro e w9 ⟨rfl, rfl⟩)
    go_ret
    exact ⟨ret_bool (by rw [decide_eq_false (by unfold twoP; omega)]), rfl⟩
set_option maxHeartbeats 1000000 in
theorem isPlace_any (i t : Int) (w : World) :
    Calls Try.prog 49 #[.int .i64 i, .int .i64 t] w fun e w' => e = .returned (.bool (decide (placeP i t))) ∧ w = w' := by
  by_cases h0 : i = 0
  · subst h0
    have b1 : inB 0 1 100000 = false := rfl
    by_cases h1 : t = 0
    · subst h1
      go_enter Try.func49, Try.ntmps49
      go_wp2
      go_ret
      exact ⟨ret_bool (by rw [decide_eq_true (by omega)]), rfl⟩
    · have f1 : (t == 0) = false := by simpa using h1
      go_enter Try.func49, Try.ntmps49
      go_wp2_with (go_at_call 25; refine (within_any _ _ _ _).mono ?_; rintro e w9 ⟨rfl, rfl⟩)
      go_ret
      exact ⟨ret_bool (by rw [decide_eq_false (by omega)]), rfl⟩
  · have f0 : (i == 0) = false := by simpa using h0
    by_cases h1 : 1 ≤ i ∧ i ≤ 100000
    · have b1 := inB_true h1
      by_cases h2 : 1 ≤ t ∧ t ≤ 100000
      · have b2 := inB_true h2
        go_enter Try.func49, Try.ntmps49
        go_wp2_with (go_at_call 25; refine (within_any _ _ _ _).mono ?_; rintro e w9 ⟨rfl, rfl⟩)
        go_ret
        exact ⟨ret_bool (by rw [decide_eq_true (by omega)]), rfl⟩
      · have b2 := inB_false h2
        go_enter Try.func49, Try.ntmps49
        go_wp2_with (go_at_call 25; refine (within_any _ _ _ _).mono ?_; rintro e w9 ⟨rfl, rfl⟩)
        go_ret
        exact ⟨ret_bool (by rw [decide_eq_false (by omega)]), rfl⟩
    · have b1 := inB_false h1
      go_enter Try.func49, Try.ntmps49
      go_wp2_with (go_at_call 25; refine (within_any _ _ _ _).mono ?_; rintro e w9 ⟨rfl, rfl⟩)
      go_ret
      exact ⟨ret_bool (by rw [decide_eq_false (by omega)]), rfl⟩
set_option maxHeartbeats 1000000 in
theorem l3PlaceE_any (i t : Int) (w : World) :
    Calls Try.prog 20 #[.int .i64 i, .int .i64 t] w fun e w' => e = .returned (.bool (decide (placeP i t))) ∧ w = w' := by
  by_cases h0 : i = 0
  · subst h0
    by_cases h1 : t = 0
    · subst h1
      go_enter Try.func20, Try.ntmps20
      go_wp2
      go_ret
      exact ⟨ret_bool (by rw [decide_eq_true (by omega)]), rfl⟩
    · have f1 : (t == 0) = false := by simpa using h1
      go_enter Try.func20, Try.ntmps20
      go_wp2
      go_ret
      exact ⟨ret_bool (by rw [decide_eq_false (by omega)]), rfl⟩
  · have hb : (i == 0) = false := by simpa using h0
    by_cases h1 : 1 ≤ i ∧ i ≤ 100000
    · have b1 := inB_true h1
      by_cases h2 : 1 ≤ t ∧ t ≤ 100000
      · have b2 := inB_true h2
        go_enter Try.func20, Try.ntmps20
        go_wp2_with (go_at_call 19; refine (l1In_any _ _ _ _).mono ?_; rintro e w' ⟨rfl, rfl⟩)
        go_ret
        exact ⟨ret_bool (by rw [decide_eq_true (by omega)]), rfl⟩
      · have b2 := inB_false h2
        go_enter Try.func20, Try.ntmps20
        go_wp2_with (go_at_call 19; refine (l1In_any _ _ _ _).mono ?_; rintro e w' ⟨rfl, rfl⟩)
        go_ret
        exact ⟨ret_bool (by rw [decide_eq_false (by omega)]), rfl⟩
    · have b1 := inB_false h1
      go_enter Try.func20, Try.ntmps20
      go_wp2_with (go_at_call 19; refine (l1In_any _ _ _ _).mono ?_; rintro e w' ⟨rfl, rfl⟩)
      go_ret
      exact ⟨ret_bool (by rw [decide_eq_false (by omega)]), rfl⟩
end Go.Proofs.Ytdnngbdkmdphoaa
