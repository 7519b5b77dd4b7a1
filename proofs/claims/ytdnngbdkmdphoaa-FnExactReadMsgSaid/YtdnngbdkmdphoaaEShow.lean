/- What is shown of a message. -/
import Derived.Test.YtdnngbdkmdphoaaEMsgJ
import Derived.Test.YtdnngbdkmdphoaaTShow
namespace Go.Proofs.Ytdnngbdkmdphoaa
open Go.RowKit
set_option linter.unusedVariables false
/-- The numbers at the front of a message's text. -/
def mNums (a : Ms) : List Nat := [a.k.toNat, a.f.toNat, a.g.toNat, a.m.toNat, a.i.toNat, a.j.toNat, a.c.toNat, bi a.y, a.es.length]
/-- What is shown of an entry, as bytes. -/
def enL (e : En) : List UInt8 := varL e.t.toNat ++ (varL e.d.size ++ e.d.data.toList)
def ensL (l : List En) : List UInt8 := l.flatMap enL
/-- What is shown of a right message, as bytes. -/
def msgL (a : Ms) : List UInt8 := 109 :: (varsL (mNums a) ++ (ensL a.es ++ a.d.data.toList))
/-- What is shown of a message. -/
def shMs (a : Ms) : ByteArray := if msgB a then ⟨(msgL a).toArray⟩ else ByteArray.empty
theorem shMs_yes {a : Ms} (h : msgB a = true) : shMs a = ⟨(msgL a).toArray⟩ := if_pos h
theorem shMs_no {a : Ms} (h : msgB a = false) : shMs a = ByteArray.empty := by simp [shMs, h]
/-- The bounds of a right message. -/
structure MsB (a : Ms) : Prop where
  k : 1 ≤ a.k ∧ a.k ≤ 5
  f : 0 ≤ a.f ∧ a.f ≤ 4
  g : 0 ≤ a.g ∧ a.g ≤ 4
  m : 1 ≤ a.m ∧ a.m ≤ 100000
  i : 0 ≤ a.i ∧ a.i ≤ 100000
  j : 0 ≤ a.j ∧ a.j ≤ 100000
  c : 0 ≤ a.c ∧ a.c ≤ 100000
  n : a.es.length ≤ 4
  d : a.d.size ≤ 20000
  e : ∀ x ∈ a.es, (0 ≤ x.t ∧ x.t ≤ 100000) ∧ x.d.size ≤ 1600
theorem runB_mem {lo top : Int} (l : List En) (h : runB lo top l = true) (hlo : 0 ≤ lo) : ∀ x ∈ l, (0 ≤ x.t ∧ x.t ≤ top) ∧ x.d.size ≤ 1600 := by
  induction l generalizing lo with
  | nil => intro x hx; cases hx
  | cons a l ih =>
    simp only [runB, Bool.and_eq_true, decide_eq_true_eq] at h
    obtain ⟨⟨h1, h2, h3⟩, h4⟩ := h
    intro x hx
    rcases List.mem_cons.1 hx with rfl | hx
    · exact ⟨⟨by omega, h2⟩, h3⟩
    · exact ih h4 (by omega) x hx
theorem mem_none {l : List En} (h : l.length = 0) {p : En → Prop} : ∀ x ∈ l, p x := by
  intro x hx
  rw [List.eq_nil_of_length_eq_zero h] at hx
  cases hx
theorem msB_of {a : Ms} (h : msgP a) : MsB a := by
  obtain ⟨⟨h1, h2, h3, h4⟩, h5 | h5 | h5 | h5 | h5⟩ := h
  · obtain ⟨q1, q2, q3, q4, q5, q6, q7⟩ := h5
    exact ⟨by omega, h1, h2, h4, by omega, by omega, by omega, by omega, by omega, mem_none q6⟩
  · obtain ⟨q1, q2, q3, q4, q5, q6⟩ := h5
    exact ⟨by omega, h1, h2, h4, by omega, by omega, by omega, by omega, by omega, mem_none q5⟩
  · obtain ⟨q1, q2, q3, q4, q5, q6, q7, q8, q9⟩ := h5
    have q6' : runB (max a.j 1) a.m a.es = true := bi_inj q6
    exact ⟨by omega, h1, h2, h4, by omega, by omega, by omega, by omega, by omega, fun x hx => by
      have := runB_mem a.es q6' (by omega) x hx
      omega⟩
  · obtain ⟨q1, q2, q3, q4, q5, q6⟩ := h5
    exact ⟨by omega, h1, h2, h4, by omega, by omega, by omega, by omega, by omega, mem_none q5⟩
  · obtain ⟨q1, q2, q3, q4, q5, q6, q7⟩ := h5
    exact ⟨by omega, h1, h2, h4, by omega, by omega, by omega, by omega, by omega, mem_none q7⟩
theorem enL_le {e : En} (h : e.d.size ≤ 1600) : (enL e).length ≤ 1614 := by
  have h1 := varL_le e.t.toNat
  have h2 := varL_le e.d.size
  have h3 : e.d.data.toList.length = e.d.size := by simp
  simp only [enL, List.length_append]
  omega
theorem ensL_le (l : List En) (h : ∀ e ∈ l, e.d.size ≤ 1600) : (ensL l).length ≤ 1614 * l.length := by
  induction l with
  | nil => simp [ensL]
  | cons a l ih =>
    have h1 := enL_le (h a (by simp))
    have h2 := ih (fun b hb => h b (by simp [hb]))
    simp only [ensL, List.flatMap_cons, List.length_append, List.length_cons] at h2 ⊢
    omega
theorem ensL_snoc (l : List En) (j : Nat) (h : j < l.length) : ensL (l.take j) ++ enL l[j] = ensL (l.take (j + 1)) := by
  rw [List.take_succ_eq_append_getElem h]
  simp only [ensL, List.flatMap_append, List.flatMap_cons, List.flatMap_nil, List.append_nil]
theorem ba_sizeE (l : List UInt8) : (⟨l.toArray⟩ : ByteArray).size = l.length := rfl
theorem ba_listE (l : List UInt8) : (⟨l.toArray⟩ : ByteArray).data.toList = l := rfl
theorem ba_appE (a b : ByteArray) : (a ++ b).data.toList = a.data.toList ++ b.data.toList := by simp
theorem ba_mk (a : ByteArray) (l : List UInt8) (h : a.data.toList = l) : a = ⟨l.toArray⟩ := by
  subst h
  rfl
set_option maxHeartbeats 400000 in
theorem oneOf_any (b : Bool) (w : World) :
    Calls Try.prog 35 #[.bool b] w fun e w' => e = .returned (.int .i64 (bi b : Nat)) ∧ w = w' := by
  cases b
  · go_enter Try.func35, Try.ntmps35
    go_wp2
    go_ret
    exact ⟨rfl, rfl⟩
  · go_enter Try.func35, Try.ntmps35
    go_wp2
    go_ret
    exact ⟨rfl, rfl⟩
set_option maxHeartbeats 400000 in
theorem l12Yes_any (b : Bool) (w : World) :
    Calls Try.prog 32 #[.bool b] w fun e w' => e = .returned (.int .i64 (bi b : Nat)) ∧ w = w' := by
  cases b
  · go_enter Try.func32, Try.ntmps32
    go_wp2
    go_ret
    exact ⟨rfl, rfl⟩
  · go_enter Try.func32, Try.ntmps32
    go_wp2
    go_ret
    exact ⟨rfl, rfl⟩
end Go.Proofs.Ytdnngbdkmdphoaa
