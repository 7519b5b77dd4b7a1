/- What is shown of a tenant; the program's ShowTenant. -/
import Derived.Test.YtknckbedddeijaaGreatXTenOkI
import Derived.Test.YtknckbedddeijaaGreatTShowVol
namespace Go.Proofs.YtknckbedddeijaaGreat
open Go.RowKit
set_option linter.unusedVariables false
def notL (a : Nt) : List UInt8 := varsL [a.i.toNat, a.c.toNat, a.s.toNat, a.k.toNat, a.d.toNat]
def notsL (l : List Nt) : List UInt8 := l.flatMap notL
def sesL (a : Se) : List UInt8 := varsL [a.c.toNat, a.s.toNat, a.i.toNat] ++ (varL (shR a.r).size ++ (shR a.r).data.toList)
def sessL (l : List Se) : List UInt8 := l.flatMap sesL
/-- What is shown of a right tenant, as bytes. -/
def tenL (k : Int × List Nd × Int × List Nt × List Se) : List UInt8 := varL (shV k.1 k.2.1).size ++ (shV k.1 k.2.1).data.toList ++ varsL [k.2.2.1.toNat, k.2.2.2.1.length] ++ notsL k.2.2.2.1 ++ varL k.2.2.2.2.length ++ sessL k.2.2.2.2
/-- What is shown of a tenant. -/
def shTen (k : Int × List Nd × Int × List Nt × List Se) : ByteArray := if tenB k then ⟨(tenL k).toArray⟩ else ByteArray.empty
theorem shTen_yes {k : Int × List Nd × Int × List Nt × List Se} (h : tenB k = true) : shTen k = ⟨(tenL k).toArray⟩ := if_pos h
theorem shTen_no {k : Int × List Nd × Int × List Nt × List Se} (h : tenB k = false) : shTen k = ByteArray.empty := by simp [shTen, h]
/-- The bounds of a right note. -/
structure NtB (a : Nt) : Prop where
 i : 0 ≤ a.i ∧ a.i ≤ 100000
 c : 0 ≤ a.c ∧ a.c ≤ 3
 s : 0 ≤ a.s ∧ a.s ≤ 1000000
 k : 0 ≤ a.k ∧ a.k ≤ 22
 d : 0 ≤ a.d ∧ a.d ≤ 200
structure SeB (a : Se) : Prop where
 c : 0 ≤ a.c ∧ a.c ≤ 3
 s : 0 ≤ a.s ∧ a.s ≤ 1000000
 i : 0 ≤ a.i ∧ a.i ≤ 100000
 r : resP a.r
theorem auditFrom_mem {m : Int} (l : List Nt) (hm : 0 ≤ m) (h : auditFrom m l = true) : ∀ a ∈ l, NtB a := by
 induction l generalizing m with
 | nil => intro a ha; cases ha
 | cons a l ih =>
  intro b hb
  simp only [auditFrom, Bool.and_eq_true] at h
  obtain ⟨⟨h1, h2⟩, h3⟩ := h
  have h1 := inB_out h1
  rcases List.mem_cons.1 hb with rfl | hb
  ·simp only [noteB, Bool.and_eq_true] at h2
   obtain ⟨c1, c2, c3, c4⟩ := h2
   have c1 := inB_out c1
   have c2 := inB_out c2
   have c3 := inB_out c3
   have c4 := inB_out c4
   exact ⟨by omega, by omega, by omega, by omega, by omega⟩
  ·exact ih (by omega) h3 b hb
theorem sessFrom_mem {m : Int} (l : List Se) (hm : 0 ≤ m) (h : sessFrom m l = true) : ∀ a ∈ l, SeB a := by
 induction l generalizing m with
 | nil => intro a ha; cases ha
 | cons a l ih =>
  intro b hb
  simp only [sessFrom, Bool.and_eq_true] at h
  obtain ⟨⟨h1, h2⟩, h3⟩ := h
  have h1 := inB_out h1
  rcases List.mem_cons.1 hb with rfl | hb
  ·simp only [sesB, Bool.and_eq_true] at h2
   obtain ⟨c1, c2, c3⟩ := h2
   have c1 := inB_out c1
   have c2 := inB_out c2
   exact ⟨by omega, by omega, by omega, of_decide_eq_true c3⟩
  ·exact ih (by omega) h3 b hb
/-- What it is for a tenant to be right. -/
theorem tenB_of {nx : Int} {L : List Nd} {tk : Int} {A : List Nt} {S : List Se} (h : tenB (nx, L, tk, A, S) = true) : volB nx L = true ∧ (0 ≤ tk ∧ tk ≤ 30) ∧ A.length ≤ 20 ∧ (∀ a ∈ A, NtB a) ∧ S.length ≤ 3 ∧ ∀ a ∈ S, SeB a := by
 simp only [tenB, Bool.and_eq_true] at h
 obtain ⟨h1, h2, h3, h4⟩ := h
 have h2 := inB_out h2
 simp only [auditB, Bool.and_eq_true, decide_eq_true_eq] at h3
 have h5 := sessFrom_len h4 (by omega)
 exact ⟨h1, h2, h3.1, auditFrom_mem A (by omega) h3.2, by omega, sessFrom_mem S (by omega) h4⟩
theorem shV_le {next : Int} {L : List Nd} (h : volB next L = true) : (shV next L).size ≤ 10000 := by
 obtain ⟨_, h2, h3⟩ := ndB_of h
 rw [shV_yes h]
 have e : (⟨(varL next.toNat ++ varL L.length ++ inosL L).toArray⟩ : ByteArray).size = (varL next.toNat ++ varL L.length ++ inosL L).length := rfl
 rw [e]
 simp only [List.length_append]
 have a1 := varL_le next.toNat
 have a2 := varL_le L.length
 have a3 := inosL_le L h3
 omega
theorem notL_le (a : Nt) : (notL a).length ≤ 35 := by
 have := varsL_le [a.i.toNat, a.c.toNat, a.s.toNat, a.k.toNat, a.d.toNat]
 simpa [notL] using this
theorem notsL_le (l : List Nt) : (notsL l).length ≤ 35 * l.length := by
 induction l with
 | nil => simp [notsL]
 | cons a l ih =>
  have := notL_le a
  simp only [notsL, List.flatMap_cons, List.length_append, List.length_cons] at ih ⊢
  omega
theorem notsL_snoc (l : List Nt) (j : Nat) (h : j < l.length) : notsL (l.take j) ++ notL l[j] = notsL (l.take (j + 1)) := by
 rw [List.take_succ_eq_append_getElem h]
 simp only [notsL, List.flatMap_append, List.flatMap_cons, List.flatMap_nil, List.append_nil]
theorem shR_le {r : Re} (h : resP r) : (shR r).size ≤ 407 := by
 rw [shR_yes h]
 have := varS_le r.c.toNat
 have := h.2
 simp only [ByteArray.size_append]
 omega
theorem sesL_le {a : Se} (h : SeB a) : (sesL a).length ≤ 435 := by
 have h1 := varsL_le [a.c.toNat, a.s.toNat, a.i.toNat]
 have h2 := shR_le h.r
 have h3 := varL_le (shR a.r).size
 have h4 : (shR a.r).data.toList.length = (shR a.r).size := by simp
 simp only [sesL, List.length_append, List.length_cons, List.length_nil] at h1 ⊢
 omega
theorem sessL_le (l : List Se) (h : ∀ a ∈ l, SeB a) : (sessL l).length ≤ 435 * l.length := by
 induction l with
 | nil => simp [sessL]
 | cons a l ih =>
  have h1 := sesL_le (h a (by simp))
  have h2 := ih (fun b hb => h b (by simp [hb]))
  simp only [sessL, List.flatMap_cons, List.length_append, List.length_cons] at h2 ⊢
  omega
theorem sessL_snoc (l : List Se) (j : Nat) (h : j < l.length) : sessL (l.take j) ++ sesL l[j] = sessL (l.take (j + 1)) := by
 rw [List.take_succ_eq_append_getElem h]
 simp only [sessL, List.flatMap_append, List.flatMap_cons, List.flatMap_nil, List.append_nil]
theorem ba_size (l : List UInt8) : (⟨l.toArray⟩ : ByteArray).size = l.length := rfl
theorem ba_list (l : List UInt8) : (⟨l.toArray⟩ : ByteArray).data.toList = l := rfl
end Go.Proofs.YtknckbedddeijaaGreat
