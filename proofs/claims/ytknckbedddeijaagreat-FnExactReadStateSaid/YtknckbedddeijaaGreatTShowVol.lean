/- The program's ShowVol. -/
import Derived.Test.YtknckbedddeijaaGreatTShowIno
import Derived.Test.YtknckbedddeijaaGreatVImpJ
import Derived.Test.YtknckbedddeijaaGreatTCurP
namespace Go.Proofs.YtknckbedddeijaaGreat
open Go.RowKit
set_option linter.unusedVariables false
def inosL (L : List Nd) : List UInt8 := L.flatMap shN
/-- What is shown of a volume. -/
def shV (next : Int) (L : List Nd) : ByteArray := if volB next L then ⟨(varL next.toNat ++ varL L.length ++ inosL L).toArray⟩ else ByteArray.empty
theorem shV_yes {next : Int} {L : List Nd} (h : volB next L = true) : shV next L = ⟨(varL next.toNat ++ varL L.length ++ inosL L).toArray⟩ := if_pos h
theorem shV_no {next : Int} {L : List Nd} (h : volB next L = false) : shV next L = ByteArray.empty := by simp [shV, h]
theorem inB_out {x a b : Int} (h : inB x a b = true) : a ≤ x ∧ x ≤ b := by simpa [inB] using h
theorem indB_id {M : List Nd} {next : Int} (l : List Nd) : ∀ {p : Option Int}, indB M next p l = true → ∀ n ∈ l, 1 ≤ n.id ∧ n.id ≤ next - 1 := by
 induction l with
 | nil => intro p _ n hn; cases hn
 | cons a l ih =>
  intro p h n hn
  rw [indB] at h
  simp only [Bool.and_eq_true] at h
  rcases List.mem_cons.1 hn with rfl | hn
  ·exact inB_out h.1.1.1
  ·exact ih h.2 n hn
theorem nmsB_mem {L : List Nd} (l : List Di) : ∀ {p : Option ByteArray}, nmsB L p l = true → ∀ e ∈ l, nameB e.nm.data.toList = true ∧ (atN L e.id).isSome = true := by
 induction l with
 | nil => intro p _ n hn; cases hn
 | cons a l ih =>
  intro p h n hn
  rw [nmsB] at h
  simp only [Bool.and_eq_true] at h
  rcases List.mem_cons.1 hn with rfl | hn
  ·exact ⟨h.1.1.1.1, h.1.2⟩
  ·exact ih h.2 n hn
theorem atN_mem {L : List Nd} {x : Int} {i : Nat} (h : atN L x = some i) : ∃ n ∈ L, n.id = x := by
 obtain ⟨h1, h2, _⟩ := atN_some.1 h
 exact ⟨L[i], List.getElem_mem h1, h2⟩
theorem ndB_of {next : Int} {L : List Nd} (h : volB next L = true) : (2 ≤ next ∧ next ≤ 100000) ∧ L.length ≤ 24 ∧ ∀ n ∈ L, NdB n := by
 unfold volB at h
 simp only [Bool.and_eq_true] at h
 obtain ⟨⟨⟨⟨⟨⟨h1, h2⟩, h3⟩, h4⟩, h5⟩, h6⟩, h7⟩ := h
 have hnext := inB_out h1
 have hlen := inB_out h2
 refine ⟨hnext, by omega, fun n hn => ?_⟩
 have hid := indB_id L h4 n hn
 have hnd := indB_mem L h4 n hn
 unfold nodeB at hnd
 simp only [Bool.and_eq_true] at hnd
 obtain ⟨⟨⟨m1, m2⟩, m3⟩, m4⟩ := hnd
 have m1 := inB_out m1
 have m2 := inB_out m2
 have m3 := inB_out m3
 have names0 : n.names = [] → ∀ j (h : j < n.names.length), n.names[j].nm.size ≤ 8 ∧ 0 ≤ n.names[j].id ∧ n.names[j].id ≤ 100000 := fun e j hj => by rw [e] at hj; simp at hj
 split at m4
 ·rename_i hk
  simp only [plainB, Bool.and_eq_true, decide_eq_true_eq] at m4
  exact ⟨by omega, by omega, m1, m2, m3, by omega, by omega, m4.2, by omega, names0 (List.length_eq_zero_iff.1 m4.1.1.1)⟩
 ·split at m4
  ·rename_i hk
   simp only [plainB, Bool.and_eq_true, decide_eq_true_eq] at m4
   have hp : n.data.size ≤ 60 := by
    have h9 := m4.1.2
    simp only [pbB, Bool.and_eq_true, decide_eq_true_eq] at h9
    have hs : n.data.data.toList.length = n.data.size := by simp
    omega
   exact ⟨by omega, by omega, m1, m2, m3, by omega, by omega, by omega, by omega, names0 (List.length_eq_zero_iff.1 m4.1.1.1.1)⟩
  ·split at m4
   ·rename_i hk
    simp only [Bool.and_eq_true, decide_eq_true_eq] at m4
    obtain ⟨⟨⟨⟨d1, d2⟩, d3⟩, d4⟩, d5⟩ := m4
    have d3 := inB_out d3
    have d4 := inB_out d4
    have hd0 : n.data.size = 0 := by
     have e := beq_iff_eq.1 d1
     exact size_of_nil e
    refine ⟨by omega, by omega, m1, m2, m3, d3, d4, by omega, d2, fun j hj => ?_⟩
    obtain ⟨e1, e2⟩ := nmsB_mem n.names d5 n.names[j] (List.getElem_mem hj)
    obtain ⟨i, hi⟩ := Option.isSome_iff_exists.1 e2
    obtain ⟨n2, hn2, e3⟩ := atN_mem hi
    have hid2 := indB_id L h4 n2 hn2
    simp only [nameB, Bool.and_eq_true, decide_eq_true_eq] at e1
    have hs : n.names[j].nm.data.toList.length = n.names[j].nm.size := by simp
    exact ⟨by omega, by omega, by omega⟩
   ·cases m4
theorem inosL_snoc (L : List Np) (j : Nat) (h : j < L.length) : inosL ((L.take j).map Np.n) ++ shN L[j].n = inosL ((L.take (j + 1)).map Np.n) := by
 rw [List.take_succ_eq_append_getElem h]
 unfold inosL
 rw [List.map_append, List.flatMap_append]
 congr 1
 simp only [List.map_cons, List.map_nil, List.flatMap_cons, List.flatMap_nil, List.append_nil]
theorem inosL_le (L : List Nd) (h : ∀ n ∈ L, NdB n) : (inosL L).length ≤ 400 * L.length := by
 induction L with
 | nil => simp [inosL]
 | cons a L ih =>
  have h0 := shN_le (h a (by simp))
  have h1 := ih (fun n hn => h n (by simp [hn]))
  simp only [inosL, List.flatMap_cons, List.length_append, List.length_cons] at h1 ⊢
  omega
end Go.Proofs.YtknckbedddeijaaGreat
