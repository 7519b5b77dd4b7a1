/- Names, paths, parts, clean paths: plain functions on lists of bytes. -/
namespace Go.Proofs.Ytmkofkdcjeidhaa

/-- A byte that a name may have. -/
def nbI (x : Int) : Bool := (decide (97 ≤ x) && decide (x ≤ 122)) || (decide (48 ≤ x) && decide (x ≤ 57)) || decide (x = 46) || decide (x = 95) || decide (x = 45)
def nb (c : UInt8) : Bool := nbI (c.toNat : Int)
/-- A byte that a path may have. -/
def okB (c : UInt8) : Bool := decide ((c.toNat : Int) = 47) || nb c
def nameB (l : List UInt8) : Bool := decide (1 ≤ l.length) && decide (l.length ≤ 8) && decide (l ≠ [46]) && decide (l ≠ [46, 46]) && l.all nb
def pathB (l : List UInt8) : Bool := decide (1 ≤ l.length) && decide (l.length ≤ 60) && decide (l.getD 0 0 = 47) && l.all okB

/-- What stands between the 47s: cur is what was met since the last one. -/
def pAux : List UInt8 → List UInt8 → List (List UInt8)
  | cur, [] => if cur = [] then [] else [cur]
  | cur, c :: r => if c = 47 then (if cur = [] then pAux [] r else cur :: pAux [] r) else pAux (cur ++ [c]) r
def partsL (l : List UInt8) : List (List UInt8) := pAux [] l

def stepC (st : List (List UInt8)) (p : List UInt8) : List (List UInt8) := if p = [46] then st else if p = [46, 46] then st.dropLast else st ++ [p]
def cleanFrom (st ps : List (List UInt8)) : List (List UInt8) := ps.foldl stepC st
def cleanL (ps : List (List UInt8)) : List (List UInt8) := cleanFrom [] ps
def cat : List (List UInt8) → List UInt8
  | [] => []
  | p :: r => 47 :: (p ++ cat r)
def joinL (ps : List (List UInt8)) : List UInt8 := if ps = [] then [47] else cat ps
def clean (l : List UInt8) : List UInt8 := if pathB l = true then joinL (cleanL (partsL l)) else []
/-- Is x that of y, or does it begin with y and a 47 (with anything, where y is 47 alone)? -/
def belowC (x y : List UInt8) : Bool := decide (y = [47]) || decide (x = y) || (y ++ [47]).isPrefixOf x
def belowL (a b : List UInt8) : Bool := pathB a && pathB b && belowC (clean a) (clean b)

/-- The bytes from a on, up to b. -/
def seg (l : List UInt8) (a b : Nat) : List UInt8 := (l.drop a).take (b - a)

theorem nb47 : nb 47 = false := by decide
theorem u8_of_int {c : UInt8} {n : Nat} (h : (c.toNat : Int) = n) (hn : n < 256) : c = UInt8.ofNat n := by
  apply UInt8.toNat_inj.1
  simp
  omega
theorem is47 {c : UInt8} : c = 47 ↔ (c.toNat : Int) = 47 := by
  constructor
  · rintro rfl; rfl
  · intro h; exact u8_of_int (n := 47) h (by decide)

theorem pAux_slash_nil (r : List UInt8) : pAux [] (47 :: r) = pAux [] r := by simp [pAux]
theorem pAux_slash {cur : List UInt8} (h : cur ≠ []) (r : List UInt8) : pAux cur (47 :: r) = cur :: pAux [] r := by simp [pAux, h]
theorem pAux_other (cur : List UInt8) {c : UInt8} (h : c ≠ 47) (r : List UInt8) : pAux cur (c :: r) = pAux (cur ++ [c]) r := by simp [pAux, h]
theorem pAux_end {cur : List UInt8} (h : cur ≠ []) : pAux cur [] = [cur] := by simp [pAux, h]

theorem seg_self (l : List UInt8) (a : Nat) : seg l a a = [] := by simp [seg]
theorem seg_snoc (l : List UInt8) (a b : Nat) (hab : a ≤ b) (hb : b < l.length) : seg l a (b + 1) = seg l a b ++ [l[b]] := by
  unfold seg
  have h : b - a < (l.drop a).length := by simp; omega
  rw [show b + 1 - a = b - a + 1 by omega, List.take_succ_eq_append_getElem h]
  congr 2
  simp
  congr 1
  omega
theorem seg_length (l : List UInt8) (a b : Nat) (hab : a ≤ b) (hb : b ≤ l.length) : (seg l a b).length = b - a := by
  simp [seg]; omega
theorem seg_ne {l : List UInt8} {a b : Nat} (hab : a < b) (hb : b ≤ l.length) : seg l a b ≠ [] := by
  intro e
  have := seg_length l a b (by omega) hb
  rw [e] at this
  simp at this
  omega

/-- The parts, seen from byte k on. -/
def at1 (l : List UInt8) (f k : Nat) : List (List UInt8) := pAux (seg l f k) (l.drop k)
theorem at1_start (l : List UInt8) : at1 l 0 0 = partsL l := rfl
theorem at1_same (l : List UInt8) (k : Nat) : at1 l k k = pAux [] (l.drop k) := by rw [at1, seg_self]
theorem at1_skip {l : List UInt8} {k : Nat} (hk : k < l.length) (h : l[k] = 47) : at1 l k k = at1 l (k + 1) (k + 1) := by
  rw [at1_same, at1_same, List.drop_eq_getElem_cons hk, h, pAux_slash_nil]
theorem at1_on {l : List UInt8} {f k : Nat} (hf : f ≤ k) (hk : k < l.length) (h : l[k] ≠ 47) : at1 l f k = at1 l f (k + 1) := by
  rw [at1, at1, List.drop_eq_getElem_cons hk, pAux_other _ h, seg_snoc l f k hf hk]
theorem at1_part {l : List UInt8} {f k : Nat} (hf : f < k) (hk : k < l.length) (h : l[k] = 47) : at1 l f k = seg l f k :: at1 l (k + 1) (k + 1) := by
  rw [at1_same, at1, List.drop_eq_getElem_cons hk, h, pAux_slash (seg_ne hf (by omega))]
theorem at1_part' {l : List UInt8} {f k : Nat} (hf : f < k) (hk : k < l.length) (h : l[k] = 47) : at1 l f k = seg l f k :: at1 l k k := by
  rw [at1_part hf hk h, at1_skip hk h]
theorem at1_last {l : List UInt8} {f : Nat} (hf : f < l.length) : at1 l f l.length = [seg l f l.length] := by
  rw [at1, List.drop_length, pAux_end (seg_ne hf (Nat.le_refl _))]
theorem at1_done (l : List UInt8) : at1 l l.length l.length = [] := by
  rw [at1_same, List.drop_length]; rfl

/-- How many bytes the parts take, each with its 47. -/
theorem cat_append (a b : List (List UInt8)) : cat (a ++ b) = cat a ++ cat b := by
  induction a with
  | nil => rfl
  | cons p r ih => simp [cat, ih]
theorem cat_pAux (r cur : List UInt8) : (cat (pAux cur r)).length ≤ cur.length + r.length + 1 := by
  induction r generalizing cur with
  | nil =>
    unfold pAux
    split <;> simp [cat]
  | cons c r ih =>
    unfold pAux
    split
    · split
      · have := ih []
        simp at this ⊢
        omega
      · have := ih []
        simp [cat] at this ⊢
        omega
    · have := ih (cur ++ [c])
      simp at this ⊢
      omega
theorem cat_len (ps : List (List UInt8)) : ps.length ≤ (cat ps).length := by
  induction ps with
  | nil => simp [cat]
  | cons p r ih => simp [cat]; omega
theorem cat_mem {ps : List (List UInt8)} {p : List UInt8} (h : p ∈ ps) : p.length + 1 ≤ (cat ps).length := by
  induction ps with
  | nil => cases h
  | cons q r ih =>
    rcases List.mem_cons.1 h with rfl | h
    · simp [cat]
    · have := ih h
      simp [cat]
      omega
theorem cat_dropLast (st : List (List UInt8)) : (cat st.dropLast).length ≤ (cat st).length := by
  rcases List.eq_nil_or_concat st with rfl | ⟨a, b, rfl⟩
  · simp
  · simp [cat_append]
theorem cat_cleanFrom (ps st : List (List UInt8)) : (cat (cleanFrom st ps)).length ≤ (cat st).length + (cat ps).length := by
  induction ps generalizing st with
  | nil => simp [cleanFrom, cat]
  | cons p r ih =>
    have h1 := ih (stepC st p)
    have h2 : (cat (stepC st p)).length ≤ (cat st).length + p.length + 1 := by
      unfold stepC
      split
      · omega
      · split
        · have := cat_dropLast st; omega
        · simp [cat_append, cat]; omega
    have h3 : cleanFrom st (p :: r) = cleanFrom (stepC st p) r := rfl
    rw [h3]
    simp [cat]
    omega
theorem pathB_len {l : List UInt8} (h : pathB l = true) : 1 ≤ l.length ∧ l.length ≤ 60 := by
  simp only [pathB, Bool.and_eq_true, decide_eq_true_eq] at h
  exact ⟨h.1.1.1, h.1.1.2⟩
theorem parts_bound {l : List UInt8} (h : l.length ≤ 60) : (cat (partsL l)).length ≤ 61 := by
  have := cat_pAux l []
  simp at this
  unfold partsL
  omega
theorem clean_bound {l : List UInt8} (h : l.length ≤ 60) : (cat (cleanL (partsL l))).length ≤ 61 := by
  have h1 := parts_bound h
  have h2 := cat_cleanFrom (partsL l) []
  simp [cat] at h2
  unfold cleanL
  omega

end Go.Proofs.Ytmkofkdcjeidhaa
