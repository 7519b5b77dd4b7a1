/- The sentence's small functions of volumes: the place of an inode, bytes, names. -/
import Derived.Test.YtmkegmndcbpblaaGreatDoorVRow
import Derived.Test.YtmkegmndcbpblaaGreatDoorVName
namespace Go.Proofs.YtmkegmndcbpblaaGreatDoor
open Go.RowKit
set_option linter.unusedVariables false
def atI (L : List Nd) (id : Int) : Int := match atN L id with | some i => i | none => -1
theorem atI_some {L : List Nd} {id : Int} {i : Nat} (h : atN L id = some i) : atI L id = i := by simp [atI, h]
theorem atI_none {L : List Nd} {id : Int} (h : atN L id = none) : atI L id = -1 := by simp [atI, h]
theorem atN_hit {L : List Np} {id : Int} {j : Nat} (hj : j < L.length) (h : ∀ p ∈ L.take j, ¬ p.n.id = id) (he : L[j].n.id = id) : atN (L.map Np.n) id = some j := by
 rw [atN_some]
 refine ⟨by simpa using hj, by simpa using he, fun i hi => ?_⟩
 have := h (L[i]'(by omega)) (by rw [List.mem_take_iff_getElem]; exact ⟨i, by omega, rfl⟩)
 simpa using this
theorem atN_miss {L : List Np} {id : Int} (h : ∀ p ∈ L, ¬ p.n.id = id) : atN (L.map Np.n) id = none := by
 rw [atN_none]
 intro n hn
 obtain ⟨p, hp, rfl⟩ := List.mem_map.1 hn
 exact h p hp
theorem take_step {L : List Np} {P : Np → Prop} {j : Nat} (hj : j < L.length) (h : ∀ p ∈ L.take j, P p) (he : P L[j]) : ∀ p ∈ L.take (j + 1), P p := by
 intro p hp
 rw [List.take_succ_eq_append_getElem hj] at hp
 rcases List.mem_append.1 hp with hp | hp
 ·exact h p hp
 ·rw [List.mem_singleton.1 hp]; exact he
set_option maxRecDepth 100000 in
set_option maxHeartbeats 2000000 in
theorem l4At_any (next : Int) (L : List Np) (u : Value) (N : Nat) (id : Int) (w : World) (hN : N ≤ w.heap.size) (hr : VolR w N u L) :
  Calls Tryz.prog 35 #[volV next u, .int .i64 id] w fun e w' => e = .returned (.int .i64 (atI (L.map Np.n) id)) ∧ Below w.heap.size w w' := by
 obtain ⟨a, cap, rfl, hl, hm, hcells⟩ := ndE_cell hr.row
 have HC := Hid.intro hcells
 clear hcells hr
 go_enter Tryz.func35, Tryz.ntmps35
 go_wp2_with fail
 obtain ⟨W, hW, bW, zW, cW, fW⟩ := boxed w #[.int .i64 next, .slice a L.length cap] 35
 try simp only [hW]
 clear hW fW
 go_loopw [5] (fun i wr => ∃ (j : Nat), i = .int .i64 j ∧ j ≤ L.length ∧ Hid (∀ p ∈ L.take j, ¬ p.n.id = id) ∧ W = wr) (fun i _ => L.length - (intOf i).toNat)
 case atStart => exact ⟨0, rfl, Nat.zero_le _, by unfold Hid; simp, rfl⟩
 case round =>
  obtain ⟨j, rfl, hj, HF, rfl⟩ := hrel
  by_cases hlt : j < L.length
  ·obtain ⟨b, off, rfl, hbN, hcc⟩ := HC.out (by intro h; rw [h] at hlt; simp at hlt)
   have hc := hcc j hlt
   have hhit := @atN_hit L id j hlt HF.out
   have hmiss := @take_step L (fun p => ¬ p.n.id = id) j hlt HF.out
   generalize L[j] = ej at hc hhit hmiss
   have g0 := (hc.kept bW (by omega)).c0
   have HH := Hid.intro hhit
   have HMI := Hid.intro hmiss
   clear hcc hc hhit hmiss
   by_cases he : ej.n.id = id
   ·have HE := Hid.intro (atI_some (HH.out he))
    have n1 : (ej.n.id == id) = true := by simpa using he
    clear he
    go_wp2
    go_ret
    exact ⟨by rw [HE.out]; rfl, bW⟩
   ·have HE := Hid.intro (HMI.out he)
    have n1 : (ej.n.id == id) = false := by simpa using he
    clear he
    go_wp2
    go_roundw
    case rel => exact ⟨j + 1, by go_num, by omega, HE, by first | rfl | trivial⟩
    case measure => simp [intOf]; omega
  ·obtain rfl : j = L.length := by omega
   have hmi : atI (L.map Np.n) id = -1 := atI_none (atN_miss (by have := HF.out; rwa [List.take_length] at this))
   have HE := Hid.intro hmi
   clear hmi
   go_wp2
   go_ret
   exact ⟨by rw [HE.out]; rfl, bW⟩
def bytesN (L : List Nd) : Int := (L.map fun n => (n.data.size : Int)).sum
def idsN (l : List Di) (id : Int) : Nat := l.countP fun e => decide (e.id = id)
def namedN (L : List Nd) (id : Int) : Nat := (L.map fun n => idsN n.names id).sum
theorem bytesN_snoc (L : List Nd) (n : Nd) : bytesN (L ++ [n]) = bytesN L + n.data.size := by simp [bytesN]
theorem namedN_snoc (L : List Nd) (n : Nd) (id : Int) : namedN (L ++ [n]) id = namedN L id + idsN n.names id := by simp [namedN]
theorem idsN_snoc (l : List Di) (e : Di) (id : Int) : idsN (l ++ [e]) id = idsN l id + if e.id = id then 1 else 0 := by
 unfold idsN
 rw [List.countP_append, List.countP_singleton]
 simp
theorem idsN_le (l : List Di) (id : Int) : idsN l id ≤ l.length := List.countP_le_length
/-- So small are the inodes. -/
def SmN (L : List Np) : Prop := L.length ≤ 24 ∧ ∀ p ∈ L, p.n.data.size ≤ 64 ∧ p.n.names.length ≤ 12
theorem bytesN_le {L : List Np} {k : Nat} (h : ∀ p ∈ L, p.n.data.size ≤ k) : bytesN (L.map Np.n) ≤ L.length * (k : Int) ∧ 0 ≤ bytesN (L.map Np.n) := by
 induction L with
 | nil => simp [bytesN]
 | cons p L ih =>
  have h1 := ih fun q hq => h q (List.mem_cons_of_mem _ hq)
  have h2 := h p (by simp)
  simp only [bytesN, List.map_cons, List.sum_cons, List.length_cons] at h1 ⊢
  have e : ((L.length + 1 : Nat) : Int) * (k : Int) = L.length * (k : Int) + k := by rw [Int.natCast_add, Int.add_mul]; simp
  rw [e]
  omega
theorem namedN_le {L : List Np} {id : Int} {k : Nat} (h : ∀ p ∈ L, p.n.names.length ≤ k) : namedN (L.map Np.n) id ≤ L.length * k := by
 induction L with
 | nil => simp [namedN]
 | cons p L ih =>
  have h1 := ih fun q hq => h q (List.mem_cons_of_mem _ hq)
  have h2 := h p (by simp)
  have h3 := idsN_le p.n.names id
  simp only [namedN, List.map_cons, List.sum_cons, List.length_cons] at h1 ⊢
  rw [Nat.add_mul]
  omega
set_option maxRecDepth 100000 in
set_option maxHeartbeats 2000000 in
theorem l4Bytes_any (next : Int) (L : List Np) (u : Value) (N : Nat) (w : World) (hN : N ≤ w.heap.size) (hr : VolR w N u L) (hs : SmN L) :
  Calls Tryz.prog 30 #[volV next u] w fun e w' => e = .returned (.int .i64 (bytesN (L.map Np.n))) ∧ Below w.heap.size w w' := by
 obtain ⟨a, cap, rfl, hl, hm, hcells⟩ := ndE_cell hr.row
 have HC := Hid.intro hcells
 have HS := Hid.intro hs.2
 have hle := hs.1
 clear hcells hr hs
 go_enter Tryz.func30, Tryz.ntmps30
 go_wp2_with fail
 obtain ⟨W, hW, bW, zW, cW, fW⟩ := boxed w #[.int .i64 next, .slice a L.length cap] 35
 try simp only [hW]
 clear hW fW
 go_loopw [3, 4] (fun q i wr => ∃ (j : Nat) (x : Int), i = .int .i64 j ∧ q = .int .i64 x ∧ j ≤ L.length ∧ Hid (x = bytesN ((L.take j).map Np.n)) ∧ 0 ≤ x ∧ x ≤ j * 64 ∧ W = wr) (fun _ i _ => L.length - (intOf i).toNat)
 case atStart => exact ⟨0, 0, rfl, rfl, Nat.zero_le _, by unfold Hid; simp [bytesN], by omega, by omega, rfl⟩
 case round =>
  obtain ⟨j, x, rfl, rfl, hj, HF, hx0, hx1, rfl⟩ := hrel
  by_cases hlt : j < L.length
  ·obtain ⟨b, off, rfl, hbN, hcc⟩ := HC.out (by intro h; rw [h] at hlt; simp at hlt)
   have hc := hcc j hlt
   have hst : bytesN ((L.take (j + 1)).map Np.n) = x + L[j].n.data.size := by rw [List.take_succ_eq_append_getElem hlt, List.map_append, List.map_singleton, bytesN_snoc, HF.out]
   have h64 := (HS.out _ (List.getElem_mem hlt)).1
   generalize L[j] = ej at hc hst h64
   have g5 := (hc.kept bW (by omega)).c5
   have HST := Hid.intro hst
   clear hcc hc hst
   go_wp2
   go_roundw
   case rel => exact ⟨j + 1, x + ej.n.data.size, by go_num, by go_num, by omega, HST.out.symm, by omega, by omega, by first | rfl | trivial⟩
   case measure => simp [intOf]; omega
  ·obtain rfl : j = L.length := by omega
   have HE := HF.out
   rw [List.take_length] at HE
   have HE2 := Hid.intro HE
   clear HE
   go_wp2
   go_ret
   exact ⟨by rw [← HE2.out]; rfl, bW⟩
end Go.Proofs.YtmkegmndcbpblaaGreatDoor
