/- A pick with bounds; what is appended to a Kept's row. -/
import Derived.Test.YtkilepoimocoeaaCKeptA
namespace Go.Proofs.Ytkilepoimocoeaa
open Go.RowKit
set_option linter.unusedVariables false
theorem en_news {w : World} (e : En) (T : TypeId) : ∀ j u, (enF [e])[j]? = some u → (w.alloc (.cells #[.int .i64 e.t, .string e.d] T)).cell? ((⟨w.heap.size, 0, none⟩ : Addr).add j) = some u := by
  intro j u hu
  simp only [enF, enC, List.flatMap_cons, List.flatMap_nil, List.append_nil] at hu
  rcases j with _ | _ | j <;> simp at hu <;> subst hu <;> simp [Addr.add, go_sem]
section
variable {N : Nat} {a : Option Addr} {len cap : Nat} {zs : List Int} {B : Nat}
def okIntsP (P : Int → Prop) (A : Array Value) : Prop := ∀ v ∈ A.toList, ∃ x : Int, v = .int .i64 x ∧ P x
theorem okIntsP_map (P : Int → Prop) (l : List Int) (h : ∀ x ∈ l, P x) : okIntsP P ((l.map (fun x => Value.int .i64 x)).toArray) := by
  intro v hv
  simp at hv
  obtain ⟨x, hx, rfl⟩ := hv
  exact ⟨x, rfl, h x hx⟩
set_option maxHeartbeats 400000 in
theorem pickIntP_any (P : Int → Prop) (k : Nat) (A : Array Value) (w : World) (c : Cur N a len cap zs B w) (hA : okIntsP P A) (hk : A.size = k) (h1 : 1 ≤ k) (h2 : k ≤ 256) :
    Calls Try.prog 45 #[.pointer (some ⟨B, 0, none⟩), .slice (some ⟨w.heap.size, 0, none⟩) k k] (w.alloc (.cells A 3)) fun e w' => ∃ x : Int, e = .returned (.int .i64 x) ∧ P x ∧ Cur N a len cap zs B w' ∧ w.grownBy w' (some B) := by
  have hlt := c.lt
  have C := Hid.intro (c.alloc (.cells A 3))
  have HA := Hid.intro hA
  have HK := Hid.intro hk
  clear c hA hk
  go_enter Try.func45, Try.ntmps45
  go_wp2_with fail
  refine (belowC_any (k : Int) _ C.out (by omega) (by omega)).mono ?_
  rintro e w1 ⟨x, rfl, x0, x1, c1, g1⟩
  obtain ⟨j, rfl⟩ := Int.eq_ofNat_of_zero_le x0
  obtain ⟨s, hp, hc⟩ : ∃ s : Int, P s ∧ w1.cell? ⟨w.heap.size, j, none⟩ = some (.int .i64 s) := by
    have hj : j < A.size := by rw [HK.out]; omega
    obtain ⟨s, hv, hp⟩ := HA.out A[j] (by simp)
    refine ⟨s, hp, g1.cell ?_ (by simp; omega)⟩
    rw [World.cell?_alloc_at _ _ _ _ rfl, Array.getElem?_eq_getElem hj, hv]
  have HP := Hid.intro hp
  have gg := grown_alloc_first g1
  clear g1 hp
  go_wp2
  go_ret
  exact ⟨s, rfl, HP.out, c1, gg⟩
/-- What is appended to the variable's row. -/
theorem DK.app {w u u' X : World} {q b : Nat} {K : Kp} {v v' : Value} {L : List En} (h : DK N a len cap zs B w X q b K v) (ho : Only (fun k => some k = v.ownBlock) X u') (own : OwnX u' w.heap.size v' L) (loc : v'.ownBlock = v.ownBlock ∨ v'.ownBlock = some X.heap.size) : DK N a len cap zs B w (u'.setCell ⟨b, 5, none⟩ v') q b { K with e := L } v' :=
  h.grow X (Below.refl _ _) ho own loc
theorem DK.appx {w u' X : World} {q b : Nat} {K : Kp} {v : Value} (h : DK N a len cap zs B w X q b K v) (ho : Only (fun k => some k = v.ownBlock) X u') : Blk u' b #[.int .i64 K.t, .int .i64 K.v, .int .i64 K.si, .int .i64 K.st, .string K.sd, v] :=
  h.x.only ho (fun e => (h.ne b e.symm).1 rfl)
/-- Another block is written. -/
theorem DK.aside {w u u' : World} {q b : Nat} {K : Kp} {v : Value} {sb : Nat} (h : DK N a len cap zs B w u q b K v) (ho : Only (fun k => k = sb) u u') (h1 : b < sb) (h2 : q < sb) (h3 : w.heap.size ≤ sb) (h4 : B < sb) (hn : ∀ k, v.ownBlock = some k → k ≠ sb) : DK N a len cap zs B w u' q b K v :=
  ⟨h.hB, h.r.only ho (by omega), h.x.only ho (by omega), h.hq, h.hb, h.own.only ho (fun k hk e => hn k hk e), h.ne, h.cur.only ho (by intro k hk; omega), Only.then h.o ho (by intro k hk e; omega)⟩
end
end Go.Proofs.Ytkilepoimocoeaa
