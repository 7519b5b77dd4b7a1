/- The sentence's l6Cut: what stands between the 47s. -/
import Derived.Test.YtmkegmndcbpblaaGreatDoorWTodo
namespace Go.Proofs.YtmkegmndcbpblaaGreatDoor
open Go.RowKit
set_option linter.unusedVariables false
set_option maxRecDepth 100000 in
set_option maxHeartbeats 1000000 in
theorem l6Cut_any (s : ByteArray) (w : World) (hs : s.size ≤ 60) :
  Calls Tryz.prog 33 #[.string s] w fun e w' => ∃ v, e = .returned v ∧ RowS w' w.heap.size v (partsL s.data.toList) ∧ Below w.heap.size w w' := by
 obtain ⟨i0, hi0, hz0, hz1, hz2⟩ := info_parts infoStr
 have hlen := size_data s
 have HL := Hid.intro hlen
 clear hlen
 go_enter Tryz.func33, Tryz.ntmps33
 go_wp2
 go_loopw [3, 4, 5] (fun v c i wr => ∃ (k f : Nat) (L : List (List UInt8)), i = .int .i64 k ∧ c = .int .i64 f ∧ k ≤ s.size + 1 ∧ f ≤ s.size + 1 ∧ Hid (PInv s.data.toList k f L) ∧ RowS wr w.heap.size v L ∧ Below w.heap.size w wr) (fun _ _ i _ => s.size + 1 - (intOf i).toNat)
 case atStart => exact ⟨0, 0, [], rfl, rfl, by omega, by omega, PInv.start _, startS w, (Below.refl _ _).alloc (Nat.le_refl _) _⟩
 case round =>
  obtain ⟨k, f, L, rfl, rfl, hk, hf, HP, hrow, hbel⟩ := hrel
  have hbs := hbel.size
  have hL : L.length ≤ k := HP.out.1
  by_cases hlt : k < s.size
  ·have HE : Hid (s.data.toList[k]'(by rw [size_data]; exact hlt) = s[k]) := rfl
   cases hc : ((s[k].toNat : Int) == 47) with
   | false =>
    have HC := Hid.intro hc
    go_wp2
    go_roundw
    case rel => exact ⟨k + 1, f, L, by go_num, rfl, by omega, hf, HP.out.on (by rw [size_data]; exact hlt) (by rw [HE.out]; intro e; rw [is47] at e; have := HC.out; simp [e] at this), hrow, hbel⟩
    case measure => simp [intOf]; omega
   | true =>
    have HC : Hid (s[k] = 47) := by unfold Hid; rw [is47]; simpa using hc
    by_cases hfk : (f : Int) < (k : Int)
    ·have hfk' : f ≤ k := by omega
     have hks : k ≤ s.size := by omega
     go_wp2_with (at_builtin; refine wpList_append_own _ rfl _ _ 71 rfl w.heap.size 9 i0 (.string ⟨#[]⟩) 1 16 Tryz.underlying71 hi0 hz0 hz1 hz2 rfl (by decide) _ _ _ rfl (World.ownsRow.alloc hrow _) ⟨wr.heap.size, 0, none⟩ 1 1 [.string (s.extract f k)] rfl rfl ?c1A ?c2A ?c3A ?c4A ?c5A ?_)
     case c1A => exact cell_one_new _ _ _
     case c2A => intro u hu; simp at hu; subst hu; rfl
     case c3A => unfold maxLen; omega
     case c4A => omega
     case c5A => simp; omega
     intro v' w4 hown' hgrow _
     have hrow' := RowS.snoc hown'
     have hb' := hrow.bel hbel hbs hgrow
     clear hgrow hown' hrow hbel
     go_wp2
     go_roundw
     case rel => exact ⟨k + 1, k + 1, L ++ [seg s.data.toList f k], by go_num, by go_num, by omega, by omega, HP.out.part (by omega) (by rw [size_data]; exact hlt) (by rw [HE.out]; exact HC.out), hrow', hb'⟩
     case measure => simp [intOf]; omega
    ·go_wp2
     go_roundw
     case rel => exact ⟨k + 1, k + 1, L, by go_num, by go_num, by omega, by omega, HP.out.skip (by omega) (by rw [size_data]; exact hlt) (by rw [HE.out]; exact HC.out), hrow, hbel⟩
     case measure => simp [intOf]; omega
  ·by_cases heq : k = s.size
   ·subst heq
    by_cases hfk : (f : Int) < (s.size : Int)
    ·have hfk' : f ≤ s.size := by omega
     go_wp2_with (at_builtin; refine wpList_append_own _ rfl _ _ 71 rfl w.heap.size 9 i0 (.string ⟨#[]⟩) 1 16 Tryz.underlying71 hi0 hz0 hz1 hz2 rfl (by decide) _ _ _ rfl (World.ownsRow.alloc hrow _) ⟨wr.heap.size, 0, none⟩ 1 1 [.string (s.extract f s.size)] rfl rfl ?c1B ?c2B ?c3B ?c4B ?c5B ?_)
     case c1B => exact cell_one_new _ _ _
     case c2B => intro u hu; simp at hu; subst hu; rfl
     case c3B => unfold maxLen; omega
     case c4B => omega
     case c5B => simp; omega
     intro v' w4 hown' hgrow _
     have hrow' := RowS.snoc hown'
     have hb' := hrow.bel hbel hbs hgrow
     clear hgrow hown' hrow hbel
     have HQ : Hid (PInv s.data.toList (s.size + 1) (s.size + 1) (L ++ [seg s.data.toList f s.size])) := by
      have h1 := HP.out
      unfold Hid
      rw [← HL.out] at h1 ⊢
      exact h1.last (by rw [HL.out]; omega)
     go_wp2
     go_roundw
     case rel => exact ⟨s.size + 1, s.size + 1, L ++ [seg s.data.toList f s.size], by go_num, by go_num, by omega, by omega, HQ, hrow', hb'⟩
     case measure => simp [intOf]
    ·have HQ : Hid (PInv s.data.toList (s.size + 1) (s.size + 1) L) := by
      have h1 := HP.out
      unfold Hid
      rw [← HL.out] at h1 ⊢
      exact h1.none (by rw [HL.out]; omega)
     go_wp2
     go_roundw
     case rel => exact ⟨s.size + 1, s.size + 1, L, by go_num, by go_num, by omega, by omega, HQ, hrow, hbel⟩
     case measure => simp [intOf]
   ·have HE : Hid (L = partsL s.data.toList) := HP.out.done (by rw [size_data]; omega)
    have HR := Hid.intro hrow
    clear hrow
    go_wp2
    go_ret
    exact ⟨_, rfl, by rw [← HE.out]; exact HR.out, hbel⟩
end Go.Proofs.YtmkegmndcbpblaaGreatDoor
