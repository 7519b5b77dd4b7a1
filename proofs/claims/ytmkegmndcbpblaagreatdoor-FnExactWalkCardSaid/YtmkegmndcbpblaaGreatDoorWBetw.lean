/- The program's between: what stands between the 47s. -/
import Derived.Test.YtmkegmndcbpblaaGreatDoorWTodo
import Derived.Test.YtmkegmndcbpblaaGreatDoorTClone
import Derived.WalkMore
import Derived.ScopeJumps
namespace Go.Proofs.YtmkegmndcbpblaaGreatDoor
open Go.RowKit
set_option linter.unusedVariables false
theorem seg_size_le (s : ByteArray) (a b : Nat) : (ByteArray.mk (seg s.data.toList a b).toArray).size ≤ s.size := by
 show (seg s.data.toList a b).toArray.size ≤ s.size
 rw [List.size_toArray, ← size_data s]
 simp [seg]
 omega
set_option maxHeartbeats 1000000 in
set_option maxRecDepth 1000000 in
theorem between_any (s : ByteArray) (w : World) (hs : s.size ≤ 60) :
  Calls Tryz.prog 57 #[.string s] w fun e w' => ∃ v, e = .returned v ∧ RowS w' w.heap.size v (partsL s.data.toList) ∧ Below w.heap.size w w' := by
 obtain ⟨i0, hi0, hz0, hz1, hz2⟩ := info_parts infoStr
 go_enter Tryz.func57, Tryz.ntmps57
 go_wp2
 refine wp_scope_jumps 0 (fun a' w' => ∃ (k : Nat) (L : List (List UInt8)) (v u5 u6 u7 u8 u9 u10 u11 u12 u13 u14 u15 u16 u17 u18 u19 u20 u21 u22 u23 u24 u25 u26 u27 u28 u29 u30 u31 u32 u33 u34 u35 u36 u37 u38 u39 u40 u41 u42 u43 : Value), a' = { tmps := #[.string s, undef, .slice none 0 0, v, .int .i64 (k : Nat), u5, u6, u7, u8, u9, u10, u11, u12, u13, u14, u15, u16, u17, u18, u19, u20, u21, u22, u23, u24, u25, u26, u27, u28, u29, u30, u31, u32, u33, u34, u35, u36, u37, u38, u39, u40, u41, u42, u43], defers := [] } ∧ k ≤ s.size ∧ L.length ≤ k ∧ Hid (L ++ at1 s.data.toList k k = partsL s.data.toList) ∧ RowS w' w.heap.size v L ∧ Below w.heap.size w w') (fun a' _ => s.size - (intOf (a'.tmps.getD 4 undef)).toNat) rfl ?_ ?_
 ·go_wp2
  go_step3
  go_wp2
  obtain ⟨k0, L, hk0e, hk0, hL, HP, hrow⟩ : ∃ (k0 : Nat) (L : List (List UInt8)), k0 = 0 ∧ k0 ≤ s.size ∧ L.length ≤ k0 ∧ Hid (L ++ at1 s.data.toList k0 k0 = partsL s.data.toList) ∧ RowS w w.heap.size (.slice none 0 0) L := ⟨0, [], rfl, by omega, by simp, rfl, World.ownsRow_nil _ _ _ _⟩
  have hbel := Below.refl w.heap.size w
  have e0 : Value.int .i64 0 = .int .i64 (k0 : Nat) := by rw [hk0e]; rfl
  have E0 := Hid.intro e0
  clear e0 hk0e
  go_loop [4] (fun c => ∃ k : Nat, k0 ≤ k ∧ k ≤ s.size ∧ c = .int .i64 k ∧ Hid (L ++ at1 s.data.toList k k = partsL s.data.toList)) (fun c => s.size - (intOf c).toNat)
  case atStart => exact ⟨k0, Nat.le_refl _, hk0, E0.out, HP⟩
  case round =>
   obtain ⟨k, hkk, hk, rfl, HP1⟩ := hrel
   clear HP
   by_cases hlt : k < s.size
   ·have HE : Hid (s.data.toList[k]'(by rw [size_data]; exact hlt) = s[k]) := rfl
    have g1 : (k : Int) < (s.size : Int) := by omega
    have g2 : ((k : Int) == (s.size : Int)) = false := by simp; omega
    cases hc : ((s[k].toNat : Int) == 47) with
    | true =>
     have HC : Hid (s[k] = 47) := by unfold Hid; rw [is47]; simpa using hc
     go_wp2
     go_round
     case rel => exact ⟨k + 1, by omega, by omega, by go_num, by have h1 := HP1.out; unfold Hid; rw [← at1_skip (by rw [size_data]; exact hlt) (by rw [HE.out]; exact HC.out)]; exact h1⟩
     case measure => simp [intOf]; omega
    | false =>
     have HC : Hid (s[k] ≠ 47) := by unfold Hid; intro e; rw [is47] at e; simp [e] at hc
     go_wp2_with fail
     clear hc g2
     go_loop [4] (fun c => ∃ j : Nat, k ≤ j ∧ j ≤ s.size ∧ c = .int .i64 j ∧ Hid (L ++ at1 s.data.toList k j = partsL s.data.toList)) (fun c => s.size - (intOf c).toNat)
     case atStart => exact ⟨k, Nat.le_refl _, hk, rfl, HP1⟩
     case round =>
      obtain ⟨j, hkj, hj, rfl, HP2⟩ := hrel
      clear HP1
      by_cases hjs : j < s.size
      ·have HF : Hid (s.data.toList[j]'(by rw [size_data]; exact hjs) = s[j]) := rfl
       have g1 : (j : Int) < (s.size : Int) := by omega
       cases hd : ((s[j].toNat : Int) != 47) with
       | true =>
        have HD : Hid (s[j] ≠ 47) := by unfold Hid; intro e; rw [is47] at e; simp [e] at hd
        go_wp2
        go_round
        case rel => exact ⟨j + 1, by omega, by omega, by go_num, by have h1 := HP2.out; unfold Hid; rw [← at1_on hkj (by rw [size_data]; exact hjs) (by rw [HF.out]; exact HD.out)]; exact h1⟩
        case measure => simp [intOf]; omega
       | false =>
        have HD : Hid (s[j] = 47) := by unfold Hid; rw [is47]; simpa using hd
        have hne : k ≠ j := by
         intro e
         subst e
         exact HC.out HD.out
        have HQ : Hid ((L ++ [seg s.data.toList k j]) ++ at1 s.data.toList j j = partsL s.data.toList) := by
         have h1 := HP2.out
         unfold Hid
         rw [at1_part' (by omega) (by rw [size_data]; exact hjs) (by rw [HF.out]; exact HD.out)] at h1
         rw [← h1]; simp
        clear HP2 HF HD HC HE
        go_wp2_with fail
        refine (clone_any _ _ (by rw [extract_seg]; exact Nat.le_trans (seg_size_le s k j) (by omega))).mono ?_
        rintro e w5 ⟨rfl, b5⟩
        have hrow5 := hrow.kept b5
        have hbel5 := hbel.trans (b5.mono hbel.size)
        have hbs5 := hbel5.size
        clear hrow hbel b5
        go_wp2_with (at_builtin; refine wpList_append_own _ rfl _ _ 71 rfl w.heap.size 9 i0 (.string ⟨#[]⟩) 1 16 Tryz.underlying71 hi0 hz0 hz1 hz2 rfl (by decide) _ _ _ rfl (World.ownsRow.alloc hrow5 _) ⟨w5.heap.size, 0, none⟩ 1 1 [.string (s.extract k j)] rfl rfl ?c1XA ?c2XA ?c3XA ?c4XA ?c5XA ?_)
        case c1XA => exact cell_one_new _ _ _
        case c2XA => intro u hu; simp at hu; subst hu; rfl
        case c3XA => unfold maxLen; omega
        case c4XA => omega
        case c5XA => simp; omega
        intro v' w6 hown' hgrow _
        have hrow' := RowS.snoc hown'
        have hb' := hrow5.bel hbel5 hbs5 hgrow
        clear hgrow hown' hrow5 hbel5
        go_wp2
        go_step3
        exact ⟨rfl, j, L ++ [seg s.data.toList k j], v', _, _, _, _, _, _, _, _, _, _, _, _, _, _, _, _, _, _, _, _, _, _, _, _, _, _, _, _, _, _, _, _, _, _, _, _, _, _, _, rfl, by omega, by simp; omega, HQ, hrow', hb'⟩

      ·obtain rfl : j = s.size := by omega
       have HQ : Hid ((L ++ [seg s.data.toList k s.size]) ++ at1 s.data.toList s.size s.size = partsL s.data.toList) := by
        have h1 := HP2.out
        have hl := size_data s
        unfold Hid
        rw [← hl] at h1 ⊢
        rw [at1_last (by rw [hl]; exact hlt)] at h1
        rw [at1_done, List.append_nil, h1]
       clear HP2 HC HE
       go_wp2_with fail
       refine (clone_any _ _ (by rw [extract_seg]; exact Nat.le_trans (seg_size_le s k s.size) (by omega))).mono ?_
       rintro e w5 ⟨rfl, b5⟩
       have hrow5 := hrow.kept b5
       have hbel5 := hbel.trans (b5.mono hbel.size)
       have hbs5 := hbel5.size
       clear hrow hbel b5
       go_wp2_with (at_builtin; refine wpList_append_own _ rfl _ _ 71 rfl w.heap.size 9 i0 (.string ⟨#[]⟩) 1 16 Tryz.underlying71 hi0 hz0 hz1 hz2 rfl (by decide) _ _ _ rfl (World.ownsRow.alloc hrow5 _) ⟨w5.heap.size, 0, none⟩ 1 1 [.string (s.extract k s.size)] rfl rfl ?c1XB ?c2XB ?c3XB ?c4XB ?c5XB ?_)
       case c1XB => exact cell_one_new _ _ _
       case c2XB => intro u hu; simp at hu; subst hu; rfl
       case c3XB => unfold maxLen; omega
       case c4XB => omega
       case c5XB => simp; omega
       intro v' w6 hown' hgrow _
       have hrow' := RowS.snoc hown'
       have hb' := hrow5.bel hbel5 hbs5 hgrow
       clear hgrow hown' hrow5 hbel5
       go_wp2
       go_step3
       exact ⟨rfl, s.size, L ++ [seg s.data.toList k s.size], v', _, _, _, _, _, _, _, _, _, _, _, _, _, _, _, _, _, _, _, _, _, _, _, _, _, _, _, _, _, _, _, _, _, _, _, _, _, _, _, rfl, by omega, by simp; omega, HQ, hrow', hb'⟩

   ·obtain rfl : k = s.size := by omega
    have HQ : Hid (L = partsL s.data.toList) := by
     have h1 := HP1.out
     unfold Hid
     rw [← size_data s, at1_done, List.append_nil] at h1
     exact h1
    clear HP1
    have HR := Hid.intro hrow
    clear hrow
    go_wp2
    simp only [Exit.jump]
    go_ret
    exact ⟨_, rfl, by rw [← HQ.out]; exact HR.out, hbel⟩

 ·rintro a' wr ⟨k0, L, v, u5, u6, u7, u8, u9, u10, u11, u12, u13, u14, u15, u16, u17, u18, u19, u20, u21, u22, u23, u24, u25, u26, u27, u28, u29, u30, u31, u32, u33, u34, u35, u36, u37, u38, u39, u40, u41, u42, u43, rfl, hk0, hL, HP, hrow, hbel⟩
  go_wp2
  go_loop [4] (fun c => ∃ k : Nat, k0 ≤ k ∧ k ≤ s.size ∧ c = .int .i64 k ∧ Hid (L ++ at1 s.data.toList k k = partsL s.data.toList)) (fun c => s.size - (intOf c).toNat)
  case atStart => exact ⟨k0, Nat.le_refl _, hk0, rfl, HP⟩
  case round =>
   obtain ⟨k, hkk, hk, rfl, HP1⟩ := hrel
   clear HP
   by_cases hlt : k < s.size
   ·have HE : Hid (s.data.toList[k]'(by rw [size_data]; exact hlt) = s[k]) := rfl
    have g1 : (k : Int) < (s.size : Int) := by omega
    have g2 : ((k : Int) == (s.size : Int)) = false := by simp; omega
    cases hc : ((s[k].toNat : Int) == 47) with
    | true =>
     have HC : Hid (s[k] = 47) := by unfold Hid; rw [is47]; simpa using hc
     go_wp2
     go_round
     case rel => exact ⟨k + 1, by omega, by omega, by go_num, by have h1 := HP1.out; unfold Hid; rw [← at1_skip (by rw [size_data]; exact hlt) (by rw [HE.out]; exact HC.out)]; exact h1⟩
     case measure => simp [intOf]; omega
    | false =>
     have HC : Hid (s[k] ≠ 47) := by unfold Hid; intro e; rw [is47] at e; simp [e] at hc
     go_wp2_with fail
     clear hc g2
     go_loop [4] (fun c => ∃ j : Nat, k ≤ j ∧ j ≤ s.size ∧ c = .int .i64 j ∧ Hid (L ++ at1 s.data.toList k j = partsL s.data.toList)) (fun c => s.size - (intOf c).toNat)
     case atStart => exact ⟨k, Nat.le_refl _, hk, rfl, HP1⟩
     case round =>
      obtain ⟨j, hkj, hj, rfl, HP2⟩ := hrel
      clear HP1
      by_cases hjs : j < s.size
      ·have HF : Hid (s.data.toList[j]'(by rw [size_data]; exact hjs) = s[j]) := rfl
       have g1 : (j : Int) < (s.size : Int) := by omega
       cases hd : ((s[j].toNat : Int) != 47) with
       | true =>
        have HD : Hid (s[j] ≠ 47) := by unfold Hid; intro e; rw [is47] at e; simp [e] at hd
        go_wp2
        go_round
        case rel => exact ⟨j + 1, by omega, by omega, by go_num, by have h1 := HP2.out; unfold Hid; rw [← at1_on hkj (by rw [size_data]; exact hjs) (by rw [HF.out]; exact HD.out)]; exact h1⟩
        case measure => simp [intOf]; omega
       | false =>
        have HD : Hid (s[j] = 47) := by unfold Hid; rw [is47]; simpa using hd
        have hne : k ≠ j := by
         intro e
         subst e
         exact HC.out HD.out
        have HQ : Hid ((L ++ [seg s.data.toList k j]) ++ at1 s.data.toList j j = partsL s.data.toList) := by
         have h1 := HP2.out
         unfold Hid
         rw [at1_part' (by omega) (by rw [size_data]; exact hjs) (by rw [HF.out]; exact HD.out)] at h1
         rw [← h1]; simp
        clear HP2 HF HD HC HE
        go_wp2_with fail
        refine (clone_any _ _ (by rw [extract_seg]; exact Nat.le_trans (seg_size_le s k j) (by omega))).mono ?_
        rintro e w5 ⟨rfl, b5⟩
        have hrow5 := hrow.kept b5
        have hbel5 := hbel.trans (b5.mono hbel.size)
        have hbs5 := hbel5.size
        clear hrow hbel b5
        go_wp2_with (at_builtin; refine wpList_append_own _ rfl _ _ 71 rfl w.heap.size 9 i0 (.string ⟨#[]⟩) 1 16 Tryz.underlying71 hi0 hz0 hz1 hz2 rfl (by decide) _ _ _ rfl (World.ownsRow.alloc hrow5 _) ⟨w5.heap.size, 0, none⟩ 1 1 [.string (s.extract k j)] rfl rfl ?c1YA ?c2YA ?c3YA ?c4YA ?c5YA ?_)
        case c1YA => exact cell_one_new _ _ _
        case c2YA => intro u hu; simp at hu; subst hu; rfl
        case c3YA => unfold maxLen; omega
        case c4YA => omega
        case c5YA => simp; omega
        intro v' w6 hown' hgrow _
        have hrow' := RowS.snoc hown'
        have hb' := hrow5.bel hbel5 hbs5 hgrow
        clear hgrow hown' hrow5 hbel5
        go_wp2
        go_step3
        refine ⟨rfl, ⟨j, L ++ [seg s.data.toList k j], v', _, _, _, _, _, _, _, _, _, _, _, _, _, _, _, _, _, _, _, _, _, _, _, _, _, _, _, _, _, _, _, _, _, _, _, _, _, _, _, rfl, by omega, by simp; omega, HQ, hrow', hb'⟩, ?_⟩
        simp [intOf]; omega

      ·obtain rfl : j = s.size := by omega
       have HQ : Hid ((L ++ [seg s.data.toList k s.size]) ++ at1 s.data.toList s.size s.size = partsL s.data.toList) := by
        have h1 := HP2.out
        have hl := size_data s
        unfold Hid
        rw [← hl] at h1 ⊢
        rw [at1_last (by rw [hl]; exact hlt)] at h1
        rw [at1_done, List.append_nil, h1]
       clear HP2 HC HE
       go_wp2_with fail
       refine (clone_any _ _ (by rw [extract_seg]; exact Nat.le_trans (seg_size_le s k s.size) (by omega))).mono ?_
       rintro e w5 ⟨rfl, b5⟩
       have hrow5 := hrow.kept b5
       have hbel5 := hbel.trans (b5.mono hbel.size)
       have hbs5 := hbel5.size
       clear hrow hbel b5
       go_wp2_with (at_builtin; refine wpList_append_own _ rfl _ _ 71 rfl w.heap.size 9 i0 (.string ⟨#[]⟩) 1 16 Tryz.underlying71 hi0 hz0 hz1 hz2 rfl (by decide) _ _ _ rfl (World.ownsRow.alloc hrow5 _) ⟨w5.heap.size, 0, none⟩ 1 1 [.string (s.extract k s.size)] rfl rfl ?c1YB ?c2YB ?c3YB ?c4YB ?c5YB ?_)
       case c1YB => exact cell_one_new _ _ _
       case c2YB => intro u hu; simp at hu; subst hu; rfl
       case c3YB => unfold maxLen; omega
       case c4YB => omega
       case c5YB => simp; omega
       intro v' w6 hown' hgrow _
       have hrow' := RowS.snoc hown'
       have hb' := hrow5.bel hbel5 hbs5 hgrow
       clear hgrow hown' hrow5 hbel5
       go_wp2
       go_step3
       refine ⟨rfl, ⟨s.size, L ++ [seg s.data.toList k s.size], v', _, _, _, _, _, _, _, _, _, _, _, _, _, _, _, _, _, _, _, _, _, _, _, _, _, _, _, _, _, _, _, _, _, _, _, _, _, _, _, rfl, by omega, by simp; omega, HQ, hrow', hb'⟩, ?_⟩
       simp [intOf]; omega

   ·obtain rfl : k = s.size := by omega
    have HQ : Hid (L = partsL s.data.toList) := by
     have h1 := HP1.out
     unfold Hid
     rw [← size_data s, at1_done, List.append_nil] at h1
     exact h1
    clear HP1
    have HR := Hid.intro hrow
    clear hrow
    go_wp2
    simp only [Exit.jump]
    go_ret
    exact ⟨_, rfl, by rw [← HQ.out]; exact HR.out, hbel⟩
end Go.Proofs.YtmkegmndcbpblaaGreatDoor
