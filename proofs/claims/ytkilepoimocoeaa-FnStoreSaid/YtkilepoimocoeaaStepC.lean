/- l3Step at a cut. -/
import Derived.Test.YtkilepoimocoeaaTakeH
import Derived.Test.YtkilepoimocoeaaRecS
import Derived.Test.YtkilepoimocoeaaFitsS
namespace Go.Proofs.Ytkilepoimocoeaa
open Go.RowKit
set_option linter.unusedVariables false
set_option maxRecDepth 100000 in
set_option maxHeartbeats 4000000 in
theorem l3Step_3 (K : Kp) (b off cap n : Nat) (i : Int) (w : World) (hs : Sx K) (hr : recB ⟨3, 0, i, 0, ⟨#[]⟩⟩ = true) (hn : i = K.si + 1 + n) (hnl : n < K.e.length) (hl : K.e.length ≤ cap) (hc : cap ≤ 9223372036854775807) :
    Calls Try.prog 42 #[kpV K (.slice (some ⟨b, off, none⟩) K.e.length cap), rcV ⟨3, 0, i, 0, ⟨#[]⟩⟩] w fun e w' => e = .returned (.tuple #[kpV K (.slice (some ⟨b, off, none⟩) n cap), .bool true]) ∧ Below w.heap.size w w' := by
  have hf : fitsB K ⟨3, 0, i, 0, ⟨#[]⟩⟩ = true := fitsB_yes (by simp [fitsP]; omega)
  have HS := Hid.intro hs
  obtain ⟨s1, s2, s3⟩ := hs
  have e1 : i - K.si = (n : Int) + 1 := by omega
  clear hn
  go_enter Try.func42, Try.ntmps42
  go_wp2_with fail
  obtain ⟨W, hW, bW, zW, c1, f1, c2, f2, c3, f3⟩ := boxed3 w #[.int .i64 K.t, .int .i64 K.v, .int .i64 K.si, .int .i64 K.st, .string K.sd, .slice (some ⟨b, off, none⟩) K.e.length cap] #[.int .i64 3, .int .i64 0, .int .i64 i, .int .i64 0, .string ⟨#[]⟩] #[.int .i64 0, .int .i64 0, .int .i64 0, .int .i64 0, .string ⟨#[]⟩, .slice none 0 0] 28 43 28
  simp only [hW]
  refine (specRecOk_any ⟨3, 0, i, 0, ⟨#[]⟩⟩ _).mono ?_
  rintro e w1 ⟨rfl, b1⟩
  replace c1 := keepC b1 (by omega) c1
  replace f1 := keepF b1 (by omega) f1
  replace c2 := keepC b1 (by omega) c2
  replace c3 := keepC b1 (by omega) c3
  replace f3 := keepF b1 (by omega) f3
  have z1 := b1.size
  replace bW := bW.trans (b1.mono (by omega))
  replace zW : w.heap.size + 1 + 1 < w1.heap.size := by omega
  clear hW b1 f2 z1
  go_wp2_with fail
  refine (l3Fits_134 K _ _ ⟨3, 0, i, 0, ⟨#[]⟩⟩ _ HS.out (by simp)).mono ?_
  rintro e w2 ⟨rfl, b2⟩
  replace c1 := keepC b2 (by omega) c1
  replace f1 := keepF b2 (by omega) f1
  replace c2 := keepC b2 (by omega) c2
  replace c3 := keepC b2 (by omega) c3
  replace f3 := keepF b2 (by omega) f3
  have z2 := b2.size
  replace bW := bW.trans (b2.mono (by omega))
  replace zW : w.heap.size + 1 + 1 < w2.heap.size := by omega
  clear b2 z2
  go_wp2
  refine bodyPost_ret (v := .tuple #[kpV K (.slice (some ⟨b, off, none⟩) n cap), .bool true]) (by simp [results, Try.results42, go_sem, c3]) rfl ⟨rfl, ?_⟩
  repeat (refine Below.setCell ?_ (by simp <;> omega) _)
  exact bW
end Go.Proofs.Ytkilepoimocoeaa
