/- The law FnNumbers at every row of bytes. -/
import Derived.Test.YtofgpnhieopcoaaDoorNumC
import Derived.Test.YtofgpnhieopcoaaDoorNumD
import Derived.Test.YtofgpnhieopcoaaDoorNumE
namespace Go.Proofs.YtofgpnhieopcoaaDoor
open Go.RowKit
set_option linter.unusedVariables false

set_option maxHeartbeats 400000 in
theorem numbers_long (a : Option Addr) (len cap : Nat) (w : World) (hl : len ≤ 9223372036854775807) (h : 1048576 < len) :
    Calls Tryd.prog 3 #[.slice a len cap] w fun e w' => e = .returned (.bool true) ∧ Below w.heap.size w w' := by
  go_enter Tryd.func3, Tryd.ntmps3
  go_wp2_with fail
  refine (big_any a len cap w hl).mono ?_
  rintro e w0 ⟨rfl, rfl⟩
  go_wp2
  go_ret
  exact ⟨rfl, Below.refl _ _⟩

theorem numbers_law (zs : List Int) (len cap : Nat) (a : Option Addr) (w : World) (hl : len ≤ 9223372036854775807) (hr : RowOk w w.heap.size a len zs) (htab : ∀ w', Below w.heap.size w w' → tabOk w') :
    Calls Tryd.prog 3 #[.slice a len cap] w fun e w' => e = .returned (.bool true) ∧ Below w.heap.size w w' := by
  by_cases hs : 1048576 < len
  · exact numbers_long a len cap w hl hs
  have hs' : len ≤ 1048576 := by omega
  obtain ⟨n, n0, n1, d1⟩ := drawVar_any zs len hs'
  obtain ⟨t, ht, d2⟩ := drawHex_any zs len hs'
  obtain ⟨R, hR, d3⟩ := drawReadVar_any zs len hs'
  have d : Told zs len n ⟨t.toArray⟩ R := ⟨d1, d2, d3, by show t.toArray.size ≤ 40; simpa using ht, hR⟩
  by_cases hn : n < 0
  · by_cases h1 : n < -999999999
    · exact way_B2 zs len cap n a _ R w hs' hr htab d n0 h1
    · exact way_B1 zs len cap n a _ R w hs' hr htab d (by omega) hn
  by_cases h1 : n ≤ 999999999
  · exact way_A1 zs len cap n a _ R w hs' hr htab d (by omega) h1
  by_cases h2 : n ≤ 562949953421311
  · exact way_A2 zs len cap n a _ R w hs' hr htab d (by omega) h2
  by_cases h3 : n < 72057594037927936
  · exact way_C1 zs len cap n a _ R w hs' hr htab d (by omega) h3
  · exact way_C2 zs len cap n a _ R w hs' hr htab d (by omega) n1

end Go.Proofs.YtofgpnhieopcoaaDoor
