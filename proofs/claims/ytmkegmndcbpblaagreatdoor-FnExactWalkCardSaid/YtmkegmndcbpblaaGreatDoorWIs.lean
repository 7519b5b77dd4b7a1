/- errors.Is over the package's own errors, and codeOf. -/
import Derived.Test.YtmkegmndcbpblaaGreatDoorGBase
import Derived.LaidEql
import Derived.Stop.Asserts
import Derived.RowKitTokens
namespace Go.Proofs.YtmkegmndcbpblaaGreatDoor
open Go.RowKit Go.Extern.Stop Go.Stop Go.Extern
set_option linter.unusedVariables false
theorem es_meth (v : Value) (w : World) : (Go.method 272 116 v "Comparable").run Tryz.prog w = .ok (110, v) w := by kernel_rfl
theorem es_comp : (Tryz.prog.info? 135).map (·.comparable) = some true := by kernel_rfl
theorem es_size : (Tryz.prog.info? 161).map (·.size) = some 1 := by kernel_rfl
theorem es_call (w : World) : (callFunc 110 #[.agg #[.pointer (some ⟨6, 135, none⟩)]]).run Tryz.prog w = .ok (.value (.bool true)) w := by kernel_rfl
theorem es_of (v : Value) (w : World) : (callFunc 59 #[.iface 135 v]).run Tryz.prog w = .ok (.value (.iface 116 (.agg #[.pointer (some ⟨6, 135, none⟩)]))) w := by kernel_rfl
theorem es_noIs (v : Value) (xT : TypeId) (w : World) : (Instr.typeAssert (.iface 135 v) xT 118 true).run Tryz.prog w = .ok (.tuple #[.nilIface, .bool false]) w := run_typeAssert_lacksB Tryz.underlying118 (by kernel_rfl) (by kernel_rfl) v xT w
theorem es_noUn (v : Value) (xT : TypeId) (w : World) : (Instr.typeAssert (.iface 135 v) xT 121 true).run Tryz.prog w = .ok (.tuple #[.nilIface, .bool false]) w := run_typeAssert_lacksB Tryz.underlying121 (by kernel_rfl) (by kernel_rfl) v xT w
theorem es_noUns (v : Value) (xT : TypeId) (w : World) : (Instr.typeAssert (.iface 135 v) xT 123 true).run Tryz.prog w = .ok (.tuple #[.nilIface, .bool false]) w := run_typeAssert_lacksB Tryz.underlying123 (by kernel_rfl) (by kernel_rfl) v xT w
set_option maxHeartbeats 4000000 in
/-- An error is itself. -/
theorem isSame_any (a : Addr) (w : World) : Calls Tryz.prog 42 #[.iface 135 (.pointer (some a)), .iface 135 (.pointer (some a))] w fun e w' => e = .returned (.bool true) ∧ w' = w := by
 obtain ⟨i, hi, hcmp⟩ := Option.map_eq_some_iff.1 es_comp
 obtain ⟨j, hj, hjs⟩ := Option.map_eq_some_iff.1 es_size
 have h1 := es_of
 have h2 := es_call
 have h3 := es_meth
 have heq := run_eql_iface_ptr_same (P := Tryz.prog) w a Tryz.underlying51 Tryz.underlying135 hi hcmp hj
 go_enter Tryz.func42, Tryz.ntmps42
 go_wp2
 refine wp_loop_rounds 1 ?_
 rw [rounds_succ]
 go_wp2
 go_ret
 exact ⟨rfl, rfl⟩
set_option maxHeartbeats 4000000 in
/-- Two errors of different places are two. -/
theorem isOther_any (a b : Addr) (ca cb : Array Value) (ta tb : TypeId) (w : World) (hne : a ≠ b) (ha : w.heap[a.block]? = some (.cells ca ta (0, 0))) (hb : w.heap[b.block]? = some (.cells cb tb (0, 0))) : Calls Tryz.prog 42 #[.iface 135 (.pointer (some a)), .iface 135 (.pointer (some b))] w fun e w' => e = .returned (.bool false) ∧ w' = w := by
 obtain ⟨i, hi, hcmp⟩ := Option.map_eq_some_iff.1 es_comp
 obtain ⟨j, hj, hjs⟩ := Option.map_eq_some_iff.1 es_size
 have h1 := es_of
 have h2 := es_call
 have h3 := es_meth
 have n1 := es_noIs
 have n2 := es_noUn
 have n3 := es_noUns
 have heq := run_eql_iface_ptr_other (P := Tryz.prog) w Tryz.underlying51 Tryz.underlying135 hi hcmp hj (by rw [hjs]; decide) hne ha hb
 go_enter Tryz.func42, Tryz.ntmps42
 go_wp2
 refine wp_loop_rounds 1 ?_
 rw [rounds_succ]
 go_wp2
 go_ret
 exact ⟨rfl, rfl⟩
/-- The package's errors stand, each at a place of its own. -/
structure ErrW (w : World) (E : Nat → Addr) : Prop where
 var : ∀ g < 6, w.cell? ⟨g, 0, none⟩ = some (.iface 135 (.pointer (some (E g))))
 box : ∀ g < 6, ∃ c t, w.heap[(E g).block]? = some (.cells c t (0, 0))
 two : ∀ g < 6, ∀ k < 6, g ≠ k → E g ≠ E k
/-- Which error a code comes from: the package's variables in their order are wrong, access, loop, missing, not dir, too long. -/
def erX (code : Int) : Nat := if code = 13 then 1 else if code = 40 then 2 else if code = 2 then 3 else if code = 20 then 4 else if code = 36 then 5 else 0
def erV (E : Nat → Addr) (code : Int) : Value := if code = 0 then .nilIface else .iface 135 (.pointer (some (E (erX code))))
end Go.Proofs.YtmkegmndcbpblaaGreatDoor
