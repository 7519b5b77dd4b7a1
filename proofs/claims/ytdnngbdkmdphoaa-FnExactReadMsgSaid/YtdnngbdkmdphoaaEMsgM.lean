/- The sentence's MsgOk. -/
import Derived.Test.YtdnngbdkmdphoaaEMsgT1
import Derived.Test.YtdnngbdkmdphoaaEMsgT3
import Derived.Test.YtdnngbdkmdphoaaEMsgT4
namespace Go.Proofs.Ytdnngbdkmdphoaa
open Go.RowKit
set_option linter.unusedVariables false
theorem specMsgOk_any (a : Ms) (v : Value) (N : Nat) (w : World) (hN : N ≤ w.heap.size) (hr : Row enE w N v a.es) (hlen : a.es.length ≤ 1000000000000) :
    Calls Try.prog 7 #[msV a v] w fun e w' => e = .returned (.bool (msgB a)) ∧ Below w.heap.size w w' := by
  obtain ⟨k, f, g, m, i, j, c, y, es, d⟩ := a
  by_cases e1 : k = 1
  · subst e1; exact specMsg1_any 0 f g m i j c y es d v N w hN hr hlen
  by_cases e2 : k = 2
  · subst e2; exact specMsg2_any 0 f g m i j c y es d v N w hN hr hlen
  by_cases e3 : k = 3
  · subst e3; exact specMsg3_any 0 f g m i j c y es d v N w hN hr hlen
  by_cases e4 : k = 4
  · subst e4; exact specMsg4_any 0 f g m i j c y es d v N w hN hr hlen
  by_cases e5 : k = 5
  · subst e5; exact specMsg5_any 0 f g m i j c y es d v N w hN hr hlen
  exact specMsg0_any k f g m i j c y es d v N w hN hr hlen (by simpa using e1) (by simpa using e2) (by simpa using e3) (by simpa using e4) (by simpa using e5) (by omega)
end Go.Proofs.Ytdnngbdkmdphoaa
