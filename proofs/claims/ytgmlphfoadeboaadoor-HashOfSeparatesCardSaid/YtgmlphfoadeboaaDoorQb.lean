/-
  passimref01.Bytes: the encoding of a string of at most 2^45 bytes.
-/
import Derived.Test.YtgmlphfoadeboaaDoorQn
import Derived.Test.YtgmlphfoadeboaaDoorHx
namespace Go.Proofs.YtgmlphfoadeboaaDoor
open Go.RowKit
set_option linter.unusedVariables false
set_option linter.unusedSimpArgs false

set_option maxHeartbeats 400000 in
theorem rbytes_any (s : ByteArray) (hs : s.size ≤ 35184372088832) (w : World) :
    Calls Tryd.prog 34 #[.string s] w (Made w (encS (sb s))) := by
  go_enter Tryd.func34, Tryd.ntmps34
  go_wp2_with fail
  refine (rint_any _ (by omega) (by omega) _).mono ?_
  rintro e w1 ⟨g, cap, rfl, hO⟩
  have hl := enc_length (s.size : Int) (by omega) (by omega)
  obtain ⟨cap2, w2, hcv, hB2, hc2⟩ := to_bytes s w1
  have hO2 := hO.keep hB2
  clear hB2
  go_wp2_with (at_builtin; refine push_row (W := w) rfl _ _ rfl (enc (s.size : Int)) (sb s) _ rfl hO2 ⟨w1.heap.size, 0, none⟩ _ _ rfl (sb_length s).symm hc2 ?x1 ?_)
  case x1 => rw [sb_length]; omega
  intro v3 w3 hO3
  go_wp2
  go_ret
  exact made_of (by unfold encS; simp [enc_ne]) (by unfold encS; rw [sb_length]; exact hO3)

end Go.Proofs.YtgmlphfoadeboaaDoor
