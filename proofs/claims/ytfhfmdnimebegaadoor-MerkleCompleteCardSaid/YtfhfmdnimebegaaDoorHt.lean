/-
  wire.Bytes returns, for every string of at most 2^45 bytes, its encoding.
-/
import Derived.Test.YtfhfmdnimebegaaDoorWi
namespace Go.Proofs.YtfhfmdnimebegaaDoor
open Go.RowKit

set_option maxHeartbeats 400000 in
set_option maxRecDepth 100000 in
theorem bytes_any (s : ByteArray) (hs : s.size ≤ 35184372088832) (w : World) :
    Calls Tryd.prog 73 #[.string s] w (Made w (encS (sb s))) := by
  go_enter Tryd.func73, Tryd.ntmps73
  go_wp2_with fail
  refine (int_any _ (by omega) (by omega) _).mono ?_
  rintro e w1 ⟨g, cap, rfl, hO⟩
  have hl := enc_length (s.size : Int) (by omega) (by omega)
  go_wp2_with (refine push_str (W := w) rfl _ _ rfl (enc (s.size : Int)) _ rfl hO s rfl ?x1 ?_)
  case x1 => omega
  intro v2 w2 hO2
  go_wp2
  go_ret
  exact made_of (by unfold encS; simp [enc_ne]) (by unfold encS; rw [sb_length]; exact hO2)

end Go.Proofs.YtfhfmdnimebegaaDoor
