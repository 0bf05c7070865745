/-
  The specification's Bytes32 and Text, and the law's hex: bytes as strings.
-/
import Derived.Test.YtfhfmdnimebegaaDoorHe
import Derived.Deep.RegionLaw
import Derived.Deep.AppendLies
namespace Go.Proofs.YtfhfmdnimebegaaDoor
open Go.RowKit
set_option linter.unusedVariables false
set_option linter.unusedSimpArgs false

theorem own_nil (w : World) : Own w w (.slice none 0 0) [] := by
  refine ⟨?_, Below.refl _ _⟩
  have := World.ownsRow_nil w w.heap.size 5 1
  simpa [bytesV] using this
/-- What holds while the bytes h of a boxed array are gathered. -/
def GatRel (W0 : World) (h : List Nat) (v i : Value) (wr : World) : Prop :=
  ∃ k : Nat, k ≤ h.length ∧ i = .int .i64 k ∧ Own W0 wr v (h.take k)
theorem take_succ' (h : List Nat) (k : Nat) (hk : k < h.length) : h.take (k + 1) = h.take k ++ [h[k]] := by
  rw [List.take_add_one, List.getElem?_eq_getElem hk]
  rfl
theorem own_conv {W w : World} {v : Value} {l : List Nat} (h : Own W w v l) (h0 : 0 < l.length) (hb : ∀ y ∈ l, y < 256) : (convert 39 9 v).run Tryd.prog w = .ok (.string (strOf l)) w := by
  obtain ⟨g, cap, rfl, _, _⟩ := h.1.form h0
  have hh := h.has hb
  exact conv_cells w ⟨g, 0, none⟩ cap l hb hh.cells

set_option maxHeartbeats 1000000 in
set_option maxRecDepth 100000 in
theorem text_any (h : List Nat) (hl : h.length = 16) (hb : ∀ y ∈ h, y < 256) (w : World) :
    Calls Tryd.prog 61 #[.agg (bytesV h).toArray] w fun e w' => e = .returned (.string (strOf h)) ∧ Below w.heap.size w w' := by
  go_enter Tryd.func61, Tryd.ntmps61
  go_upto_region 1 with (fail)
  generalize hw0 : World.alloc _ _ = W0
  have K0 : Blk W0 w.heap.size 29 (bytesV h) := hw0 ▸ blk_new w _ _
  have KB : Below w.heap.size w W0 := hw0 ▸ ((Below.refl _ _).alloc (Nat.le_refl _) _)
  clear hw0
  have HL := Lib.hid hl
  clear hl
  have h32 : h.length ≤ 16 := by rw [HL.out]; omega
  have h32' : 16 ≤ h.length := by rw [HL.out]; omega
  go_wp2
  go_loopw [3, 4] (fun v i wr => GatRel W0 h v i wr) (fun _ i _ => 16 - (intOf i).toNat)
  case atStart => exact ⟨0, by omega, rfl, own_nil W0⟩
  case round =>
    obtain ⟨k, hk, rfl, hO⟩ := hrel
    by_cases hlt : k < h.length
    · obtain ⟨y, hy⟩ : ∃ y, h[k] = y := ⟨_, rfl⟩
      have c0 : wr.cell? ⟨w.heap.size, k, none⟩ = some (.int .u8 (y : Int)) := (K0.keep hO.below).cell (by simp [bytesV, byteV, hlt, hy])
      have hlen : (h.take k).length ≤ 70368744177664 := by rw [List.length_take]; omega
      have hts := take_succ' h k hlt
      rw [hy] at hts
      have HT := Lib.hid hts
      clear hts hy
      have hk32 : (k : Int) < 16 := by omega
      go_wp2_with (at_builtin; refine push_byte (W := W0) rfl _ _ rfl (h.take k) y _ rfl hO _ rfl rfl hlen ?_)
      intro v5 w5 hO5
      clear hO c0
      go_wp2
      go_roundw
      case rel => exact ⟨k + 1, by omega, by go_num, by rw [HT.out]; exact hO5⟩
      case measure => simp [intOf]; omega
    · have hx : (h.take k) = h := List.take_of_length_le (by omega)
      rw [hx] at hO
      have hcv := own_conv hO (by omega) hb
      have hf : decide ((k : Int) < 16) = false := by simp; omega
      clear hx
      go_wp2
      go_ret
      exact ⟨rfl, chain KB KB.size hO.below⟩


end Go.Proofs.YtfhfmdnimebegaaDoor
