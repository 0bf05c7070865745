/-
  passimref02.Input returns the input that Of hashes.
-/
import Derived.Test.YtgmlphfoadeboaaDoorQb
import Derived.Test.YtgmlphfoadeboaaDoorHo
namespace Go.Proofs.YtgmlphfoadeboaaDoor
open Go.RowKit
set_option linter.unusedVariables false
set_option linter.unusedSimpArgs false

theorem own_one (w : World) (y : Nat) : Own w (w.alloc (.cells #[.int .u8 (y : Int)] 5)) (.slice (some ⟨w.heap.size, 0, none⟩) 1 1) [y] := by
  refine ⟨?_, (Below.refl _ _).alloc (Nat.le_refl _) _⟩
  have := World.ownsRow_lit (e := 5) (size := 1) w #[.int .u8 (y : Int)] 1 (Nat.le_refl _) (by unfold maxLen; omega) rfl
  simpa [bytesV, byteV] using this
theorem ofM_ne (T : Nat) (ps : List ByteArray) (k : Nat) : 0 < (ofM T ps k).length := by simp [ofM]

set_option maxHeartbeats 1000000 in
set_option maxRecDepth 100000 in
theorem input_any (tag : Int) (T : Nat) (hT : T < 256) (hTt : IntKind.u8.wrap tag = (T : Int)) (A : Option Addr) (ps : List ByteArray) (n c : Nat) (w : World) (hn : n = ps.length) (hl : ps.length ≤ 1048576) (ht : ∀ s ∈ ps, s.size ≤ 1048576) (hr : Cells w A (strsV ps)) :
    Calls Tryd.prog 23 #[.int .i64 tag, .slice A n c] w (Made w (ofIn T (sbs ps))) := by
  subst hn
  have hO0 := own_one w T
  go_enter Tryd.func23, Tryd.ntmps23
  go_wp2
  go_loopw [5, 6] (fun v i wr => ∃ k : Nat, k ≤ ps.length ∧ i = .int .i64 k ∧ Own w wr v (ofM T ps k)) (fun _ i _ => ps.length - (intOf i).toNat)
  case atStart => exact ⟨0, by omega, rfl, by rw [ofM_zero]; exact hO0⟩
  case round =>
    clear hO0
    obtain ⟨k, hk, rfl, hO⟩ := hrel
    by_cases hlt : k < ps.length
    · obtain ⟨ad, e, hbl, hcell⟩ := (hr.keep hO.below) k (.string ps[k]) (by simp [strsV, List.getElem?_eq_getElem hlt])
      subst e
      have hx := ht ps[k] (List.getElem_mem hlt)
      have hps := ofM_step T ps k hlt
      have hml := ofM_len T ps ht k hk
      generalize ps[k] = x at hcell hx hps
      have hdl := encS_le x hx
      have hdb := encS_byte x hx
      have HBy := Lib.hid (fun w1 => rbytes_any x (by omega) w1)
      generalize encS (sb x) = d at *
      generalize ofM T ps k = m at *
      generalize hMe : ofM T ps (k + 1) = M at *
      have HME := Lib.hid hMe
      have HPS := Lib.hid hps
      clear hMe hps
      go_wp2_with fail
      refine (HBy.out _).mono ?_
      rintro e w3 ⟨g3, cap3, rfl, hO3⟩
      have hO4 := hO.keep hO3.below
      have hc3 := (hO3.has hdb).cells
      clear hO hcell
      go_wp2_with (at_builtin; refine push_row (W := w) rfl _ _ rfl m d _ rfl hO4 ⟨g3, 0, none⟩ _ _ rfl rfl hc3 (by omega) ?_; rw [HPS.out])
      intro v5 w5 hO5
      clear hO4 hO3 hc3
      go_wp2
      go_roundw
      case rel => exact ⟨k + 1, by omega, by go_num, by rw [HME.out]; exact hO5⟩
      case measure => simp [intOf]; omega
    · obtain rfl : k = ps.length := by omega
      rw [ofM_all] at hO
      go_wp2
      go_ret
      exact made_of (by unfold ofIn; simp) hO

end Go.Proofs.YtgmlphfoadeboaaDoor
