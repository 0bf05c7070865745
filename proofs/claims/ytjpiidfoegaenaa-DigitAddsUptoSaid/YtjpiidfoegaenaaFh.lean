/-
  Values of the reference.
-/
import Derived.Test.YtjpiidfoegaenaaEb
namespace Go.Proofs.Ytjpiidfoegaenaa
open Go.RowKit
set_option linter.unusedVariables false
set_option linter.unusedSimpArgs false

set_option maxHeartbeats 2000000 in
set_option maxRecDepth 100000 in
theorem rvalues_any (s : ByteArray) (hs : s.size ≤ 1000000000000) (w : World) : Calls Try.prog 42 #[.string s] w (LstB intE (valS (sb s)) (okS (sb s)) w) := by
  have CV := Lib.hid (fun c (hc : c < 256) V => rvalue_any c hc V)
  obtain ⟨n, hn⟩ : ∃ n, s.size = n := ⟨_, rfl⟩
  obtain ⟨bs, hbs⟩ : ∃ bs, sb s = bs := ⟨_, rfl⟩
  have HL : Hid (bs.length = n) := Lib.hid (by rw [← hbs, sb_length]; exact hn)
  have HG : Hid (∀ k (hk : k < s.size), bs[k]? = some (s[k]'hk).toNat ∧ (s[k]'hk).toNat < 256) := Lib.hid (fun k hk => by rw [← hbs]; exact sb_get hk)
  rw [hbs]
  have hn6 : n ≤ 1000000000000 := by rw [← hn]; exact hs
  clear hbs hs
  go_enter Try.func42, Try.ntmps42
  go_wp2
  go_loopw [4, 5] (fun v i wr => VaRel bs n w v i wr) (fun _ i _ => n - (intOf i).toNat)
  case atStart => exact ⟨0, by omega, rfl, rfl, OwnR.nil _ _ _, Below.refl _ _⟩
  case round =>
    obtain ⟨k, hk, rfl, hok, hO, hB⟩ := hrel
    rcases Nat.lt_or_ge k n with hlt | hge
    · have hltz : (k : Int) < (n : Int) := by omega
      have hin : k < s.size := by omega
      obtain ⟨hg1, hg2⟩ := HG.out k hin
      obtain ⟨c, hc⟩ : ∃ c, (s[k]'hin).toNat = c := ⟨_, rfl⟩
      have hcz : (((s[k]'hin).toNat : Nat) : Int) = (c : Int) := by rw [hc]
      rw [hc] at hg1 hg2
      have CX := Lib.hid (fun V => CV.out c hg2 V)
      have hv := valT_in c
      obtain ⟨v, hvv⟩ : ∃ v, valT c = v := ⟨_, rfl⟩
      rw [hvv] at CX hv
      rcases Int.lt_or_le v 0 with hneg | hpos
      · have HOK : Hid (okS bs = false) := Lib.hid (okS_no (List.mem_of_getElem? hg1) (by rw [hvv]; exact hneg))
        clear hg1 hg2 hok hO hc hvv CV
        go_wp2_with (go_at_call 15; refine (CX.out _).mono ?_; rintro _ w2 ⟨rfl, B2⟩)
        go_ret2
        exact ⟨_, by rw [HOK.out]; first | done | rfl, by rw [show valS bs = [] by unfold valS; rw [HOK.out]; rfl]; exact OwnR.nil _ _ _, hB.trans (B2.mono hB.size)⟩
      · have hposz : ¬ v < 0 := by omega
        have HOK : Hid (okS (bs.take (k + 1)) = true) := Lib.hid (okS_take_step hok hg1 (by rw [hvv]; exact hpos))
        have HT : Hid ((bs.take (k + 1)).map valT = (bs.take k).map valT ++ [v]) := Lib.hid (by rw [List.take_add_one, hg1, List.map_append]; simp [hvv])
        have hle : ((bs.take k).map valT).length ≤ 1000000000000 := by rw [List.length_map, List.length_take]; omega
        clear hg1 hg2 hok hc hvv CV
        go_wp2_with (first
          | (go_at_call 15; refine (CX.out _).mono ?_; rintro _ w2 ⟨rfl, B2⟩; have hO2 := hO.keep B2; have hB2 := hB.trans (B2.mono hB.size))
          | (at_builtin; refine push_el intE rfl (.tmp 19) (.tmp 21) rfl ((bs.take k).map valT) v _ rfl hO2 hB2.size _ rfl _ rfl hle ?_; intro v6 W6 hO6 hB7 hR6))
        exact ⟨⟨k + 1, by omega, by go_num, HOK.out, by rw [HT.out]; exact hO6, hB2.trans hB7⟩, by simp [intOf]; omega⟩
    · have hge2 : ¬ (k : Int) < (n : Int) := by omega
      rw [List.take_of_length_le (by rw [HL.out]; omega)] at hok hO
      have HOK := Lib.hid hok
      have HV : Hid (valS bs = bs.map valT) := Lib.hid (by unfold valS; rw [hok]; rfl)
      clear hok
      go_wp2
      go_ret2
      exact ⟨_, by rw [HOK.out]; first | done | rfl, by rw [HV.out]; exact hO, hB⟩
end Go.Proofs.Ytjpiidfoegaenaa
