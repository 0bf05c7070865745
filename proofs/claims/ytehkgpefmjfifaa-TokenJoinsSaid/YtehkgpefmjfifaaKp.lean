/-
  The reference's Stop and Sentences; Join and Cut of both.
-/
import Derived.Test.YtehkgpefmjfifaaKo
namespace Go.Proofs.Ytehkgpefmjfifaa
open Go.RowKit
set_option linter.unusedVariables false
set_option linter.unusedSimpArgs false

set_option maxHeartbeats 4000000 in
set_option maxRecDepth 100000 in
theorem rstop_any (s : ByteArray) (hn6 : s.size ≤ 1000000000) (n : Nat) (hn : (toks (sb s)).length = n) (q : Option Addr) (c i : Nat) (hi : i < n) (t : Tk) (ht : (toks (sb s))[i]? = some t) (w : World) (hA : At rtE w q (toks (sb s))) :
    Calls Try.prog 48 #[.string s, .slice q n c, .int .i64 (i : Int)] w (Told w (stopT s t)) := by
  have hnb : n ≤ 1000000000 := by have := toks_len (sb s); rw [sb_length] at this; omega
  have HLa := Lib.hid (rlast_any s n hn hnb q c i hi t ht w hA)
  obtain ⟨b, off, rfl, hL⟩ := hA.get (i := i) (by omega)
  obtain ⟨ta, te, tk⟩ := t
  have L0 : w.cell? ⟨b, off + i * 3, none⟩ = some (.int .i64 (ta : Int)) := hL.2 i (ta, te, tk) 0 _ ht rfl
  have hin := toks_in ht
  rw [sb_length] at hin
  obtain ⟨hin1, hin2, hin3⟩ := hin
  have hin1 : ta < te := hin1
  have hin2 : te ≤ s.size := hin2
  have htas : ta < s.size := by omega
  obtain ⟨hg, hb⟩ := sb_get htas
  have hst := stop_at (t := (ta, te, tk)) hg
  rw [show (decide ((ta, te, tk).2.1 = s.size) || decide (kdAt (sb s) (ta, te, tk).2.1 = 4)) = endT s (ta, te, tk) from rfl] at hst
  generalize endT s (ta, te, tk) = e at HLa hst
  clear hn ht hL hA hg
  have hcase : (s[ta]'htas).toNat = 46 ∨ (s[ta]'htas).toNat = 63 ∨ (s[ta]'htas).toNat = 33 ∨ ((s[ta]'htas).toNat ≠ 46 ∧ (s[ta]'htas).toNat ≠ 63 ∧ (s[ta]'htas).toNat ≠ 33) := by omega
  rcases hcase with h | h | h | ⟨h1, h2, h3⟩
  · rw [show isStop (s[ta]'htas).toNat = true from by rw [h]; rfl, Bool.true_and] at hst
    have HST := Lib.hid hst
    have b1 : (((s[ta]'htas).toNat : Int) == 46) = true := by simp [h]
    clear hst h
    go_enter Try.func48, Try.ntmps48
    go_wp2_with (go_at_call 58; refine HLa.out.mono ?_; rintro en w1 ⟨rfl, hB⟩)
    go_ret
    exact ⟨by rw [HST.out]; rfl, hB⟩
  · rw [show isStop (s[ta]'htas).toNat = true from by rw [h]; rfl, Bool.true_and] at hst
    have HST := Lib.hid hst
    have b1 : (((s[ta]'htas).toNat : Int) == 46) = false := by simp; omega
    have b2 : (((s[ta]'htas).toNat : Int) == 63) = true := by simp [h]
    clear hst h
    go_enter Try.func48, Try.ntmps48
    go_wp2_with (go_at_call 58; refine HLa.out.mono ?_; rintro en w1 ⟨rfl, hB⟩)
    go_ret
    exact ⟨by rw [HST.out]; rfl, hB⟩
  · rw [show isStop (s[ta]'htas).toNat = true from by rw [h]; rfl, Bool.true_and] at hst
    have HST := Lib.hid hst
    have b1 : (((s[ta]'htas).toNat : Int) == 46) = false := by simp; omega
    have b2 : (((s[ta]'htas).toNat : Int) == 63) = false := by simp; omega
    have b3 : (((s[ta]'htas).toNat : Int) == 33) = true := by simp [h]
    clear hst h
    go_enter Try.func48, Try.ntmps48
    go_wp2_with (go_at_call 58; refine HLa.out.mono ?_; rintro en w1 ⟨rfl, hB⟩)
    go_ret
    exact ⟨by rw [HST.out]; rfl, hB⟩
  · rw [show isStop (s[ta]'htas).toNat = false from by unfold isStop; simp [h1, h2, h3], Bool.false_and] at hst
    have HST := Lib.hid hst
    have b1 : (((s[ta]'htas).toNat : Int) == 46) = false := by simp; omega
    have b2 : (((s[ta]'htas).toNat : Int) == 63) = false := by simp; omega
    have b3 : (((s[ta]'htas).toNat : Int) == 33) = false := by simp; omega
    clear hst h1 h2 h3
    go_enter Try.func48, Try.ntmps48
    go_wp2
    go_ret
    exact ⟨by rw [HST.out]; rfl, Below.refl _ _⟩

set_option maxHeartbeats 4000000 in
set_option maxRecDepth 100000 in
theorem rsentences_any (s : ByteArray) (hn6 : s.size ≤ 1000000000) (w : World) :
    Calls Try.prog 29 #[.string s] w (MadeR prE (sentM s) w) := by
  have HS := Lib.hid (fun (V : World) => rsplit_any s s.size rfl hn6 V)
  obtain ⟨n, hn⟩ : ∃ n, (toks (sb s)).length = n := ⟨_, rfl⟩
  have hnb : n ≤ 1000000000 := by have := toks_len (sb s); rw [sb_length] at this; omega
  have HN := Lib.hid hn
  clear hn
  go_enter Try.func29, Try.ntmps29
  go_wp2_with (go_at_call 15; refine (HS.out w).mono ?_; rintro en W1 ⟨v, rfl, hO, hB1⟩; obtain ⟨q, c, rfl, hc, hAt, _, _⟩ := hO.form; rw [HN.out] at hc ⊢)
  have HSt0 := Lib.hid (fun (i : Nat) (hi : i < n) (t : Tk) (ht : (toks (sb s))[i]? = some t) (V : World) (hB : Below W1.heap.size W1 V) => rstop_any s hn6 n HN.out q c i hi t ht V (hAt.keep hB))
  clear hAt
  go_loopw [4, 5, 6] (fun v5 v6 v13 wr => SentRel s n W1 v5 v6 v13 wr) (fun _ _ v _ => n - (intOf v).toNat)
  case atStart => exact ⟨0, rfl, Nat.zero_le _, OwnR.nil _ _ _, rfl, Below.refl _ _⟩
  case round =>
    obtain ⟨i, rfl, hi, hR, rfl, hB5⟩ := hrel
    rcases Nat.lt_or_ge i n with hlt | hge
    · obtain ⟨t, ht⟩ : ∃ a, (toks (sb s))[i]? = some a := ⟨_, List.getElem?_eq_getElem (by rw [HN.out]; exact hlt)⟩
      have HSt := Lib.hid (HSt0.out i hlt t ht)
      have hsl := sent_len s (toks (sb s)) i
      have HT := Lib.hid ht
      obtain ⟨f, hf⟩ : ∃ f, (sentTo s (toks (sb s)) i).2 = f := ⟨_, rfl⟩
      rw [hf] at hsl ⊢
      have HF := Lib.hid hf
      obtain ⟨i1, hi1⟩ : ∃ i1, i + 1 = i1 := ⟨_, rfl⟩
      have hi1i : (i : Int) + 1 = (i1 : Int) := by omega
      have H1 := Lib.hid hi1
      have hi1b : i1 ≤ n := by omega
      clear ht hf hi1 HSt0
      by_cases hl : i1 = n
      · have hlb : ((i1 : Int) == (n : Int)) = true := by simp [hl]
        have HL := Lib.hid (show (stopT s t || decide (i + 1 = (toks (sb s)).length)) = true from by rw [HN.out, H1.out, decide_eq_true hl, Bool.or_true])
        clear hl
        have HM := Lib.hid (sent_yes HT.out HL.out)
        rw [HF.out] at HM
        go_wp2_with (at_builtin; refine push_el prE rfl (.tmp 26) (.tmp 31) rfl _ ((f : Int), (i1 : Int)) _ rfl hR hB5.size _ rfl _ rfl (by omega) ?_; intro v4 w4 hO4 hB4 hR4)
        exact ⟨⟨i + 1, by have := H1.out; congr 1; omega, by have := H1.out; omega, by rw [HM.out]; rw [H1.out]; exact hO4, by rw [HM.out]; have := H1.out; congr 1; omega, hB5.trans hB4⟩, by have := H1.out; simp [intOf]; omega⟩
      · have hlb : ((i1 : Int) == (n : Int)) = false := by simp; omega
        rcases hs : stopT s t with _ | _
        · rw [hs] at HSt
          have HL := Lib.hid (show (stopT s t || decide (i + 1 = (toks (sb s)).length)) = false from by rw [hs, HN.out, H1.out, decide_eq_false hl]; rfl)
          clear hs hl
          have HM := Lib.hid (sent_no HT.out HL.out)
          go_wp2_with (go_at_call 48; refine (HSt.out _ hB5).mono ?_; rintro en W6 ⟨rfl, hB6⟩; have hB7 := link hB5 hB6; replace hR := hR.keep hB6)
          exact ⟨⟨i + 1, by have := H1.out; congr 1; omega, by have := H1.out; omega, by rw [HM.out]; exact hR, by rw [HM.out, HF.out], hB7⟩, by have := H1.out; simp [intOf]; omega⟩
        · rw [hs] at HSt
          have HL := Lib.hid (show (stopT s t || decide (i + 1 = (toks (sb s)).length)) = true from by rw [hs, Bool.true_or])
          clear hs hl
          have HM := Lib.hid (sent_yes HT.out HL.out)
          rw [HF.out] at HM
          go_wp2_with (first
            | (go_at_call 48; refine (HSt.out _ hB5).mono ?_; rintro en W6 ⟨rfl, hB6⟩; have hB7 := link hB5 hB6; replace hR := hR.keep hB6)
            | (at_builtin; refine push_el prE rfl (.tmp 26) (.tmp 31) rfl _ ((f : Int), (i1 : Int)) _ rfl hR hB7.size _ rfl _ rfl (by omega) ?_; intro v4 w4 hO4 hB4 hR4))
          exact ⟨⟨i + 1, by have := H1.out; congr 1; omega, by have := H1.out; omega, by rw [HM.out]; rw [H1.out]; exact hO4, by rw [HM.out]; have := H1.out; congr 1; omega, hB7.trans hB4⟩, by have := H1.out; simp [intOf]; omega⟩
    · have hlt : ¬ i < n := by omega
      obtain rfl : i = n := by omega
      clear HSt0
      go_wp2
      go_ret
      exact ⟨_, rfl, by unfold sentM; rw [HN.out]; exact hR.mono hB1.size, link hB1 hB5⟩


/-- Two texts joined. -/
def joinS (a b : ByteArray) : ByteArray := a ++ ⟨#[32]⟩ ++ b
set_option maxHeartbeats 1000000 in
theorem join_any (a b : ByteArray) (ha : a.size ≤ 1000000000) (hb : b.size ≤ 1000000000) (w : World) : Calls Try.prog 33 #[.string a, .string b] w fun e w' => e = .returned (.string (joinS a b)) ∧ Below w.heap.size w w' := by
  have hcv := conv_cells (w.alloc (.cells (bytesV [32]).toArray 5)) ⟨w.heap.size, 0, none⟩ 1 [32] (by simp) (fun j u hj => by rw [Addr.add_mid, Nat.zero_add]; exact (blk_new w 5 (bytesV [32]).toArray).cell (by simpa using hj))
  change (convert 64 9 (.slice (some ⟨w.heap.size, 0, none⟩) 1 1)).run Try.prog (w.alloc (.cells #[.int .u8 32] 5)) = .ok (.string (strOf [32])) (w.alloc (.cells #[.int .u8 32] 5)) at hcv
  have hz1 : ¬ 9223372036854775807 < a.size + (strOf [32]).size := by rw [show (strOf [32]).size = 1 from rfl]; omega
  have hz2 : ¬ 9223372036854775807 < a.size + (strOf [32]).size + b.size := by rw [show (strOf [32]).size = 1 from rfl]; omega
  go_enter Try.func33, Try.ntmps33
  go_wp2
  go_ret
  exact ⟨rfl, (Below.refl _ _).alloc (Nat.le_refl _) _⟩
set_option maxHeartbeats 1000000 in
theorem rjoin_any (a b : ByteArray) (ha : a.size ≤ 1000000000) (hb : b.size ≤ 1000000000) (w : World) : Calls Try.prog 34 #[.string a, .string b] w fun e w' => e = .returned (.string (joinS a b)) ∧ Below w.heap.size w w' := by
  have hz1 : ¬ 9223372036854775807 < a.size + 1 := by omega
  go_enter Try.func34, Try.ntmps34
  go_wp2
  go_ret
  exact ⟨rfl, Below.refl _ _⟩
end Go.Proofs.Ytehkgpefmjfifaa
