/-
  TokenWords.
-/
import Derived.Test.YtehkgpefmjfifaaTv
namespace Go.Proofs.Ytehkgpefmjfifaa
open Go.RowKit
set_option linter.unusedVariables false
set_option linter.unusedSimpArgs false

set_option maxHeartbeats 4000000 in
set_option maxRecDepth 100000 in
theorem tokenWords_any (A : Option Addr) (l : List Int) (n c : Nat) (hl : l.length = n) (how by_ : Int) (h1 : -9223372036854775808 ≤ how) (h2 : how ≤ 9223372036854775807) (h3 : -9223372036854775808 ≤ by_) (h4 : by_ ≤ 9223372036854775807) (raw : ByteArray) (w : World) (hA : IntsAt w A l) (hG : GM w) :
    Calls Try.prog 5 #[.slice A n c, .int .i64 how, .int .i64 by_, .string raw] w (Told w true) := by
  have HT := Lib.hid (texts_any A l n c hl how by_ h1 h2 h3 h4 raw _ rfl 600 (by omega) w hA)
  have HLv := Lib.hid (fun (V : World) (h : GM V) => lives_any V h)
  clear hl h1 h2 h3 h4 hA
  go_enter Try.func5, Try.ntmps5
  go_wp2_with (go_at_call 11; refine HT.out.mono ?_; rintro en W1 ⟨L, k, q1, c1, hLk, hk5, hk6, hs, rfl, hc1, hAt, hB1⟩)
  have hG1 := Lib.hid (hG.keep hB1)
  have hLK := Lib.hid hLk
  clear HT hLk
  go_loopw [10] (fun v wr => NumRel W1 k v wr) (fun v _ => k - (intOf v).toNat)
  case atStart => exact ⟨0, Nat.zero_le _, rfl, Below.refl _ _⟩
  case round =>
    obtain ⟨i, hi, rfl, hB⟩ := hrel
    rcases Nat.lt_or_ge i k with hlt | hge
    · obtain ⟨x, hx⟩ : ∃ x, L[i]? = some x := ⟨_, List.getElem?_eq_getElem (by rw [hLK.out]; exact hlt)⟩
      have hxs := hs x (List.mem_of_getElem? hx)
      obtain ⟨b, off, rfl, hLy⟩ := hAt.get (i := i) (by rw [hLK.out]; exact hlt)
      have c0 : wr.cell? ⟨b, off + i, none⟩ = some (.string x) := by
        have := (hLy.keep hB).2 i x 0 _ hx rfl
        rwa [show strE.k = 1 from rfl, Nat.mul_one, Nat.add_zero] at this
      have hx9 : x.size ≤ 1000000000 := by omega
      have htl := toks_len (sb x)
      rw [sb_length] at htl
      obtain ⟨n1, hn1⟩ : ∃ m, (wordsM x).length = m := ⟨_, rfl⟩
      obtain ⟨n2, hn2⟩ : ∃ m, (sentM x).length = m := ⟨_, rfl⟩
      obtain ⟨n3, hn3⟩ : ∃ m, (marksM x).length = m := ⟨_, rfl⟩
      have hb1 : n1 ≤ 100000 := by have := words_len x (toks (sb x)) (toks (sb x)).length; unfold wordsM at hn1; omega
      have hb2 : n2 ≤ 100000 := by have := (sent_len x (toks (sb x)) (toks (sb x)).length).1; unfold sentM at hn2; omega
      have hb3 : n3 ≤ 100000 := by have := marks_len (toks (sb x)) (toks (sb x)).length; unfold marksM at hn3; omega
      have HF := Lib.hid (fun V : World => fold_any x _ rfl hx9 V)
      have HRF := Lib.hid (fun V : World => rfold_any x _ rfl hx9 V)
      have HW := Lib.hid (fun V : World => (words_any x hx9 V).mono (fun _ _ h => h.give hn1))
      have HRW := Lib.hid (fun V : World => (rwords_any x hx9 V).mono (fun _ _ h => h.give hn1))
      have HSe := Lib.hid (fun V : World => (sentences_any x hx9 V).mono (fun _ _ h => h.give hn2))
      have HRS := Lib.hid (fun V : World => (rsentences_any x hx9 V).mono (fun _ _ h => h.give hn2))
      have HM := Lib.hid (fun V : World => (marks_any x hx9 V).mono (fun _ _ h => h.give hn3))
      have HRM := Lib.hid (fun V : World => (rmarks_any x hx9 V).mono (fun _ _ h => h.give hn3))
      generalize wordsM x = wl at hn1 HW HRW
      generalize sentM x = sl at hn2 HSe HRS
      generalize marksM x = ml at hn3 HM HRM
      generalize foldS x = F at HF HRF
      clear hx hLy hxs htl hx9
      go_wp2_with (first
        | (go_at_call 22; refine (HF.out wr).mono ?_; rintro en Wa ⟨rfl, hB2⟩; replace hB := link hB hB2)
        | (go_at_call 23; refine (HRF.out Wa).mono ?_; rintro en Wb ⟨rfl, hB2⟩; replace hB := link hB hB2)
        | (go_at_call 25; refine (HW.out Wb).mono ?_; rintro en Wc ⟨q2, c2, rfl, hc2, hA2, hB2⟩; replace hB := link hB hB2)
        | (go_at_call 26; refine (HRW.out Wc).mono ?_; rintro en Wd ⟨q3, c3, rfl, hc3, hA3, hB2⟩; replace hB := link hB hB2; replace hA2 := hA2.keep hB2)
        | (go_at_call 24; refine (sameTexts_refl wl q2 q3 n1 c2 c3 hn1 (by omega) Wd hA2 hA3).mono ?_; rintro en We ⟨rfl, hB2⟩; replace hB := link hB hB2)
        | (go_at_call 28; refine (HSe.out We).mono ?_; rintro en Wf ⟨q4, c4, rfl, hc4, hA4, hB2⟩; replace hB := link hB hB2)
        | (go_at_call 29; refine (HRS.out Wf).mono ?_; rintro en Wg ⟨q5, c5, rfl, hc5, hA5, hB2⟩; replace hB := link hB hB2; replace hA4 := hA4.keep hB2)
        | (go_at_call 27; refine (samePairs_refl sl q4 q5 n2 c4 c5 hn2 (by omega) Wg hA4 hA5).mono ?_; rintro en Wh ⟨rfl, hB2⟩; replace hB := link hB hB2)
        | (go_at_call 31; refine (HM.out Wh).mono ?_; rintro en Wi ⟨q6, c6, rfl, hc6, hA6, hB2⟩; replace hB := link hB hB2)
        | (go_at_call 32; refine (HRM.out Wi).mono ?_; rintro en Wj ⟨q7, c7, rfl, hc7, hA7, hB2⟩; replace hB := link hB hB2; replace hA6 := hA6.keep hB2)
        | (go_at_call 30; refine (sameInts_refl ml q6 q7 n3 c6 c7 hn3 (by omega) Wj hA6 hA7).mono ?_; rintro en Wk ⟨rfl, hB2⟩; replace hB := link hB hB2))
      exact ⟨⟨i + 1, by omega, by go_num, hB⟩, by simp [intOf]; omega⟩
    · have hlt : ¬ i < k := by omega
      obtain rfl : i = k := by omega
      go_wp2_with (go_at_call 14; refine (HLv.out _ (hG1.out.keep hB)).mono ?_; rintro en W9 ⟨rfl, hB9⟩)
      go_ret
      exact ⟨rfl, link hB1 (link hB hB9)⟩
end Go.Proofs.Ytehkgpefmjfifaa
