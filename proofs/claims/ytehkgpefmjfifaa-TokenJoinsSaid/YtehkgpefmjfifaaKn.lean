/-
  Stops and sentences.
-/
import Derived.Test.YtehkgpefmjfifaaKh
import Derived.Test.YtehkgpefmjfifaaKl
namespace Go.Proofs.Ytehkgpefmjfifaa
open Go.RowKit
set_option linter.unusedVariables false
set_option linter.unusedSimpArgs false

def isStop (c : Nat) : Bool := c == 46 || c == 63 || c == 33
/-- Whether a token is a stop. -/
def stopT (s : ByteArray) (t : Tk) : Bool := (match (sb s)[t.1]? with | some c => isStop c | none => false) && (decide (t.2.1 = s.size) || decide (kdAt (sb s) t.2.1 = 4))
theorem index_stop : ∀ c : Nat, c < 256 → decide (0 ≤ Lib.indexByte [46, 63, 33] (((c : Nat) : Int).toNat.toUInt8)) = isStop c := by decide +kernel
theorem stop_at {s : ByteArray} {t : Tk} {c : Nat} (h : (sb s)[t.1]? = some c) : stopT s t = (isStop c && (decide (t.2.1 = s.size) || decide (kdAt (sb s) t.2.1 = 4))) := by
  unfold stopT
  rw [h]

set_option maxHeartbeats 4000000 in
set_option maxRecDepth 100000 in
theorem stop1_any (s : ByteArray) (hn6 : s.size ≤ 1000000000) (l : List Tk) (hl : l = toks (sb s)) (n : Nat) (hn : l.length = n) (q : Option Addr) (c i : Nat) (hi : i < n) (t : Tk) (ht : l[i]? = some t) (tb sp : Nat) (w : World) (hT : Blk w tb 33 [.slice q n c]) (hS : Blk w sp 9 [.string s]) (hA : At tkE w q l) :
    Calls Try.prog 46 #[.int .i64 (i : Int), .pointer (some ⟨tb, 0, none⟩), .pointer (some ⟨sp, 0, none⟩)] w (Told w (stopT s t)) := by
  obtain ⟨b, off, rfl, hL⟩ := hA.get (i := i) (by omega)
  obtain ⟨ta, te, tk⟩ := t
  have hL2 := hL.range ht
  have hin := toks_in (bs := sb s) (i := i) (hl ▸ ht)
  rw [sb_length] at hin
  obtain ⟨hin1, hin2, hin3⟩ := hin
  have hin1 : ta < te := hin1
  have hin2 : te ≤ s.size := hin2
  have htas : ta < s.size := by omega
  obtain ⟨hg, hb⟩ := sb_get htas
  have hst := stop_at (t := (ta, te, tk)) hg
  have hix := index_stop _ hb
  have HIx := Lib.hid (fun (V : World) => (show _ from Try.strings_IndexByte ⟨#[46, 63, 33]⟩ (((s[ta]'htas).toNat : Nat) : Int) V))
  rw [show tkE.k = 3 from rfl] at hL2
  replace hL2 : w.rangeAt b (off + i * 3) [.int .i64 (ta : Int), .int .i64 (te : Int), .int .i64 (tk : Int)] := hL2
  have c1 := hT.cell (j := 0) rfl
  have HSB := Lib.hid (fun (V : World) (h : Below w.heap.size w V) => (hS.keep h : Blk V sp 9 [.string s]))
  clear hl hn ht hL hA hg hT hS
  go_enter Try.func46, Try.ntmps46
  go_upto_region 2 with (first
    | (refine wpList_load_mid rfl 52 (.tmp 8) rfl b (off + i * 3) rfl [.int .i64 (ta : Int), .int .i64 (te : Int), .int .i64 (tk : Int)] _ hL2 Try.underlying52 rfl (by kernel_rfl) ?_)
    | (refine store_blk rfl 52 (.tmp 5) (.tmp 9) rfl (blk_new w 52 #[.int .i64 0, .int .i64 0, .int .i64 0]) rfl rfl (m := 3) (by kernel_rfl) rfl rfl (by intro v hv; simp at hv; rcases hv with rfl | rfl | rfl <;> rfl) ?_; intro W5 K5 O5))
  have B5 : Below w.heap.size w W5 := O5.2.2 _ _ (Nat.le_refl _) ((Below.refl _ _).alloc (Nat.le_refl _) _)
  have c2 := (HSB.out _ B5).cell (j := 0) rfl
  have c3 := K5.cell (j := 0) rfl
  have c4 := K5.cell (j := 1) rfl
  clear c1 hL2 O5 K5 HSB
  generalize w.heap.size = t5 at c3 c4 ⊢
  generalize Lib.indexByte _ _ = z at hix HIx
  rcases hs : isStop (s[ta]'htas).toNat with _ | _
  · rw [hs] at hst hix
    rw [Bool.false_and] at hst
    have HST := Lib.hid hst
    have hz : ¬ 0 ≤ z := of_decide_eq_false hix
    clear hst hix hs
    go_wp2_with (go_at_call 47; refine (HIx.out _).mono ?_; rintro en w1 ⟨rfl, hw1⟩; rw [hw1]; clear hw1)
    go_ret
    exact ⟨by rw [HST.out]; rfl, B5⟩
  · rw [hs] at hst hix
    rw [Bool.true_and] at hst
    have hz : 0 ≤ z := of_decide_eq_true hix
    clear hix hs
    rcases Nat.eq_or_lt_of_le hin2 with he | he
    · rw [decide_eq_true he, Bool.true_or] at hst
      have HST := Lib.hid hst
      have hte : ((te : Int) == (s.size : Int)) = true := by simp [he]
      clear hst he
      go_wp2_with (go_at_call 47; refine (HIx.out _).mono ?_; rintro en w1 ⟨rfl, hw1⟩; rw [hw1]; clear hw1)
      go_ret
      exact ⟨by rw [HST.out]; rfl, B5⟩
    · have hte : ((te : Int) == (s.size : Int)) = false := by simp; omega
      obtain ⟨hg2, hb2⟩ := sb_get he
      have hkd := kdAt_sb he
      rw [decide_eq_false (show ¬ te = s.size by omega), Bool.false_or, hkd] at hst
      by_cases h32 : (s[te]'he).toNat = 32
      · rw [decide_eq_true (kd_four.2 h32)] at hst
        have HST := Lib.hid hst
        have h32b : (((s[te]'he).toNat : Int) == 32) = true := by simp [h32]
        clear hst hkd hg2 h32
        go_wp2_with (go_at_call 47; refine (HIx.out _).mono ?_; rintro en w1 ⟨rfl, hw1⟩; rw [hw1]; clear hw1)
        go_ret
        exact ⟨by rw [HST.out]; rfl, B5⟩
      · rw [decide_eq_false (fun e => h32 (kd_four.1 e))] at hst
        have HST := Lib.hid hst
        have h32b : (((s[te]'he).toNat : Int) == 32) = false := by simp; omega
        clear hst hkd hg2 h32
        go_wp2_with (go_at_call 47; refine (HIx.out _).mono ?_; rintro en w1 ⟨rfl, hw1⟩; rw [hw1]; clear hw1)
        go_ret
        exact ⟨by rw [HST.out]; rfl, B5⟩

/-- The sentences among the first tokens, and where the next one begins. -/
def sentTo (s : ByteArray) (l : List Tk) : Nat → List (Int × Int) × Nat
  | 0 => ([], 0)
  | i + 1 => match l[i]? with
    | some t => if stopT s t || decide (i + 1 = l.length) then ((sentTo s l i).1 ++ [(((sentTo s l i).2 : Int), ((i + 1 : Nat) : Int))], i + 1) else sentTo s l i
    | none => sentTo s l i
theorem sent_yes {s : ByteArray} {l : List Tk} {i : Nat} {t : Tk} (h : l[i]? = some t) (hc : (stopT s t || decide (i + 1 = l.length)) = true) : sentTo s l (i + 1) = ((sentTo s l i).1 ++ [(((sentTo s l i).2 : Int), ((i + 1 : Nat) : Int))], i + 1) := by
  conv => lhs; unfold sentTo
  rw [h]
  dsimp only
  rw [if_pos hc]
theorem sent_no {s : ByteArray} {l : List Tk} {i : Nat} {t : Tk} (h : l[i]? = some t) (hc : (stopT s t || decide (i + 1 = l.length)) = false) : sentTo s l (i + 1) = sentTo s l i := by
  conv => lhs; unfold sentTo
  rw [h]
  dsimp only
  rw [if_neg (by rw [hc]; simp)]
theorem sent_len (s : ByteArray) (l : List Tk) : ∀ i, (sentTo s l i).1.length ≤ i ∧ (sentTo s l i).2 ≤ i
  | 0 => ⟨Nat.le_refl _, Nat.le_refl _⟩
  | i + 1 => by
    have ih := sent_len s l i
    rcases ht : l[i]? with _ | t
    · have e : sentTo s l (i + 1) = sentTo s l i := by conv => lhs; unfold sentTo; rw [ht]
      rw [e]
      omega
    · rcases hc : (stopT s t || decide (i + 1 = l.length)) with _ | _
      · rw [sent_no ht hc]
        omega
      · rw [sent_yes ht hc, List.length_append, List.length_singleton]
        dsimp only
        omega
def sentM (s : ByteArray) : List (Int × Int) := (sentTo s (toks (sb s)) (toks (sb s)).length).1
def SentRel (s : ByteArray) (n : Nat) (W : World) (v5 v6 v13 : Value) (wr : World) : Prop := ∃ i : Nat, v13 = .int .i64 (i : Int) ∧ i ≤ n ∧ OwnR prE wr W.heap.size v5 (sentTo s (toks (sb s)) i).1 ∧ v6 = .int .i64 ((sentTo s (toks (sb s)) i).2 : Int) ∧ Below W.heap.size W wr

set_option maxHeartbeats 4000000 in
set_option maxRecDepth 100000 in
theorem sentences_any (s : ByteArray) (hn6 : s.size ≤ 1000000000) (w : World) :
    Calls Try.prog 28 #[.string s] w (MadeR prE (sentM s) w) := by
  have HS := Lib.hid (fun (V : World) => split_any s s.size rfl hn6 V)
  obtain ⟨n, hn⟩ : ∃ n, (toks (sb s)).length = n := ⟨_, rfl⟩
  have hnb : n ≤ 1000000000 := by have := toks_len (sb s); rw [sb_length] at this; omega
  have HN := Lib.hid hn
  clear hn
  go_enter Try.func28, Try.ntmps28
  go_upto_region 1 with (fail)
  have Ks := blk_new w 9 #[.string s]
  have X0 : Below w.heap.size w (w.alloc (.cells #[.string s] 9)) := (Below.refl _ _).alloc (Nat.le_refl _) _
  have c0 := Ks.cell (j := 0) rfl
  generalize World.alloc w _ = W0 at Ks X0 c0 ⊢
  obtain ⟨sp, hsp⟩ : ∃ p, w.heap.size = p := ⟨_, rfl⟩
  rw [hsp] at Ks c0 ⊢
  have hspw : w.heap.size ≤ sp := by omega
  clear hsp
  go_upto_region 2 with (go_at_call 18; refine (HS.out W0).mono ?_; rintro en W1 ⟨v, rfl, hO, hB1⟩; obtain ⟨q, c, rfl, hc, hAt, _, _⟩ := hO.form; rw [HN.out] at hc ⊢)
  generalize hw2 : World.alloc W1 _ = W2
  have Kt : Blk W2 W1.heap.size 33 [.slice q n c] := hw2 ▸ blk_new W1 _ _
  have X2 : Below W1.heap.size W1 W2 := hw2 ▸ ((Below.refl _ _).alloc (Nat.le_refl _) _)
  have hAt2 := hAt.keep X2
  have Ks2 := (Ks.keep hB1).keep X2
  have B2 : Below w.heap.size w W2 := link (link X0 hB1) X2
  clear hw2 hO hAt Ks hB1 X0 X2 c0
  generalize W1.heap.size = tb at Kt ⊢
  have htbl := Kt.lt
  have HSt0 := Lib.hid (fun (i : Nat) (hi : i < n) (t : Tk) (ht : (toks (sb s))[i]? = some t) (V : World) (hB : Below W2.heap.size W2 V) => stop1_any s hn6 _ rfl n HN.out q c i hi t ht tb sp V (Kt.keep hB) (Ks2.keep hB) (hAt2.keep hB))
  have HC1 := Lib.hid (fun (V : World) (hB : Below W2.heap.size W2 V) => ((Kt.keep hB).cell (j := 0) rfl : V.cell? ⟨tb, 0, none⟩ = some (.slice q n c)))
  have c1 := HC1.out W2 (Below.refl _ _)
  clear hAt2 Ks2 Kt
  go_wp2
  clear c1
  go_loopw [5, 6, 13] (fun v5 v6 v13 wr => SentRel s n W2 v5 v6 v13 wr) (fun _ _ v _ => n - (intOf v).toNat)
  case atStart => exact ⟨0, rfl, Nat.zero_le _, OwnR.nil _ _ _, rfl, Below.refl _ _⟩
  case round =>
    obtain ⟨i, rfl, hi, hR, rfl, hB5⟩ := hrel
    have c1 := HC1.out _ hB5
    have htb5 : tb < wr.heap.size := Nat.lt_of_lt_of_le htbl hB5.size
    rcases Nat.lt_or_ge i n with hlt | hge
    · obtain ⟨t, ht⟩ : ∃ a, (toks (sb s))[i]? = some a := ⟨_, List.getElem?_eq_getElem (by rw [HN.out]; exact hlt)⟩
      have HSt := Lib.hid (HSt0.out i hlt t ht)
      have hsl := sent_len s (toks (sb s)) i
      have HT := Lib.hid ht
      obtain ⟨f, hf⟩ : ∃ f, (sentTo s (toks (sb s)) i).2 = f := ⟨_, rfl⟩
      rw [hf] at hsl ⊢
      have HF := Lib.hid hf
      obtain ⟨i1, hi1⟩ : ∃ i1, i + 1 = i1 := ⟨_, rfl⟩
      have hi1i : (i : Int) + 1 = (i1 : Int) := by omega
      have H1 := Lib.hid hi1
      obtain ⟨m, hm⟩ : ∃ m, n = m + 1 := ⟨n - 1, by omega⟩
      have hmi : (n : Int) - 1 = (m : Int) := by omega
      have hmb : m < n := by omega
      have HMm := Lib.hid hm
      clear ht hf hi1 hm HSt0 HC1
      rcases hs : stopT s t with _ | _
      · rw [hs] at HSt
        by_cases hl : i = m
        · have hlb : ((i : Int) == (m : Int)) = true := by simp [hl]
          have HL := Lib.hid (show (stopT s t || decide (i + 1 = (toks (sb s)).length)) = true from by rw [hs, Bool.false_or, decide_eq_true_eq, HN.out, HMm.out, hl])
          clear hs hl
          have HM := Lib.hid (sent_yes HT.out HL.out)
          rw [HF.out] at HM
          go_wp2_with (first
            | (go_at_call 46; refine (HSt.out _ hB5).mono ?_; rintro en W6 ⟨rfl, hB6⟩; have hB7 := link hB5 hB6; replace hR := hR.keep hB6; replace c1 := (hB6.cell (p := ⟨tb, 0, none⟩) htb5).trans c1)
            | (at_builtin; refine push_el prE rfl (.tmp 26) (.tmp 31) rfl _ ((f : Int), (i1 : Int)) _ rfl hR hB7.size _ rfl _ rfl (by omega) ?_; intro v4 w4 hO4 hB4 hR4))
          exact ⟨⟨i + 1, by go_num, by omega, by rw [HM.out]; rw [H1.out]; exact hO4, by rw [HM.out]; have := H1.out; congr 1; omega, hB7.trans hB4⟩, by simp [intOf]; omega⟩
        · have hlb : ((i : Int) == (m : Int)) = false := by simp; omega
          have HL := Lib.hid (show (stopT s t || decide (i + 1 = (toks (sb s)).length)) = false from by rw [hs, Bool.false_or, decide_eq_false_iff_not, HN.out, HMm.out]; omega)
          clear hs hl
          have HM := Lib.hid (sent_no HT.out HL.out)
          go_wp2_with (go_at_call 46; refine (HSt.out _ hB5).mono ?_; rintro en W6 ⟨rfl, hB6⟩; have hB7 := link hB5 hB6; replace hR := hR.keep hB6; replace c1 := (hB6.cell (p := ⟨tb, 0, none⟩) htb5).trans c1)
          exact ⟨⟨i + 1, by have := H1.out; congr 1; omega, by omega, by rw [HM.out]; exact hR, by rw [HM.out, HF.out], hB7⟩, by have := H1.out; simp [intOf]; omega⟩
      · rw [hs] at HSt
        have HL := Lib.hid (show (stopT s t || decide (i + 1 = (toks (sb s)).length)) = true from by rw [hs, Bool.true_or])
        clear hs
        have HM := Lib.hid (sent_yes HT.out HL.out)
        rw [HF.out] at HM
        go_wp2_with (first
          | (go_at_call 46; refine (HSt.out _ hB5).mono ?_; rintro en W6 ⟨rfl, hB6⟩; have hB7 := link hB5 hB6; replace hR := hR.keep hB6; replace c1 := (hB6.cell (p := ⟨tb, 0, none⟩) htb5).trans c1)
          | (at_builtin; refine push_el prE rfl (.tmp 26) (.tmp 31) rfl _ ((f : Int), (i1 : Int)) _ rfl hR hB7.size _ rfl _ rfl (by omega) ?_; intro v4 w4 hO4 hB4 hR4))
        exact ⟨⟨i + 1, by go_num, by omega, by rw [HM.out]; rw [H1.out]; exact hO4, by rw [HM.out]; have := H1.out; congr 1; omega, hB7.trans hB4⟩, by simp [intOf]; omega⟩
    · have hlt : ¬ i < n := by omega
      obtain rfl : i = n := by omega
      clear HSt0 HC1 c1
      go_wp2
      go_ret
      exact ⟨_, rfl, by unfold sentM; rw [HN.out]; exact hR.mono B2.size, link B2 hB5⟩

end Go.Proofs.Ytehkgpefmjfifaa
