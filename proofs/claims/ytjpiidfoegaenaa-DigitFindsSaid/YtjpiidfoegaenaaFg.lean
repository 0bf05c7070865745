/-
  DigitFinds, walked.
-/
import Derived.Test.YtjpiidfoegaenaaFf
import Derived.Deep.CutRange
namespace Go.Proofs.Ytjpiidfoegaenaa
open Go Go.RowKit
set_option linter.unusedVariables false
set_option linter.unusedSimpArgs false

def LiR (s : ByteArray) (W : World) (v : Value) (wx : World) : Prop := ∃ (q : Option Addr) (n c : Nat) (L : List ByteArray), v = .slice q n c ∧ L.length = n ∧ n ≤ 2 ∧ At strE wx q L ∧ (∀ t ∈ L, SlipP s t) ∧ Below W.heap.size W wx
def FoRel (s : ByteArray) (L : List ByteArray) (n : Nat) (w : World) (f j : Value) (W : World) : Prop := ∃ k : Nat, k ≤ n ∧ j = .int .i64 (k : Int) ∧ (∃ b : Bool, f = .bool b ∧ (b = true ↔ s ∈ L.take k)) ∧ w = W
set_option maxHeartbeats 8000000 in
set_option maxRecDepth 100000 in
theorem digitFinds_any (A0 : Option Addr) (l : List Int) (n0 c0 : Nat) (hl0 : l.length = n0) (hn0 : n0 ≤ 9223372036854775807) (x1 : Int) (x1a : -9223372036854775808 ≤ x1) (x1b : x1 ≤ 9223372036854775807) (x2 : Int) (x2a : -9223372036854775808 ≤ x2) (x2b : x2 ≤ 9223372036854775807)
    (w : World) (h0 : IntsAt w A0 l) :
    Calls Try.prog 7 #[.slice A0 n0 c0, .int .i64 x1, .int .i64 x2] w (Yes w) := by
  have CT := Lib.hid (text_any l A0 n0 c0 hl0 hn0 w h0)
  have CL := Lib.hid (fun V => lives_any V)
  have CK1 := Lib.hid (fun k hk hk2 V => arnd x1 x1a x1b k hk hk2 V)
  have CK2 := Lib.hid (fun V => arnd x2 x2a x2b 31 (by omega) (by omega) V)
  clear hl0 hn0 x1a x1b x2a x2b h0
  go_enter Try.func7, Try.ntmps7
  go_upto_region 2 with (first
    | (go_at_call 23; refine CT.out.mono ?_; rintro _ _ ⟨s0, rfl, hs12, hok, rfl⟩; have Z := zero_text hs12 hok; have CA := Lib.hid (fun V => add_any ((⟨#[48]⟩ : ByteArray) ++ s0) (by rw [Z.2]; omega) V); rw [Z.1] at CA; have AC := add_checked Z.1; rw [Z.2] at AC; generalize addB ((⟨#[48]⟩ : ByteArray) ++ s0) = s at CA AC; have hcat : ¬ 9223372036854775807 < 1 + s0.size := (by omega))
    | (go_at_call 24; refine (CA.out _).mono ?_; rintro _ w1 ⟨rfl, B1⟩))
  obtain ⟨hc0, hs2, hsz⟩ := AC
  have hs14 : s.size ≤ 14 := by omega
  have hsn : ¬ s.size = 0 := by omega
  have CC := Lib.hid (fun V => (by have := chk_any s (by omega) V; rwa [hc0] at this : Calls Try.prog 26 #[.string s] V (IntR 0 V)))
  have CN := Lib.hid (fun V => (by have := near_any s (by omega) V; rwa [near_none hc0] at this : Calls Try.prog 28 #[.string s] V (MadeR strE [] V)))
  clear CA hcat Z hsz CT hok hs12
  go_upto_region 4 with (first
    | (go_at_call 26; refine (CC.out _).mono ?_; rintro _ w2 ⟨rfl, B2⟩)
    | (go_at_call 28; refine (CN.out _).mono ?_; intro _ w3 h3; obtain ⟨q3, c3, rfl, _, _, B3⟩ := h3.give rfl))
  have BA := link B1 (link B2 B3)
  clear h3 CC CN B1 B2 B3
  go_upto_region 5 with (go_at_call 21; refine (CK1.out s.size (by omega) (by omega) _).mono ?_; rintro _ _ ⟨k, hk, rfl, rfl⟩)
  have CH := Lib.hid (fun v hv V => changed_any s (by omega) k v hk hv V)
  go_upto_region 6 with (first
    | (go_at_call 21; refine (CK2.out _).mono ?_; rintro _ _ ⟨v, hv, rfl, rfl⟩)
    | (go_at_call 29; refine (CH.out v hv _).mono ?_; rintro _ w4 ⟨rfl, B4⟩))
  have P1 := slip_sub hc0 hk hv (sb_changed s hk hv)
  generalize s.extract 0 k ++ alphB.extract v (v + 1) ++ s.extract (k + 1) s.size = t1 at P1 ⊢
  have BB := link BA B4
  clear CH BA B4 CK1 CK2
  have X : Below w4.heap.size w4 (w4.alloc (.cells #[.string t1] 9)) := (Below.refl _ _).alloc (Nat.le_refl _) _
  have O : OwnR strE (w4.alloc (.cells #[.string t1] 9)) w4.heap.size (.slice (some ⟨w4.heap.size, 0, none⟩) 1 1) [t1] := own_new strE w4 #[.string t1] [t1] 1 rfl (by omega) rfl
  have hw4 : w4.heap.size ≤ (w4.alloc (.cells #[.string t1] 9)).heap.size := X.size
  generalize w4.alloc _ = w5 at O X hw4 ⊢
  obtain ⟨g4, hg4⟩ : ∃ g, g = w4.heap.size := ⟨_, rfl⟩
  rw [← hg4] at O hw4 ⊢
  have HG := Lib.hid hg4
  clear hg4
  go_upto_if 54 with (fail)
  go_cut [10] from 50 to 61 (fun v wx => LiR s w4 v wx)
  case first =>
    rcases Nat.lt_or_ge (k + 1) s.size with h1 | h1
    · have h1z : (k : Int) + 1 < (s.size : Int) := by omega
      have CX := Lib.hid (fun V => exchanged_any s (by omega) k h1 V)
      have P2 := slip_swap hc0 h1 (sb_exchanged s h1)
      generalize s.extract 0 k ++ s.extract (k + 1) (k + 2) ++ s.extract k (k + 1) ++ s.extract (k + 2) s.size = t2 at P2 CX
      have hle : [t1].length ≤ 1000000000000 := by show 1 ≤ _; omega
      go_wp2_with (first
        | (go_at_call 30; refine (CX.out _).mono ?_; rintro _ w6 ⟨rfl, B6⟩; have O6 := O.keep B6; have hw6 : g4 ≤ w6.heap.size := Nat.le_trans hw4 B6.size)
        | (at_builtin; refine push_el strE rfl (.tmp 55) (.tmp 59) rfl [t1] t2 _ rfl O6 hw6 _ rfl _ rfl hle ?_; intro v6 w7 hO6 hB7 hR6))
      go_meet
      obtain ⟨q6, c6, e6, _, A6, _⟩ := hO6.form
      exact ⟨q6, 2, c6, [t1, t2], e6, rfl, by omega, A6, fun t ht => by
        simp only [List.mem_cons, List.not_mem_nil, or_false] at ht
        rcases ht with rfl | rfl <;> assumption, (link X B6).trans (by rw [← HG.out]; exact hB7)⟩
    · have h1z : ¬ (k : Int) + 1 < (s.size : Int) := by omega
      go_wp2
      go_meet
      obtain ⟨q6, c6, e6, _, A6, _⟩ := O.form
      exact ⟨q6, 1, c6, [t1], e6, rfl, by omega, A6, fun t ht => by rw [List.mem_singleton.1 ht]; exact P1, X⟩
  case rest =>
  obtain ⟨qL, nL, cL, L, rfl, hL, hL2, AL, PL, BC⟩ := hcut
  generalize wc = W3 at *
  have BR := Lib.hid (link BB BC)
  clear BB BC O P1 hw4
  go_wp2
  go_loopw [11] (fun v V => NumRel W3 nL v V) (fun v _ => nL - (intOf v).toNat)
  case atStart => exact ⟨0, Nat.zero_le _, rfl, Below.refl _ _⟩
  case round =>
    obtain ⟨i, hi, rfl, hB⟩ := hrel
    rcases Nat.lt_or_ge i nL with hlt | hge
    · have hltz : (i : Int) < (nL : Int) := by omega
      obtain ⟨t, ht⟩ : ∃ t, L[i]? = some t := ⟨_, List.getElem?_eq_getElem (by omega)⟩
      have PT := PL t (List.mem_of_getElem? ht)
      have ALr := AL.keep hB
      obtain ⟨gL, oL, rfl, hLay⟩ := ALr.get (i := i) (by omega)
      have c9 := hLay.2 i t 0 _ ht rfl
      rw [show i * strE.k = i by show i * 1 = i; omega, Nat.add_zero] at c9
      rcases PT with rfl | ⟨hne, h9, hm, hlen, htn⟩
      · go_wp2
        exact ⟨⟨i + 1, by omega, by go_num, hB⟩, by simp [intOf]; omega⟩
      · have hb := bytes_ne hne
        have CN := Lib.hid (fun V => near_any t (by omega) V)
        have CC := Lib.hid (fun V => (by have := chk_any t (by omega) V; rwa [h9] at this : Calls Try.prog 26 #[.string t] V (IntR 9 V)))
        obtain ⟨N, hN⟩ : ∃ N, nearT t = N := ⟨_, rfl⟩
        rw [hN] at CN hm hlen
        obtain ⟨n, hn⟩ : ∃ n, N.length = n := ⟨_, rfl⟩
        have HN := Lib.hid hn
        have hgt : ¬ (2 * (s.size : Int) - 1 < (n : Int)) := by omega
        have hw1 : IntKind.i64.wrap (2 * (s.size : Int)) = 2 * (s.size : Int) := wrap_in (by omega) (by omega)
        have hw2 : IntKind.i64.wrap (2 * (s.size : Int) - 1) = 2 * (s.size : Int) - 1 := wrap_in (by omega) (by omega)
        have HM := Lib.hid hm
        clear hN hlen h9 hm
        go_upto_region 13 with (go_at_call 28; refine (CN.out _).mono ?_; intro _ w4 h4; obtain ⟨q4, c4, rfl, _, A4, B4⟩ := h4.give HN.out)
        have hLk := hLay.keep B4
        have c9 := hLk.2 i t 0 _ ht rfl
        rw [show i * strE.k = i by show i * 1 = i; omega, Nat.add_zero] at c9
        clear h4 hn
        go_wp2
        go_loopw [13, 14] (fun f j V => FoRel s N n w4 f j V) (fun _ j _ => n - (intOf j).toNat)
        case atStart => exact ⟨0, Nat.zero_le _, rfl, ⟨false, rfl, by simp⟩, rfl⟩
        case round =>
          obtain ⟨j, hj, rfl, ⟨b, rfl, hb2⟩, rfl⟩ := hrel
          rcases Nat.lt_or_ge j n with hjn | hjn
          · have hjz : (j : Int) < (n : Int) := by omega
            obtain ⟨y, hy⟩ : ∃ y, N[j]? = some y := ⟨_, List.getElem?_eq_getElem (by rw [HN.out]; exact hjn)⟩
            have HT : Hid (s ∈ N.take (j + 1) ↔ s ∈ N.take j ∨ s = y) := Lib.hid (by rw [List.take_add_one, hy, List.mem_append]; simp)
            obtain ⟨g4, o4, rfl, hL4⟩ := A4.get (i := j) (by rw [HN.out]; exact hjn)
            have c10 := hL4.2 j y 0 _ hy rfl
            rw [show j * strE.k = j by show j * 1 = j; omega, Nat.add_zero] at c10
            have HB2 := Lib.hid hb2
            clear hb2 hy
            cases b
            case true =>
              go_wp2
              exact ⟨⟨j + 1, by omega, by go_num, ⟨true, rfl, ⟨fun _ => HT.out.2 (Or.inl (HB2.out.1 rfl)), fun _ => rfl⟩⟩, rfl⟩, by simp [intOf]; omega⟩
            case false =>
              by_cases hys : y = s
              · subst hys
                go_wp2
                exact ⟨⟨j + 1, by omega, by go_num, ⟨true, rfl, ⟨fun _ => HT.out.2 (Or.inr rfl), fun _ => rfl⟩⟩, rfl⟩, by simp [intOf]; omega⟩
              · have hb3 := bytes_ne hys
                have HYS := Lib.hid hys
                clear hys
                go_wp2
                exact ⟨⟨j + 1, by omega, by go_num, ⟨false, rfl, ⟨fun h => (by cases h), fun h => (HT.out.1 h).elim (fun h => HB2.out.2 h) (fun h => absurd h.symm HYS.out)⟩⟩, rfl⟩, by simp [intOf]; omega⟩
          · obtain rfl : j = n := by omega
            obtain rfl : b = true := hb2.2 (by rw [List.take_of_length_le (by rw [HN.out]; exact Nat.le_refl _)]; exact HM.out)
            clear hb2
            go_wp2_with (go_at_call 26; refine (CC.out _).mono ?_; rintro _ w5 ⟨rfl, B5⟩)
            exact ⟨⟨i + 1, by omega, by go_num, link hB (link B4 B5)⟩, by simp [intOf]; omega⟩
    · obtain rfl : i = nL := by omega
      go_wp2_with (go_at_call 16; refine (CL.out _).mono ?_; rintro _ w9 ⟨rfl, B9⟩)
      go_ret
      exact ⟨rfl, link BR.out (link hB B9)⟩
end Go.Proofs.Ytjpiidfoegaenaa
