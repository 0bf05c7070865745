/-
  token.next: the first token from a place on.
-/
import Derived.Test.YtehkgpefmjfifaaKb
namespace Go.Proofs.Ytehkgpefmjfifaa
open Go.RowKit
set_option linter.unusedVariables false
set_option linter.unusedSimpArgs false

def tkV (t : Tk) : List Value := [.int .i64 (t.1 : Int), .int .i64 (t.2.1 : Int), .int .i64 (t.2.2 : Int)]
/-- What next answers. -/
def NextV (s : ByteArray) (at_ : Nat) (w : World) (e : Ending) (w' : World) : Prop :=
  Below w.heap.size w w' ∧ ((∃ t : Tk, e = .returned (.tuple #[.agg (tkV t).toArray, .bool true]) ∧ Tok1 (kdAt (sb s)) s.size at_ t) ∨ (e = .returned (.tuple #[.agg #[.int .i64 0, .int .i64 0, .int .i64 0], .bool false]) ∧ Run (kdAt (sb s)) s.size at_ []))
theorem kdAt_sb {s : ByteArray} {i : Nat} (h : i < s.size) : kdAt (sb s) i = kd (s[i]'h).toNat := kdAt_get (sb_get h).1
theorem kd_isL {c : Nat} : isL c = true → kd c = 0 := by
  intro h
  apply kd_letter
  unfold isL at h
  simpa using h
theorem kd_isL' {c : Nat} (h : isL c = false) : kd c ≠ 0 := by
  intro g
  unfold kd at g
  split at g
  · cases g
  · rw [h] at g
    rw [if_neg (by simp)] at g
    split at g
    · cases g
    · split at g <;> cases g
theorem kd_isD {c : Nat} : isD c = true → kd c = 1 := by
  intro h
  apply kd_digit
  unfold isD at h
  simpa using h
theorem kd_isD' {c : Nat} (h : isD c = false) : kd c ≠ 1 := by
  intro g
  unfold kd at g
  split at g
  · cases g
  · split at g
    · cases g
    · rw [h, if_neg (by simp)] at g
      split at g <;> cases g
theorem kd_rest {c : Nat} (h1 : isL c = false) (h2 : isD c = false) (h3 : c ≠ 32) : kd c = if c = 64 then 3 else 2 := by
  unfold kd
  rw [if_neg h3, h1, h2, if_neg (by simp), if_neg (by simp)]
def SkipRel (s : ByteArray) (at_ n : Nat) (V : World) (v : Value) (wr : World) : Prop := ∃ i : Nat, v = .int .i64 (i : Int) ∧ at_ ≤ i ∧ i ≤ n ∧ (∀ j, at_ ≤ j → j < i → kdAt (sb s) j = 4) ∧ wr = V
theorem run_tok {s : ByteArray} {P : Nat → Bool} {k at_ i n e1 : Nat} (hn : s.size = n) (hk : k < 2) (hP : ∀ c, P c = true → kd c = k) (hP' : ∀ c, P c = false → kd c ≠ k) (h1 : at_ ≤ i) (hin : i < n) (hbl : ∀ j, at_ ≤ j → j < i → kdAt (sb s) j = 4) (hki : kdAt (sb s) i = k)
    (g1 : i + 1 ≤ e1) (g2 : e1 ≤ n) (g3 : ∀ j c, i + 1 ≤ j → j < e1 → (sb s)[j]? = some c → P c = true) (g4 : ∀ c, (sb s)[e1]? = some c → P c = false) : Tok1 (kdAt (sb s)) s.size at_ (i, e1, k) := by
  subst hn
  refine ⟨h1, by show i < e1; omega, g2, hbl, by show k < 4; omega, hki, fun _ => ⟨fun j q1 q2 => ?_, fun q => ?_⟩, fun q => by have q : 2 ≤ k := q; omega⟩
  · have q1 : i ≤ j := q1
    have q2 : j < e1 := q2
    rcases Nat.eq_or_lt_of_le q1 with e | e
    · rw [← e]; exact hki
    · have hj : (sb s)[j]? = some ((sb s)[j]'(by rw [sb_length]; omega)) := List.getElem?_eq_getElem _
      rw [kdAt_get hj]
      exact hP _ (g3 j _ e q2 hj)
  · have q : e1 < s.size := q
    have hj : (sb s)[e1]? = some ((sb s)[e1]'(by rw [sb_length]; omega)) := List.getElem?_eq_getElem _
    show kdAt (sb s) e1 ≠ k
    rw [kdAt_get hj]
    exact hP' _ (g4 _ hj)

theorem mark_tok {s : ByteArray} {k at_ i i1 n : Nat} (hn : s.size = n) (hi1 : i + 1 = i1) (h1 : at_ ≤ i) (hin : i < n) (hbl : ∀ j, at_ ≤ j → j < i → kdAt (sb s) j = 4) (hki : kdAt (sb s) i = k) (hk2 : 2 ≤ k) (hk4 : k < 4) : Tok1 (kdAt (sb s)) s.size at_ (i, i1, k) := by
  subst hn hi1
  exact ⟨h1, by show i < i + 1; omega, hin, hbl, hk4, hki, fun q => by have q : k < 2 := q; omega, fun _ => rfl⟩

set_option maxHeartbeats 4000000 in
set_option maxRecDepth 100000 in
theorem next_any (s : ByteArray) (at_ n : Nat) (hn : s.size = n) (hn6 : n ≤ 1000000000) (ha : at_ ≤ n) (w : World) :
    Calls Try.prog 44 #[.string s, .int .i64 (at_ : Int)] w (NextV s at_ w) := by
  have HN := Lib.hid hn
  clear hn
  go_enter Try.func44, Try.ntmps44
  go_upto_region 1 with (fail)
  generalize hw1 : World.alloc _ _ = W0
  have Kt : Blk W0 (w.heap.size + 1) 52 [.int .i64 0, .int .i64 0, .int .i64 0] := hw1 ▸ blk_new1 w _ _ _
  have Ks : Blk W0 w.heap.size 9 [.string s] := hw1 ▸ ((blk_new w _ _).alloc _)
  have KB : Below w.heap.size w W0 := hw1 ▸ (((Below.refl _ _).alloc (Nat.le_refl _) _).alloc (by simp) _)
  clear hw1
  obtain ⟨sp, hsp⟩ : ∃ p, w.heap.size = p := ⟨_, rfl⟩
  obtain ⟨tp, htp⟩ : ∃ p, w.heap.size + 1 = p := ⟨_, rfl⟩
  rw [htp] at Kt ⊢
  rw [hsp] at Ks ⊢
  have hst : sp < tp := by omega
  have hwp : w.heap.size ≤ sp := by omega
  clear htp hsp
  go_loopw [1] (fun v wr => SkipRel s at_ n W0 v wr) (fun v _ => n - (intOf v).toNat)
  case atStart => exact ⟨at_, rfl, Nat.le_refl _, ha, fun j h1 h2 => by omega, rfl⟩
  case round =>
    obtain ⟨i, rfl, h1, h2, h3, hwr⟩ := hrel
    subst hwr
    have HF := Lib.hid h3
    clear h3
    have hsz := HN.out
    have c2 := Ks.cell (j := 0) rfl
    rcases Nat.lt_or_ge i n with hlt | hge
    · have his : i < s.size := by omega
      obtain ⟨hg, hb⟩ := sb_get his
      have hki := kdAt_sb his
      by_cases h32 : (s[i]'his).toNat = 32
      · have hcb : (((s[i]'his).toNat : Int) == 32) = true := by simp [h32]
        have HK := Lib.hid (hki.trans (kd_four.2 h32))
        clear hki hg h32
        go_wp2
        go_roundw
        case rel =>
          refine ⟨i + 1, by go_num, by omega, by omega, fun j g1 g2 => ?_, rfl⟩
          rcases Nat.lt_or_ge j i with g | g
          · exact HF.out j g1 g
          · obtain rfl : j = i := by omega
            exact HK.out
        case measure => simp [intOf]; omega
      · have hcb : (((s[i]'his).toNat : Int) == 32) = false := by simp; omega
        have HK := Lib.hid hki
        have H32 := Lib.hid h32
        clear hki hg h32
        have hinb : ((i : Int) == (n : Int)) = false := by simp; omega
        go_upto_region 6 with (fail)
        generalize hw1 : World.alloc _ _ = W1
        have Ke : Blk W1 wr.heap.size 3 [.int .i64 ((i : Int) + 1)] := hw1 ▸ blk_new _ _ _
        have X1 : Below wr.heap.size wr W1 := hw1 ▸ ((Below.refl _ _).alloc (Nat.le_refl _) _)
        have Kt1 := Kt.keep X1
        have Ks1 := Ks.keep X1
        have hte : tp < wr.heap.size := Kt.lt
        have KB1 := link KB X1
        clear hw1 Kt Ks KB X1 c2 ha
        generalize wr.heap.size = ep at Ke hte ⊢
        have c2 := Ks1.cell (j := 0) rfl
        obtain ⟨i1, hi1⟩ : ∃ i1, i + 1 = i1 := ⟨_, rfl⟩
        have hi1i : (i : Int) + 1 = (i1 : Int) := by omega
        rw [hi1i] at Ke ⊢
        go_upto_region 8 with (fail)
        clear c2 hi1i
        generalize hcv : (s[i]'his).toNat = c at hb HK H32 ⊢
        clear hcv
        have hin1 : i1 ≤ n := by omega
        have H1 := Lib.hid hi1
        clear hi1
        have HL := Lib.hid (fun (V : World) => letter_any c hb V)
        have HD := Lib.hid (fun (V : World) => digit_any c hb V)
        have HRl := Lib.hid (fun (V : World) (h1 : Blk V ep 3 [.int .i64 (i1 : Int)]) (h2 : Blk V sp 9 [.string s]) => (runL_any s ep sp i1 n HN.out hn6 hin1 (by omega) V h1 h2))
        have HRd := Lib.hid (fun (V : World) (h1 : Blk V ep 3 [.int .i64 (i1 : Int)]) (h2 : Blk V sp 9 [.string s]) => (runD_any s ep sp i1 n HN.out hn6 hin1 (by omega) V h1 h2))
        rcases hl : isL c with _ | _
        · rw [hl] at HL
          rcases hd : isD c with _ | _
          · rw [hd] at HD
            have HC := Lib.hid (kd_rest hl hd H32.out)
            clear hl hd
            have c3 := Ke.cell (j := 0) rfl
            have KB2 := KB1
            by_cases h64 : c = 64
            · subst h64
              go_wp2_with (first
                | (go_at_call 55; refine (HL.out _).mono ?_; rintro en w1 ⟨rfl, hw1⟩; rw [hw1]; clear hw1)
                | (go_at_call 56; refine (HD.out _).mono ?_; rintro en w1 ⟨rfl, hw1⟩; rw [hw1]; clear hw1)
                | (refine store_blk rfl 52 (.tmp 4) (.tmp 51) rfl Kt1 rfl rfl (m := 3) (by kernel_rfl) rfl rfl (by intro v hv; simp at hv; rcases hv with rfl | rfl | rfl <;> rfl) ?_; intro W3 K3 O3))
              have KB3 := O3.2.2 _ _ (by omega) KB2
              have hok : Tok1 (kdAt (sb s)) s.size at_ (i, i1, 3) := (mark_tok HN.out H1.out h1 (by omega) HF.out (HK.out.trans HC.out) (by decide) (by decide))
              exact bodyPost_ret (v := .tuple #[.agg (tkV (i, i1, 3)).toArray, .bool true]) (results_and (p := 4) (q := 5) (ty := 52) rfl _ _ rfl rfl (K3.loadVarS Try.underlying52 (by kernel_rfl))) rfl ⟨KB3, Or.inl ⟨_, rfl, hok⟩⟩
            · have h64b : ((c : Int) == 64) = false := by simp; omega
              have HC2 := Lib.hid (HC.out.trans (if_neg h64))
              clear h64
              go_wp2_with (first
                | (go_at_call 55; refine (HL.out _).mono ?_; rintro en w1 ⟨rfl, hw1⟩; rw [hw1]; clear hw1)
                | (go_at_call 56; refine (HD.out _).mono ?_; rintro en w1 ⟨rfl, hw1⟩; rw [hw1]; clear hw1)
                | (refine store_blk rfl 52 (.tmp 4) (.tmp 54) rfl Kt1 rfl rfl (m := 3) (by kernel_rfl) rfl rfl (by intro v hv; simp at hv; rcases hv with rfl | rfl | rfl <;> rfl) ?_; intro W3 K3 O3))
              have KB3 := O3.2.2 _ _ (by omega) KB2
              have hok : Tok1 (kdAt (sb s)) s.size at_ (i, i1, 2) := (mark_tok HN.out H1.out h1 (by omega) HF.out (HK.out.trans HC2.out) (by decide) (by decide))
              exact bodyPost_ret (v := .tuple #[.agg (tkV (i, i1, 2)).toArray, .bool true]) (results_and (p := 4) (q := 5) (ty := 52) rfl _ _ rfl rfl (K3.loadVarS Try.underlying52 (by kernel_rfl))) rfl ⟨KB3, Or.inl ⟨_, rfl, hok⟩⟩
          · rw [hd] at HD
            have HC := Lib.hid (kd_isD hd)
            clear hl hd
            go_wp2_with (first
              | (go_at_call 55; refine (HL.out _).mono ?_; rintro en w1 ⟨rfl, hw1⟩; rw [hw1]; clear hw1)
              | (go_at_call 56; refine (HD.out _).mono ?_; rintro en w1 ⟨rfl, hw1⟩; rw [hw1]; clear hw1)
              | (go_at_call 54; refine (HRd.out _ Ke Ks1).mono ?_; rintro en W2 ⟨e1, rfl, g1, g2, g3, g4, hO⟩; have Kt2 := hO.2.1 _ _ _ (by omega) Kt1; have KB2 := hO.2.2 _ _ (by omega) KB1; have G3 := Lib.hid g3; have G4 := Lib.hid g4; clear g3 g4)
              | (refine store_blk rfl 52 (.tmp 4) (.tmp 45) rfl Kt2 rfl rfl (m := 3) (by kernel_rfl) rfl rfl (by intro v hv; simp at hv; rcases hv with rfl | rfl | rfl <;> rfl) ?_; intro W3 K3 O3))
            have KB3 := O3.2.2 _ _ (by omega) KB2
            have hok : Tok1 (kdAt (sb s)) s.size at_ (i, e1, 1) := (run_tok HN.out (by decide) (fun c h => kd_isD h) (fun c h => kd_isD' h) h1 hlt HF.out (HK.out.trans HC.out) (by have := H1.out; omega) g2 (fun j c q1 => G3.out j c (by have := H1.out; omega)) G4.out)
            exact bodyPost_ret (v := .tuple #[.agg (tkV (i, e1, 1)).toArray, .bool true]) (results_and (p := 4) (q := 5) (ty := 52) rfl _ _ rfl rfl (K3.loadVarS Try.underlying52 (by kernel_rfl))) rfl ⟨KB3, Or.inl ⟨_, rfl, hok⟩⟩
        · rw [hl] at HL
          have HC := Lib.hid (kd_isL hl)
          clear hl
          go_wp2_with (first
            | (go_at_call 55; refine (HL.out _).mono ?_; rintro en w1 ⟨rfl, hw1⟩; rw [hw1]; clear hw1)
            | (go_at_call 54; refine (HRl.out _ Ke Ks1).mono ?_; rintro en W2 ⟨e1, rfl, g1, g2, g3, g4, hO⟩; have Kt2 := hO.2.1 _ _ _ (by omega) Kt1; have KB2 := hO.2.2 _ _ (by omega) KB1; have G3 := Lib.hid g3; have G4 := Lib.hid g4; clear g3 g4)
            | (refine store_blk rfl 52 (.tmp 4) (.tmp 38) rfl Kt2 rfl rfl (m := 3) (by kernel_rfl) rfl rfl (by intro v hv; simp at hv; rcases hv with rfl | rfl | rfl <;> rfl) ?_; intro W3 K3 O3))
          have KB3 := O3.2.2 _ _ (by omega) KB2
          have hok : Tok1 (kdAt (sb s)) s.size at_ (i, e1, 0) := (run_tok HN.out (by decide) (fun c h => kd_isL h) (fun c h => kd_isL' h) h1 hlt HF.out (HK.out.trans HC.out) (by have := H1.out; omega) g2 (fun j c q1 => G3.out j c (by have := H1.out; omega)) G4.out)
          exact bodyPost_ret (v := .tuple #[.agg (tkV (i, e1, 0)).toArray, .bool true]) (results_and (p := 4) (q := 5) (ty := 52) rfl _ _ rfl rfl (K3.loadVarS Try.underlying52 (by kernel_rfl))) rfl ⟨KB3, Or.inl ⟨_, rfl, hok⟩⟩
    · have hlt : ¬ i < n := by omega
      obtain rfl : i = n := by omega
      have hbi : ((i : Int) == (i : Int)) = true := by simp
      go_wp2_with (first
        | (refine store_blk rfl 52 (.tmp 4) (.tmp 25) rfl Kt rfl rfl (m := 3) (by kernel_rfl) rfl rfl (by intro v hv; simp at hv; rcases hv with rfl | rfl | rfl <;> rfl) ?_; intro W3 K3 O3))
      have KB3 := O3.2.2 _ _ (by omega) KB
      exact bodyPost_ret (v := .tuple #[.agg #[.int .i64 0, .int .i64 0, .int .i64 0], .bool false]) (results_and (p := 4) (q := 5) (ty := 52) rfl _ _ rfl rfl (K3.loadVarS Try.underlying52 (by kernel_rfl))) rfl ⟨KB3, Or.inr ⟨rfl, fun j q1 q2 => HF.out j q1 (by omega)⟩⟩

end Go.Proofs.Ytehkgpefmjfifaa
