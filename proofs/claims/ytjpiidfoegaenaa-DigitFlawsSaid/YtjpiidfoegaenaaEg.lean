/-
  One try of Near: a change, and the string among those found if it is checked.
-/
import Derived.Test.YtjpiidfoegaenaaEf
namespace Go.Proofs.Ytjpiidfoegaenaa
open Go.RowKit
set_option linter.unusedVariables false
set_option linter.unusedSimpArgs false

/-- What one try adds. -/
def passT (bs : List Nat) : List ByteArray := if chkS bs = 0 then [strOf bs] else []
/-- Where Near stands: the string's box, the box of the list found so far. -/
structure NrI (w : World) (g0 gl M : Nat) (s : ByteArray) (L : List ByteArray) (W : World) : Prop where
  k0 : Blk W g0 9 [.string s]
  kl : ∃ v, Blk W gl 49 [v] ∧ OwnR strE W M v L
  hB : Below w.heap.size w W
  hM : M ≤ W.heap.size
theorem NrI.keep {w : World} {g0 gl M : Nat} {s : ByteArray} {L : List ByteArray} {W W' : World} (h : NrI w g0 gl M s L W) (hk : Below W.heap.size W W') : NrI w g0 gl M s L W' := by
  obtain ⟨k0, ⟨v, k1, k2⟩, k3, k4⟩ := h
  exact ⟨k0.keep hk, ⟨v, k1.keep hk, k2.keep hk⟩, k3.trans (hk.mono k3.size), Nat.le_trans k4 hk.size⟩
/-- Boxes of other types are as they were. -/
def Othr (W W' : World) : Prop := ∀ b t cs, t ≠ 9 → t ≠ 49 → Blk W b t cs → Blk W' b t cs
theorem own_type {w : World} {B : Nat} {v : Value} {L : List ByteArray} (h : OwnR strE w B v L) {b : Nat} {t : TypeId} {cs : List Value} (hk : Blk w b t cs) (ht : t ≠ 9) : v.ownBlock ≠ some b := fun e => by
  obtain ⟨h1, ⟨e1, _⟩ | ⟨g, cap, cur, rfl, _, hg, _⟩⟩ := h
  · rw [e1] at e; cases e
  · have : g = b := by simpa [Value.ownBlock] using e
    subst this
    unfold Blk at hk
    rw [hg] at hk
    injection hk with hk
    injection hk with _ hk _
    exact ht hk.symm
theorem alph_lt : ∀ k, k < 31 → ∀ a, alph[k]? = some a → a < 256 := fun k hk a ha => by obtain ⟨y, h1, h2, _⟩ := alph_dec k hk; rw [ha] at h1; injection h1 with h1; omega
set_option maxHeartbeats 4000000 in
set_option maxRecDepth 100000 in
theorem try2_any (w : World) (g0 gl M : Nat) (s : ByteArray) (n : Nat) (hn : s.size = n) (hn6 : n ≤ 64) (L : List ByteArray) (hL : L.length ≤ 100000) (W : World) (hN : NrI w g0 gl M s L W) (hgM : g0 < M ∧ gl < M ∧ g0 ≠ gl ∧ w.heap.size ≤ gl ∧ w.heap.size ≤ M)
    (i y bi : Nat) (hy : (sb s)[i]? = some y) (hI : Blk W bi 3 [.int .i64 (i : Int)]) (k bk a : Nat) (hk31 : k < 31) (hKb : Blk W bk 3 [.int .i64 (k : Int)]) (ha : alph[k]? = some a) :
    Calls Try.prog 44 #[.func (.func 45) #[] #[.pointer (some ⟨bk, 0, none⟩), .pointer (some ⟨bi, 0, none⟩)], .pointer (some ⟨g0, 0, none⟩), .pointer (some ⟨gl, 0, none⟩)] W fun e W' => (∃ v, e = .returned v) ∧ NrI w g0 gl M s (L ++ passT ((sb s).set i a)) W' ∧ Othr W W' := by
  obtain ⟨k0, ⟨v, k1, k2⟩, k3, k4⟩ := hN
  obtain ⟨hg1, hg2, hg3, hg4, hg5⟩ := hgM
  have c0 := k0.cell (j := 0) rfl
  obtain ⟨W1, cp, hcv, B1, R1⟩ := conv_str W s
  rw [hn] at hcv
  have hlt : ∀ d ∈ ((sb s).set i a), d < 256 := (fun d hd => by rcases List.mem_or_eq_of_mem_set hd with h | h; exact sb_lt s d h; rw [h]; exact alph_lt k hk31 a ha)
  obtain ⟨bs, hbs⟩ : ∃ bs, ((sb s).set i a) = bs := ⟨_, rfl⟩
  obtain ⟨g, hg⟩ : ∃ g, g = W.heap.size := ⟨_, rfl⟩
  rw [← hg] at hcv R1
  have CN := Lib.hid (fun V (hV : Below W.heap.size W V) (R : BRow V g (sb s)) => near2_any (sb s) g n cp bi bk i k y V R (by rw [sb_length]; exact hn) hy hk31 (hI.keep hV) (hKb.keep hV) (Nat.ne_of_lt (by rw [hg]; exact hI.lt)) (Nat.ne_of_lt (by rw [hg]; exact hKb.lt)) a ha)
  rw [hbs] at CN hlt ⊢
  have hbl : bs.length = n := by rw [← hbs]; simp only [List.length_set]; rw [sb_length]; exact hn
  have CC := Lib.hid (fun V => chk_any (strOf bs) (by rw [strOf_size, hbl]; omega) V)
  rw [sb_strOf bs hlt] at CC
  obtain ⟨PT, hPT⟩ : ∃ PT, passT bs = PT := ⟨_, rfl⟩
  have HP : Hid (PT = if chkS bs = 0 then [strOf bs] else []) := Lib.hid hPT.symm
  rw [hPT]
  clear hPT
  have HBK := Lib.hid (fun V (hR : BRow V g bs) cp => conv_back hR hlt hbl cp)
  generalize chkS bs = E at *
  have HG := Lib.hid hg
  clear hbs hy hI hKb ha hg
  go_enter Try.func44, Try.ntmps44
  go_upto_region 1 with (fail)
  have CN := Lib.hid (CN.out W1 B1 R1)
  go_upto_region 2 with (go_at_call 45; refine CN.out.mono ?_; rintro _ w2 ⟨⟨v2, rfl⟩, R2, S2⟩)
  have B2 : Below W.heap.size W w2 := ⟨S2.2.os.trans B1.os, S2.2.tape.trans B1.tape, S2.2.output.trans B1.output, Nat.le_trans B1.size S2.2.size, fun k hk => (S2.2.block k (by rw [HG.out]; exact hk)).trans (B1.block k hk)⟩
  have hb2 := HBK.out w2 R2 cp
  have K0 : Blk w2 g0 9 [.string s] := so_blk (k0.keep B1) S2.1 (by have := HG.out; have := k0.lt; omega)
  have K1 : Blk w2 gl 49 [v] := so_blk (k1.keep B1) S2.1 (by have := HG.out; have := k1.lt; omega)
  have K2 : OwnR strE w2 M v L := (k2.keep B1).same fun g' t cs hg' hk' => so_blk hk' S2.1 (by have := HG.out; have := (World.ownsRow.lt k2 g' hg').2; omega)
  have O2 : Othr W w2 := fun b t cs h1 h2 hk' => so_blk (hk'.keep B1) S2.1 (by have := HG.out; have := hk'.lt; omega)
  have L2 : Below w.heap.size w w2 := k3.trans (B2.mono k3.size)
  have M2 : M ≤ w2.heap.size := Nat.le_trans k4 B2.size
  clear c0 k0 k1 k2 k3 k4 hcv B1 R1 CN B2 S2
  by_cases hE : E = 0
  · subst hE
    have hPe : PT = [strOf bs] := by rw [HP.out, if_pos rfl]
    have hLe : L.length ≤ 1000000000000 := by omega
    obtain ⟨x, hx⟩ : ∃ x, strOf bs = x := ⟨_, rfl⟩
    rw [hx] at HBK hb2 CC hPe
    have HPe := Lib.hid hPe
    clear hPe HP hx
    go_wp2_with (first
      | (go_at_call 26; refine (CC.out _).mono ?_; rintro _ w3 ⟨rfl, B3⟩; have hb3 := HBK.out w3 (R2.keep B3) cp; have K3 := K1.keep B3; have c3 := K3.cell (j := 0) rfl; have O3 := K2.keep B3; have M3 : M ≤ w3.heap.size := Nat.le_trans M2 B3.size)
      | (at_builtin; refine push_el strE rfl (.tmp 14) (.tmp 17) rfl L x _ rfl O3 M3 _ rfl _ rfl hLe ?_; intro v6 W6 hO6 hB7 hR6; have K6 := hR6 _ _ _ (own_type O3 K3 (by decide)) K3; have c6 := K6.cell (j := 0) rfl; have f6 := K6.free 0; obtain ⟨q6, d6, e6, _⟩ := hO6.form; obtain ⟨m6, hm6⟩ : ∃ m, (L ++ [x]).length = m := ⟨_, rfl⟩; rw [hm6] at e6; clear hm6; subst e6))
    go_end0
    have K7 := K6.set 0 (.slice q6 m6 d6)
    rw [HPe.out]
    refine ⟨⟨_, rfl⟩, ⟨(hR6 _ _ _ (OwnR.blk_ge O3 hg1) (K0.keep B3)).other (by exact hg3) _, ⟨_, K7, hO6.only (only_set gl 0 W6 _) (own_type hO6 K6 (by decide))⟩, ?_, ?_⟩, ?_⟩
    · exact ((L2.trans (B3.mono L2.size)).trans (hB7.mono hg5)).setCell hg4 _
    · have := hB7.size; simp [World.setCell]; omega
    · intro b t cs h1 h2 hk'
      have q2 := (O2 b t cs h1 h2 hk').keep B3
      have q6 := hR6 _ _ _ (own_type O3 q2 h1) q2
      exact q6.other (fun e => h2 (by
        have e : b = gl := e
        subst e
        unfold Blk at q6 K6
        rw [K6] at q6
        injection q6 with q6
        injection q6 with _ q6 _
        exact q6.symm)) _
  · have hPe : PT = [] := by rw [HP.out, if_neg hE]
    have hEz : (E == 0) = false := by simp [hE]
    have HPe := Lib.hid hPe
    clear hPe HP
    go_wp2_with (go_at_call 26; refine (CC.out _).mono ?_; rintro _ w3 ⟨rfl, B3⟩)
    go_end0
    rw [HPe.out, List.append_nil]
    exact ⟨⟨_, rfl⟩, NrI.keep ⟨K0, ⟨v, K1, K2⟩, L2, M2⟩ B3, fun b t cs h1 h2 hk' => (O2 b t cs h1 h2 hk').keep B3⟩
set_option maxHeartbeats 4000000 in
set_option maxRecDepth 100000 in
theorem try3_any (w : World) (g0 gl M : Nat) (s : ByteArray) (n : Nat) (hn : s.size = n) (hn6 : n ≤ 64) (L : List ByteArray) (hL : L.length ≤ 100000) (W : World) (hN : NrI w g0 gl M s L W) (hgM : g0 < M ∧ gl < M ∧ g0 ≠ gl ∧ w.heap.size ≤ gl ∧ w.heap.size ≤ M)
    (i y bi : Nat) (hy : (sb s)[i]? = some y) (hI : Blk W bi 3 [.int .i64 (i : Int)]) (i1 y1 : Nat) (hi1 : i + 1 = i1) (hy1 : (sb s)[i1]? = some y1) :
    Calls Try.prog 44 #[.func (.func 46) #[] #[.pointer (some ⟨bi, 0, none⟩)], .pointer (some ⟨g0, 0, none⟩), .pointer (some ⟨gl, 0, none⟩)] W fun e W' => (∃ v, e = .returned v) ∧ NrI w g0 gl M s (L ++ passT (((sb s).set i y1).set i1 y)) W' ∧ Othr W W' := by
  obtain ⟨k0, ⟨v, k1, k2⟩, k3, k4⟩ := hN
  obtain ⟨hg1, hg2, hg3, hg4, hg5⟩ := hgM
  have c0 := k0.cell (j := 0) rfl
  obtain ⟨W1, cp, hcv, B1, R1⟩ := conv_str W s
  rw [hn] at hcv
  have hlt : ∀ d ∈ (((sb s).set i y1).set i1 y), d < 256 := (fun d hd => by rcases List.mem_or_eq_of_mem_set hd with h | h; (rcases List.mem_or_eq_of_mem_set h with h | h; exact sb_lt s d h; rw [h]; exact sb_lt s y1 (List.mem_of_getElem? hy1)); rw [h]; exact sb_lt s y (List.mem_of_getElem? hy))
  obtain ⟨bs, hbs⟩ : ∃ bs, (((sb s).set i y1).set i1 y) = bs := ⟨_, rfl⟩
  obtain ⟨g, hg⟩ : ∃ g, g = W.heap.size := ⟨_, rfl⟩
  rw [← hg] at hcv R1
  have CN := Lib.hid (fun V (hV : Below W.heap.size W V) (R : BRow V g (sb s)) => near3_any (sb s) g n cp bi i i1 y y1 V R (by rw [sb_length]; exact hn) (by omega) hi1 hy hy1 (hI.keep hV) (Nat.ne_of_lt (by rw [hg]; exact hI.lt)))
  rw [hbs] at CN hlt ⊢
  have hbl : bs.length = n := by rw [← hbs]; simp only [List.length_set]; rw [sb_length]; exact hn
  have CC := Lib.hid (fun V => chk_any (strOf bs) (by rw [strOf_size, hbl]; omega) V)
  rw [sb_strOf bs hlt] at CC
  obtain ⟨PT, hPT⟩ : ∃ PT, passT bs = PT := ⟨_, rfl⟩
  have HP : Hid (PT = if chkS bs = 0 then [strOf bs] else []) := Lib.hid hPT.symm
  rw [hPT]
  clear hPT
  have HBK := Lib.hid (fun V (hR : BRow V g bs) cp => conv_back hR hlt hbl cp)
  generalize chkS bs = E at *
  have HG := Lib.hid hg
  clear hbs hy hI hy1 hg
  go_enter Try.func44, Try.ntmps44
  go_upto_region 1 with (fail)
  have CN := Lib.hid (CN.out W1 B1 R1)
  go_upto_region 2 with (go_at_call 46; refine CN.out.mono ?_; rintro _ w2 ⟨⟨v2, rfl⟩, R2, S2⟩)
  have B2 : Below W.heap.size W w2 := ⟨S2.2.os.trans B1.os, S2.2.tape.trans B1.tape, S2.2.output.trans B1.output, Nat.le_trans B1.size S2.2.size, fun k hk => (S2.2.block k (by rw [HG.out]; exact hk)).trans (B1.block k hk)⟩
  have hb2 := HBK.out w2 R2 cp
  have K0 : Blk w2 g0 9 [.string s] := so_blk (k0.keep B1) S2.1 (by have := HG.out; have := k0.lt; omega)
  have K1 : Blk w2 gl 49 [v] := so_blk (k1.keep B1) S2.1 (by have := HG.out; have := k1.lt; omega)
  have K2 : OwnR strE w2 M v L := (k2.keep B1).same fun g' t cs hg' hk' => so_blk hk' S2.1 (by have := HG.out; have := (World.ownsRow.lt k2 g' hg').2; omega)
  have O2 : Othr W w2 := fun b t cs h1 h2 hk' => so_blk (hk'.keep B1) S2.1 (by have := HG.out; have := hk'.lt; omega)
  have L2 : Below w.heap.size w w2 := k3.trans (B2.mono k3.size)
  have M2 : M ≤ w2.heap.size := Nat.le_trans k4 B2.size
  clear c0 k0 k1 k2 k3 k4 hcv B1 R1 CN B2 S2
  by_cases hE : E = 0
  · subst hE
    have hPe : PT = [strOf bs] := by rw [HP.out, if_pos rfl]
    have hLe : L.length ≤ 1000000000000 := by omega
    obtain ⟨x, hx⟩ : ∃ x, strOf bs = x := ⟨_, rfl⟩
    rw [hx] at HBK hb2 CC hPe
    have HPe := Lib.hid hPe
    clear hPe HP hx
    go_wp2_with (first
      | (go_at_call 26; refine (CC.out _).mono ?_; rintro _ w3 ⟨rfl, B3⟩; have hb3 := HBK.out w3 (R2.keep B3) cp; have K3 := K1.keep B3; have c3 := K3.cell (j := 0) rfl; have O3 := K2.keep B3; have M3 : M ≤ w3.heap.size := Nat.le_trans M2 B3.size)
      | (at_builtin; refine push_el strE rfl (.tmp 14) (.tmp 17) rfl L x _ rfl O3 M3 _ rfl _ rfl hLe ?_; intro v6 W6 hO6 hB7 hR6; have K6 := hR6 _ _ _ (own_type O3 K3 (by decide)) K3; have c6 := K6.cell (j := 0) rfl; have f6 := K6.free 0; obtain ⟨q6, d6, e6, _⟩ := hO6.form; obtain ⟨m6, hm6⟩ : ∃ m, (L ++ [x]).length = m := ⟨_, rfl⟩; rw [hm6] at e6; clear hm6; subst e6))
    go_end0
    have K7 := K6.set 0 (.slice q6 m6 d6)
    rw [HPe.out]
    refine ⟨⟨_, rfl⟩, ⟨(hR6 _ _ _ (OwnR.blk_ge O3 hg1) (K0.keep B3)).other (by exact hg3) _, ⟨_, K7, hO6.only (only_set gl 0 W6 _) (own_type hO6 K6 (by decide))⟩, ?_, ?_⟩, ?_⟩
    · exact ((L2.trans (B3.mono L2.size)).trans (hB7.mono hg5)).setCell hg4 _
    · have := hB7.size; simp [World.setCell]; omega
    · intro b t cs h1 h2 hk'
      have q2 := (O2 b t cs h1 h2 hk').keep B3
      have q6 := hR6 _ _ _ (own_type O3 q2 h1) q2
      exact q6.other (fun e => h2 (by
        have e : b = gl := e
        subst e
        unfold Blk at q6 K6
        rw [K6] at q6
        injection q6 with q6
        injection q6 with _ q6 _
        exact q6.symm)) _
  · have hPe : PT = [] := by rw [HP.out, if_neg hE]
    have hEz : (E == 0) = false := by simp [hE]
    have HPe := Lib.hid hPe
    clear hPe HP
    go_wp2_with (go_at_call 26; refine (CC.out _).mono ?_; rintro _ w3 ⟨rfl, B3⟩)
    go_end0
    rw [HPe.out, List.append_nil]
    exact ⟨⟨_, rfl⟩, NrI.keep ⟨K0, ⟨v, K1, K2⟩, L2, M2⟩ B3, fun b t cs h1 h2 hk' => (O2 b t cs h1 h2 hk').keep B3⟩
end Go.Proofs.Ytjpiidfoegaenaa
