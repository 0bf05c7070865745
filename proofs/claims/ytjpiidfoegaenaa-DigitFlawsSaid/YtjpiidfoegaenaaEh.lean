/-
  Near of the program.
-/
import Derived.Test.YtjpiidfoegaenaaEg
namespace Go.Proofs.Ytjpiidfoegaenaa
open Go.RowKit
set_option linter.unusedVariables false
set_option linter.unusedSimpArgs false

def alphN (k : Nat) : Nat := (alph[k]?).getD 0
theorem alphN_get {k : Nat} (h : k < 31) : alph[k]? = some (alphN k) := by
  obtain ⟨y, h1, _⟩ := alph_dec k h
  unfold alphN
  rw [h1]
  rfl
/-- A string with two neighbours exchanged. -/
def swapT (bs : List Nat) (i : Nat) : List Nat := (bs.set i ((bs[i + 1]?).getD 0)).set (i + 1) ((bs[i]?).getD 0)
def kRow (bs : List Nat) (i k : Nat) : List ByteArray := (List.range k).flatMap fun k => passT (bs.set i (alphN k))
def rowT (bs : List Nat) (i : Nat) : List ByteArray := kRow bs i 31 ++ (if i + 1 < bs.length then passT (swapT bs i) else [])
def foundT (bs : List Nat) (i : Nat) : List ByteArray := (List.range i).flatMap (rowT bs)
/-- What Near answers. -/
def nearT (s : ByteArray) : List ByteArray := if chkS (sb s) = 9 then compL (sortL (foundT (sb s) (sb s).length)) else []
theorem passT_len (bs : List Nat) : (passT bs).length ≤ 1 := by unfold passT; split <;> simp
theorem kRow_snoc (bs : List Nat) (i k : Nat) : kRow bs i (k + 1) = kRow bs i k ++ passT (bs.set i (alphN k)) := by unfold kRow; rw [List.range_succ, List.flatMap_append]; simp
theorem foundT_snoc (bs : List Nat) (i : Nat) : foundT bs (i + 1) = foundT bs i ++ rowT bs i := by unfold foundT; rw [List.range_succ, List.flatMap_append]; simp
theorem kRow_len (bs : List Nat) (i : Nat) : ∀ k, (kRow bs i k).length ≤ k
  | 0 => Nat.le_refl _
  | k + 1 => by rw [kRow_snoc, List.length_append]; have := kRow_len bs i k; have := passT_len (bs.set i (alphN k)); omega
theorem rowT_len (bs : List Nat) (i : Nat) : (rowT bs i).length ≤ 32 := by
  unfold rowT
  rw [List.length_append]
  have h1 := kRow_len bs i 31
  have h2 := passT_len (swapT bs i)
  split
  · omega
  · simp; omega
theorem foundT_len (bs : List Nat) : ∀ i, (foundT bs i).length ≤ 32 * i
  | 0 => Nat.le_refl _
  | i + 1 => by rw [foundT_snoc, List.length_append]; have := foundT_len bs i; have := rowT_len bs i; omega
theorem chk_nine {bs : List Nat} (h : chkS bs = 9) : 2 ≤ bs.length ∧ bs.length ≤ 64 := by
  unfold chkS at h
  split at h
  · cases h
  · split at h
    · cases h
    · rename_i h1 h2
      simp only [not_or] at h1
      omega
def NoRel (w : World) (g0 gl M : Nat) (s : ByteArray) (n : Nat) (v : Value) (W : World) : Prop := ∃ i : Nat, i ≤ n ∧ v = .int .i64 (i : Int) ∧ NrI w g0 gl M s (foundT (sb s) i) W
def NkRel (w : World) (g0 gl M : Nat) (s : ByteArray) (i bi : Nat) (v : Value) (W : World) : Prop := ∃ k : Nat, k ≤ 31 ∧ v = .int .i64 (k : Int) ∧ NrI w g0 gl M s (foundT (sb s) i ++ kRow (sb s) i k) W ∧ Blk W bi 3 [.int .i64 (i : Int)]
set_option maxHeartbeats 4000000 in
set_option maxRecDepth 100000 in
theorem near_any (s : ByteArray) (hs : s.size ≤ 1000000000000) (w : World) : Calls Try.prog 28 #[.string s] w (MadeR strE (nearT s) w) := by
  have X0 : Below w.heap.size w (w.alloc (.cells #[.string s] 9)) := (Below.refl _ _).alloc (Nat.le_refl _) _
  have b0 := blk_new w 9 #[.string s]
  have CC := Lib.hid (chk_any s hs (w.alloc (.cells #[.string s] 9)))
  obtain ⟨E, hE⟩ : ∃ E, chkS (sb s) = E := ⟨_, rfl⟩
  rw [hE] at CC
  obtain ⟨N, hN⟩ : ∃ N, nearT s = N := ⟨_, rfl⟩
  rw [hN]
  by_cases h9 : E = 9
  · subst h9
    have hN2 : N = compL (sortL (foundT (sb s) (sb s).length)) := by rw [← hN]; unfold nearT; rw [if_pos hE]
    obtain ⟨n, hn⟩ : ∃ n, s.size = n := ⟨_, rfl⟩
    have hbl : (sb s).length = n := by rw [sb_length]; exact hn
    rw [hbl] at hN2
    have hn64 := chk_nine hE
    rw [hbl] at hn64
    have HN := Lib.hid hN2
    have T2 := Lib.hid (fun g0 gl M L hL V hNr hgM i y bi hy hI k bk a hk31 hKb ha => try2_any w g0 gl M s n hn hn64.2 L hL V hNr hgM i y bi hy hI k bk a hk31 hKb ha)
    have T3 := Lib.hid (fun g0 gl M L hL V hNr hgM i y bi hy hI i1 y1 hi1 hy1 => try3_any w g0 gl M s n hn hn64.2 L hL V hNr hgM i y bi hy hI i1 y1 hi1 hy1)
    have HBL := Lib.hid hbl
    have c0 := b0.cell (j := 0) rfl
    clear hN hN2 hE hbl hs
    go_enter Try.func28, Try.ntmps28
    go_upto_region 4 with (go_at_call 26; refine CC.out.mono ?_; rintro _ w2 ⟨rfl, B2⟩)
    have K0 := (b0.keep B2).alloc (.cells #[.slice none 0 0] 49)
    have K1 := blk_new w2 49 #[.slice none 0 0]
    have X3 : Below w2.heap.size w2 (w2.alloc (.cells #[.slice none 0 0] 49)) := (Below.refl _ _).alloc (Nat.le_refl _) _
    have L3 := link (link X0 B2) X3
    have hsz : w2.heap.size + 1 ≤ (w2.alloc (.cells #[.slice none 0 0] 49)).heap.size := by rw [World.size_alloc]; exact Nat.le_refl _
    have hlt0 := b0.lt
    have hlt1 := Nat.lt_of_lt_of_le hlt0 B2.size
    have hK0l := (b0.keep B2).lt
    generalize w2.alloc (.cells #[.slice none 0 0] 49) = w3 at K0 K1 X3 L3 hsz ⊢
    obtain ⟨gl, hgl⟩ : ∃ gl, w2.heap.size = gl := ⟨_, rfl⟩
    obtain ⟨g0, hg0⟩ : ∃ g0, w.heap.size = g0 := ⟨_, rfl⟩
    rw [hgl] at K1 hsz hK0l ⊢
    rw [hg0] at K0 hK0l ⊢
    have I0 : NrI w g0 gl (gl + 1) s (foundT (sb s) 0) w3 := ⟨K0, ⟨_, K1, OwnR.nil _ _ _⟩, L3, hsz⟩
    have hgM : g0 < gl + 1 ∧ gl < gl + 1 ∧ g0 ≠ gl ∧ w.heap.size ≤ gl ∧ w.heap.size ≤ gl + 1 := by omega
    have T2 := Lib.hid (fun L hL V hNr => T2.out g0 gl (gl + 1) L hL V hNr hgM)
    have T3 := Lib.hid (fun L hL V hNr => T3.out g0 gl (gl + 1) L hL V hNr hgM)
    obtain ⟨M, hM⟩ : ∃ M, gl + 1 = M := ⟨_, rfl⟩
    rw [hM] at I0 T2 T3
    have HGM := Lib.hid (hM ▸ hgM : g0 < M ∧ gl < M ∧ g0 ≠ gl ∧ w.heap.size ≤ gl ∧ w.heap.size ≤ M)
    have hz1 : ((sb s).length : Int) = (n : Int) := by rw [HBL.out]
    have c0 := I0.k0.cell (j := 0) rfl
    clear B2 CC K0 K1 X3 L3 X0 b0 hsz hlt0 hlt1 hK0l hgl hg0 hgM hM hz1
    go_wp2
    go_loopw [13] (fun v W => NoRel w g0 gl M s n v W) (fun v _ => n - (intOf v).toNat)
    case atStart => exact ⟨0, Nat.zero_le _, rfl, I0⟩
    case round =>
      clear I0 c0
      obtain ⟨i, hi, rfl, hNr⟩ := hrel
      rcases Nat.lt_or_ge i n with hlt | hge
      · have hltz : (i : Int) < (n : Int) := by omega
        have hin : i < (sb s).length := by rw [HBL.out]; exact hlt
        obtain ⟨y, hy⟩ : ∃ y, (sb s)[i]? = some y := ⟨_, List.getElem?_eq_getElem hin⟩
        have XB := (Below.refl wr.heap.size wr).alloc (Nat.le_refl _) (.cells #[.int .i64 (i : Int)] 3)
        have NB := blk_new wr 3 #[.int .i64 (i : Int)]
        have hN4 := hNr.keep XB
        have HY := Lib.hid hy
        clear hy hNr
        go_upto_region 8 with (fail)
        generalize wr.alloc (.cells #[.int .i64 (i : Int)] 3) = w4 at NB hN4 ⊢
        generalize wr.heap.size = bi at NB ⊢
        clear XB
        go_wp2
        obtain ⟨wo, rfl⟩ : ∃ wo, wo = wr := ⟨_, rfl⟩
        go_loopw [16] (fun v W => NkRel w g0 gl M s i bi v W) (fun v _ => 31 - (intOf v).toNat)
        case atStart => exact ⟨0, Nat.zero_le _, rfl, by rw [show kRow (sb s) i 0 = [] from rfl, List.append_nil]; exact hN4, NB⟩
        case round =>
          clear hN4 NB
          obtain ⟨k, hk, rfl, hNr, hI⟩ := hrel
          rcases Nat.lt_or_ge k 31 with hlt2 | hge2
          · have hlt2z : (k : Int) < 31 := by omega
            have XB := (Below.refl wr.heap.size wr).alloc (Nat.le_refl _) (.cells #[.int .i64 (k : Int)] 3)
            have NK := blk_new wr 3 #[.int .i64 (k : Int)]
            have hN5 := hNr.keep XB
            have hI5 := hI.keep XB
            have hLl : (foundT (sb s) i ++ kRow (sb s) i k).length ≤ 100000 := by
              rw [List.length_append]
              have := foundT_len (sb s) i
              have := kRow_len (sb s) i k
              omega
            go_upto_region 11 with (fail)
            generalize wr.alloc (.cells #[.int .i64 (k : Int)] 3) = w5 at NK hN5 hI5 ⊢
            generalize wr.heap.size = bk at NK ⊢
            have CT := Lib.hid (T2.out _ hLl w5 hN5 i y bi HY.out hI5 k bk (alphN k) hlt2 NK (alphN_get hlt2))
            clear hNr hI XB hN5
            go_wp2_with (go_at_call 44; refine CT.out.mono ?_; rintro _ w6 ⟨⟨v6, rfl⟩, hN6, hO6⟩)
            exact ⟨⟨k + 1, by omega, by go_num, by rw [kRow_snoc, ← List.append_assoc]; exact hN6, hO6 _ _ _ (by decide) (by decide) hI5⟩, by simp [intOf]; omega⟩
          · obtain rfl : k = 31 := by omega
            have c0 := hNr.k0.cell (j := 0) rfl
            have c5 := hI.cell (j := 0) rfl
            obtain ⟨i1, hi1⟩ : ∃ i1, i + 1 = i1 := ⟨_, rfl⟩
            have hi1z : (i : Int) + 1 = (i1 : Int) := by omega
            rcases Nat.lt_or_ge i1 n with hlt3 | hge3
            · have hlt3z : (i1 : Int) < (n : Int) := by omega
              have hin1 : i1 < (sb s).length := by rw [HBL.out]; exact hlt3
              obtain ⟨y1, hy1⟩ : ∃ y1, (sb s)[i1]? = some y1 := ⟨_, List.getElem?_eq_getElem hin1⟩
              have hLl : (foundT (sb s) i ++ kRow (sb s) i 31).length ≤ 100000 := by
                rw [List.length_append]
                have := foundT_len (sb s) i
                have := kRow_len (sb s) i 31
                omega
              have CT := Lib.hid (T3.out _ hLl wr hNr i y bi HY.out hI i1 y1 hi1 hy1)
              have HS : Hid (((sb s).set i y1).set i1 y = swapT (sb s) i) := Lib.hid (by unfold swapT; rw [hi1, hy1, HY.out]; rfl)
              have HR : Hid (foundT (sb s) i1 = foundT (sb s) i ++ kRow (sb s) i 31 ++ passT (swapT (sb s) i)) := Lib.hid (by rw [← hi1, foundT_snoc]; unfold rowT; rw [if_pos (by rw [HBL.out]; omega), List.append_assoc])
              clear hNr hI hy1 hin1
              go_wp2_with (go_at_call 44; refine CT.out.mono ?_; rintro _ w6 ⟨⟨v6, rfl⟩, hN6, hO6⟩)
              exact ⟨⟨i1, by omega, by go_num, by rw [HR.out, ← HS.out]; exact hN6⟩, by simp [intOf]; omega⟩
            · have hlt3z : ¬ (i1 : Int) < (n : Int) := by omega
              have HR : Hid (foundT (sb s) i1 = foundT (sb s) i ++ kRow (sb s) i 31) := Lib.hid (by rw [← hi1, foundT_snoc]; unfold rowT; rw [if_neg (by rw [HBL.out]; omega), List.append_nil])
              clear hI
              go_wp2
              exact ⟨⟨i1, by omega, by go_num, by rw [HR.out]; exact hNr⟩, by simp [intOf]; omega⟩
      · have hge2 : ¬ (i : Int) < (n : Int) := by omega
        obtain rfl : n = i := by omega
        obtain ⟨k0, ⟨v, k1, k2⟩, k3, k4⟩ := hNr
        have hfl := foundT_len (sb s) n
        obtain ⟨F, hF⟩ : ∃ F, foundT (sb s) n = F := ⟨_, rfl⟩
        have hN2 := HN.out
        rw [hF] at k2 hN2 hfl
        obtain ⟨q1, d1, e1, _⟩ := k2.form
        obtain ⟨nF, hnF⟩ : ∃ m, F.length = m := ⟨_, rfl⟩
        rw [hnF] at e1 hfl
        subst e1
        have c3 := k1.cell (j := 0) rfl
        have CS := Lib.hid (sort_own F q1 nF d1 hnF (by omega) wr M k4 k2)
        have CP := Lib.hid (fun V (hV : M ≤ V.heap.size) hO => comp_own (sortL F) q1 nF d1 ((sortL_len F).trans hnF) (by omega) V M hV hO)
        have HF := Lib.hid hN2
        have HGG := HGM.out
        have HB3 := Lib.hid k3
        have HK1 := Lib.hid k1
        have HT := Lib.hid (own_type k2 k1 (by decide))
        clear hN2 hF hnF k0 k1 k2 k3 T2 T3
        go_wp2_with (first
          | (go_at_call 47; refine CS.out.mono ?_; rintro _ w7 ⟨rfl, O7, B7, R7⟩; have c7 := (R7 _ _ _ HT.out HK1.out).cell (j := 0) rfl; have M7 : M ≤ w7.heap.size := Nat.le_trans k4 B7.size)
          | (go_at_call 48; refine (CP.out _ M7 O7).mono ?_; rintro _ w8 ⟨v8, rfl, O8, B8⟩))
        go_ret
        exact ⟨_, rfl, by rw [HF.out]; exact O8.mono (by omega), (HB3.out.trans (B7.mono (by omega))).trans (B8.mono (by omega))⟩
  · have h9z : (E != 9) = true := by simp [h9]
    obtain rfl : [] = N := by rw [← hN]; unfold nearT; rw [hE, if_neg h9]
    have c0 := b0.cell (j := 0) rfl
    clear hN hE
    go_enter Try.func28, Try.ntmps28
    go_wp2_with (go_at_call 26; refine CC.out.mono ?_; rintro _ w2 ⟨rfl, B2⟩)
    go_ret
    exact ⟨_, rfl, OwnR.nil _ _ _, link X0 B2⟩
end Go.Proofs.Ytjpiidfoegaenaa
