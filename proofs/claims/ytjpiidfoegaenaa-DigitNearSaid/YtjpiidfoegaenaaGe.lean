/-
  Near of the reference.
-/
import Derived.Test.YtjpiidfoegaenaaGd
import Derived.Test.YtjpiidfoegaenaaGb
import Derived.Test.YtjpiidfoegaenaaFf
namespace Go.Proofs.Ytjpiidfoegaenaa
open Go Go.RowKit
set_option linter.unusedVariables false
set_option linter.unusedSimpArgs false

/-- In increasing order, those of F other than s. -/
def OkL (L F : List ByteArray) (s : ByteArray) : Prop := Srt L ∧ ∀ x, x ∈ L ↔ x ∈ F ∧ x ≠ s
theorem Srt.nodup {L : List ByteArray} (h : Srt L) : L.Nodup := h.imp fun h e => h.2 (by rw [e])
theorem OkL.len {L F : List ByteArray} {s : ByteArray} (h : OkL L F s) : L.length ≤ F.length := nodup_len h.1.nodup fun x hx => ((h.2 x).1 hx).1
theorem OkL.skip {L F : List ByteArray} {s t : ByteArray} (h : OkL L F s) (ht : t = s ∨ chkS (sb t) ≠ 0) : OkL L (F ++ passT (sb t)) s := by
  refine ⟨h.1, fun x => ?_⟩
  unfold passT
  split
  · rename_i h0
    rcases ht with rfl | ht
    · rw [strOf_sb, h.2 x, List.mem_append, List.mem_singleton]
      exact ⟨fun h => ⟨Or.inl h.1, h.2⟩, fun h => ⟨h.1.elim id (fun e => absurd e h.2), h.2⟩⟩
    · exact absurd h0 ht
  · rw [List.append_nil]; exact h.2 x
theorem OkL.put {L F : List ByteArray} {s t : ByteArray} (h : OkL L F s) (hne : t ≠ s) (h0 : chkS (sb t) = 0) : OkL (putT L t) (F ++ passT (sb t)) s := by
  refine ⟨put_sorted h.1, fun x => ?_⟩
  unfold passT
  rw [if_pos h0, strOf_sb, put_mem, h.2 x, List.mem_append, List.mem_singleton]
  constructor
  · rintro (⟨h1, h2⟩ | rfl)
    · exact ⟨Or.inl h1, h2⟩
    · exact ⟨Or.inr rfl, hne⟩
  · rintro ⟨h1 | h1, h2⟩
    · exact Or.inl ⟨h1, h2⟩
    · exact Or.inr h1
/-- What is found is checked. -/
theorem pass_mem {bs : List Nat} {x : ByteArray} (h : x ∈ passT bs) : chkS (sb x) = 0 ∧ sb x = bs := by
  unfold passT at h
  split at h
  · rename_i h0
    rw [List.mem_singleton.1 h]
    have : sb (strOf bs) = bs := sb_strOf bs (fun c hc => by
      have h1 := okS_mem (chk_zero h0).2.2.1 hc
      have h2 := val_get h1.1
      exact alph_lt _ (by omega) _ h2)
    rw [this]
    exact ⟨h0, rfl⟩
  · cases h
theorem row_mem {bs : List Nat} {i : Nat} {x : ByteArray} (h : x ∈ rowT bs i) (hi : i < bs.length) : chkS (sb x) = 0 ∧ ((∃ k, k < 31 ∧ sb x = bs.set i (alphN k)) ∨ (i + 1 < bs.length ∧ sb x = swapT bs i)) := by
  unfold rowT at h
  rcases List.mem_append.1 h with h | h
  · unfold kRow at h
    obtain ⟨k, hk, h⟩ := List.mem_flatMap.1 h
    obtain ⟨h1, h2⟩ := pass_mem h
    exact ⟨h1, Or.inl ⟨k, List.mem_range.1 hk, h2⟩⟩
  · split at h
    · rename_i h3
      obtain ⟨h1, h2⟩ := pass_mem h
      exact ⟨h1, Or.inr ⟨h3, h2⟩⟩
    · cases h
theorem found_mem {bs : List Nat} {n : Nat} (hn : n ≤ bs.length) {x : ByteArray} (h : x ∈ foundT bs n) : chkS (sb x) = 0 ∧ ∃ i, i < bs.length ∧ ((∃ k, k < 31 ∧ sb x = bs.set i (alphN k)) ∨ (i + 1 < bs.length ∧ sb x = swapT bs i)) := by
  unfold foundT at h
  obtain ⟨i, hi, h⟩ := List.mem_flatMap.1 h
  have hi := List.mem_range.1 hi
  obtain ⟨h1, h2⟩ := row_mem h (by omega)
  exact ⟨h1, i, by omega, h2⟩
/-- Those of all slips other than the string itself are what Near answers. -/
theorem near_ok {L : List ByteArray} {s : ByteArray} (hok : okS (sb s) = true) (h2 : 2 ≤ s.size) (h64 : s.size ≤ 64) (h : OkL L (foundT (sb s) (sb s).length) s) : nearT s = L := by
  rcases chk_is (bs := sb s) (by rw [sb_length]; exact h2) (by rw [sb_length]; exact h64) hok with hc
  by_cases h0 : restT ((sb s).map valT) = 0
  · rw [if_neg (by simp [h0])] at hc
    rw [near_none hc]
    rcases L with _ | ⟨x, L⟩
    · rfl
    · obtain ⟨hx, hne⟩ := (h.2 x).1 List.mem_cons_self
      obtain ⟨hx0, i, hi, hx⟩ := found_mem (Nat.le_refl _) hx
      have hns : sb x ≠ sb s := fun e => hne (sb_inj e)
      rcases hx with ⟨k, hk, hx⟩ | ⟨hi1, hx⟩
      · have := sub_nine hc hi (c := alphN k) (by rw [val_alph k hk]; omega) (by rw [← hx]; exact hns)
        rw [← hx, hx0] at this
        cases this
      · have := swap_nine hc hi1 (by rw [← hx]; exact hns)
        rw [← hx, hx0] at this
        cases this
  · rw [if_pos h0] at hc
    unfold nearT
    rw [if_pos hc]
    refine comp_is h.1.bs fun x => ?_
    have hs : s ∉ foundT (sb s) (sb s).length := fun hm => by
      have := (found_mem (Nat.le_refl _) hm).1
      rw [hc] at this
      cases this
    unfold bsL
    simp only [List.mem_map]
    constructor
    · rintro ⟨y, hy, rfl⟩
      exact ⟨y, ((h.2 y).1 hy).1, rfl⟩
    · rintro ⟨y, hy, rfl⟩
      exact ⟨y, (h.2 y).2 ⟨hy, fun e => hs (by rw [e] at hy; exact hy)⟩, rfl⟩
def OuI (s : ByteArray) (F : List ByteArray) (w : World) (v : Value) (V : World) : Prop := ∃ (q : Option Addr) (m c : Nat) (L : List ByteArray), v = .slice q m c ∧ L.length = m ∧ At strE V q L ∧ OkL L F s ∧ Below w.heap.size w V
def OuRel (s : ByteArray) (bs : List Nat) (n : Nat) (w : World) (v i : Value) (V : World) : Prop := ∃ k : Nat, k ≤ n ∧ i = .int .i64 (k : Int) ∧ OuI s (foundT bs k) w v V
def OvRel (s : ByteArray) (bs : List Nat) (i : Nat) (w : World) (v x : Value) (V : World) : Prop := ∃ k : Nat, k ≤ 31 ∧ x = .int .i64 (k : Int) ∧ OuI s (foundT bs i ++ kRow bs i k) w v V
set_option maxHeartbeats 8000000 in
set_option maxRecDepth 100000 in
theorem rnear_any (s : ByteArray) (hs : s.size ≤ 1000) (w : World) : Calls Try.prog 33 #[.string s] w (LstA (nearT s) w) := by
  have CV := Lib.hid (fun V => rvalues_any s (by omega) V)
  obtain ⟨n, hn⟩ : ∃ n, s.size = n := ⟨_, rfl⟩
  obtain ⟨bs, hbs⟩ : ∃ bs, sb s = bs := ⟨_, rfl⟩
  have HL : bs.length = n := by rw [← hbs, sb_length]; exact hn
  rw [hbs] at CV
  have hn6 : n ≤ 1000 := by rw [← hn]; exact hs
  have hlen := valS_len bs
  have HBAD : Hid (chkS bs ≠ 9 → nearT s = []) := Lib.hid (fun h => by unfold nearT; rw [hbs, if_neg h])
  rcases hok : okS bs with _ | _
  · rw [hok] at CV hlen
    have hlen : (valS bs).length = 0 := hlen
    have HE : Hid (nearT s = []) := Lib.hid (HBAD.out (by unfold chkS; rw [if_pos (Or.inr hok)]; decide))
    clear hok hbs HBAD
    go_enter Try.func33, Try.ntmps33
    go_wp2_with (go_at_call 42; refine (CV.out _).mono ?_; intro _ w1 h1; obtain ⟨q1, c1, rfl, k1, A1, B1, _⟩ := h1.give hlen)
    go_ret
    exact ⟨none, 0, 0, rfl, by rw [HE.out]; rfl, by rw [HE.out]; exact fun h => absurd rfl h, B1⟩
  · rw [hok] at CV hlen
    have hlen : (valS bs).length = n := by rw [hlen, HL]; rfl
    rcases Nat.lt_or_ge n 2 with h2 | h2
    · have h2z : (n : Int) < 2 := by omega
      have HE : Hid (nearT s = []) := Lib.hid (HBAD.out (by unfold chkS; rw [if_pos (Or.inl (by rw [HL]; exact h2))]; decide))
      clear hok hbs HBAD
      go_enter Try.func33, Try.ntmps33
      go_wp2_with (go_at_call 42; refine (CV.out _).mono ?_; intro _ w1 h1; obtain ⟨q1, c1, rfl, k1, A1, B1, _⟩ := h1.give hlen)
      go_ret
      exact ⟨none, 0, 0, rfl, by rw [HE.out]; rfl, by rw [HE.out]; exact fun h => absurd rfl h, B1⟩
    · have h2z : ¬ (n : Int) < 2 := by omega
      rcases Nat.lt_or_ge 64 n with h3 | h3
      · have h3z : 64 < (n : Int) := by omega
        have HE : Hid (nearT s = []) := Lib.hid (HBAD.out (by unfold chkS; rw [if_neg (by rw [HL, hok]; simp; omega), if_pos (by rw [HL]; exact h3)]; decide))
        clear hok hbs HBAD
        go_enter Try.func33, Try.ntmps33
        go_wp2_with (go_at_call 42; refine (CV.out _).mono ?_; intro _ w1 h1; obtain ⟨q1, c1, rfl, k1, A1, B1, _⟩ := h1.give hlen)
        go_ret
        exact ⟨none, 0, 0, rfl, by rw [HE.out]; rfl, by rw [HE.out]; exact fun h => absurd rfl h, B1⟩
      · have h3z : ¬ 64 < (n : Int) := by omega
        have HNO : Hid (∀ L, OkL L (foundT bs n) s → nearT s = L) := Lib.hid (fun L h => near_ok (by rw [hbs]; exact hok) (by omega) (by omega) (by rw [hbs, HL]; exact h))
        have HSB := Lib.hid hbs
        have HG : Hid (∀ k (hk : k < s.size), bs[k]? = some (s[k]'hk).toNat ∧ (s[k]'hk).toNat < 256) := Lib.hid (fun k hk => by rw [← hbs]; exact sb_get hk)
        have HLN := Lib.hid HL
        have CCH := Lib.hid (fun k v (hk : k < s.size) (hv : v < 31) V => changed_any s hs k v hk hv V)
        have CEX := Lib.hid (fun k (hk : k + 1 < s.size) V => exchanged_any s hs k hk V)
        clear hok hbs HBAD HL hs
        go_enter Try.func33, Try.ntmps33
        go_wp2_with (go_at_call 42; refine (CV.out _).mono ?_; intro _ w1 h1; obtain ⟨q1, c1, rfl, k1, A1, B1, _⟩ := h1.give hlen; clear h1 A1)
        clear CV hlen
        go_loopw [5, 6] (fun v i V => OuRel s bs n w v i V) (fun _ i _ => n - (intOf i).toNat)
        case atStart => exact ⟨0, by omega, rfl, none, 0, 0, [], rfl, rfl, fun h => absurd rfl h, ⟨List.Pairwise.nil, fun x => by simp [foundT]⟩, B1⟩
        case round =>
        clear B1
        obtain ⟨i, hi, rfl, q, m, c, L, rfl, hLm, hAL, hOK, hB⟩ := hrel
        rcases Nat.lt_or_ge i n with hlt | hge
        · have hltz : (i : Int) < (n : Int) := by omega
          have his : i < s.size := by omega
          have hib : i < bs.length := by rw [HLN.out]; exact hlt
          have HFL : Hid (∀ k, k ≤ 31 → (foundT bs i ++ kRow bs i k).length ≤ 3000) := Lib.hid (fun k hk => by
            have h1 := foundT_len bs i
            have h2 := kRow_len bs i k
            rw [List.length_append]; omega)
          obtain ⟨wo, rfl⟩ : ∃ wo : World, wo = wr := ⟨_, rfl⟩
          go_wp2
          go_loopw [5, 7] (fun v x V => OvRel s bs i w v x V) (fun _ x _ => 31 - (intOf x).toNat)
          case atStart => exact ⟨0, by omega, rfl, q, m, c, L, rfl, hLm, hAL, by rw [show kRow bs i 0 = [] from rfl, List.append_nil]; exact hOK, hB⟩
          case round =>
          clear hLm hAL hOK hB
          obtain ⟨k, hk, rfl, q, m, c, L, rfl, hLm, hAL, hOK, hB⟩ := hrel
          have hm6 : m ≤ 1000000 := by have := hOK.len; have := HFL.out k hk; omega
          rcases Nat.lt_or_ge k 31 with hklt | hkge
          · have hkz : (k : Int) < 31 := by omega
            have CX := Lib.hid (fun V => CCH.out i k his hklt V)
            have HST : Hid (sb (s.extract 0 i ++ alphB.extract k (k + 1) ++ s.extract (i + 1) s.size) = bs.set i (alphN k)) := Lib.hid (by rw [← HSB.out]; exact sb_changed s his hklt)
            have hsz : (s.extract 0 i ++ alphB.extract k (k + 1) ++ s.extract (i + 1) s.size).size ≤ 1000000000000 := by
              have := congrArg List.length HST.out
              rw [sb_length, List.length_set, HLN.out] at this
              omega
            have HKR : Hid (foundT bs i ++ kRow bs i (k + 1) = foundT bs i ++ kRow bs i k ++ passT (bs.set i (alphN k))) := Lib.hid (by rw [kRow_snoc, List.append_assoc])
            generalize s.extract 0 i ++ alphB.extract k (k + 1) ++ s.extract (i + 1) s.size = t at CX HST hsz
            rw [← HST.out] at HKR
            have CC := Lib.hid (fun V => rchk_any t hsz V)
            have CP := Lib.hid (fun V (hA : At strE V q L) => put_any L q m c hLm hm6 t V hA)
            obtain ⟨E, hE⟩ : ∃ E, chkS (sb t) = E := ⟨_, rfl⟩
            rw [hE] at CC
            by_cases hts : t = s
            · have hbq : (t.toList == s.toList) = true := by rw [hts]; simp
              have HO := Lib.hid (hOK.skip (Or.inl hts))
              rw [← HKR.out] at HO
              have HLM := Lib.hid hLm
              clear hts HST HKR hE CC CP hOK hsz hLm
              go_wp2_with (go_at_call 29; refine (CX.out _).mono ?_; rintro _ w2 ⟨rfl, B2⟩)
              exact ⟨⟨k + 1, by omega, by go_num, q, m, c, L, rfl, HLM.out, hAL.keep B2, HO.out, link hB B2⟩, by simp [intOf]; omega⟩
            · have hbq := bytes_ne hts
              by_cases hE0 : E = 0
              · subst hE0
                have HO := Lib.hid (hOK.put hts hE)
                rw [← HKR.out] at HO
                clear hts HST HKR hE hOK hsz hLm
                go_wp2_with (first
                  | (go_at_call 49; refine (CP.out _ A3).mono ?_; rintro _ w4 ⟨q4, m4, c4, rfl, hm4, A4, B4⟩; have hB4 := link hB3 B4; clear A3 hB3 B4)
                  | (go_at_call 27; refine (CC.out _).mono ?_; rintro _ w3 ⟨rfl, B3⟩; have A3 := A2.keep B3; have hB3 := link hB2 B3; clear A2 hB2 B3)
                  | (go_at_call 29; refine (CX.out _).mono ?_; rintro _ w2 ⟨rfl, B2⟩; have A2 := hAL.keep B2; have hB2 := link hB B2; clear hAL hB B2))
                exact ⟨⟨k + 1, by omega, by go_num, q4, m4, c4, _, rfl, hm4, A4, HO.out, hB4⟩, by simp [intOf]; omega⟩
              · have HO := Lib.hid (hOK.skip (Or.inr (by rw [hE]; exact hE0)))
                rw [← HKR.out] at HO
                have HLM := Lib.hid hLm
                clear hts HST HKR hE hOK hsz hLm CP
                go_wp2_with (first
                  | (go_at_call 27; refine (CC.out _).mono ?_; rintro _ w3 ⟨rfl, B3⟩; have A3 := A2.keep B3; have hB3 := link hB2 B3; clear A2 hB2 B3)
                  | (go_at_call 29; refine (CX.out _).mono ?_; rintro _ w2 ⟨rfl, B2⟩; have A2 := hAL.keep B2; have hB2 := link hB B2; clear hAL hB B2))
                exact ⟨⟨k + 1, by omega, by go_num, q, m, c, L, rfl, HLM.out, A3, HO.out, hB3⟩, by simp [intOf]; omega⟩
          obtain rfl : k = 31 := by omega
          clear hk hkge HFL
          generalize wr = W1 at *
          obtain ⟨i1, hi1⟩ : ∃ i1, i + 1 = i1 := ⟨_, rfl⟩
          have hi1z : (i : Int) + 1 = (i1 : Int) := by omega
          have HI1 := Lib.hid hi1
          rcases Nat.lt_or_ge i1 n with h1 | h1
          · have h1z : (i1 : Int) < (n : Int) := by omega
            have hi1s : i1 < s.size := by omega
            obtain ⟨ga1, ga2⟩ := HG.out i his
            obtain ⟨gb1, gb2⟩ := HG.out i1 hi1s
            obtain ⟨ca, hca⟩ : ∃ c, (s[i]'his).toNat = c := ⟨_, rfl⟩
            obtain ⟨cb, hcb⟩ : ∃ c, (s[i1]'hi1s).toNat = c := ⟨_, rfl⟩
            have hcaz : (((s[i]'his).toNat : Nat) : Int) = (ca : Int) := by rw [hca]
            have hcbz : (((s[i1]'hi1s).toNat : Nat) : Int) = (cb : Int) := by rw [hcb]
            rw [hca] at ga1
            rw [hcb] at gb1
            have HR : Hid (foundT bs i1 = foundT bs i ++ kRow bs i 31 ++ passT (swapT bs i)) := Lib.hid (by rw [← hi1, foundT_snoc, List.append_assoc]; unfold rowT; rw [if_pos (by rw [HLN.out, hi1]; exact h1)])
            by_cases hcc : ca = cb
            · have hccz : (ca : Int) = (cb : Int) := by rw [hcc]
              have hsw : swapT bs i = bs := by
                unfold swapT
                rw [hi1, ga1, gb1, Option.getD_some, Option.getD_some, hcc, set_self (bs := bs) (i := i) (a := cb) (by rw [ga1, hcc]), set_self gb1]
              have HO := Lib.hid (hOK.skip (t := s) (Or.inl rfl))
              rw [HSB.out] at HO
              rw [hsw] at HR
              rw [← HR.out] at HO
              have HLM := Lib.hid hLm
              clear ga1 ga2 gb1 gb2 hca hcb hsw HR hOK hLm CCH CEX hi1
              subst hcc
              clear hccz
              go_upto_region 14 with (fail)
              refine wp_region_held_drew (S := fun w' => Below W1.heap.size W1 w') (by kernel_rfl) (below_drew (Below.refl _ _)) (fun _ => ?_)
              have hHeld : Below W1.heap.size W1 W1.drew := below_drew (Below.refl _ _)
              generalize W1.drew = V0 at hHeld ⊢
              refine wt (i := 0) (oi := ⟨some 51, .move (.tmp 6), 3, "ref.go:211", #[], none⟩) (v := .int .i64 (i : Int)) (Or.inl ⟨by rfl, fun w' hSw => by go_simp⟩) hHeld ?_
              try simp only [zP, zQ, zS, zZ, zC]
              refine wt (i := 1) (oi := ⟨some 52, .binOp .add 3 (.tmp 51) (.const (Value.int IntKind.i64 1)) 3, 3, "ref.go:211", #[⟨0, .data⟩], none⟩) (v := .int .i64 (i1 : Int)) (Or.inl ⟨by rfl, fun w' hSw => by go_simp; first | done | exact wrap_in (by omega) (by omega) | omega⟩) hHeld ?_
              try simp only [zP, zQ, zS, zZ, zC]
              refine wt (i := 2) (oi := ⟨some 53, .move (.tmp 0), 9, "ref.go:211", #[], none⟩) (v := .string s) (Or.inl ⟨by rfl, fun w' hSw => by go_simp⟩) hHeld ?_
              try simp only [zP, zQ, zS, zZ, zC]
              refine wt (i := 3) (oi := ⟨some 54, .call { callee := .builtin .len, args := #[.tmp 53], argTypes := #[9] }, 3, "ref.go:211", #[⟨2, .data⟩], none⟩) (v := .int .i64 (n : Int)) (Or.inl ⟨by rfl, fun w' hSw => by go_simp⟩) hHeld ?_
              try simp only [zP, zQ, zS, zZ, zC]
              refine wt (i := 4) (oi := ⟨some 55, .binOp .lss 3 (.tmp 52) (.tmp 54) 3, 4, "ref.go:211", #[⟨1, .data⟩, ⟨3, .data⟩], none⟩) (v := .bool true) (Or.inl ⟨by rfl, fun w' hSw => by go_simp⟩) hHeld ?_
              try simp only [zP, zQ, zS, zZ, zC]
              refine wt (i := 5) (oi := ⟨some 56, .move (.tmp 55), 4, "ref.go:211", #[⟨4, .data⟩], none⟩) (v := .bool true) (Or.inl ⟨by rfl, fun w' hSw => by go_simp⟩) hHeld ?_
              try simp only [zP, zQ, zS, zZ, zC]
              refine wt (i := 6) (oi := ⟨some 57, .move (.tmp 0), 9, "ref.go:211", #[⟨5, .guard⟩], some (5, true)⟩) (v := .string s) (Or.inl ⟨by rfl, fun w' hSw => by go_simp⟩) hHeld ?_
              try simp only [zP, zQ, zS, zZ, zC]
              refine wt (i := 7) (oi := ⟨some 58, .move (.tmp 6), 3, "ref.go:211", #[⟨5, .guard⟩], some (5, true)⟩) (v := .int .i64 (i : Int)) (Or.inl ⟨by rfl, fun w' hSw => by go_simp⟩) hHeld ?_
              try simp only [zP, zQ, zS, zZ, zC]
              refine wt (i := 8) (oi := ⟨some 59, .index 9 (.tmp 57) (.tmp 58), 5, "ref.go:211", #[⟨6, .data⟩, ⟨7, .data⟩, ⟨5, .guard⟩], some (5, true)⟩) (v := .int .u8 (ca : Int)) (Or.inl ⟨by rfl, fun w' hSw => by go_simp⟩) hHeld ?_
              try simp only [zP, zQ, zS, zZ, zC]
              refine wt (i := 9) (oi := ⟨some 60, .move (.tmp 0), 9, "ref.go:211", #[⟨5, .guard⟩], some (5, true)⟩) (v := .string s) (Or.inl ⟨by rfl, fun w' hSw => by go_simp⟩) hHeld ?_
              try simp only [zP, zQ, zS, zZ, zC]
              refine wt (i := 10) (oi := ⟨some 61, .move (.tmp 6), 3, "ref.go:211", #[⟨5, .guard⟩], some (5, true)⟩) (v := .int .i64 (i : Int)) (Or.inl ⟨by rfl, fun w' hSw => by go_simp⟩) hHeld ?_
              try simp only [zP, zQ, zS, zZ, zC]
              refine wt (i := 11) (oi := ⟨some 62, .binOp .add 3 (.tmp 61) (.const (Value.int IntKind.i64 1)) 3, 3, "ref.go:211", #[⟨10, .data⟩, ⟨5, .guard⟩], some (5, true)⟩) (v := .int .i64 (i1 : Int)) (Or.inl ⟨by rfl, fun w' hSw => by go_simp; first | done | exact wrap_in (by omega) (by omega) | omega⟩) hHeld ?_
              try simp only [zP, zQ, zS, zZ, zC]
              refine wt (i := 12) (oi := ⟨some 63, .index 9 (.tmp 60) (.tmp 62), 5, "ref.go:211", #[⟨9, .data⟩, ⟨11, .data⟩, ⟨5, .guard⟩], some (5, true)⟩) (v := .int .u8 (ca : Int)) (Or.inl ⟨by rfl, fun w' hSw => by go_simp⟩) hHeld ?_
              try simp only [zP, zQ, zS, zZ, zC]
              refine wt (i := 13) (oi := ⟨some 64, .binOp .neq 5 (.tmp 59) (.tmp 63) 5, 4, "ref.go:211", #[⟨8, .data⟩, ⟨12, .data⟩, ⟨5, .guard⟩], some (5, true)⟩) (v := .bool false) (Or.inl ⟨by rfl, fun w' hSw => by go_simp⟩) hHeld ?_
              try simp only [zP, zQ, zS, zZ, zC]
              refine wt (i := 14) (oi := ⟨some 65, .pick (.tmp 56) (.tmp 64) (.const (Value.bool false)), 4, "ref.go:211", #[⟨5, .data⟩, ⟨13, .data⟩], none⟩) (v := .bool false) (Or.inl ⟨by rfl, fun w' hSw => by go_simp⟩) hHeld ?_
              try simp only [zP, zQ, zS, zZ, zC]
              refine wt (i := 15) (oi := ⟨some 66, .move (.tmp 65), 4, "ref.go:211", #[⟨14, .data⟩, ⟨5, .chain⟩], none⟩) (v := .bool false) (Or.inl ⟨by rfl, fun w' hSw => by go_simp⟩) hHeld ?_
              try simp only [zP, zQ, zS, zZ, zC]
              refine wt (i := 16) (oi := ⟨some 67, .move (.tmp 0), 9, "ref.go:211", #[⟨15, .guard⟩], some (15, true)⟩) (v := undef) (Or.inr ⟨by rfl, rfl⟩) hHeld ?_
              try simp only [zP, zQ, zS, zZ, zC]
              refine wt (i := 17) (oi := ⟨some 68, .move (.tmp 6), 3, "ref.go:211", #[⟨15, .guard⟩], some (15, true)⟩) (v := undef) (Or.inr ⟨by rfl, rfl⟩) hHeld ?_
              try simp only [zP, zQ, zS, zZ, zC]
              refine wt (i := 18) (oi := ⟨some 69, .call { callee := .value (.func 30), args := #[.tmp 67, .tmp 68], argTypes := #[9, 3] }, 9, "ref.go:211", #[⟨16, .data⟩, ⟨17, .data⟩, ⟨15, .chain⟩, ⟨15, .guard⟩], some (15, true)⟩) (v := undef) (Or.inr ⟨by rfl, rfl⟩) hHeld ?_
              try simp only [zP, zQ, zS, zZ, zC]
              refine wt (i := 19) (oi := ⟨some 70, .call { callee := .value (.func 27), args := #[.tmp 69], argTypes := #[9] }, 26, "ref.go:211", #[⟨18, .data⟩, ⟨18, .chain⟩, ⟨15, .guard⟩], some (15, true)⟩) (v := undef) (Or.inr ⟨by rfl, rfl⟩) hHeld ?_
              try simp only [zP, zQ, zS, zZ, zC]
              refine wt (i := 20) (oi := ⟨some 71, .binOp .eql 26 (.tmp 70) (.const (Value.int IntKind.i64 0)) 26, 4, "ref.go:211", #[⟨19, .data⟩, ⟨15, .guard⟩], some (15, true)⟩) (v := undef) (Or.inr ⟨by rfl, rfl⟩) hHeld ?_
              try simp only [zP, zQ, zS, zZ, zC]
              refine wt (i := 21) (oi := ⟨some 72, .pick (.tmp 66) (.tmp 71) (.const (Value.bool false)), 4, "ref.go:211", #[⟨15, .data⟩, ⟨20, .data⟩], none⟩) (v := .bool false) (Or.inl ⟨by rfl, fun w' hSw => by go_simp⟩) hHeld ?_
              try simp only [zP, zQ, zS, zZ, zC]
              refine wpAnyH_done (by kernel_rfl) ?_ _
              have B4 := hHeld
              clear hHeld 
              go_wp2
              exact ⟨⟨i1, by omega, by first | rfl | go_num, q, m, c, L, rfl, HLM.out, hAL.keep B4, HO.out, link hB B4⟩, by have := HI1.out; simp [intOf]; omega⟩
            · have hccz : ¬ (ca : Int) = (cb : Int) := by omega
              have CX := Lib.hid (fun V => CEX.out i (by omega) V)
              have HST : Hid (sb (s.extract 0 i ++ s.extract (i + 1) (i + 2) ++ s.extract i (i + 1) ++ s.extract (i + 2) s.size) = swapT bs i) := Lib.hid (by rw [← HSB.out]; exact sb_exchanged s (by omega))
              have hsz : (s.extract 0 i ++ s.extract (i + 1) (i + 2) ++ s.extract i (i + 1) ++ s.extract (i + 2) s.size).size ≤ 1000000000000 := by
                have := congrArg List.length HST.out
                unfold swapT at this
                rw [sb_length, List.length_set, List.length_set, HLN.out] at this
                omega
              generalize s.extract 0 i ++ s.extract (i + 1) (i + 2) ++ s.extract i (i + 1) ++ s.extract (i + 2) s.size = t at CX HST hsz
              rw [← HST.out] at HR
              have hts : t ≠ s := fun e => by
                rw [e, HSB.out] at HST
                have h5 : (swapT bs i)[i]? = some cb := by
                  unfold swapT
                  rw [hi1, gb1, ga1, List.getElem?_set_ne (by omega), List.getElem?_set_self hib]
                  rfl
                rw [← HST.out, ga1] at h5
                injection h5 with h5
                exact hcc h5
              have CC := Lib.hid (fun V => rchk_any t hsz V)
              have CP := Lib.hid (fun V (hA : At strE V q L) => put_any L q m c hLm hm6 t V hA)
              obtain ⟨E, hE⟩ : ∃ E, chkS (sb t) = E := ⟨_, rfl⟩
              rw [hE] at CC
              by_cases hE0 : E = 0
              · subst hE0
                have HO := Lib.hid (hOK.put hts hE)
                rw [← HR.out] at HO
                clear ga1 ga2 gb1 gb2 hca hcb HR hOK hLm CCH CEX hts HST hE hsz hi1 hcc
                go_upto_region 14 with (fail)
                refine wp_region_held_drew (S := fun w' => Below W1.heap.size W1 w') (by kernel_rfl) (below_drew (Below.refl _ _)) (fun _ => ?_)
                have hHeld : Below W1.heap.size W1 W1.drew := below_drew (Below.refl _ _)
                generalize W1.drew = V0 at hHeld ⊢
                refine wt (i := 0) (oi := ⟨some 51, .move (.tmp 6), 3, "ref.go:211", #[], none⟩) (v := .int .i64 (i : Int)) (Or.inl ⟨by rfl, fun w' hSw => by go_simp⟩) hHeld ?_
                try simp only [zP, zQ, zS, zZ, zC]
                refine wt (i := 1) (oi := ⟨some 52, .binOp .add 3 (.tmp 51) (.const (Value.int IntKind.i64 1)) 3, 3, "ref.go:211", #[⟨0, .data⟩], none⟩) (v := .int .i64 (i1 : Int)) (Or.inl ⟨by rfl, fun w' hSw => by go_simp; first | done | exact wrap_in (by omega) (by omega) | omega⟩) hHeld ?_
                try simp only [zP, zQ, zS, zZ, zC]
                refine wt (i := 2) (oi := ⟨some 53, .move (.tmp 0), 9, "ref.go:211", #[], none⟩) (v := .string s) (Or.inl ⟨by rfl, fun w' hSw => by go_simp⟩) hHeld ?_
                try simp only [zP, zQ, zS, zZ, zC]
                refine wt (i := 3) (oi := ⟨some 54, .call { callee := .builtin .len, args := #[.tmp 53], argTypes := #[9] }, 3, "ref.go:211", #[⟨2, .data⟩], none⟩) (v := .int .i64 (n : Int)) (Or.inl ⟨by rfl, fun w' hSw => by go_simp⟩) hHeld ?_
                try simp only [zP, zQ, zS, zZ, zC]
                refine wt (i := 4) (oi := ⟨some 55, .binOp .lss 3 (.tmp 52) (.tmp 54) 3, 4, "ref.go:211", #[⟨1, .data⟩, ⟨3, .data⟩], none⟩) (v := .bool true) (Or.inl ⟨by rfl, fun w' hSw => by go_simp⟩) hHeld ?_
                try simp only [zP, zQ, zS, zZ, zC]
                refine wt (i := 5) (oi := ⟨some 56, .move (.tmp 55), 4, "ref.go:211", #[⟨4, .data⟩], none⟩) (v := .bool true) (Or.inl ⟨by rfl, fun w' hSw => by go_simp⟩) hHeld ?_
                try simp only [zP, zQ, zS, zZ, zC]
                refine wt (i := 6) (oi := ⟨some 57, .move (.tmp 0), 9, "ref.go:211", #[⟨5, .guard⟩], some (5, true)⟩) (v := .string s) (Or.inl ⟨by rfl, fun w' hSw => by go_simp⟩) hHeld ?_
                try simp only [zP, zQ, zS, zZ, zC]
                refine wt (i := 7) (oi := ⟨some 58, .move (.tmp 6), 3, "ref.go:211", #[⟨5, .guard⟩], some (5, true)⟩) (v := .int .i64 (i : Int)) (Or.inl ⟨by rfl, fun w' hSw => by go_simp⟩) hHeld ?_
                try simp only [zP, zQ, zS, zZ, zC]
                refine wt (i := 8) (oi := ⟨some 59, .index 9 (.tmp 57) (.tmp 58), 5, "ref.go:211", #[⟨6, .data⟩, ⟨7, .data⟩, ⟨5, .guard⟩], some (5, true)⟩) (v := .int .u8 (ca : Int)) (Or.inl ⟨by rfl, fun w' hSw => by go_simp⟩) hHeld ?_
                try simp only [zP, zQ, zS, zZ, zC]
                refine wt (i := 9) (oi := ⟨some 60, .move (.tmp 0), 9, "ref.go:211", #[⟨5, .guard⟩], some (5, true)⟩) (v := .string s) (Or.inl ⟨by rfl, fun w' hSw => by go_simp⟩) hHeld ?_
                try simp only [zP, zQ, zS, zZ, zC]
                refine wt (i := 10) (oi := ⟨some 61, .move (.tmp 6), 3, "ref.go:211", #[⟨5, .guard⟩], some (5, true)⟩) (v := .int .i64 (i : Int)) (Or.inl ⟨by rfl, fun w' hSw => by go_simp⟩) hHeld ?_
                try simp only [zP, zQ, zS, zZ, zC]
                refine wt (i := 11) (oi := ⟨some 62, .binOp .add 3 (.tmp 61) (.const (Value.int IntKind.i64 1)) 3, 3, "ref.go:211", #[⟨10, .data⟩, ⟨5, .guard⟩], some (5, true)⟩) (v := .int .i64 (i1 : Int)) (Or.inl ⟨by rfl, fun w' hSw => by go_simp; first | done | exact wrap_in (by omega) (by omega) | omega⟩) hHeld ?_
                try simp only [zP, zQ, zS, zZ, zC]
                refine wt (i := 12) (oi := ⟨some 63, .index 9 (.tmp 60) (.tmp 62), 5, "ref.go:211", #[⟨9, .data⟩, ⟨11, .data⟩, ⟨5, .guard⟩], some (5, true)⟩) (v := .int .u8 (cb : Int)) (Or.inl ⟨by rfl, fun w' hSw => by go_simp⟩) hHeld ?_
                try simp only [zP, zQ, zS, zZ, zC]
                refine wt (i := 13) (oi := ⟨some 64, .binOp .neq 5 (.tmp 59) (.tmp 63) 5, 4, "ref.go:211", #[⟨8, .data⟩, ⟨12, .data⟩, ⟨5, .guard⟩], some (5, true)⟩) (v := .bool true) (Or.inl ⟨by rfl, fun w' hSw => by go_simp⟩) hHeld ?_
                try simp only [zP, zQ, zS, zZ, zC]
                refine wt (i := 14) (oi := ⟨some 65, .pick (.tmp 56) (.tmp 64) (.const (Value.bool false)), 4, "ref.go:211", #[⟨5, .data⟩, ⟨13, .data⟩], none⟩) (v := .bool true) (Or.inl ⟨by rfl, fun w' hSw => by go_simp⟩) hHeld ?_
                try simp only [zP, zQ, zS, zZ, zC]
                refine wt (i := 15) (oi := ⟨some 66, .move (.tmp 65), 4, "ref.go:211", #[⟨14, .data⟩, ⟨5, .chain⟩], none⟩) (v := .bool true) (Or.inl ⟨by rfl, fun w' hSw => by go_simp⟩) hHeld ?_
                try simp only [zP, zQ, zS, zZ, zC]
                refine wt (i := 16) (oi := ⟨some 67, .move (.tmp 0), 9, "ref.go:211", #[⟨15, .guard⟩], some (15, true)⟩) (v := .string s) (Or.inl ⟨by rfl, fun w' hSw => by go_simp⟩) hHeld ?_
                try simp only [zP, zQ, zS, zZ, zC]
                refine wt (i := 17) (oi := ⟨some 68, .move (.tmp 6), 3, "ref.go:211", #[⟨15, .guard⟩], some (15, true)⟩) (v := .int .i64 (i : Int)) (Or.inl ⟨by rfl, fun w' hSw => by go_simp⟩) hHeld ?_
                try simp only [zP, zQ, zS, zZ, zC]
                refine wpAnyH_ready (rs := [18]) (by kernel_rfl) (by simp) ?_
                refine AllReadyH.cons (o := ⟨some 69, .call { callee := .value (.func 30), args := #[.tmp 67, .tmp 68], argTypes := #[9, 3] }, 9, "ref.go:211", #[⟨16, .data⟩, ⟨17, .data⟩, ⟨15, .chain⟩, ⟨15, .guard⟩], some (15, true)⟩) rfl (fun K hK => ?_) AllReadyH.nil
                rw [if_pos (by rfl)]
                go_simp
                refine (CX.out _).mono ?_
                rintro en V1 ⟨rfl, hB9⟩
                dsimp only
                refine hK.out _ _ (link hHeld hB9) (fun hHeld => ?_)
                clear hK K
                try simp only [zP, zQ, zS, zZ, zC]
                clear hB9
                refine wpAnyH_ready (rs := [19]) (by kernel_rfl) (by simp) ?_
                refine AllReadyH.cons (o := ⟨some 70, .call { callee := .value (.func 27), args := #[.tmp 69], argTypes := #[9] }, 26, "ref.go:211", #[⟨18, .data⟩, ⟨18, .chain⟩, ⟨15, .guard⟩], some (15, true)⟩) rfl (fun K hK => ?_) AllReadyH.nil
                rw [if_pos (by rfl)]
                go_simp
                refine (CC.out _).mono ?_
                rintro en V2 ⟨rfl, hB9⟩
                dsimp only
                refine hK.out _ _ (link hHeld hB9) (fun hHeld => ?_)
                clear hK K
                try simp only [zP, zQ, zS, zZ, zC]
                clear hB9
                refine wt (i := 20) (oi := ⟨some 71, .binOp .eql 26 (.tmp 70) (.const (Value.int IntKind.i64 0)) 26, 4, "ref.go:211", #[⟨19, .data⟩, ⟨15, .guard⟩], some (15, true)⟩) (v := .bool true) (Or.inl ⟨by rfl, fun w' hSw => by go_simp⟩) hHeld ?_
                try simp only [zP, zQ, zS, zZ, zC]
                refine wt (i := 21) (oi := ⟨some 72, .pick (.tmp 66) (.tmp 71) (.const (Value.bool false)), 4, "ref.go:211", #[⟨15, .data⟩, ⟨20, .data⟩], none⟩) (v := .bool true) (Or.inl ⟨by rfl, fun w' hSw => by go_simp⟩) hHeld ?_
                try simp only [zP, zQ, zS, zZ, zC]
                refine wpAnyH_done (by kernel_rfl) ?_ _
                have B4 := hHeld
                clear hHeld 
                have A4 := hAL.keep B4
                have hB4 := link hB B4
                clear hAL hB B4
                go_wp2_with (first
                  | (go_at_call 49; refine (CP.out _ A5).mono ?_; rintro _ w4 ⟨q4, m4, c4, rfl, hm4, A6, B6⟩; have hB6 := link hB5 B6; clear A5 hB5 B6)
                  | (go_at_call 30; refine (CX.out _).mono ?_; rintro _ w2 ⟨rfl, B5⟩; have A5 := A4.keep B5; have hB5 := link hB4 B5; clear A4 hB4 B5))
                exact ⟨⟨i1, by omega, by first | rfl | go_num, q4, m4, c4, _, rfl, hm4, A6, HO.out, hB6⟩, by have := HI1.out; simp [intOf]; omega⟩
              · have HO := Lib.hid (hOK.skip (Or.inr (by rw [hE]; exact hE0)))
                rw [← HR.out] at HO
                have HLM := Lib.hid hLm
                clear ga1 ga2 gb1 gb2 hca hcb HR hOK hLm CCH CEX hts HST hE hsz hi1 hcc CP
                go_upto_region 14 with (fail)
                refine wp_region_held_drew (S := fun w' => Below W1.heap.size W1 w') (by kernel_rfl) (below_drew (Below.refl _ _)) (fun _ => ?_)
                have hHeld : Below W1.heap.size W1 W1.drew := below_drew (Below.refl _ _)
                generalize W1.drew = V0 at hHeld ⊢
                refine wt (i := 0) (oi := ⟨some 51, .move (.tmp 6), 3, "ref.go:211", #[], none⟩) (v := .int .i64 (i : Int)) (Or.inl ⟨by rfl, fun w' hSw => by go_simp⟩) hHeld ?_
                try simp only [zP, zQ, zS, zZ, zC]
                refine wt (i := 1) (oi := ⟨some 52, .binOp .add 3 (.tmp 51) (.const (Value.int IntKind.i64 1)) 3, 3, "ref.go:211", #[⟨0, .data⟩], none⟩) (v := .int .i64 (i1 : Int)) (Or.inl ⟨by rfl, fun w' hSw => by go_simp; first | done | exact wrap_in (by omega) (by omega) | omega⟩) hHeld ?_
                try simp only [zP, zQ, zS, zZ, zC]
                refine wt (i := 2) (oi := ⟨some 53, .move (.tmp 0), 9, "ref.go:211", #[], none⟩) (v := .string s) (Or.inl ⟨by rfl, fun w' hSw => by go_simp⟩) hHeld ?_
                try simp only [zP, zQ, zS, zZ, zC]
                refine wt (i := 3) (oi := ⟨some 54, .call { callee := .builtin .len, args := #[.tmp 53], argTypes := #[9] }, 3, "ref.go:211", #[⟨2, .data⟩], none⟩) (v := .int .i64 (n : Int)) (Or.inl ⟨by rfl, fun w' hSw => by go_simp⟩) hHeld ?_
                try simp only [zP, zQ, zS, zZ, zC]
                refine wt (i := 4) (oi := ⟨some 55, .binOp .lss 3 (.tmp 52) (.tmp 54) 3, 4, "ref.go:211", #[⟨1, .data⟩, ⟨3, .data⟩], none⟩) (v := .bool true) (Or.inl ⟨by rfl, fun w' hSw => by go_simp⟩) hHeld ?_
                try simp only [zP, zQ, zS, zZ, zC]
                refine wt (i := 5) (oi := ⟨some 56, .move (.tmp 55), 4, "ref.go:211", #[⟨4, .data⟩], none⟩) (v := .bool true) (Or.inl ⟨by rfl, fun w' hSw => by go_simp⟩) hHeld ?_
                try simp only [zP, zQ, zS, zZ, zC]
                refine wt (i := 6) (oi := ⟨some 57, .move (.tmp 0), 9, "ref.go:211", #[⟨5, .guard⟩], some (5, true)⟩) (v := .string s) (Or.inl ⟨by rfl, fun w' hSw => by go_simp⟩) hHeld ?_
                try simp only [zP, zQ, zS, zZ, zC]
                refine wt (i := 7) (oi := ⟨some 58, .move (.tmp 6), 3, "ref.go:211", #[⟨5, .guard⟩], some (5, true)⟩) (v := .int .i64 (i : Int)) (Or.inl ⟨by rfl, fun w' hSw => by go_simp⟩) hHeld ?_
                try simp only [zP, zQ, zS, zZ, zC]
                refine wt (i := 8) (oi := ⟨some 59, .index 9 (.tmp 57) (.tmp 58), 5, "ref.go:211", #[⟨6, .data⟩, ⟨7, .data⟩, ⟨5, .guard⟩], some (5, true)⟩) (v := .int .u8 (ca : Int)) (Or.inl ⟨by rfl, fun w' hSw => by go_simp⟩) hHeld ?_
                try simp only [zP, zQ, zS, zZ, zC]
                refine wt (i := 9) (oi := ⟨some 60, .move (.tmp 0), 9, "ref.go:211", #[⟨5, .guard⟩], some (5, true)⟩) (v := .string s) (Or.inl ⟨by rfl, fun w' hSw => by go_simp⟩) hHeld ?_
                try simp only [zP, zQ, zS, zZ, zC]
                refine wt (i := 10) (oi := ⟨some 61, .move (.tmp 6), 3, "ref.go:211", #[⟨5, .guard⟩], some (5, true)⟩) (v := .int .i64 (i : Int)) (Or.inl ⟨by rfl, fun w' hSw => by go_simp⟩) hHeld ?_
                try simp only [zP, zQ, zS, zZ, zC]
                refine wt (i := 11) (oi := ⟨some 62, .binOp .add 3 (.tmp 61) (.const (Value.int IntKind.i64 1)) 3, 3, "ref.go:211", #[⟨10, .data⟩, ⟨5, .guard⟩], some (5, true)⟩) (v := .int .i64 (i1 : Int)) (Or.inl ⟨by rfl, fun w' hSw => by go_simp; first | done | exact wrap_in (by omega) (by omega) | omega⟩) hHeld ?_
                try simp only [zP, zQ, zS, zZ, zC]
                refine wt (i := 12) (oi := ⟨some 63, .index 9 (.tmp 60) (.tmp 62), 5, "ref.go:211", #[⟨9, .data⟩, ⟨11, .data⟩, ⟨5, .guard⟩], some (5, true)⟩) (v := .int .u8 (cb : Int)) (Or.inl ⟨by rfl, fun w' hSw => by go_simp⟩) hHeld ?_
                try simp only [zP, zQ, zS, zZ, zC]
                refine wt (i := 13) (oi := ⟨some 64, .binOp .neq 5 (.tmp 59) (.tmp 63) 5, 4, "ref.go:211", #[⟨8, .data⟩, ⟨12, .data⟩, ⟨5, .guard⟩], some (5, true)⟩) (v := .bool true) (Or.inl ⟨by rfl, fun w' hSw => by go_simp⟩) hHeld ?_
                try simp only [zP, zQ, zS, zZ, zC]
                refine wt (i := 14) (oi := ⟨some 65, .pick (.tmp 56) (.tmp 64) (.const (Value.bool false)), 4, "ref.go:211", #[⟨5, .data⟩, ⟨13, .data⟩], none⟩) (v := .bool true) (Or.inl ⟨by rfl, fun w' hSw => by go_simp⟩) hHeld ?_
                try simp only [zP, zQ, zS, zZ, zC]
                refine wt (i := 15) (oi := ⟨some 66, .move (.tmp 65), 4, "ref.go:211", #[⟨14, .data⟩, ⟨5, .chain⟩], none⟩) (v := .bool true) (Or.inl ⟨by rfl, fun w' hSw => by go_simp⟩) hHeld ?_
                try simp only [zP, zQ, zS, zZ, zC]
                refine wt (i := 16) (oi := ⟨some 67, .move (.tmp 0), 9, "ref.go:211", #[⟨15, .guard⟩], some (15, true)⟩) (v := .string s) (Or.inl ⟨by rfl, fun w' hSw => by go_simp⟩) hHeld ?_
                try simp only [zP, zQ, zS, zZ, zC]
                refine wt (i := 17) (oi := ⟨some 68, .move (.tmp 6), 3, "ref.go:211", #[⟨15, .guard⟩], some (15, true)⟩) (v := .int .i64 (i : Int)) (Or.inl ⟨by rfl, fun w' hSw => by go_simp⟩) hHeld ?_
                try simp only [zP, zQ, zS, zZ, zC]
                refine wpAnyH_ready (rs := [18]) (by kernel_rfl) (by simp) ?_
                refine AllReadyH.cons (o := ⟨some 69, .call { callee := .value (.func 30), args := #[.tmp 67, .tmp 68], argTypes := #[9, 3] }, 9, "ref.go:211", #[⟨16, .data⟩, ⟨17, .data⟩, ⟨15, .chain⟩, ⟨15, .guard⟩], some (15, true)⟩) rfl (fun K hK => ?_) AllReadyH.nil
                rw [if_pos (by rfl)]
                go_simp
                refine (CX.out _).mono ?_
                rintro en V1 ⟨rfl, hB9⟩
                dsimp only
                refine hK.out _ _ (link hHeld hB9) (fun hHeld => ?_)
                clear hK K
                try simp only [zP, zQ, zS, zZ, zC]
                clear hB9
                refine wpAnyH_ready (rs := [19]) (by kernel_rfl) (by simp) ?_
                refine AllReadyH.cons (o := ⟨some 70, .call { callee := .value (.func 27), args := #[.tmp 69], argTypes := #[9] }, 26, "ref.go:211", #[⟨18, .data⟩, ⟨18, .chain⟩, ⟨15, .guard⟩], some (15, true)⟩) rfl (fun K hK => ?_) AllReadyH.nil
                rw [if_pos (by rfl)]
                go_simp
                refine (CC.out _).mono ?_
                rintro en V2 ⟨rfl, hB9⟩
                dsimp only
                refine hK.out _ _ (link hHeld hB9) (fun hHeld => ?_)
                clear hK K
                try simp only [zP, zQ, zS, zZ, zC]
                clear hB9
                refine wt (i := 20) (oi := ⟨some 71, .binOp .eql 26 (.tmp 70) (.const (Value.int IntKind.i64 0)) 26, 4, "ref.go:211", #[⟨19, .data⟩, ⟨15, .guard⟩], some (15, true)⟩) (v := .bool false) (Or.inl ⟨by rfl, fun w' hSw => by go_simp⟩) hHeld ?_
                try simp only [zP, zQ, zS, zZ, zC]
                refine wt (i := 21) (oi := ⟨some 72, .pick (.tmp 66) (.tmp 71) (.const (Value.bool false)), 4, "ref.go:211", #[⟨15, .data⟩, ⟨20, .data⟩], none⟩) (v := .bool false) (Or.inl ⟨by rfl, fun w' hSw => by go_simp⟩) hHeld ?_
                try simp only [zP, zQ, zS, zZ, zC]
                refine wpAnyH_done (by kernel_rfl) ?_ _
                have B4 := hHeld
                clear hHeld 
                go_wp2
                exact ⟨⟨i1, by omega, by first | rfl | go_num, q, m, c, L, rfl, HLM.out, hAL.keep B4, HO.out, link hB B4⟩, by have := HI1.out; simp [intOf]; omega⟩
          · have h1z : ¬ (i1 : Int) < (n : Int) := by omega
            have HR : Hid (foundT bs i1 = foundT bs i ++ kRow bs i 31) := Lib.hid (by rw [← hi1, foundT_snoc]; unfold rowT; rw [if_neg (by rw [HLN.out, hi1]; omega), List.append_nil])
            have HO := Lib.hid hOK
            rw [← HR.out] at HO
            have HLM := Lib.hid hLm
            clear HR hOK hLm CCH CEX hi1
            go_upto_region 14 with (fail)
            refine wp_region_held_drew (S := fun w' => Below W1.heap.size W1 w') (by kernel_rfl) (below_drew (Below.refl _ _)) (fun _ => ?_)
            have hHeld : Below W1.heap.size W1 W1.drew := below_drew (Below.refl _ _)
            generalize W1.drew = V0 at hHeld ⊢
            refine wt (i := 0) (oi := ⟨some 51, .move (.tmp 6), 3, "ref.go:211", #[], none⟩) (v := .int .i64 (i : Int)) (Or.inl ⟨by rfl, fun w' hSw => by go_simp⟩) hHeld ?_
            try simp only [zP, zQ, zS, zZ, zC]
            refine wt (i := 1) (oi := ⟨some 52, .binOp .add 3 (.tmp 51) (.const (Value.int IntKind.i64 1)) 3, 3, "ref.go:211", #[⟨0, .data⟩], none⟩) (v := .int .i64 (i1 : Int)) (Or.inl ⟨by rfl, fun w' hSw => by go_simp; first | done | exact wrap_in (by omega) (by omega) | omega⟩) hHeld ?_
            try simp only [zP, zQ, zS, zZ, zC]
            refine wt (i := 2) (oi := ⟨some 53, .move (.tmp 0), 9, "ref.go:211", #[], none⟩) (v := .string s) (Or.inl ⟨by rfl, fun w' hSw => by go_simp⟩) hHeld ?_
            try simp only [zP, zQ, zS, zZ, zC]
            refine wt (i := 3) (oi := ⟨some 54, .call { callee := .builtin .len, args := #[.tmp 53], argTypes := #[9] }, 3, "ref.go:211", #[⟨2, .data⟩], none⟩) (v := .int .i64 (n : Int)) (Or.inl ⟨by rfl, fun w' hSw => by go_simp⟩) hHeld ?_
            try simp only [zP, zQ, zS, zZ, zC]
            refine wt (i := 4) (oi := ⟨some 55, .binOp .lss 3 (.tmp 52) (.tmp 54) 3, 4, "ref.go:211", #[⟨1, .data⟩, ⟨3, .data⟩], none⟩) (v := .bool false) (Or.inl ⟨by rfl, fun w' hSw => by go_simp⟩) hHeld ?_
            try simp only [zP, zQ, zS, zZ, zC]
            refine wt (i := 5) (oi := ⟨some 56, .move (.tmp 55), 4, "ref.go:211", #[⟨4, .data⟩], none⟩) (v := .bool false) (Or.inl ⟨by rfl, fun w' hSw => by go_simp⟩) hHeld ?_
            try simp only [zP, zQ, zS, zZ, zC]
            refine wt (i := 6) (oi := ⟨some 57, .move (.tmp 0), 9, "ref.go:211", #[⟨5, .guard⟩], some (5, true)⟩) (v := undef) (Or.inr ⟨by rfl, rfl⟩) hHeld ?_
            try simp only [zP, zQ, zS, zZ, zC]
            refine wt (i := 7) (oi := ⟨some 58, .move (.tmp 6), 3, "ref.go:211", #[⟨5, .guard⟩], some (5, true)⟩) (v := undef) (Or.inr ⟨by rfl, rfl⟩) hHeld ?_
            try simp only [zP, zQ, zS, zZ, zC]
            refine wt (i := 8) (oi := ⟨some 59, .index 9 (.tmp 57) (.tmp 58), 5, "ref.go:211", #[⟨6, .data⟩, ⟨7, .data⟩, ⟨5, .guard⟩], some (5, true)⟩) (v := undef) (Or.inr ⟨by rfl, rfl⟩) hHeld ?_
            try simp only [zP, zQ, zS, zZ, zC]
            refine wt (i := 9) (oi := ⟨some 60, .move (.tmp 0), 9, "ref.go:211", #[⟨5, .guard⟩], some (5, true)⟩) (v := undef) (Or.inr ⟨by rfl, rfl⟩) hHeld ?_
            try simp only [zP, zQ, zS, zZ, zC]
            refine wt (i := 10) (oi := ⟨some 61, .move (.tmp 6), 3, "ref.go:211", #[⟨5, .guard⟩], some (5, true)⟩) (v := undef) (Or.inr ⟨by rfl, rfl⟩) hHeld ?_
            try simp only [zP, zQ, zS, zZ, zC]
            refine wt (i := 11) (oi := ⟨some 62, .binOp .add 3 (.tmp 61) (.const (Value.int IntKind.i64 1)) 3, 3, "ref.go:211", #[⟨10, .data⟩, ⟨5, .guard⟩], some (5, true)⟩) (v := undef) (Or.inr ⟨by rfl, rfl⟩) hHeld ?_
            try simp only [zP, zQ, zS, zZ, zC]
            refine wt (i := 12) (oi := ⟨some 63, .index 9 (.tmp 60) (.tmp 62), 5, "ref.go:211", #[⟨9, .data⟩, ⟨11, .data⟩, ⟨5, .guard⟩], some (5, true)⟩) (v := undef) (Or.inr ⟨by rfl, rfl⟩) hHeld ?_
            try simp only [zP, zQ, zS, zZ, zC]
            refine wt (i := 13) (oi := ⟨some 64, .binOp .neq 5 (.tmp 59) (.tmp 63) 5, 4, "ref.go:211", #[⟨8, .data⟩, ⟨12, .data⟩, ⟨5, .guard⟩], some (5, true)⟩) (v := undef) (Or.inr ⟨by rfl, rfl⟩) hHeld ?_
            try simp only [zP, zQ, zS, zZ, zC]
            refine wt (i := 14) (oi := ⟨some 65, .pick (.tmp 56) (.tmp 64) (.const (Value.bool false)), 4, "ref.go:211", #[⟨5, .data⟩, ⟨13, .data⟩], none⟩) (v := .bool false) (Or.inl ⟨by rfl, fun w' hSw => by go_simp⟩) hHeld ?_
            try simp only [zP, zQ, zS, zZ, zC]
            refine wt (i := 15) (oi := ⟨some 66, .move (.tmp 65), 4, "ref.go:211", #[⟨14, .data⟩, ⟨5, .chain⟩], none⟩) (v := .bool false) (Or.inl ⟨by rfl, fun w' hSw => by go_simp⟩) hHeld ?_
            try simp only [zP, zQ, zS, zZ, zC]
            refine wt (i := 16) (oi := ⟨some 67, .move (.tmp 0), 9, "ref.go:211", #[⟨15, .guard⟩], some (15, true)⟩) (v := undef) (Or.inr ⟨by rfl, rfl⟩) hHeld ?_
            try simp only [zP, zQ, zS, zZ, zC]
            refine wt (i := 17) (oi := ⟨some 68, .move (.tmp 6), 3, "ref.go:211", #[⟨15, .guard⟩], some (15, true)⟩) (v := undef) (Or.inr ⟨by rfl, rfl⟩) hHeld ?_
            try simp only [zP, zQ, zS, zZ, zC]
            refine wt (i := 18) (oi := ⟨some 69, .call { callee := .value (.func 30), args := #[.tmp 67, .tmp 68], argTypes := #[9, 3] }, 9, "ref.go:211", #[⟨16, .data⟩, ⟨17, .data⟩, ⟨15, .chain⟩, ⟨15, .guard⟩], some (15, true)⟩) (v := undef) (Or.inr ⟨by rfl, rfl⟩) hHeld ?_
            try simp only [zP, zQ, zS, zZ, zC]
            refine wt (i := 19) (oi := ⟨some 70, .call { callee := .value (.func 27), args := #[.tmp 69], argTypes := #[9] }, 26, "ref.go:211", #[⟨18, .data⟩, ⟨18, .chain⟩, ⟨15, .guard⟩], some (15, true)⟩) (v := undef) (Or.inr ⟨by rfl, rfl⟩) hHeld ?_
            try simp only [zP, zQ, zS, zZ, zC]
            refine wt (i := 20) (oi := ⟨some 71, .binOp .eql 26 (.tmp 70) (.const (Value.int IntKind.i64 0)) 26, 4, "ref.go:211", #[⟨19, .data⟩, ⟨15, .guard⟩], some (15, true)⟩) (v := undef) (Or.inr ⟨by rfl, rfl⟩) hHeld ?_
            try simp only [zP, zQ, zS, zZ, zC]
            refine wt (i := 21) (oi := ⟨some 72, .pick (.tmp 66) (.tmp 71) (.const (Value.bool false)), 4, "ref.go:211", #[⟨15, .data⟩, ⟨20, .data⟩], none⟩) (v := .bool false) (Or.inl ⟨by rfl, fun w' hSw => by go_simp⟩) hHeld ?_
            try simp only [zP, zQ, zS, zZ, zC]
            refine wpAnyH_done (by kernel_rfl) ?_ _
            have B4 := hHeld
            clear hHeld 
            go_wp2
            exact ⟨⟨i1, by have := HI1.out; omega, by first | rfl | go_num, q, m, c, L, rfl, HLM.out, hAL.keep B4, HO.out, link hB B4⟩, by have := HI1.out; simp [intOf]; omega⟩
        · obtain rfl : i = n := by omega
          have HE := Lib.hid (HNO.out L hOK)
          have HLM := Lib.hid hLm
          have hgez : ¬ (i : Int) < (i : Int) := by omega
          clear hOK hLm
          go_wp2
          go_ret
          exact ⟨q, m, c, rfl, by rw [HE.out]; exact HLM.out, by rw [HE.out]; exact hAL, hB⟩
end Go.Proofs.Ytjpiidfoegaenaa
