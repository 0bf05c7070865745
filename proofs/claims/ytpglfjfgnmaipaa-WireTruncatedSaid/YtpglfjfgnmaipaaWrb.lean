/-
  passimref01.Bytes: the encoding of a string of at most 2^45 bytes.
-/
import Derived.Test.YtpglfjfgnmaipaaWre
namespace Go.Proofs.Ytpglfjfgnmaipaa
open Go.RowKit

/-- '[]byte(s)': a new row with the bytes of s. -/
theorem to_bytes (s : ByteArray) (w : World) : ∃ cap w2, (convert 9 28 (.string s)).run Try.prog w = .ok (.slice (some ⟨w.heap.size, 0, none⟩) s.size cap) w2 ∧ Below w.heap.size w w2 ∧ ∀ j u, (bytesV (sb s))[j]? = some u → w2.cell? ((⟨w.heap.size, 0, none⟩ : Addr).add j) = some u := by
  refine ⟨_, _, run_bytes_of_string w 9 28 5 s Try.underlying9 Try.underlying28 Try.underlying5, (Below.refl _ _).drew.alloc (Nat.le_refl _) _, ?_⟩
  intro j u hj
  rw [Addr.add_mid, Nat.zero_add]
  have h := World.cell?_alloc_mark w.drew (bytesRow s (grownCap w s.size 0 5)) 5 ((bytesRow s (grownCap w s.size 0 5)).size, (bytesRow s (grownCap w s.size 0 5)).size + 1) j
  have hlt : j < s.data.size := by
    have := (List.getElem?_eq_some_iff.1 hj).1
    rw [bytesV_length, sb_length] at this
    exact this
  rw [bytesRow_at s _ j hlt] at h
  refine h.trans ?_
  rw [← hj]
  simp only [bytesV, sb, List.getElem?_map, Array.getElem?_toList, Array.getElem?_eq_getElem hlt, Option.map_some, byteV]

set_option maxHeartbeats 400000 in
theorem rbytes_any (s : ByteArray) (hs : s.size ≤ 35184372088832) (w : World) :
    Calls Try.prog 17 #[.string s] w (Made w (encS (sb s))) := by
  go_enter Try.func17, Try.ntmps17
  go_wp2_with fail
  refine (rint_any _ (by omega) (by omega) _).mono ?_
  rintro e w1 ⟨g, cap, rfl, hO⟩
  have hl := enc_length (s.size : Int) (by omega) (by omega)
  obtain ⟨cap2, w2, hcv, hB2, hc2⟩ := to_bytes s w1
  have hO2 := hO.keep hB2
  clear hB2
  go_wp2_with (at_builtin; refine push_row (W := w) rfl _ _ rfl (enc (s.size : Int)) (sb s) _ rfl hO2 ⟨w1.heap.size, 0, none⟩ _ _ rfl (sb_length s).symm hc2 ?x1 ?_)
  case x1 => rw [sb_length]; omega
  intro v3 w3 hO3
  go_wp2
  go_ret
  exact made_of (by unfold encS; simp [enc_ne]) (by unfold encS; rw [sb_length]; exact hO3)

set_option maxHeartbeats 400000 in
theorem rstrings_any (A : Option Addr) (l : List ByteArray) (n c : Nat) (w : World) (hn : n = l.length) (hl : l.length ≤ 2199023255552) (ht : tot (sbs l) ≤ 17592186044416) (hr : Cells w A (strsV l)) :
    Calls Try.prog 21 #[.slice A n c] w (Made w (encT (sbs l))) := by
  subst hn
  have hA : l.length ≤ 0 ∨ ∃ ad, A = some ad := by
    rcases Nat.eq_zero_or_pos l.length with h | h
    · exact .inl (by omega)
    · obtain ⟨ad, e, _⟩ := hr 0 (.string l[0]) (by simp [strsV, List.getElem?_eq_getElem h])
      exact .inr ⟨ad, e⟩
  rcases hA with hA | ⟨ad, rfl⟩
  all_goals
    go_enter Try.func21, Try.ntmps21
    go_wp2_with fail
    refine (rint_any _ (by omega) (by omega) _).mono ?_
    rintro e w1 ⟨g, cap, rfl, hO⟩
    go_wp2
    go_loopw [3, 4] (fun v i wr => ∃ k : Nat, k ≤ l.length ∧ i = .int .i64 k ∧ Own w wr v (partT (sbs l) k)) (fun _ i _ => l.length - (intOf i).toNat)
    case atStart => exact ⟨0, by omega, rfl, by rw [partT_zero, sbs_length]; exact hO⟩
    case round =>
      obtain ⟨k, hk, rfl, hO2⟩ := hrel
      by_cases hlt : k < l.length
      · first
          | (exfalso; omega)
          | (have hcell : wr.cell? (ad.add k) = some (.string l[k]) := by
               obtain ⟨ad', e, _, hc⟩ := (hr.keep hO2.below) k (.string l[k]) (by simp [strsV, List.getElem?_eq_getElem hlt])
               obtain rfl : ad = ad' := by simpa using e
               exact hc
             have hx := size_tot l k hlt
             have hpl := partT_length (sbs l) k (by rw [sbs_length]; omega) ht
             rw [sbs_length] at hpl
             have hps := Lib.hid (partT_sbs l k hlt)
             generalize l[k] = x at hcell hx hps
             have hxl := encS_length (sb x) (by rw [sb_length]; omega)
             rw [sb_length] at hxl
             go_wp2_with fail
             refine (rbytes_any x (by omega) _).mono ?_
             rintro e w3 ⟨g3, cap3, rfl, hO3⟩
             have hO4 := hO2.keep hO3.below
             have hc3 := (hO3.has (encS_lt x (by omega))).cells
             clear hO2 hcell
             go_wp2_with (at_builtin; refine push_row (W := w) rfl _ _ rfl (partT (sbs l) k) (encS (sb x)) _ rfl hO4 ⟨g3, 0, none⟩ _ _ rfl rfl hc3 ?y1 ?_)
             case y1 => omega
             intro v5 w5 hO5
             clear hO4 hO3 hc3
             go_wp2
             go_roundw
             case rel => exact ⟨k + 1, by omega, by go_num, by rw [hps.out]; exact hO5⟩
             case measure => simp [intOf]; omega)
      · obtain rfl : l.length = k := by omega
        go_wp2
        go_ret
        have e := partT_all (sbs l)
        rw [sbs_length] at e
        rw [e] at hO2
        exact made_of (by simp [encT, enc_ne]) hO2


end Go.Proofs.Ytpglfjfgnmaipaa
