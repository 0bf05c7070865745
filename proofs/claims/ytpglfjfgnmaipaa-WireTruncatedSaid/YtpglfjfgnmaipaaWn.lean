/-
  wire.Ints and wire.Strings return the encodings of lists of bounded size.
-/
import Derived.Test.YtpglfjfgnmaipaaWx
namespace Go.Proofs.Ytpglfjfgnmaipaa
open Go.RowKit

def intsV (l : List Int) : List Value := l.map (Value.int .i64)

set_option maxHeartbeats 400000 in
theorem ints_any (A : Option Addr) (l : List Int) (n c : Nat) (w : World) (hn : n = l.length) (hl : l.length ≤ 4398046511104) (hi : ∀ x ∈ l, I64 x) (hr : Cells w A (intsV l)) :
    Calls Try.prog 18 #[.slice A n c] w (Made w (encL l)) := by
  subst hn
  have hA : l.length ≤ 0 ∨ ∃ ad, A = some ad := by
    rcases Nat.eq_zero_or_pos l.length with h | h
    · exact .inl (by omega)
    · obtain ⟨ad, e, _⟩ := hr 0 (.int .i64 l[0]) (by simp [intsV, List.getElem?_eq_getElem h])
      exact .inr ⟨ad, e⟩
  rcases hA with hA | ⟨ad, rfl⟩
  all_goals
    go_enter Try.func18, Try.ntmps18
    go_wp2_with fail
    refine (int_any _ (by omega) (by omega) _).mono ?_
    rintro e w1 ⟨g, cap, rfl, hO⟩
    go_wp2
    go_loopw [3, 11] (fun v i wr => ∃ k : Nat, k ≤ l.length ∧ i = .int .i64 k ∧ Own w wr v (partI l k)) (fun _ i _ => l.length - (intOf i).toNat)
    case atStart => exact ⟨0, by omega, rfl, by rw [partI_zero]; exact hO⟩
    case round =>
      obtain ⟨k, hk, rfl, hO2⟩ := hrel
      by_cases hlt : k < l.length
      · first
          | (exfalso; omega)
          | (have hcell : wr.cell? (ad.add k) = some (.int .i64 l[k]) := by
               obtain ⟨ad', e, _, hc⟩ := (hr.keep hO2.below) k (.int .i64 l[k]) (by simp [intsV, List.getElem?_eq_getElem hlt])
               obtain rfl : ad = ad' := by simpa using e
               exact hc
             have hx := hi l[k] (List.getElem_mem hlt)
             have hpl := partI_length l k hi hl
             have hps := Lib.hid (partI_step l k hlt)
             generalize l[k] = x at hcell hx hps
             have hxl := enc_length x hx.1 hx.2
             go_wp2_with fail
             refine (int_any x hx.1 hx.2 _).mono ?_
             rintro e w3 ⟨g3, cap3, rfl, hO3⟩
             have hO4 := hO2.keep hO3.below
             have hc3 := (hO3.has (enc_lt x hx.1 hx.2)).cells
             clear hO2 hcell
             go_wp2_with (at_builtin; refine push_row (W := w) rfl _ _ rfl (partI l k) (enc x) _ rfl hO4 ⟨g3, 0, none⟩ _ _ rfl rfl hc3 ?y1 ?_)
             case y1 => omega
             intro v5 w5 hO5
             clear hO4 hO3 hc3
             go_wp2
             go_roundw
             case rel => exact ⟨k + 1, by omega, by go_num, by rw [hps.out]; exact hO5⟩
             case measure => simp [intOf]; omega)
      · obtain rfl : l.length = k := by omega
        go_wp2
        go_ret
        rw [partI_all] at hO2
        exact made_of (by simp [encL, enc_ne]) hO2

def strsV (l : List ByteArray) : List Value := l.map Value.string
def sbs (l : List ByteArray) : List (List Nat) := l.map sb
theorem sbs_length (l : List ByteArray) : (sbs l).length = l.length := by simp [sbs]
theorem size_tot (l : List ByteArray) (k : Nat) (h : k < l.length) : l[k].size ≤ tot (sbs l) := by
  rw [← sb_length]
  exact tot_mem _ _ (List.mem_map.2 ⟨_, List.getElem_mem h, rfl⟩)
theorem partT_sbs (l : List ByteArray) (k : Nat) (h : k < l.length) : partT (sbs l) (k + 1) = partT (sbs l) k ++ encS (sb l[k]) := by
  rw [partT_step (sbs l) k (by rw [sbs_length]; exact h)]
  simp [sbs]
theorem encS_lt (s : ByteArray) (h : s.size ≤ 9223372036854775807) : ∀ d ∈ encS (sb s), d < 256 := by
  intro d hd
  unfold encS at hd
  rcases List.mem_append.1 hd with h1 | h1
  · rw [sb_length] at h1
    exact enc_lt _ (by omega) (by omega) d h1
  · exact sb_lt s d h1

set_option maxHeartbeats 400000 in
theorem strings_any (A : Option Addr) (l : List ByteArray) (n c : Nat) (w : World) (hn : n = l.length) (hl : l.length ≤ 2199023255552) (ht : tot (sbs l) ≤ 17592186044416) (hr : Cells w A (strsV l)) :
    Calls Try.prog 20 #[.slice A n c] w (Made w (encT (sbs l))) := by
  subst hn
  have hA : l.length ≤ 0 ∨ ∃ ad, A = some ad := by
    rcases Nat.eq_zero_or_pos l.length with h | h
    · exact .inl (by omega)
    · obtain ⟨ad, e, _⟩ := hr 0 (.string l[0]) (by simp [strsV, List.getElem?_eq_getElem h])
      exact .inr ⟨ad, e⟩
  rcases hA with hA | ⟨ad, rfl⟩
  all_goals
    go_enter Try.func20, Try.ntmps20
    go_wp2_with fail
    refine (int_any _ (by omega) (by omega) _).mono ?_
    rintro e w1 ⟨g, cap, rfl, hO⟩
    go_wp2
    go_loopw [3, 11] (fun v i wr => ∃ k : Nat, k ≤ l.length ∧ i = .int .i64 k ∧ Own w wr v (partT (sbs l) k)) (fun _ i _ => l.length - (intOf i).toNat)
    case atStart => exact ⟨0, by omega, rfl, by rw [partT_zero, sbs_length]; exact hO⟩
    case round =>
      obtain ⟨k, hk, rfl, hO2⟩ := hrel
      by_cases hlt : k < l.length
      · first
          | (exfalso; omega)
          | (have hcell : wr.cell? (ad.add k) = some (.string l[k]) := by
               obtain ⟨ad', e, _, hc⟩ := (hr.keep hO2.below) k (.string l[k]) (by simp [strsV, List.getElem?_eq_getElem hlt])
               obtain rfl : ad = ad' := by simpa using e
               exact hc
             have hx := size_tot l k hlt
             have hpl := partT_length (sbs l) k (by rw [sbs_length]; omega) ht
             rw [sbs_length] at hpl
             have hps := Lib.hid (partT_sbs l k hlt)
             generalize l[k] = x at hcell hx hps
             have hxl := encS_length (sb x) (by rw [sb_length]; omega)
             rw [sb_length] at hxl
             go_wp2_with fail
             refine (bytes_any x (by omega) _).mono ?_
             rintro e w3 ⟨g3, cap3, rfl, hO3⟩
             have hO4 := hO2.keep hO3.below
             have hc3 := (hO3.has (encS_lt x (by omega))).cells
             clear hO2 hcell
             go_wp2_with (at_builtin; refine push_row (W := w) rfl _ _ rfl (partT (sbs l) k) (encS (sb x)) _ rfl hO4 ⟨g3, 0, none⟩ _ _ rfl rfl hc3 ?y1 ?_)
             case y1 => omega
             intro v5 w5 hO5
             clear hO4 hO3 hc3
             go_wp2
             go_roundw
             case rel => exact ⟨k + 1, by omega, by go_num, by rw [hps.out]; exact hO5⟩
             case measure => simp [intOf]; omega)
      · obtain rfl : l.length = k := by omega
        go_wp2
        go_ret
        have e := partT_all (sbs l)
        rw [sbs_length] at e
        rw [e] at hO2
        exact made_of (by simp [encT, enc_ne]) hO2

end Go.Proofs.Ytpglfjfgnmaipaa
