/-
  values, rest and Check of the program.
-/
import Derived.Test.YtjpiidfoegaenaaEa
import Derived.Test.YtjpiidfoegaenaaDi
namespace Go.Proofs.Ytjpiidfoegaenaa
open Go.RowKit
set_option linter.unusedVariables false
set_option linter.unusedSimpArgs false

/-- The call answers a list of its own and a bool. -/
def LstB {α : Type} (E : Elt α) (l : List α) (b : Bool) (w : World) (e : Ending) (w' : World) : Prop := ∃ v, e = .returned (.tuple #[v, .bool b]) ∧ OwnR E w' w.heap.size v l ∧ Below w.heap.size w w'
theorem LstB.give {α : Type} {E : Elt α} {l : List α} {b : Bool} {w w' : World} {e : Ending} (h : LstB E l b w e w') {n : Nat} (hn : l.length = n) : ∃ q c, e = .returned (.tuple #[.slice q n c, .bool b]) ∧ n ≤ c ∧ At E w' q l ∧ Below w.heap.size w w' ∧ OwnR E w' w.heap.size (.slice q n c) l := by
  obtain ⟨v, rfl, hO, hB⟩ := h
  obtain ⟨q, c, rfl, hc, hA, _⟩ := hO.form
  subst hn
  exact ⟨q, c, rfl, hc, hA, hB, hO⟩
def VaRel (bs : List Nat) (n : Nat) (w : World) (v i : Value) (wr : World) : Prop := ∃ k : Nat, k ≤ n ∧ i = .int .i64 (k : Int) ∧ okS (bs.take k) = true ∧ OwnR intE wr w.heap.size v ((bs.take k).map valT) ∧ Below w.heap.size w wr
set_option maxHeartbeats 2000000 in
set_option maxRecDepth 100000 in
theorem values_any (s : ByteArray) (hs : s.size ≤ 1000000000000) (w : World) : Calls Try.prog 40 #[.string s] w (LstB intE (valS (sb s)) (okS (sb s)) w) := by
  have CV := Lib.hid (fun c (hc : c < 256) V => value_any c hc V)
  obtain ⟨n, hn⟩ : ∃ n, s.size = n := ⟨_, rfl⟩
  obtain ⟨bs, hbs⟩ : ∃ bs, sb s = bs := ⟨_, rfl⟩
  have HL : Hid (bs.length = n) := Lib.hid (by rw [← hbs, sb_length]; exact hn)
  have HG : Hid (∀ k (hk : k < s.size), bs[k]? = some (s[k]'hk).toNat ∧ (s[k]'hk).toNat < 256) := Lib.hid (fun k hk => by rw [← hbs]; exact sb_get hk)
  rw [hbs]
  have hn6 : n ≤ 1000000000000 := by rw [← hn]; exact hs
  clear hbs hs
  go_enter Try.func40, Try.ntmps40
  go_wp2
  go_loopw [4, 9] (fun v i wr => VaRel bs n w v i wr) (fun _ i _ => n - (intOf i).toNat)
  case atStart => exact ⟨0, by omega, rfl, rfl, OwnR.nil _ _ _, Below.refl _ _⟩
  case round =>
    obtain ⟨k, hk, rfl, hok, hO, hB⟩ := hrel
    rcases Nat.lt_or_ge k n with hlt | hge
    · have hltz : (k : Int) < (n : Int) := by omega
      have hin : k < s.size := by omega
      obtain ⟨hg1, hg2⟩ := HG.out k hin
      obtain ⟨c, hc⟩ : ∃ c, (s[k]'hin).toNat = c := ⟨_, rfl⟩
      have hcz : (((s[k]'hin).toNat : Nat) : Int) = (c : Int) := by rw [hc]
      rw [hc] at hg1 hg2
      have CX := Lib.hid (fun V => CV.out c hg2 V)
      have hv := valT_in c
      obtain ⟨v, hvv⟩ : ∃ v, valT c = v := ⟨_, rfl⟩
      rw [hvv] at CX hv
      rcases Int.lt_or_le v 0 with hneg | hpos
      · have HOK : Hid (okS bs = false) := Lib.hid (okS_no (List.mem_of_getElem? hg1) (by rw [hvv]; exact hneg))
        clear hg1 hg2 hok hO hc hvv CV
        go_wp2_with (go_at_call 14; refine (CX.out _).mono ?_; rintro _ w2 ⟨rfl, B2⟩)
        go_ret2
        exact ⟨_, by rw [HOK.out]; first | done | rfl, by rw [show valS bs = [] by unfold valS; rw [HOK.out]; rfl]; exact OwnR.nil _ _ _, hB.trans (B2.mono hB.size)⟩
      · have hposz : ¬ v < 0 := by omega
        have HOK : Hid (okS (bs.take (k + 1)) = true) := Lib.hid (okS_take_step hok hg1 (by rw [hvv]; exact hpos))
        have HT : Hid ((bs.take (k + 1)).map valT = (bs.take k).map valT ++ [v]) := Lib.hid (by rw [List.take_add_one, hg1, List.map_append]; simp [hvv])
        have hle : ((bs.take k).map valT).length ≤ 1000000000000 := by rw [List.length_map, List.length_take]; omega
        clear hg1 hg2 hok hc hvv CV
        go_wp2_with (first
          | (go_at_call 14; refine (CX.out _).mono ?_; rintro _ w2 ⟨rfl, B2⟩; have hO2 := hO.keep B2; have hB2 := hB.trans (B2.mono hB.size))
          | (at_builtin; refine push_el intE rfl (.tmp 18) (.tmp 20) rfl ((bs.take k).map valT) v _ rfl hO2 hB2.size _ rfl _ rfl hle ?_; intro v6 W6 hO6 hB7 hR6))
        exact ⟨⟨k + 1, by omega, by go_num, HOK.out, by rw [HT.out]; exact hO6, hB2.trans hB7⟩, by simp [intOf]; omega⟩
    · have hge2 : ¬ (k : Int) < (n : Int) := by omega
      rw [List.take_of_length_le (by rw [HL.out]; omega)] at hok hO
      have HOK := Lib.hid hok
      have HV : Hid (valS bs = bs.map valT) := Lib.hid (by unfold valS; rw [hok]; rfl)
      clear hok
      go_wp2
      go_ret2
      exact ⟨_, by rw [HOK.out]; first | done | rfl, by rw [HV.out]; exact hO, hB⟩
def ReRel (l : List Int) (n : Nat) (R : Int) (w : World) (a i : Value) (wr : World) : Prop := ∃ (k : Nat) (s : Int), k ≤ n ∧ i = .int .i64 (k : Int) ∧ a = .int .i64 s ∧ restF (l.drop k) s = R ∧ 0 ≤ s ∧ s < 31 ∧ w = wr
set_option maxHeartbeats 2000000 in
set_option maxRecDepth 100000 in
theorem rest_any (l : List Int) (q : Option Addr) (n c : Nat) (hl : l.length = n) (hn : n ≤ 1000000000000) (hi : ∀ x ∈ l, 0 ≤ x ∧ x ≤ 30) (w : World) (hA : At intE w q l) : Calls Try.prog 41 #[.slice q n c] w (fun e w' => e = .returned (.int .i64 (restT l)) ∧ w = w') := by
  obtain ⟨R, hR⟩ : ∃ R, restT l = R := ⟨_, rfl⟩
  rw [hR]
  have HN := Lib.hid hl
  have HI := Lib.hid hi
  clear hl hi
  go_enter Try.func41, Try.ntmps41
  go_wp2
  go_loopw [3, 8] (fun a i wr => ReRel l n R w a i wr) (fun _ i _ => n - (intOf i).toNat)
  case atStart => exact ⟨0, 0, by omega, rfl, rfl, hR, by omega, by omega, rfl⟩
  case round =>
    obtain ⟨k, s, hk, rfl, rfl, hsR, hs0, hs1, rfl⟩ := hrel
    rcases Nat.lt_or_ge k n with hlt | hge
    · have hltz : (k : Int) < (n : Int) := by omega
      obtain ⟨x, hx⟩ : ∃ x, l[k]? = some x := ⟨_, List.getElem?_eq_getElem (by rw [HN.out]; exact hlt)⟩
      obtain ⟨b, off, rfl, hL⟩ := hA.get (i := k) (by rw [HN.out]; exact hlt)
      have c0 : w.cell? ⟨b, off + k, none⟩ = some (.int .i64 x) := by
        have := hL.2 k x 0 _ hx rfl
        rwa [show off + k * intE.k + 0 = off + k by show off + k * 1 + 0 = off + k; omega] at this
      have hxi := HI.out x (List.mem_of_getElem? hx)
      obtain ⟨t, ht⟩ : ∃ t, s * 3 + x = t := ⟨_, rfl⟩
      obtain ⟨u, hu⟩ : ∃ u, t.tmod 31 = u := ⟨_, rfl⟩
      have hu2 : u = (s * 3 + x) % 31 := by rw [← hu, ht, Int.tmod_eq_emod_of_nonneg (by omega)]
      have hub : 0 ≤ u ∧ u < 31 := by rw [hu2]; exact ⟨Int.emod_nonneg _ (by omega), Int.emod_lt_of_pos _ (by omega)⟩
      have HS : Hid (restF (l.drop (k + 1)) u = R) := Lib.hid (by
        obtain ⟨h1, e1⟩ := List.getElem?_eq_some_iff.1 hx
        rw [List.drop_eq_getElem_cons h1, e1] at hsR
        rw [hu2]; exact hsR)
      clear hx hL hsR hu2 hR
      go_wp2
      exact ⟨⟨k + 1, u, by omega, by go_num, rfl, HS.out, hub.1, hub.2, rfl⟩, by simp [intOf]; omega⟩
    · have hge2 : ¬ (k : Int) < (n : Int) := by omega
      rw [List.drop_of_length_le (by rw [HN.out]; omega)] at hsR
      have hsR : s = R := hsR
      subst hsR
      clear hR
      go_wp2
      go_ret
      exact ⟨rfl, rfl⟩
end Go.Proofs.Ytjpiidfoegaenaa
