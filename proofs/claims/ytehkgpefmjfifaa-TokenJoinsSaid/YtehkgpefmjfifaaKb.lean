/-
  The function inside token.next: it reads on as long as the bytes are of one kind.
-/
import Derived.Test.YtehkgpefmjfifaaKa
namespace Go.Proofs.Ytehkgpefmjfifaa
open Go.RowKit
set_option linter.unusedVariables false
set_option linter.unusedSimpArgs false

/-- A byte of a string. -/
theorem sb_get {s : ByteArray} {i : Nat} (h : i < s.size) : (sb s)[i]? = some (s[i]'h).toNat ∧ (s[i]'h).toNat < 256 := by
  refine ⟨?_, UInt8.toNat_lt _⟩
  have h2 : i < s.data.size := h
  unfold sb
  rw [List.getElem?_map, Array.getElem?_toList, Array.getElem?_eq_getElem h2]
  rfl
def cellNat (w : World) (b : Nat) : Nat := match w.cell? ⟨b, 0, none⟩ with
  | some (.int _ z) => z.toNat
  | _ => 0
def RunRel (s : ByteArray) (P : Nat → Bool) (ep e0 n : Nat) (w wr : World) : Prop := ∃ e : Nat, e0 ≤ e ∧ e ≤ n ∧ (∀ j c, e0 ≤ j → j < e → (sb s)[j]? = some c → P c = true) ∧ Blk wr ep 3 [.int .i64 (e : Int)] ∧ Only ep w wr
/-- What the function answers: how far it came. -/
def RunTo (s : ByteArray) (P : Nat → Bool) (ep e0 n : Nat) (w : World) (e : Ending) (w' : World) : Prop := ∃ e1 : Nat, e = .returned (.int .i64 (e1 : Int)) ∧ e0 ≤ e1 ∧ e1 ≤ n ∧ (∀ j c, e0 ≤ j → j < e1 → (sb s)[j]? = some c → P c = true) ∧ (∀ c, (sb s)[e1]? = some c → P c = false) ∧ Only ep w w'

set_option maxHeartbeats 1000000 in
set_option maxRecDepth 100000 in
theorem runL_any (s : ByteArray) (ep sp e0 n : Nat) (hn : s.size = n) (hn6 : n ≤ 1000000000) (he : e0 ≤ n) (hne : ep ≠ sp) (w : World) (hE : Blk w ep 3 [.int .i64 (e0 : Int)]) (hS : Blk w sp 9 [.string s]) :
    Calls Try.prog 54 #[.func (.func 55) #[] #[], .pointer (some ⟨ep, 0, none⟩), .pointer (some ⟨sp, 0, none⟩)] w (RunTo s isL ep e0 n w) := by
  have HS := Lib.hid (fun (V : World) (h : Only ep w V) => (h.2.1 sp _ _ (Ne.symm hne) hS : Blk V sp 9 [.string s]))
  have HN := Lib.hid hn
  clear hS hn
  go_enter Try.func54, Try.ntmps54
  go_wp2
  go_loopw [] (fun wr => RunRel s isL ep e0 n w wr) (fun wr => n - cellNat wr ep)
  case atStart => exact ⟨e0, Nat.le_refl _, he, fun j c h1 h2 => by omega, hE, Only.refl _ _⟩
  case round =>
    obtain ⟨e, h1, h2, h3, hK, hO⟩ := hrel
    have HF := Lib.hid h3
    have c1 := hK.cell (j := 0) rfl
    have c2 := (HS.out _ hO).cell (j := 0) rfl
    have hsz := HN.out
    clear h3
    rcases Nat.lt_or_ge e n with hlt | hge
    · obtain ⟨hg, hb⟩ := sb_get (s := s) (i := e) (by omega)
      have HG := Lib.hid hg
      clear hg
      rcases hP : isL (s[e]'(by omega)).toNat with _ | _
      · have HP := Lib.hid hP
        have HL := Lib.hid (fun (V : World) => (hP ▸ letter_any _ hb V))
        clear hP
        go_wp2_with (go_at_call 55; refine (HL.out _).mono ?_; rintro en w1 ⟨rfl, hw1⟩; rw [hw1]; clear hw1)
        go_ret
        refine ⟨e, rfl, h1, h2, HF.out, fun c hc => ?_, hO⟩
        rw [HG.out] at hc
        injection hc with hc
        rw [← hc]
        exact HP.out
      · have HP := Lib.hid hP
        have HL := Lib.hid (fun (V : World) => (hP ▸ letter_any _ hb V))
        clear hP
        have hcn : cellNat wr ep = e := by unfold cellNat; rw [c1]; rfl
        have fr := hK.free 0
        go_wp2_with (go_at_call 55; refine (HL.out _).mono ?_; rintro en w1 ⟨rfl, hw1⟩; rw [hw1]; clear hw1)
        have hK2 := hK.set 0 (.int .i64 ((e : Int) + 1))
        refine ⟨⟨e + 1, by omega, by omega, fun j c g1 g2 hc => ?_, hK2, hO.trans (only_set _ _ _ _)⟩, ?_⟩
        · rcases Nat.lt_or_ge j e with g | g
          · exact HF.out j c g1 g hc
          · obtain rfl : j = e := by omega
            rw [HG.out] at hc
            injection hc with hc
            rw [← hc]
            exact HP.out
        · have hcn2 : cellNat (wr.setCell ⟨ep, 0, none⟩ (.int .i64 ((e : Int) + 1))) ep = e + 1 := by
            have := hK2.cell (j := 0) (v := .int .i64 ((e : Int) + 1)) rfl
            unfold cellNat
            rw [this]
            show ((e : Int) + 1).toNat = e + 1
            omega
          rw [hcn2, hcn]
          omega
    · have hlt : ¬ e < n := by omega
      obtain rfl : e = n := by omega
      go_wp2
      go_ret
      refine ⟨e, rfl, h1, h2, HF.out, fun c hc => ?_, hO⟩
      rw [List.getElem?_eq_none (by rw [sb_length]; omega)] at hc
      cases hc

set_option maxHeartbeats 1000000 in
set_option maxRecDepth 100000 in
theorem runD_any (s : ByteArray) (ep sp e0 n : Nat) (hn : s.size = n) (hn6 : n ≤ 1000000000) (he : e0 ≤ n) (hne : ep ≠ sp) (w : World) (hE : Blk w ep 3 [.int .i64 (e0 : Int)]) (hS : Blk w sp 9 [.string s]) :
    Calls Try.prog 54 #[.func (.func 56) #[] #[], .pointer (some ⟨ep, 0, none⟩), .pointer (some ⟨sp, 0, none⟩)] w (RunTo s isD ep e0 n w) := by
  have HS := Lib.hid (fun (V : World) (h : Only ep w V) => (h.2.1 sp _ _ (Ne.symm hne) hS : Blk V sp 9 [.string s]))
  have HN := Lib.hid hn
  clear hS hn
  go_enter Try.func54, Try.ntmps54
  go_wp2
  go_loopw [] (fun wr => RunRel s isD ep e0 n w wr) (fun wr => n - cellNat wr ep)
  case atStart => exact ⟨e0, Nat.le_refl _, he, fun j c h1 h2 => by omega, hE, Only.refl _ _⟩
  case round =>
    obtain ⟨e, h1, h2, h3, hK, hO⟩ := hrel
    have HF := Lib.hid h3
    have c1 := hK.cell (j := 0) rfl
    have c2 := (HS.out _ hO).cell (j := 0) rfl
    have hsz := HN.out
    clear h3
    rcases Nat.lt_or_ge e n with hlt | hge
    · obtain ⟨hg, hb⟩ := sb_get (s := s) (i := e) (by omega)
      have HG := Lib.hid hg
      clear hg
      rcases hP : isD (s[e]'(by omega)).toNat with _ | _
      · have HP := Lib.hid hP
        have HL := Lib.hid (fun (V : World) => (hP ▸ digit_any _ hb V))
        clear hP
        go_wp2_with (go_at_call 56; refine (HL.out _).mono ?_; rintro en w1 ⟨rfl, hw1⟩; rw [hw1]; clear hw1)
        go_ret
        refine ⟨e, rfl, h1, h2, HF.out, fun c hc => ?_, hO⟩
        rw [HG.out] at hc
        injection hc with hc
        rw [← hc]
        exact HP.out
      · have HP := Lib.hid hP
        have HL := Lib.hid (fun (V : World) => (hP ▸ digit_any _ hb V))
        clear hP
        have hcn : cellNat wr ep = e := by unfold cellNat; rw [c1]; rfl
        have fr := hK.free 0
        go_wp2_with (go_at_call 56; refine (HL.out _).mono ?_; rintro en w1 ⟨rfl, hw1⟩; rw [hw1]; clear hw1)
        have hK2 := hK.set 0 (.int .i64 ((e : Int) + 1))
        refine ⟨⟨e + 1, by omega, by omega, fun j c g1 g2 hc => ?_, hK2, hO.trans (only_set _ _ _ _)⟩, ?_⟩
        · rcases Nat.lt_or_ge j e with g | g
          · exact HF.out j c g1 g hc
          · obtain rfl : j = e := by omega
            rw [HG.out] at hc
            injection hc with hc
            rw [← hc]
            exact HP.out
        · have hcn2 : cellNat (wr.setCell ⟨ep, 0, none⟩ (.int .i64 ((e : Int) + 1))) ep = e + 1 := by
            have := hK2.cell (j := 0) (v := .int .i64 ((e : Int) + 1)) rfl
            unfold cellNat
            rw [this]
            show ((e : Int) + 1).toNat = e + 1
            omega
          rw [hcn2, hcn]
          omega
    · have hlt : ¬ e < n := by omega
      obtain rfl : e = n := by omega
      go_wp2
      go_ret
      refine ⟨e, rfl, h1, h2, HF.out, fun c hc => ?_, hO⟩
      rw [List.getElem?_eq_none (by rw [sb_length]; omega)] at hc
      cases hc

end Go.Proofs.Ytehkgpefmjfifaa
