/-
  wire.list over digests, for every byte slice of at most 10^9 bytes.
-/
import Derived.Test.YtpglfjfgnmaipaaWu
namespace Go.Proofs.Ytpglfjfgnmaipaa
open Go.RowKit

/-- The call gave the number of bytes and the error of r, and gathered its list. -/
def GaveG (W : World) (r : List (List Nat) × Nat × Nat) (e : Ending) (w' : World) : Prop :=
  e = .returned (.tuple #[.int .i64 r.2.1, .int .i64 r.2.2]) ∧ ∃ v', GotD W w' v' r.1

theorem gaveG_of {W w : World} {v : Value} {xs : List (List Nat)} {u er : Nat} {r : List (List Nat) × Nat × Nat} (h : r = (xs, u, er)) (hG : GotD W w v xs) : GaveG W r (.returned (.tuple #[.int .i64 u, .int .i64 er])) w := by
  subst h
  exact ⟨rfl, v, hG⟩

/-- Decoding a digest, in whatever cells it lies. -/
theorem getDigests1_all (W : World) (ad : Addr) (u : Nat) (hu : 1 ≤ u) (l : List Nat) (n c : Nat) (v : Value) (xs : List (List Nat)) (w : World) (hn : n = l.length) (h16 : 16 ≤ l.length) (hc : n ≤ c) (hc2 : n ≤ 140737488355328) (hr : Has w (some (ad.add u)) l)
    (hG : GotD W w v xs) (hx : xs.length ≤ 1000000000) :
    Calls Try.prog 44 #[.slice (some (ad.add u)) n c, .pointer (some ⟨W.heap.size, 0, none⟩)] w (GaveD W xs (l.take 16)) := by
  have e : ad.add u = ⟨ad.block, ad.off + u, none⟩ := by unfold Addr.add; rw [if_neg (by omega)]
  rw [e] at hr ⊢
  obtain ⟨x0, x1, x2, x3, x4, x5, x6, x7, x8, x9, x10, x11, x12, x13, x14, x15, hd⟩ := ex16 (l.take 16) (by simp; omega)
  exact getDigests1_any W _ _ x0 x1 x2 x3 x4 x5 x6 x7 x8 x9 x10 x11 x12 x13 x14 x15 l n c v xs w hn h16 hc hc2 hr hd hG hx

set_option maxHeartbeats 400000 in
theorem listG_any (W : World) (A : Option Addr) (l : List Nat) (n c : Nat) (v : Value) (w : World) (hn : n = l.length) (hc : n ≤ c) (hc2 : n ≤ 140737488355328) (hl : l.length ≤ 1000000000) (hr : Has W A l)
    (hG : GotD W w v []) :
    Calls Try.prog 41 #[.slice A n c, .int .i64 16, .func (.func 44) #[] #[.pointer (some ⟨W.heap.size, 0, none⟩)]] w (GaveG W (listD decG l 16)) := by
  have C := length_any A l n c 16 w hn hc hc2 (hr.keep hG.2.2) (by omega) (by omega)
  have hI := lenD_ok l 16
  subst hn
  unfold listD
  generalize lenD l 16 = r at C hI ⊢
  obtain ⟨x, u, er⟩ := r
  simp only [three] at C hI ⊢
  have H := Lib.hid C
  clear C
  obtain ⟨h1, h2, h3, h4, h5⟩ := hI
  by_cases h7 : er = 0
  · have he : ((er : Int) != 0) = false := by simp [h7]
    obtain ⟨k, rfl⟩ := Int.eq_ofNat_of_zero_le h3
    obtain ⟨h8, h9⟩ := h4 h7
    rw [if_neg (by simp [h7])]
    simp only [Int.toNat_natCast] at h9 ⊢
    have hlen : 0 < l.length := by omega
    obtain ⟨_, ad, rfl, _, _⟩ := hr.at 0 l[0] (List.getElem?_eq_getElem hlen)
    have HG := Lib.hid hG
    clear hG h4 h5
    go_enter Try.func41, Try.ntmps41
    go_wp2_with fail
    refine H.out.mono ?_
    rintro e w1 ⟨rfl, rfl⟩
    go_wp2
    go_loopw [9, 24] (fun s9 s24 wr => ∃ (i used : Nat) (vv : Value) (xs : List (List Nat)), i ≤ k ∧ s24 = .int .i64 i ∧ s9 = .int .i64 used ∧ 1 ≤ used ∧ used + (k - i) * 16 ≤ l.length ∧ xs.length ≤ i ∧ GotD W wr vv xs ∧ Hid (loopD decG l (k - i) used xs = loopD decG l k u [])) (fun _ s24 _ => k - (intOf s24).toNat)
    case atStart => exact ⟨0, u, v, [], by omega, rfl, rfl, h8, by simpa using h9, by simp, HG.out, Lib.hid rfl⟩
    case round =>
      obtain ⟨i, used, vv, xs, hi, rfl, rfl, hu1, hu, hxs, hG2, HL⟩ := hrel
      by_cases hik : i < k
      · have hHas : Has wr (some ad) l := hr.keep hG2.2.2
        have H2 := Lib.hid (getDigests1_all W ad used hu1 (l.drop used) (l.length - used) (c - used) vv xs wr (by simp) (by simp; omega) (by omega) (by omega) (hHas.drop used) hG2 (by omega))
        have HO := Lib.hid (loopD_ok (f := decG) (b := l) (n := k - i) (used := used) (xs := xs) (by omega) (rfl : decG (l.drop used) = ((l.drop used).take 16, 16, 0)) rfl)
        have hcu : ¬ c = used := by omega
        generalize (l.drop used).take 16 = d at H2 HO
        go_wp2_with fail
        refine H2.out.mono ?_
        rintro e w3 ⟨rfl, v3, hG3⟩
        have HN := Lib.hid (HO.out.symm.trans HL.out)
        clear HL HO H2 hG2
        go_wp2
        go_roundw
        case rel => exact ⟨i + 1, used + 16, v3, xs ++ [d], by omega, by go_num, by go_num, by omega, by omega, by simp; omega, hG3, HN⟩
        case measure => simp [intOf]; omega
      · obtain rfl : k = i := by omega
        go_wp2
        go_ret2
        have e := HL.out
        rw [Nat.sub_self, loopD_zero] at e
        exact gaveG_of e.symm hG2
  · have he : ((er : Int) != 0) = true := by simp [h7]
    rw [if_pos h7]
    have HG := Lib.hid hG
    clear hG
    go_enter Try.func41, Try.ntmps41
    go_wp2_with fail
    refine H.out.mono ?_
    rintro e w1 ⟨rfl, rfl⟩
    go_wp2
    go_ret2
    exact ⟨by simp, v, HG.out⟩

end Go.Proofs.Ytpglfjfgnmaipaa
