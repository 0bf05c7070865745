/-
  passimref01.SameDigests over any two lists of digests, empty ones included; what two lists that were decoded hold.
-/
import Derived.Test.YtpglfjfgnmaipaaWw
import Derived.Test.YtpglfjfgnmaipaaWCanonical
namespace Go.Proofs.Ytpglfjfgnmaipaa
open Go.RowKit

theorem cell_spot {w : World} {p : Addr} {u : Value} (h : w.cell? p = some u) : p = ⟨p.block, p.off, none⟩ := by
  obtain ⟨b, o, s⟩ := p
  cases s with
  | none => rfl
  | some x =>
    unfold World.cell? at h
    split at h <;> simp at h
theorem drow_of {w : World} {A : Option Addr} {l : List (List Nat)} (h : DCells w A l) (h0 : 0 < l.length) : ∃ b o, A = some ⟨b, o, none⟩ ∧ DRow w b o l := by
  obtain ⟨hd, ad, rfl, hlt, hc⟩ := h 0 l[0] (List.getElem?_eq_getElem h0)
  have hlen : 0 < (bytesV l[0]).length := by rw [bytesV_length, hd.1]; omega
  have h00 := hc 0 _ (List.getElem?_eq_getElem hlen)
  have e0 : ad.add (0 * 16 + 0) = ad := by simp [Addr.add]
  rw [e0] at h00
  have hs := cell_spot h00
  refine ⟨ad.block, ad.off, by rw [← hs], fun k d hk => ?_⟩
  obtain ⟨hd', ad', e, hlt', hc'⟩ := h k d hk
  obtain rfl : ad = ad' := by simpa using e
  refine ⟨hd', hlt', fun j u hu => ?_⟩
  have := hc' j u hu
  rw [hs, Addr.add_mid] at this
  rw [Nat.add_assoc]
  exact this
theorem sameDigests_empty (A B : Option Addr) (c d : Nat) (w : World) : Calls Try.prog 36 #[.slice A 0 c, .slice B 0 d] w (Told w true) := by
  go_enter Try.func36, Try.ntmps36
  go_wp2
  go_loopw [5] (fun i wr => i = .int .i64 0 ∧ Below w.heap.size w wr) (fun _ _ => 0)
  case atStart => exact ⟨rfl, Below.refl _ _⟩
  case round =>
    obtain ⟨rfl, hB⟩ := hrel
    go_wp2
    go_ret
    exact ⟨rfl, hB⟩
theorem sameDigests_self (A B : Option Addr) (l : List (List Nat)) (n1 n2 c d : Nat) (w : World) (h1 : n1 = l.length) (h2 : n2 = l.length) (hl : l.length ≤ 1000000000) (ha : DCells w A l) (hb : DCells w B l) :
    Calls Try.prog 36 #[.slice A n1 c, .slice B n2 d] w (Told w true) := by
  rcases Nat.eq_zero_or_pos l.length with h0 | h0
  · rw [h1, h2, h0]
    exact sameDigests_empty A B c d w
  · obtain ⟨b1, o1, rfl, ha'⟩ := drow_of ha h0
    obtain ⟨b2, o2, rfl, hb'⟩ := drow_of hb h0
    exact told_true (sameDigests_any b1 o1 b2 o2 l l n1 n2 c d w h1 h2 hl hl ha' hb') (by simp)

end Go.Proofs.Ytpglfjfgnmaipaa
