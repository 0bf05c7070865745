/-
  passimref01.GetInt returns, for every byte slice, what the encoding says, and changes nothing that was there.
-/
import Derived.Test.YtpglfjfgnmaipaaWri
import Derived.Test.YtpglfjfgnmaipaaWrm
import Derived.Deep.RegionWith
import Derived.Deep.RegionHeld3
namespace Go.Proofs.Ytpglfjfgnmaipaa
open Go.RowKit

/-- The call returned r, and what was there is as it was. -/
def Gave3 (w : World) (r : Int × Nat × Nat) (e : Ending) (w' : World) : Prop := e = .returned (three r) ∧ Below w.heap.size w w'
theorem gave3_of {w w' : World} {r r' : Int × Nat × Nat} {v : Value} (h : r = r') (hv : v = three r') (hb : Below w.heap.size w w') : Gave3 w r (.returned v) w' := by
  subst h; subst hv; exact ⟨rfl, hb⟩

def MadeH (w : World) (l : List Nat) (e : Ending) (w' : World) : Prop :=
  ∃ g cap, e = .returned (.slice (some ⟨g, 0, none⟩) l.length cap) ∧ Has w' (some ⟨g, 0, none⟩) l ∧ Below w.heap.size w w'
theorem rint_made (n : Int) (h1 : -9223372036854775808 ≤ n) (h2 : n ≤ 9223372036854775807) (w : World) : Calls Try.prog 15 #[.int .i64 n] w (MadeH w (enc n)) :=
  (rint_any n h1 h2 w).mono fun _ _ ⟨g, cap, he, hO⟩ => ⟨g, cap, he, hO.has (enc_lt n h1 h2), hO.below⟩

set_option maxHeartbeats 400000 in
set_option maxRecDepth 100000 in
theorem rgetInt_nil (A : Option Addr) (c : Nat) (w : World) :
    Calls Try.prog 25 #[.slice A 0 c] w (Gave3 w (dec [])) := by
  go_enter Try.func25, Try.ntmps25
  go_wp2
  go_ret3
  exact ⟨rfl, Below.refl _ _⟩

set_option maxHeartbeats 400000 in
set_option maxRecDepth 100000 in
theorem rgetInt_pos (ad : Addr) (x : Nat) (t : List Nat) (n c : Nat) (w : World) (hn : n = t.length + 1) (hc : n ≤ c) (hc2 : n ≤ 140737488355328)
    (h0 : w.cell? ad = some (.int .u8 x)) (hr : Has w (some ad) (x :: t)) (hp : 128 ≤ x) (hh : x < 256) :
    Calls Try.prog 25 #[.slice (some ad) n c] w (Gave3 w (dec (x :: t))) := by
  subst hn
  by_cases hk : 136 < x
  · go_enter Try.func25, Try.ntmps25
    go_wp2
    go_ret3
    exact gave3_of (dec_form x t (.inr hk)) rfl (Below.refl _ _)
  · by_cases hk2 : t.length < x - 128
    · go_enter Try.func25, Try.ntmps25
      go_wp2
      go_ret3
      exact gave3_of (dec_pos_more x t hp (by omega) hk2) rfl (Below.refl _ _)
    · go_enter Try.func25, Try.ntmps25
      go_wp2
      go_loop [7, 8] (fun m i => ∃ j v : Nat, j ≤ x - 128 ∧ i = .int .i64 ((j : Int) + 1) ∧ m = .int .i64 v ∧ v < 9223372036854775808 ∧ Hid (v = val (t.take j))) (fun _ i => x - 128 + 1 - (intOf i).toNat)
      case atStart => exact ⟨0, 0, by omega, rfl, rfl, by omega, Lib.hid rfl⟩
      case round =>
        obtain ⟨j, v, hj, rfl, rfl, hv, HV⟩ := hrel
        by_cases hjk : j < x - 128
        · have hjt : j < t.length := by omega
          obtain ⟨hy, ad', e, hbb, hcell⟩ := hr.at (j + 1) t[j] (by rw [List.getElem?_cons_succ, List.getElem?_eq_getElem hjt])
          obtain rfl : ad = ad' := by simpa using e
          have hs := val_step t j hjt
          rw [← HV.out] at hs
          have HS := Lib.hid hs
          have HB := Lib.hid (fun h => val_big t j (x - 128) hjk (by omega) h)
          rw [← HV.out] at HB
          generalize t[j] = y at hy hcell HS
          have hc0 : w.cell? ⟨ad.block, ad.off + (j + 1), none⟩ = some (.int .u8 y) := by simpa [Addr.add, byteV] using hcell
          clear hs e hcell
          by_cases hbig : 36028797018963967 < v
          · have hd1 : decide ((36028797018963967 : Int) < (v : Int)) = true := by simp; omega
            go_wp2
            go_ret3
            exact gave3_of (dec_pos_big x t hp (by omega) (by omega) (HB.out hbig)) rfl (Below.refl _ _)
          · have hd1 : decide ((36028797018963967 : Int) < (v : Int)) = false := by simp; omega
            go_wp2
            exact ⟨⟨j + 1, 256 * v + y, by omega, by simp, by simp, by omega, HS.symm⟩, by simp [intOf]; omega⟩
        · obtain rfl : x - 128 = j := by omega
          have HD := Lib.hid (dec_pos_is x t hp (by omega) (by omega) (by rw [← HV.out]; exact hv) hr.2)
          rw [← HV.out] at HD
          obtain ⟨b, hb⟩ : ∃ b, decide (enc (v : Int) = (x :: t).take (x - 128 + 1)) = b := ⟨_, rfl⟩
          have HBB := Lib.hid hb
          have HS2 : Hid (∀ (w' : World) (g cap n2 : Nat), n2 = x - 128 + 1 → Has w' (some ⟨g, 0, none⟩) (enc (v : Int)) → Below w.heap.size w w' → Calls Try.prog 13 #[.slice (some ⟨g, 0, none⟩) (enc (v : Int)).length cap, .slice (some ad) n2 c] w' (Told w' b)) :=
            fun w' g cap n2 hn hH hB => hb ▸ same_any _ _ _ _ _ _ _ _ _ rfl (by rw [List.length_take, List.length_cons]; omega) (by have := enc_length (v : Int) (by omega) (by omega); omega) (by rw [List.length_take, List.length_cons]; omega) hH ((hr.keep hB).take _)
          have e1 : (x : Int) - 128 = ((x - 128 : Nat) : Int) := by omega
          have hkc : x - 128 + 1 ≤ c := by omega
          have hk8 : x - 128 ≤ 8 := by omega
          go_wp2_with fail
          clear HV e1 hj hjk
          clear hb
          generalize x - 128 = k at HD HBB HS2 hkc hk8 ⊢
          have hcz : ¬ c = 0 := by omega
          have b1 : (k : Int) + 1 ≤ (c : Int) := by omega
          have bw : IntKind.i64.wrap ((k : Int) + 1) = (k : Int) + 1 := by simp [IntKind.wrap, IntKind.signed, IntKind.bits]; omega
          have bx : wrap64 ((k : Int) + 1) = (k : Int) + 1 := by unfold wrap64; omega
          have b5 : (k : Int) < (c : Int) := by omega
          have b6 : k < c := by omega
          have b2 : (0 : Int) ≤ (k : Int) + 1 := by omega
          have b3 : decide ((k : Int) + 1 ≤ (c : Int)) = true := by simp; omega
          have b4 : decide ((0 : Int) ≤ (k : Int) + 1) = true := by simp; omega
          go_region_held3 (fun _ => True) (trivial) (first | (go_at_call 15; refine (rint_made (v : Int) (by omega) (by omega) _).mono ?_; rintro e w1 ⟨g1, cap1, rfl, hH1, hB1⟩) | (go_at_call 13; refine (HS2.out _ g1 cap1 _ (by first | omega | (simp; omega)) hH1 (by exact (Below.refl _ _).drew.trans hB1)).mono ?_; rintro e w2 ⟨rfl, hB2⟩))
          all_goals
            have hB2' : Below w.heap.size w w2 := chain ((Below.refl w.heap.size w).drew.trans hB1) hB2
            clear HS2 hB1 hB2 hH1
            cases b
            · have HD2 := Lib.hid (HD.out.trans (if_neg (of_decide_eq_false HBB.out)))
              clear HD HBB
              go_wp2
              go_ret3
              exact gave3_of HD2.out rfl hB2'
            · have HD2 := Lib.hid (HD.out.trans (if_pos (of_decide_eq_true HBB.out)))
              clear HD HBB
              go_wp2
              go_ret3
              exact gave3_of HD2.out rfl hB2'

set_option maxHeartbeats 400000 in
set_option maxRecDepth 100000 in
theorem rgetInt_neg (ad : Addr) (x : Nat) (t : List Nat) (n c : Nat) (w : World) (hn : n = t.length + 1) (hc : n ≤ c) (hc2 : n ≤ 140737488355328)
    (h0 : w.cell? ad = some (.int .u8 x)) (hr : Has w (some ad) (x :: t)) (hp : ¬ 128 ≤ x) :
    Calls Try.prog 25 #[.slice (some ad) n c] w (Gave3 w (dec (x :: t))) := by
  subst hn
  by_cases hk : x < 119
  · go_enter Try.func25, Try.ntmps25
    go_wp2
    go_ret3
    exact gave3_of (dec_form x t (.inl hk)) rfl (Below.refl _ _)
  · by_cases hk2 : t.length < 127 - x
    · go_enter Try.func25, Try.ntmps25
      go_wp2
      go_ret3
      exact gave3_of (dec_neg_more x t hp (by omega) hk2) rfl (Below.refl _ _)
    · go_enter Try.func25, Try.ntmps25
      go_wp2
      go_loop [7, 8] (fun m i => ∃ j v : Nat, j ≤ 127 - x ∧ i = .int .i64 ((j : Int) + 1) ∧ m = .int .i64 v ∧ v < 9223372036854775808 ∧ Hid (v = nv t j)) (fun _ i => 127 - x + 1 - (intOf i).toNat)
      case atStart => exact ⟨0, 0, by omega, rfl, rfl, by omega, Lib.hid rfl⟩
      case round =>
        obtain ⟨j, v, hj, rfl, rfl, hv, HV⟩ := hrel
        by_cases hjk : j < 127 - x
        · have hjt : j < t.length := by omega
          obtain ⟨hy, ad', e, hbb, hcell⟩ := hr.at (j + 1) t[j] (by rw [List.getElem?_cons_succ, List.getElem?_eq_getElem hjt])
          obtain rfl : ad = ad' := by simpa using e
          have hs : nv t (j + 1) = 256 * nv t j + (255 - t[j]) := by rw [nv_take, nv_take, val_step _ j (by simpa using hjt)]; simp
          rw [← HV.out] at hs
          have HS := Lib.hid hs
          have HB := Lib.hid (fun h => val_big (t.map (255 - ·)) j (127 - x) hjk (by simp; omega) h)
          rw [← nv_take, ← nv_take] at HB
          rw [← HV.out] at HB
          generalize t[j] = y at hy hcell HS
          have hc0 : w.cell? ⟨ad.block, ad.off + (j + 1), none⟩ = some (.int .u8 y) := by simpa [Addr.add, byteV] using hcell
          clear hs e hcell
          by_cases hbig : 36028797018963967 < v
          · have hd1 : decide ((36028797018963967 : Int) < (v : Int)) = true := by simp; omega
            go_wp2
            go_ret3
            exact gave3_of (dec_neg_big x t hp (by omega) (by omega) (HB.out hbig)) rfl (Below.refl _ _)
          · have hd1 : decide ((36028797018963967 : Int) < (v : Int)) = false := by simp; omega
            go_wp2
            exact ⟨⟨j + 1, 256 * v + (255 - y), by omega, by simp, by simp; omega, by omega, HS.symm⟩, by simp [intOf]; omega⟩
        · obtain rfl : 127 - x = j := by omega
          have HD := Lib.hid (dec_neg_is x t hp (by omega) (by omega) (by rw [← HV.out]; exact hv) hr.2)
          rw [← HV.out] at HD
          obtain ⟨b, hb⟩ : ∃ b, decide (enc (-1 - (v : Int)) = (x :: t).take (127 - x + 1)) = b := ⟨_, rfl⟩
          have HBB := Lib.hid hb
          have HS2 : Hid (∀ (w' : World) (g cap n2 : Nat), n2 = 127 - x + 1 → Has w' (some ⟨g, 0, none⟩) (enc (-1 - (v : Int))) → Below w.heap.size w w' → Calls Try.prog 13 #[.slice (some ⟨g, 0, none⟩) (enc (-1 - (v : Int))).length cap, .slice (some ad) n2 c] w' (Told w' b)) :=
            fun w' g cap n2 hn hH hB => hb ▸ same_any _ _ _ _ _ _ _ _ _ rfl (by rw [List.length_take, List.length_cons]; omega) (by have := enc_length (-1 - (v : Int)) (by omega) (by omega); omega) (by rw [List.length_take, List.length_cons]; omega) hH ((hr.keep hB).take _)
          have e1 : 127 - (x : Int) = ((127 - x : Nat) : Int) := by omega
          have hkc : 127 - x + 1 ≤ c := by omega
          have hk8 : 127 - x ≤ 8 := by omega
          go_wp2_with fail
          clear HV e1 hj hjk
          clear hb
          generalize 127 - x = k at HD HBB HS2 hkc hk8 ⊢
          have hcz : ¬ c = 0 := by omega
          have b1 : (k : Int) + 1 ≤ (c : Int) := by omega
          have bw : IntKind.i64.wrap ((k : Int) + 1) = (k : Int) + 1 := by simp [IntKind.wrap, IntKind.signed, IntKind.bits]; omega
          have bx : wrap64 ((k : Int) + 1) = (k : Int) + 1 := by unfold wrap64; omega
          have b5 : (k : Int) < (c : Int) := by omega
          have b6 : k < c := by omega
          have b2 : (0 : Int) ≤ (k : Int) + 1 := by omega
          have b3 : decide ((k : Int) + 1 ≤ (c : Int)) = true := by simp; omega
          have b4 : decide ((0 : Int) ≤ (k : Int) + 1) = true := by simp; omega
          go_region_held3 (fun _ => True) (trivial) (first | (go_at_call 15; refine (rint_made (-1 - (v : Int)) (by omega) (by omega) _).mono ?_; rintro e w1 ⟨g1, cap1, rfl, hH1, hB1⟩) | (go_at_call 13; refine (HS2.out _ g1 cap1 _ (by first | omega | (simp; omega)) hH1 (by exact (Below.refl _ _).drew.trans hB1)).mono ?_; rintro e w2 ⟨rfl, hB2⟩))
          all_goals
            have hB2' : Below w.heap.size w w2 := chain ((Below.refl w.heap.size w).drew.trans hB1) hB2
            clear HS2 hB1 hB2 hH1
            cases b
            · have HD2 := Lib.hid (HD.out.trans (if_neg (of_decide_eq_false HBB.out)))
              clear HD HBB
              go_wp2
              go_ret3
              exact gave3_of HD2.out rfl hB2'
            · have HD2 := Lib.hid (HD.out.trans (if_pos (of_decide_eq_true HBB.out)))
              clear HD HBB
              go_wp2
              go_ret3
              exact gave3_of HD2.out rfl hB2'

theorem rgetInt_any (A : Option Addr) (l : List Nat) (n c : Nat) (w : World) (hn : n = l.length) (hc : n ≤ c) (hc2 : n ≤ 140737488355328) (hr : Has w A l) :
    Calls Try.prog 25 #[.slice A n c] w (Gave3 w (dec l)) := by
  match l, hn, hr with
  | [], hn, _ =>
    subst hn
    exact rgetInt_nil A c w
  | x :: t, hn, hr =>
    obtain ⟨hx, ad, rfl, hb, h0⟩ := hr.at 0 x rfl
    have h0' : w.cell? ad = some (.int .u8 x) := h0
    by_cases hp : 128 ≤ x
    · exact rgetInt_pos ad x t n c w (by simpa using hn) hc hc2 h0' hr hp hx
    · exact rgetInt_neg ad x t n c w (by simpa using hn) hc hc2 h0' hr hp

end Go.Proofs.Ytpglfjfgnmaipaa
