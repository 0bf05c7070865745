/-
  passimlaw06.texts: some texts of bounded lengths.
-/
import Derived.Test.YtehkgpefmjfifaaLv
import Derived.Test.YtehkgpefmjfifaaGs
namespace Go.Proofs.Ytehkgpefmjfifaa
open Go.RowKit
set_option linter.unusedVariables false
set_option linter.unusedSimpArgs false

/-- A literal slice, just made, is one's own. -/
theorem own_new {α : Type} (E : Elt α) (w : World) (cs : Array Value) (l : List α) (n : Nat) (hn : l.length = n) (hm : n ≤ 1000000) (h : E.row l = cs.toList) : OwnR E (w.alloc (.cells cs E.T)) w.heap.size (.slice (some ⟨w.heap.size, 0, none⟩) n n) l := by
  subst hn
  refine ⟨E.row_length l, Or.inr ⟨w.heap.size, l.length, cs, rfl, Nat.le_refl _, heap_alloc_new _ _, Nat.le_refl _, by unfold maxLen; omega, ?_, ?_⟩⟩
  · rw [← Array.length_toList, ← h, E.row_length]
  · rw [← h, ← E.row_length l, List.take_length]
/-- Some texts. -/
def TextsR (w : World) (e : Ending) (w' : World) : Prop := ∃ (L : List ByteArray) (n : Nat) (q : Option Addr) (c : Nat), L.length = n ∧ 5 ≤ n ∧ n ≤ 6 ∧ (∀ s ∈ L, s.size ≤ 100000) ∧ e = .returned (.slice q n c) ∧ n ≤ c ∧ At strE w' q L ∧ Below w.heap.size w w'

set_option maxHeartbeats 4000000 in
set_option maxRecDepth 100000 in
theorem texts_any (A : Option Addr) (l : List Int) (n c : Nat) (hl : l.length = n) (how by_ : Int) (h1 : -9223372036854775808 ≤ how) (h2 : how ≤ 9223372036854775807) (h3 : -9223372036854775808 ≤ by_) (h4 : by_ ≤ 9223372036854775807) (raw : ByteArray) (m : Nat) (hm : raw.size = m) (most : Nat) (hmo : most ≤ 6000) (w : World) (hA : IntsAt w A l) :
    Calls Try.prog 11 #[.slice A n c, .int .i64 how, .int .i64 by_, .string raw, .int .i64 (most : Int)] w (TextsR w) := by
  have HM := Lib.hid (marked_any A l n c hl 0 (by omega) w hA)
  have HS1 := Lib.hid (fun (s : ByteArray) (hs : s.size ≤ 120) (V : World) => spoilt_any s _ rfl (by omega) how by_ h1 h2 h3 h4 V)
  have HS2 := Lib.hid (fun (s : ByteArray) (hs : s.size ≤ 4320) (V : World) => spoilt_any s _ rfl (by omega) by_ how h3 h4 h1 h2 V)
  have HT := Lib.hid (fun (V : World) (h : IntsAt V A l) => text_any A l n c hl 3 (by omega) V h)
  have HWi := Lib.hid (fun (V : World) (h : IntsAt V A l) => wild_any A l n c hl V h)
  have HRaw := Lib.hid hm
  clear hl h1 h2 h3 h4
  go_enter Try.func11, Try.ntmps11
  go_upto_region 2 with (go_at_call 37; refine HM.out.mono ?_; rintro en W1 ⟨a, ha, rfl, hB1⟩; replace hA := hA.keep hB1)
  go_upto_region 3 with (go_at_call 40; refine (HS1.out a ha W1).mono ?_; rintro en W2 ⟨b, hb, rfl, hB2⟩; replace hA := hA.keep hB2; replace hB1 := link hB1 hB2)
  clear HM HS1
  have hb2 : b.size ≤ 4320 := by omega
  go_upto_region 4 with (first
    | (go_at_call 41; refine (HT.out W2 hA).mono ?_; rintro en W3 ⟨t, ht, rfl, hB2⟩; replace hA := hA.keep hB2; replace hB1 := link hB1 hB2)
    | (go_at_call 40; refine (HS2.out b hb2 W3).mono ?_; rintro en W4 ⟨d, hd, rfl, hB2⟩; replace hA := hA.keep hB2; replace hB1 := link hB1 hB2)
    | (go_at_call 42; refine (HWi.out W4 hA).mono ?_; rintro en W5 ⟨x, hx, rfl, hB2⟩; replace hB1 := link hB1 hB2))
  have hO := own_new strE W5 #[.string t, .string a, .string b, .string d, .string x] [t, a, b, d, x] 5 rfl (by omega) rfl
  have hB5 : Below w.heap.size w (W5.alloc (.cells #[.string t, .string a, .string b, .string d, .string x] 9)) := link hB1 ((Below.refl _ _).alloc (Nat.le_refl _) _)
  have hs : ∀ s ∈ [t, a, b, d, x], s.size ≤ 100000 := by
    intro s h
    simp only [List.mem_cons, List.not_mem_nil, or_false] at h
    rcases h with rfl | rfl | rfl | rfl | rfl <;> omega
  have hW5 : w.heap.size ≤ W5.heap.size := hB1.size
  have hW6 : W5.heap.size ≤ (W5.alloc (.cells #[.string t, .string a, .string b, .string d, .string x] 9)).heap.size := Nat.le_of_lt (blk_new W5 _ _).lt
  change OwnR strE (W5.alloc (.cells #[.string t, .string a, .string b, .string d, .string x] 9)) _ _ _ at hO
  have hAn := at_new strE W5 #[.string t, .string a, .string b, .string d, .string x] [t, a, b, d, x] rfl
  change At strE (W5.alloc (.cells #[.string t, .string a, .string b, .string d, .string x] 9)) _ _ at hAn
  generalize W5.alloc (.cells #[.string t, .string a, .string b, .string d, .string x] 9) = W6 at hO hB5 hW6 hAn ⊢
  by_cases hle : m ≤ most
  · go_wp2_with (at_builtin; refine push_el strE rfl (.tmp 35) (.tmp 37) rfl [t, a, b, d, x] raw _ rfl hO hW6 _ rfl _ rfl (show 5 ≤ 1000000000000 by omega) ?_; intro v4 w4 hO4 hB4 hR4)
    go_ret
    obtain ⟨q4, c4, hv4, hc4, hA4, _, _⟩ := hO4.form
    refine ⟨_, 6, q4, c4, rfl, by omega, by omega, ?_, by rw [hv4]; rfl, hc4, hA4, hB5.trans (hB4.mono hW5)⟩
    intro s h
    rcases List.mem_append.1 h with h | h
    · exact hs s h
    · rw [List.mem_singleton.1 h]
      have := HRaw.out
      omega
  · go_wp2
    go_ret
    exact ⟨_, 5, _, 5, rfl, by omega, by omega, hs, rfl, by omega, hAn, hB5⟩
end Go.Proofs.Ytehkgpefmjfifaa
