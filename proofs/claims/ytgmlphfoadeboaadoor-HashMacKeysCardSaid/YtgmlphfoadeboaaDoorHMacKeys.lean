/-
  passimlaw02.HashMacKeys returns true.
-/
import Derived.Test.YtgmlphfoadeboaaDoorHEqual
namespace Go.Proofs.YtgmlphfoadeboaaDoor
open Go.RowKit
set_option linter.unusedVariables false
set_option linter.unusedSimpArgs false

theorem keyOf64_short {k : List Nat} (h : k.length ≤ 64) : keyOf64 k = k := if_neg (by omega)
theorem hmac_long (k t : List Nat) (h : 64 < k.length) : hmac (sha k) t = hmac k t := by
  have e : keyOf64 k = sha k := if_pos h
  unfold hmac
  rw [e, keyOf64_short (by rw [sha_length]; omega)]
theorem padK_zero (k : List Nat) (h : k.length < 64) : padK (k ++ [0]) = padK k := by
  unfold padK
  rw [List.length_append, List.length_singleton, List.append_assoc, show 64 - k.length = 64 - (k.length + 1) + 1 by omega, List.replicate_succ]
  rfl
theorem hmac_zero (k t : List Nat) (h : k.length < 64) : hmac (k ++ [0]) t = hmac k t := by
  unfold hmac
  rw [keyOf64_short (by rw [List.length_append, List.length_singleton]; omega), keyOf64_short (by omega : k.length ≤ 64), padK_zero k h]
theorem lt_block {W : World} {b : Nat} {v : Value} (h : W.cell? ((⟨b, 0, none⟩ : Addr).add 0) = some v) : b < W.heap.size := lt_of_cell (by rw [Addr.add_mid] at h; exact h)
theorem sb_zero (a : ByteArray) : sb (a ++ (⟨#[0]⟩ : ByteArray)) = sb a ++ [0] := by
  simp [sb]

set_option maxHeartbeats 2000000 in
set_option maxRecDepth 100000 in
theorem macKeys_any (key text : ByteArray) (w : World) (hG : Glob w) : Calls Tryd.prog 6 #[.string key, .string text] w (Told w true) := by
  by_cases hk : key.size ≤ 400
  · by_cases ht : text.size ≤ 400
    · rcases Nat.lt_trichotomy key.size 64 with h3 | h3 | h3
      · go_enter Tryd.func6, Tryd.ntmps6
        go_wp2_with fail
        refine (sanity_any w hG).mono ?_
        rintro e w1 ⟨rfl, hB1⟩
        go_wp2_with fail
        refine (mac_any _ _ (by omega) (by omega) _ (hG.keep hB1)).mono ?_
        rintro e w2 ⟨rfl, hB2⟩
        have hG2 := hG.keep (link hB1 hB2)
        generalize hM : strOf (hmac (sb key) (sb text)) = M
        go_wp2_with fail
        refine (mac_any _ _ (by rw [← sb_length, sb_zero, List.length_append, sb_length, List.length_singleton]; omega) (by omega) _ hG2).mono ?_
        rintro e w3 ⟨rfl, hB3⟩
        rw [sb_zero, hmac_zero _ _ (by rw [sb_length]; exact h3), hM]
        go_wp2
        go_ret
        exact ⟨rfl, link hB1 (link hB2 hB3)⟩
      · go_enter Tryd.func6, Tryd.ntmps6
        go_wp2_with fail
        refine (sanity_any w hG).mono ?_
        rintro e w1 ⟨rfl, hB1⟩
        go_wp2_with fail
        refine (mac_any _ _ (by omega) (by omega) _ (hG.keep hB1)).mono ?_
        rintro e w2 ⟨rfl, hB2⟩
        have hMs : (strOf (hmac (sb key) (sb text))).size = 32 := by rw [strOf_size]; unfold hmac; exact sha_length _
        generalize strOf (hmac (sb key) (sb text)) = M at hMs ⊢
        go_wp2
        go_ret
        exact ⟨rfl, link hB1 hB2⟩
      · go_enter Tryd.func6, Tryd.ntmps6
        go_wp2_with fail
        refine (sanity_any w hG).mono ?_
        rintro e w1 ⟨rfl, hB1⟩
        go_wp2_with fail
        refine (mac_any _ _ (by omega) (by omega) _ (hG.keep hB1)).mono ?_
        rintro e w2 ⟨rfl, hB2⟩
        have hG2 := hG.keep (link hB1 hB2)
        generalize hM : strOf (hmac (sb key) (sb text)) = M
        obtain ⟨cap, wb, hcv, hBb, hcl⟩ := to_bytes key w2
        go_wp2_with fail
        refine (sum_any (some ⟨w2.heap.size, 0, none⟩) (sb key) key.size cap wb (sb_length key).symm (by rw [sb_length]; omega) ⟨fun j u hj => ⟨_, rfl, lt_block (hcl 0 (byteV ((sb key)[0]'(by rw [sb_length]; omega))) (by unfold bytesV; rw [List.getElem?_map, List.getElem?_eq_getElem (by rw [sb_length]; omega)]; rfl)), hcl j u hj⟩, sb_lt key⟩ (hG2.keep hBb)).mono ?_
        rintro e w3 ⟨rfl, hB3⟩
        have hG3 := (hG2.keep hBb).keep hB3
        go_wp2_with fail
        refine (bytes32_any _ (sha_length _) (sha_byte _) _).mono ?_
        rintro e w4 ⟨rfl, hB4⟩
        have hG4 := hG3.keep hB4
        have hs32 : (strOf (sha (sb key))).size ≤ 1048576 := by rw [strOf_size, sha_length]; omega
        have hsb : sb (strOf (sha (sb key))) = sha (sb key) := sb_strOf _ (sha_byte _)
        generalize hK : strOf (sha (sb key)) = K at hs32 hsb ⊢
        go_wp2_with fail
        refine (mac_any _ _ hs32 (by omega) _ hG4).mono ?_
        rintro e w5 ⟨rfl, hB5⟩
        rw [hsb, hmac_long _ _ (by rw [sb_length]; exact h3), hM]
        go_wp2
        go_ret
        exact ⟨rfl, link hB1 (link hB2 (link hBb (link hB3 (link hB4 hB5))))⟩
    · have h1 : decide ((400 : Int) < (text.size : Int)) = true := by simp; omega
      have h2 : decide ((400 : Int) < (key.size : Int)) = false := by simp only [decide_eq_false_iff_not]; omega
      go_enter Tryd.func6, Tryd.ntmps6
      go_wp2_with fail
      refine (sanity_any w hG).mono ?_
      rintro e w1 ⟨rfl, hB1⟩
      go_wp2
      go_ret
      exact ⟨rfl, hB1⟩
  · have h1 : decide ((400 : Int) < (key.size : Int)) = true := by simp; omega
    go_enter Tryd.func6, Tryd.ntmps6
    go_wp2_with fail
    refine (sanity_any w hG).mono ?_
    rintro e w1 ⟨rfl, hB1⟩
    go_wp2
    all_goals go_ret
    all_goals exact ⟨rfl, hB1⟩

namespace hashMacKeys
open Go.ChangeShapes Go.WideShapes Go.ChangeAt Go.RowKit

theorem contract (H : Type) (enc : TypeId × Value → H) (W : World) (base : Nat) (args : Array Value) (ds gs : List (DataW H)) (before : List MemPlace)
    (hval : ∀ (j : Nat) t v, Tryd.f6.params[j]? = some t → args[j]? = some v → Value.okWide Tryd.prog W .any base t v)
    (hW : DataW.Whole enc Tryd.prog Tryd.f6.params.toList Rows.hashMacKeysSpec.vars false W args.toList ds gs before) (hL : laidMetH Tryd.prog Rows.hashMacKeysRow.laid W) :
    Calls Tryd.prog 6 args W fun e W' => ∃ v, e = .returned v ∧ Rows.hashMacKeysSpec.post enc Tryd.prog Tryd.f6 false true false false W args v W' := by
  have hW' := hW
  obtain ⟨p, q, hA0, hV, rfl, hfz, hnd⟩ := hW
  have hA : DataW.TrodAll enc Tryd.prog W 0 (fun _ => true) true Tryd.f6.params.toList args.toList ds p := hA0
  rw [Tryd.params6] at hA hval
  obtain ⟨v0, v1, d0, d1, p0, p1, rfl, rfl, rfl, h0, h1⟩ := trodAll_two hA
  obtain ⟨rfl, rfl⟩ := trodVars_none hV
  obtain ⟨a, rfl, rfl, rfl, w0⟩ := Go.ChangeMaps.open_string Tryd.underlying9 (hval 0 9 v0 rfl rfl) h0
  obtain ⟨b, rfl, rfl, rfl, w1⟩ := Go.ChangeMaps.open_string Tryd.underlying9 (hval 1 9 v1 rfl rfl) h1
  clear hA0
  simp only [List.append_nil] at hW'
  have hG : Glob W := glob_of hL
  refine (macKeys_any a b W hG).mono fun e W' ⟨he, hB⟩ => ?_
  subst he
  refine ⟨_, rfl, _, _, _, [], [] ++ [], [], hW', ?_, ?_, rfl, hB.frame _, fun h => by cases h⟩
  · exact trodAll_mk1 (shut_bool Tryd.underlying4 _)
  · exact trodAll_mk2 (Go.ChangeMaps.shut_string Tryd.underlying9 w0) (Go.ChangeMaps.shut_string Tryd.underlying9 w1)

theorem laid_met (os : Os) : laidMet Tryd.prog Rows.hashMacKeysRow.laid ((laidWorld os).forCall (fun _ _ => 0) ⟨#[], #[.string ByteArray.empty, .string ByteArray.empty], []⟩).memory :=
  laidMet_of_run' 8 (by kernel_rfl) (by kernel_rfl)
theorem reads (os : Os) {H : Type} (enc : TypeId × Value → H) : ∃ ds places, DataW.whole enc Tryd.prog ((laidWorld os).forCall (fun _ _ => 0) ⟨#[], #[.string ByteArray.empty, .string ByteArray.empty], []⟩).memory Tryd.f6.params.toList Rows.hashMacKeysSpec.vars false #[Value.string ByteArray.empty, .string ByteArray.empty].toList 8 = some (ds, [], places) :=
  ⟨[.lit (.string []), .lit (.string [])], [], by kernel_rfl⟩

set_option maxRecDepth 100000 in
theorem lifted (os : Os) (started : os.Started) (H : Type) (enc : TypeId × Value → H) (F : Stop.Interp) :
    ReturnsInHanded {} Tryd.checked os 6 .any ((OpenSpec.ofChange Rows.hashMacKeysSpec).preRow enc Tryd.prog Tryd.f6 Rows.hashMacKeysRow.domain false Rows.hashMacKeysRow.laid) (((OpenSpec.ofChange Rows.hashMacKeysSpec).at F).post enc Tryd.prog Tryd.f6 false true false false) := by
  obtain ⟨ds, places, hx⟩ := reads os enc
  refine returnsInHanded_of_row (C := Tryd.checked) (s := OpenSpec.ofChange Rows.hashMacKeysSpec) own started (by kernel_rfl) Tryd.func6
    (witness_row_at (enc := enc) (C := Tryd.checked) false (laidWorld os) #[.string ByteArray.empty, .string ByteArray.empty] rfl (by kernel_rfl) (by kernel_rfl) (by kernel_rfl)
      (OpenSpec.preRow_of_cond 8 hx (by kernel_rfl) (fun k hk => by cases hk) (by kernel_rfl) (laid_met os))) ?_
  intro W base args ds gs before hval hW _ _ _ hL _ _
  exact contract H enc W base args ds gs before hval hW hL

theorem said : Rows.HashMacKeysSaid :=
  OpenClaim.holds_of_cond 6 Tryd.f6 rfl rfl rfl rfl rfl rfl rfl ⟨rfl, rfl, rfl, rfl, rfl⟩ rfl rfl rfl rfl rfl (by kernel_rfl) Tryd.func6 (by kernel_rfl)
    (of_decide_eq_true (by kernel_rfl)) (by unfold Func.isWrapper; first | (rw [if_pos (by decide +kernel)]; kernel_rfl) | (rw [if_neg (by decide +kernel)]; exact ⟨rfl, rfl⟩))
    (fun os started H enc _ F => by rw [OpenClaim.pre_eq_preRow]; exact lifted os started H enc F)

theorem plain (f : FuncId) (fn : Func) (hf : Tryd.pinned.checked.prog.funcNamed "passim/passimlaw02.HashMacKeys" = some f) (hfn : Tryd.pinned.checked.prog.funcs[f]? = some fn) :
    false = Tryd.pinned.checked.prog.looks [] ∧ ∀ (j : Nat) t, fn.params[j]? = some t → Tryd.pinned.checked.prog.wantsStandIn t = false := by
  obtain rfl : f = 6 := Option.some.inj ((show Tryd.prog.funcNamed "passim/passimlaw02.HashMacKeys" = some 6 by kernel_rfl).symm.trans hf) |>.symm
  obtain rfl : fn = Tryd.f6 := (Option.some.inj (Tryd.func6.symm.trans hfn)).symm
  refine ⟨by kernel_rfl, fun j t ht => ?_⟩
  rw [Tryd.params6] at ht
  obtain rfl : t = 9 := by simpa using Array.mem_of_getElem? ht
  exact (show Tryd.prog.wantsStandIn 9 = false by kernel_rfl)

theorem proved : Rows.HashMacKeysCardSaid :=
  Claim7.holds_tied_plain_at .later [] _ _ _ _ said (fun _ h => by cases h) (by kernel_rfl) (fun _ h => by cases h) hashMacKeys_row_tie rfl ⟨rfl, rfl⟩ (by kernel_rfl) rfl plain (by kernel_rfl)
#print axioms proved
end hashMacKeys

end Go.Proofs.YtgmlphfoadeboaaDoor
