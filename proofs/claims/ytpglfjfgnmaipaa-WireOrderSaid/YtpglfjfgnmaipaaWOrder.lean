/-
  For any two integers passimlaw01.WireOrder returns true. No condition.
-/
import Derived.Test.YtpglfjfgnmaipaaWIntRoundTrip
import Derived.Test.YtpglfjfgnmaipaaWOrd
import Derived.Deep.RegionWith
import Derived.Deep.RegionHeld3
namespace Go.Proofs.Ytpglfjfgnmaipaa
open Go.RowKit

/-- The bytes of a string, as the model compares them. -/
theorem less_blt : ∀ (x y : List UInt8), Op.bytesLess x y = blt (x.map (·.toNat)) (y.map (·.toNat))
  | [], [] => rfl
  | [], _ :: _ => rfl
  | _ :: _, [] => rfl
  | a :: x, b :: y => by
    have ih := less_blt x y
    simp only [Op.bytesLess, List.map_cons]
    rcases Nat.lt_trichotomy a.toNat b.toNat with h | h | h
    · rw [blt_lt _ _ h]
      have : a < b := UInt8.lt_iff_toNat_lt.2 h
      simp [this]
    · have hab : a = b := UInt8.toNat_inj.1 h
      subst hab
      rw [blt_eq, ih]
      simp
    · rw [blt_gt _ _ h]
      have h1 : ¬ a < b := fun hh => by have := UInt8.lt_iff_toNat_lt.1 hh; omega
      have h2 : a ≠ b := fun hh => by subst hh; omega
      simp [h1, h2]
theorem less_str (l m : List Nat) (hl : ∀ d ∈ l, d < 256) (hm : ∀ d ∈ m, d < 256) : Op.bytesLess (strOf l).toList (strOf m).toList = blt l m := by
  rw [less_blt, Lib.toList_data, Lib.toList_data]
  have h1 := sb_strOf l hl
  have h2 := sb_strOf m hm
  unfold sb at h1 h2
  rw [h1, h2]
theorem str_inj {l m : List Nat} (hl : ∀ d ∈ l, d < 256) (hm : ∀ d ∈ m, d < 256) (h : (strOf l).toList = (strOf m).toList) : l = m := by
  have e := bytes_ext h
  rw [← sb_strOf l hl, ← sb_strOf m hm, e]
theorem str_take (l : List Nat) (k : Nat) : (strOf l).extract 0 k = strOf (l.take k) := by
  have h : ((strOf l).extract 0 k).data.toList = (strOf (l.take k)).data.toList := by
    rw [Lib.extract_data]
    simp [strOf]
  cases h1 : (strOf l).extract 0 k with | mk x =>
  cases h2 : strOf (l.take k) with | mk y =>
  rw [h1, h2] at h
  congr 1
  exact Array.toList_inj.1 h

/-- What the law compares of two strings. -/
def Cmp (m n : Int) (a b : ByteArray) : Prop :=
  Op.bytesLess a.toList b.toList = decide (m < n) ∧ (a.toList == b.toList) = (m == n) ∧ ((a.extract 0 (min a.size b.size)).toList == (b.extract 0 (min a.size b.size)).toList) = (m == n)
theorem cmp_enc (m n : Int) (hm : I64 m) (hn : I64 n) : Cmp m n (strOf (enc m)) (strOf (enc n)) := by
  have h1 := enc_lt m hm.1 hm.2
  have h2 := enc_lt n hn.1 hn.2
  refine ⟨by rw [less_str _ _ h1 h2, blt_enc m n hm hn], ?_, ?_⟩
  · rw [Bool.eq_iff_iff]
    simp only [beq_iff_eq]
    exact ⟨fun h => enc_inj m n hm hn (str_inj h1 h2 h), fun h => by rw [h]⟩
  · rw [str_take, str_take, strOf_size, strOf_size, Bool.eq_iff_iff]
    simp only [beq_iff_eq]
    refine ⟨fun h => enc_prefix m n hm hn _ rfl (str_inj (fun d hd => h1 d (List.mem_of_mem_take hd)) (fun d hd => h2 d (List.mem_of_mem_take hd)) h), fun h => by rw [h]⟩

/-- wire.Int, with what its bytes are as a string, in this and in later worlds. -/
def GaveStr (W : World) (n : Int) (e : Ending) (w' : World) : Prop :=
  ∃ g L cap, e = .returned (.slice (some ⟨g, 0, none⟩) L cap) ∧ (∀ w2, Below w'.heap.size w' w2 → (convert 28 9 (.slice (some ⟨g, 0, none⟩) L cap)).run Try.prog w2 = .ok (.string (strOf (enc n))) w2) ∧ Below W.heap.size W w'
theorem int_str (n : Int) (h1 : -9223372036854775808 ≤ n) (h2 : n ≤ 9223372036854775807) (w : World) : Calls Try.prog 14 #[.int .i64 n] w (GaveStr w n) :=
  (int_any n h1 h2 w).mono fun e w' ⟨g, cap, he, hO⟩ => by
    have hh := hO.has (enc_lt n h1 h2)
    exact ⟨g, _, cap, he, fun w2 hB => conv_cells w2 ⟨g, 0, none⟩ cap (enc n) (hh.keep hB).2 (hh.keep hB).cells, hO.below⟩

set_option maxHeartbeats 4000000 in
set_option maxRecDepth 100000 in
theorem order_any (m n : Int) (hm : I64 m) (hn : I64 n) (w : World) : Calls Try.prog 5 #[.int .i64 m, .int .i64 n] w (Told w true) := by
  have hC := Lib.hid (cmp_enc m n hm hn)
  have hm1 := hm.1
  have hm2 := hm.2
  have hn1 := hn.1
  have hn2 := hn.2
  go_enter Try.func5, Try.ntmps5
  go_wp2_with fail
  go_region_with (first | ((with_reducible refine (int_str m hm1 hm2 _).mono ?_); rintro e w1 ⟨g1, L1, cap1, rfl, hcv1, hB1⟩; have k1 := hcv1 w1 (Below.refl _ _)) | ((with_reducible refine (int_str n hn1 hn2 _).mono ?_); rintro e w2 ⟨g2, L2, cap2, rfl, hcv2, hB2⟩; have k2 := hcv2 w2 (Below.refl _ _); have k12 := hcv1 w2 hB2))
  all_goals
    have hB : Below w.heap.size w w2 := chain ((Below.refl _ _).drew.trans hB1) hB2
    have l1 := enc_length m hm1 hm2
    have l2 := enc_length n hn1 hn2
    rw [← strOf_size] at l1 l2
    clear k1 k2 k12 hcv1 hcv2 hB1 hB2 hm1 hm2 hn1 hn2 hm hn
    generalize strOf (enc m) = a at *
    generalize strOf (enc n) = b at *
    obtain ⟨f1, f2, f3⟩ := hC.out
    rcases Nat.lt_or_ge b.size a.size with hs | hs
    · have hmin : min a.size b.size = b.size := by omega
      have e : b.extract 0 b.size = b := by simp
      rw [hmin, e] at f3
      clear hmin e
      have b1 : (a.size : Int) ≤ 9 := by omega
      have b2 : (b.size : Int) ≤ 9 := by omega
      have b3 : (b.size : Int) ≤ (a.size : Int) := by omega
      have b4 : (0 : Int) ≤ (b.size : Int) := by omega
      go_wp2_with fail
      go_region_held3 (fun _ => True) (trivial) (first | (go_at_call 12; refine (sanity_any _).mono ?_; rintro e w3 ⟨rfl, hB3⟩))
      all_goals go_wp2
      all_goals go_ret
      all_goals exact ⟨rfl, chain hB ((Below.refl _ _).drew.trans hB3)⟩
    · have hmin : min a.size b.size = a.size := by omega
      have e : a.extract 0 a.size = a := by simp
      rw [hmin, e] at f3
      clear hmin e
      have b1 : (a.size : Int) ≤ 9 := by omega
      have b2 : (b.size : Int) ≤ 9 := by omega
      have b3 : (a.size : Int) ≤ (b.size : Int) := by omega
      have b4 : (0 : Int) ≤ (a.size : Int) := by omega
      go_wp2_with fail
      go_region_held3 (fun _ => True) (trivial) (first | (go_at_call 12; refine (sanity_any _).mono ?_; rintro e w3 ⟨rfl, hB3⟩))
      all_goals go_wp2
      all_goals go_ret
      all_goals exact ⟨rfl, chain hB ((Below.refl _ _).drew.trans hB3)⟩

namespace wireOrder
open Go.ChangeShapes Go.WideShapes Go.ChangeAt Go.RowKit

set_option maxRecDepth 100000 in
theorem lifted (os : Os) (started : os.Started) (H : Type) (enc : TypeId × Value → H) :
    ReturnsInHanded {} Try.checked os 5 .any (Rows.wireOrderSpec.pre6 enc Try.prog Try.f5 Rows.wireOrderRow.domain false) (Rows.wireOrderSpec.post enc Try.prog Try.f5 false true false false) := by
  refine returnsInHanded_of_change (C := Try.checked) own started (by kernel_rfl) Try.func5
    (ChangeSpec.witness6 (enc := enc) (C := Try.checked) false ⟨#[], #[.int .i64 0, .int .i64 0], []⟩ 8 (by kernel_rfl) (by kernel_rfl) (by kernel_rfl) (by kernel_rfl)) ?_
  intro W base args ds gs before hval0 hW hcnd _
  have hval : ∀ (j : Nat) t v, Try.f5.params[j]? = some t → args[j]? = some v → Value.okWide Try.prog W .any base t v := hval0
  have hW' := hW
  obtain ⟨p, q, hA0, hV, rfl, hfz, hnd⟩ := hW
  have hA : DataW.TrodAll enc Try.prog W 0 (fun _ => true) true Try.f5.params.toList args.toList ds p := hA0
  rw [Try.params5] at hA hval
  obtain ⟨v0, v1, d0, d1, p0, p1, rfl, rfl, rfl, h0, h1⟩ := trodAll_two hA
  obtain ⟨rfl, rfl⟩ := trodVars_none hV
  obtain ⟨a0, rfl, rfl, rfl, w0⟩ := open_int Try.underlying3 (hval 0 3 v0 rfl rfl) h0
  obtain ⟨a1, rfl, rfl, rfl, w1⟩ := open_int Try.underlying3 (hval 1 3 v1 rfl rfl) h1
  clear hA0 hval0
  simp only [List.append_nil] at hW'
  have hwf0 := w0
  have hwf1 := w1
  simp [Lit.wf, IntKind.min, IntKind.max, IntKind.signed, IntKind.bits] at hwf0 hwf1
  refine (order_any a0 a1 ⟨hwf0.1, hwf0.2⟩ ⟨hwf1.1, hwf1.2⟩ W).mono fun e W' ⟨he, hB⟩ => ?_
  subst he
  refine ⟨_, rfl, _, _, _, [], [], [], hW', ?_, ?_, rfl, hB.frame _, fun h => by cases h⟩
  · exact trodAll_mk1 (shut_bool Try.underlying4 _)
  · exact trodAll_mk2 (shut_int Try.underlying3 w0) (shut_int Try.underlying3 w1)

theorem over : Rows.wireOrderRow.holds Try.pinned (OpenSpec.ofChange Rows.wireOrderSpec) :=
  OpenClaim.holds_of_wide 5 Try.f5 rfl rfl rfl rfl rfl rfl rfl ⟨rfl, rfl, rfl, rfl, rfl⟩ rfl rfl rfl rfl rfl (by kernel_rfl) Try.func5 (by kernel_rfl)
    (of_decide_eq_true (by kernel_rfl)) (by unfold Func.isWrapper; first | (rw [if_pos (by decide +kernel)]; kernel_rfl) | (rw [if_neg (by decide +kernel)]; exact ⟨rfl, rfl⟩))
    (fun os started H enc _ => lifted os started H enc)

theorem proved : Rows.WireOrderSaid := over
#print axioms proved
end wireOrder
end Go.Proofs.Ytpglfjfgnmaipaa
