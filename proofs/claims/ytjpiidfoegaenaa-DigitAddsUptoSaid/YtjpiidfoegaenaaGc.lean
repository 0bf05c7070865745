/-
  DigitAdds, walked.
-/
import Derived.Test.YtjpiidfoegaenaaGb
import Derived.Test.YtjpiidfoegaenaaFf
import Derived.Test.YtjpiidfoegaenaaEj
namespace Go.Proofs.Ytjpiidfoegaenaa
open Go Go.RowKit
set_option linter.unusedVariables false
set_option linter.unusedSimpArgs false

theorem lay_cellA {α : Type} {E : Elt α} {w : World} {g : Nat} {l : List α} (h : At E w (some ⟨g, 0, none⟩) l) {i : Nat} {x : α} {u : Value} (hx : l[i]? = some x) (hk : E.k = 1) (hu : (E.enc x)[0]? = some u) : w.cell? ⟨g, i, none⟩ = some u := by
  obtain ⟨b, o, e, hL⟩ := h.get (List.getElem?_eq_some_iff.1 hx).1
  injection e with e
  injection e with e1 e2 _
  subst e1 e2
  have := hL.2 i x 0 u hx hu
  rwa [hk, Nat.mul_one, Nat.add_zero, Nat.zero_add] at this
theorem mk_u8 (w : World) : (Instr.makeSlice 48 (.int .i64 0) (.int .i64 0)).run Try.prog w = .ok (.slice (some ⟨w.heap.size, 0, none⟩) 0 0) (w.alloc (.cells #[] 5)) := by
  kernel_rfl
def LoRel (w : World) (s i : Value) (W : World) : Prop := ∃ (t : ByteArray) (k : Nat), s = .string t ∧ i = .int .i64 (k : Int) ∧ t.size = k ∧ k ≤ 66 ∧ w = W
set_option maxHeartbeats 8000000 in
set_option maxRecDepth 100000 in
theorem digitAdds_any (A0 : Option Addr) (l : List Int) (n0 c0 : Nat) (hl0 : l.length = n0) (hn0 : n0 ≤ 9223372036854775807) (raw : ByteArray) (hraw : raw.size ≤ 1000000000) (x2 : Int) (x2a : -9223372036854775808 ≤ x2) (x2b : x2 ≤ 9223372036854775807) (ch : Nat) (hch : ch < 256)
    (w : World) (h0 : IntsAt w A0 l) :
    Calls Try.prog 6 #[.slice A0 n0 c0, .string raw, .int .i64 x2, .int .u8 (ch : Int)] w (Yes w) := by
  have CT := Lib.hid (text_any l A0 n0 c0 hl0 hn0 w h0)
  have CL := Lib.hid (fun V => lives_any V)
  have CK1 := Lib.hid (fun k hk hk2 V => arnd x2 x2a x2b k hk hk2 V)
  have HCH := Lib.hid hch
  have HRAW := Lib.hid hraw
  clear hl0 hn0 x2a x2b h0 hch hraw
  go_enter Try.func6, Try.ntmps6
  go_upto_region 2 with (go_at_call 23; refine CT.out.mono ?_; rintro _ _ ⟨s, rfl, hs12, hok, rfl⟩)
  clear CT hok
  obtain ⟨n1, hn1⟩ : ∃ n1, s.size + 1 = n1 := ⟨_, rfl⟩
  have hn1z : (s.size : Int) + 1 = (n1 : Int) := by omega
  have HN1 := Lib.hid hn1
  have CK2 := Lib.hid (fun V => CK1.out n1 (by omega) (by omega) V)
  clear hn1 CK1
  go_upto_region 3 with (go_at_call 21; refine (CK2.out _).mono ?_; rintro _ _ ⟨k, hk, rfl, rfl⟩)
  clear CK2
  have hks : k ≤ s.size := by have := HN1.out; omega
  clear hk hn1z HN1
  have hmk := mk_u8 w
  have hcv := conv_cells (w.alloc (.cells #[] 5)) ⟨w.heap.size, 0, none⟩ 0 [] (by simp) (fun j u hj => by simp [bytesV] at hj)
  change (convert 48 9 (.slice (some ⟨w.heap.size, 0, none⟩) 0 0)).run Try.prog (w.alloc (.cells #[] 5)) = .ok (.string (strOf [])) (w.alloc (.cells #[] 5)) at hcv
  have B1 : Below w.heap.size w (w.alloc (.cells #[] 5)) := (Below.refl _ _).alloc (Nat.le_refl _) _
  obtain ⟨g0, hg0⟩ : ∃ g, w.heap.size = g := ⟨_, rfl⟩
  rw [hg0] at hmk hcv
  generalize w.alloc (.cells #[] 5) = W1 at hmk hcv B1
  clear hg0
  have HE : Hid ((strOf []).size = 0) := Lib.hid rfl
  generalize strOf [] = e0 at hcv HE
  go_upto_region 4 with (fail)
  clear hmk hcv
  go_wp2
  go_loopw [11, 12] (fun s i V => LoRel W1 s i V) (fun _ i _ => 66 - (intOf i).toNat)
  case atStart => exact ⟨e0, 0, rfl, rfl, HE.out, by omega, rfl⟩
  case round =>
  obtain ⟨t, j, rfl, rfl, htj, hj, rfl⟩ := hrel
  rcases Nat.lt_or_ge j 66 with hlt | hge
  · have hltz : (j : Int) < 66 := by omega
    have hcat : ¬ 9223372036854775807 < t.size + 1 := by omega
    have HT := Lib.hid htj
    clear htj HE
    go_wp2
    exact ⟨⟨_, j + 1, rfl, by go_num, by rw [ByteArray.size_append, HT.out]; rfl, by omega, rfl⟩, by simp [intOf]; omega⟩
  obtain rfl : j = 66 := by omega
  clear hj hge HE
  have hksz : (k : Int) ≤ (s.size : Int) := by omega
  have hk0 : ¬ (k : Int) < 0 := by omega
  have HP1 : Hid ((s.extract 0 k).size ≤ 12) := Lib.hid (by rw [ByteArray.size_extract]; omega)
  have HP2 : Hid ((s.extract k s.size).size ≤ 12) := Lib.hid (by rw [ByteArray.size_extract]; omega)
  have HT62 : Hid ((t.extract 0 62).size ≤ 66) := Lib.hid (by rw [ByteArray.size_extract]; omega)
  have HT63 : Hid ((t.extract 0 63).size ≤ 66) := Lib.hid (by rw [ByteArray.size_extract]; omega)
  have HT64 : Hid ((t.extract 0 64).size ≤ 66) := Lib.hid (by rw [ByteArray.size_extract]; omega)
  have HT65 : Hid ((t.extract 0 65).size ≤ 66) := Lib.hid (by rw [ByteArray.size_extract]; omega)
  go_upto_region 8 with (fail)
  refine wp_region_held_drew (S := fun w' => Below W1.heap.size W1 w') (by kernel_rfl) (below_drew (Below.refl _ _)) (fun _ => ?_)
  have hHeld : Below W1.heap.size W1 W1.drew := below_drew (Below.refl _ _)
  generalize W1.drew = V0 at hHeld ⊢
  refine wt (i := 0) (oi := ⟨some 34, .move (.tmp 9), 9, "law.go:149", #[], none⟩) (v := .string s) (Or.inl ⟨by rfl, fun w' hSw => by go_simp⟩) hHeld ?_
  try simp only [zP, zQ, zS, zZ, zC]
  refine wt (i := 1) (oi := ⟨some 35, .move (.tmp 1), 9, "law.go:149", #[], none⟩) (v := .string raw) (Or.inl ⟨by rfl, fun w' hSw => by go_simp⟩) hHeld ?_
  try simp only [zP, zQ, zS, zZ, zC]
  refine wt (i := 2) (oi := ⟨some 36, .move (.tmp 9), 9, "law.go:149", #[], none⟩) (v := .string s) (Or.inl ⟨by rfl, fun w' hSw => by go_simp⟩) hHeld ?_
  try simp only [zP, zQ, zS, zZ, zC]
  refine wt (i := 3) (oi := ⟨some 37, .move (.tmp 10), 3, "law.go:149", #[], none⟩) (v := .int .i64 (k : Int)) (Or.inl ⟨by rfl, fun w' hSw => by go_simp⟩) hHeld ?_
  try simp only [zP, zQ, zS, zZ, zC]
  refine wt (i := 4) (oi := ⟨some 38, .slice 9 (.tmp 36) none (some (.tmp 37)) none, 9, "law.go:149", #[⟨2, .data⟩, ⟨3, .data⟩], none⟩) (v := .string (s.extract 0 k)) (Or.inl ⟨by rfl, fun w' hSw => by go_simp⟩) hHeld ?_
  try simp only [zP, zQ, zS, zZ, zC]
  refine wt (i := 5) (oi := ⟨some 39, .move (.tmp 3), 5, "law.go:149", #[], none⟩) (v := .int .u8 (ch : Int)) (Or.inl ⟨by rfl, fun w' hSw => by go_simp⟩) hHeld ?_
  try simp only [zP, zQ, zS, zZ, zC]
  refine wt (i := 9) (oi := ⟨some 43, .move (.tmp 9), 9, "law.go:149", #[], none⟩) (v := .string s) (Or.inl ⟨by rfl, fun w' hSw => by go_simp⟩) hHeld ?_
  try simp only [zP, zQ, zS, zZ, zC]
  refine wt (i := 10) (oi := ⟨some 44, .move (.tmp 10), 3, "law.go:149", #[], none⟩) (v := .int .i64 (k : Int)) (Or.inl ⟨by rfl, fun w' hSw => by go_simp⟩) hHeld ?_
  try simp only [zP, zQ, zS, zZ, zC]
  refine wt (i := 11) (oi := ⟨some 45, .slice 9 (.tmp 43) (some (.tmp 44)) none none, 9, "law.go:149", #[⟨9, .data⟩, ⟨10, .data⟩], none⟩) (v := .string (s.extract k s.size)) (Or.inl ⟨by rfl, fun w' hSw => by go_simp⟩) hHeld ?_
  try simp only [zP, zQ, zS, zZ, zC]
  refine wt (i := 13) (oi := ⟨some 47, .move (.tmp 11), 9, "law.go:149", #[], none⟩) (v := .string t) (Or.inl ⟨by rfl, fun w' hSw => by go_simp⟩) hHeld ?_
  try simp only [zP, zQ, zS, zZ, zC]
  refine wt (i := 14) (oi := ⟨some 48, .slice 9 (.tmp 47) none (some (.const (Value.int IntKind.i64 62))) none, 9, "law.go:149", #[⟨13, .data⟩], none⟩) (v := .string (t.extract 0 62)) (Or.inl ⟨by rfl, fun w' hSw => by go_simp⟩) hHeld ?_
  try simp only [zP, zQ, zS, zZ, zC]
  refine wt (i := 15) (oi := ⟨some 49, .move (.tmp 11), 9, "law.go:149", #[], none⟩) (v := .string t) (Or.inl ⟨by rfl, fun w' hSw => by go_simp⟩) hHeld ?_
  try simp only [zP, zQ, zS, zZ, zC]
  refine wt (i := 16) (oi := ⟨some 50, .slice 9 (.tmp 49) none (some (.const (Value.int IntKind.i64 63))) none, 9, "law.go:149", #[⟨15, .data⟩], none⟩) (v := .string (t.extract 0 63)) (Or.inl ⟨by rfl, fun w' hSw => by go_simp⟩) hHeld ?_
  try simp only [zP, zQ, zS, zZ, zC]
  refine wt (i := 17) (oi := ⟨some 51, .move (.tmp 11), 9, "law.go:149", #[], none⟩) (v := .string t) (Or.inl ⟨by rfl, fun w' hSw => by go_simp⟩) hHeld ?_
  try simp only [zP, zQ, zS, zZ, zC]
  refine wt (i := 18) (oi := ⟨some 52, .slice 9 (.tmp 51) none (some (.const (Value.int IntKind.i64 64))) none, 9, "law.go:149", #[⟨17, .data⟩], none⟩) (v := .string (t.extract 0 64)) (Or.inl ⟨by rfl, fun w' hSw => by go_simp⟩) hHeld ?_
  try simp only [zP, zQ, zS, zZ, zC]
  refine wt (i := 19) (oi := ⟨some 53, .move (.tmp 11), 9, "law.go:149", #[], none⟩) (v := .string t) (Or.inl ⟨by rfl, fun w' hSw => by go_simp⟩) hHeld ?_
  try simp only [zP, zQ, zS, zZ, zC]
  refine wt (i := 20) (oi := ⟨some 54, .slice 9 (.tmp 53) none (some (.const (Value.int IntKind.i64 65))) none, 9, "law.go:149", #[⟨19, .data⟩], none⟩) (v := .string (t.extract 0 65)) (Or.inl ⟨by rfl, fun w' hSw => by go_simp⟩) hHeld ?_
  try simp only [zP, zQ, zS, zZ, zC]
  refine wt (i := 21) (oi := ⟨some 55, .move (.tmp 11), 9, "law.go:149", #[], none⟩) (v := .string t) (Or.inl ⟨by rfl, fun w' hSw => by go_simp⟩) hHeld ?_
  try simp only [zP, zQ, zS, zZ, zC]
  generalize s.extract 0 k = p1 at HP1 ⊢
  generalize s.extract k s.size = p2 at HP2 ⊢
  generalize t.extract 0 62 = t62 at HT62 ⊢
  generalize t.extract 0 63 = t63 at HT63 ⊢
  generalize t.extract 0 64 = t64 at HT64 ⊢
  generalize t.extract 0 65 = t65 at HT65 ⊢
  refine wpAnyH_ready (rs := [6]) (by kernel_rfl) (by simp) ?_
  refine AllReadyH.cons (o := ⟨some 40, .buildSlice 48 1 #[(0, .tmp 39)], 48, "law.go:149", #[⟨5, .data⟩], none⟩) rfl (fun K hK => ?_) AllReadyH.nil
  rw [if_pos (by rfl)]
  go_simp
  have X : Below V0.heap.size V0 (World.alloc V0 (.cells #[.int .u8 (ch : Int)] 5)) := (Below.refl _ _).alloc (Nat.le_refl _) _
  have KB := blk_new V0 5 #[.int .u8 (ch : Int)]
  refine hK.out _ _ (link hHeld X) (fun hHeld => ?_)
  clear hK K
  try simp only [zP, zQ, zS, zZ, zC]
  generalize World.alloc V0 _ = V1 at KB hHeld ⊢
  clear X
  generalize V0.heap.size = g0 at KB ⊢
  have hcv := conv_cells V1 ⟨g0, 0, none⟩ 1 [ch] (fun y hy => by rw [List.mem_singleton.1 hy]; exact HCH.out) (fun j u hj => by rw [Addr.add_mid, Nat.zero_add]; exact KB.cell (by simpa [bytesV, byteV] using hj))
  change (convert 48 9 (.slice (some ⟨g0, 0, none⟩) 1 1)).run Try.prog V1 = .ok (.string (strOf [ch])) V1 at hcv
  refine wpAnyH_ready (rs := [7]) (by kernel_rfl) (by simp) ?_
  refine AllReadyH.cons (o := ⟨some 41, .convert 48 9 (.tmp 40), 9, "law.go:149", #[⟨6, .data⟩], none⟩) rfl (fun K hK => ?_) AllReadyH.nil
  rw [if_pos (by rfl)]
  go_simp
  refine hK.out _ _ (hHeld) (fun hHeld => ?_)
  clear hK K
  try simp only [zP, zQ, zS, zZ, zC]
  have hs1 : (strOf [ch]).size = 1 := by first | rfl | simp [strOf]
  generalize strOf [ch] = p3 at hs1 ⊢
  have z1 : ¬ 9223372036854775807 < p1.size + p3.size := by have := HP1.out; omega
  have z2 : ¬ 9223372036854775807 < p1.size + p3.size + p2.size := by have := HP1.out; have := HP2.out; omega
  have hp1 := HP1.out
  have hp2 := HP2.out
  refine wt (i := 8) (oi := ⟨some 42, .binOp .add 9 (.tmp 38) (.tmp 41) 9, 9, "law.go:149", #[⟨4, .data⟩, ⟨7, .data⟩], none⟩) (v := .string (p1 ++ p3)) (Or.inl ⟨by rfl, fun w' hSw => by go_simp; first | done | omega⟩) hHeld ?_
  try simp only [zP, zQ, zS, zZ, zC]
  refine wt (i := 12) (oi := ⟨some 46, .binOp .add 9 (.tmp 42) (.tmp 45) 9, 9, "law.go:149", #[⟨8, .data⟩, ⟨11, .data⟩], none⟩) (v := .string (p1 ++ p3 ++ p2)) (Or.inl ⟨by rfl, fun w' hSw => by go_simp; first | done | omega⟩) hHeld ?_
  try simp only [zP, zQ, zS, zZ, zC]
  clear hp1 hp2
  have HP : Hid ((p1 ++ p3 ++ p2).size ≤ 1000000000) := Lib.hid (by rw [ByteArray.size_append, ByteArray.size_append]; have := HP1.out; have := HP2.out; omega)
  clear z1 z2
  generalize p1 ++ p3 ++ p2 = p at HP ⊢
  refine wpAnyH_ready (rs := [22]) (by kernel_rfl) (by simp) ?_
  refine AllReadyH.cons (o := ⟨some 56, .buildSlice 49 10 #[(0, .tmp 34), (1, .tmp 35), (2, .tmp 46), (3, .const (Value.string { data := #[] })), (4, .const (Value.string { data := #[48] })), (5, .tmp 48), (6, .tmp 50), (7, .tmp 52), (8, .tmp 54), (9, .tmp 55)], 49, "law.go:149", #[⟨0, .data⟩, ⟨1, .data⟩, ⟨12, .data⟩, ⟨14, .data⟩, ⟨16, .data⟩, ⟨18, .data⟩, ⟨20, .data⟩, ⟨21, .data⟩], none⟩) rfl (fun K hK => ?_) AllReadyH.nil
  rw [if_pos (by rfl)]
  go_simp
  have X : Below V1.heap.size V1 (World.alloc V1 (.cells #[.string s, .string raw, .string p, .string ⟨#[]⟩, .string ⟨#[48]⟩, .string t62, .string t63, .string t64, .string t65, .string t] 9)) := (Below.refl _ _).alloc (Nat.le_refl _) _
  have G : At strE (World.alloc V1 (.cells #[.string s, .string raw, .string p, .string ⟨#[]⟩, .string ⟨#[48]⟩, .string t62, .string t63, .string t64, .string t65, .string t] 9)) (some ⟨V1.heap.size, 0, none⟩) [s, raw, p, ⟨#[]⟩, ⟨#[48]⟩, t62, t63, t64, t65, t] := at_new strE V1 _ _ rfl
  refine hK.out _ _ (link hHeld X) (fun hHeld => ?_)
  clear hK K
  try simp only [zP, zQ, zS, zZ, zC]
  generalize World.alloc V1 _ = V2 at G hHeld ⊢
  clear X
  generalize V1.heap.size = gl at G ⊢
  refine wpAnyH_ready (rs := [23]) (by kernel_rfl) (by simp) ?_
  refine AllReadyH.cons (o := ⟨some 13, .assign (.tmp 56), 49, "law.go:149", #[⟨22, .data⟩, ⟨0, .phase⟩, ⟨1, .phase⟩, ⟨2, .phase⟩, ⟨3, .phase⟩, ⟨4, .phase⟩, ⟨5, .phase⟩, ⟨6, .phase⟩, ⟨7, .phase⟩, ⟨8, .phase⟩, ⟨9, .phase⟩, ⟨10, .phase⟩, ⟨11, .phase⟩, ⟨12, .phase⟩, ⟨13, .phase⟩, ⟨14, .phase⟩, ⟨15, .phase⟩, ⟨16, .phase⟩, ⟨17, .phase⟩, ⟨18, .phase⟩, ⟨19, .phase⟩, ⟨20, .phase⟩, ⟨21, .phase⟩, ⟨22, .phase⟩], none⟩) rfl (fun K hK => ?_) AllReadyH.nil
  go_simp
  refine hK.out _ _ (hHeld) (fun hHeld => ?_)
  clear hK K
  try simp only [zP, zQ, zS, zZ, zC]
  refine wpAnyH_done (by kernel_rfl) ?_ _
  have B2 := hHeld
  clear hHeld 
  have BA := Lib.hid (link B1 B2)
  obtain ⟨L, hL⟩ : ∃ L, [s, raw, p, ⟨#[]⟩, ⟨#[48]⟩, t62, t63, t64, t65, t] = L := ⟨_, rfl⟩
  have HL10 : Hid (L.length = 10) := Lib.hid (by rw [← hL]; rfl)
  have HLS : Hid (∀ x ∈ L, x.size ≤ 1000000000) := Lib.hid (by
    rw [← hL]
    have := HP.out
    have := HRAW.out
    have := HT62.out
    have := HT63.out
    have := HT64.out
    have := HT65.out
    intro x hx
    simp only [List.mem_cons, List.not_mem_nil, or_false] at hx
    rcases hx with rfl | rfl | rfl | rfl | rfl | rfl | rfl | rfl | rfl | rfl <;> first | omega | (show 0 ≤ _; omega) | (show 1 ≤ _; omega))
  rw [hL] at G
  clear hL HP HRAW HT62 HT63 HT64 HT65 HP1 HP2 KB hs12 htj hks hksz hk0 B1 B2
  go_wp2
  go_loopw [14] (fun v V => NumRel V2 10 v V) (fun v _ => 10 - (intOf v).toNat)
  case atStart => exact ⟨0, Nat.zero_le _, rfl, Below.refl _ _⟩
  case round =>
  obtain ⟨i, hi, rfl, hB⟩ := hrel
  rcases Nat.lt_or_ge i 10 with hlt | hge
  · have hltz : (i : Int) < 10 := by omega
    obtain ⟨t, ht⟩ : ∃ t, L[i]? = some t := ⟨_, List.getElem?_eq_getElem (by rw [HL10.out]; exact hlt)⟩
    have hts := HLS.out t (List.mem_of_getElem? ht)
    have HC : Hid (∀ V, Below V2.heap.size V2 V → V.cell? ⟨gl, i, none⟩ = some (.string t)) := Lib.hid (fun V hV => lay_cellA (G.keep hV) ht rfl rfl)
    have CP := Lib.hid (fun V => add_any t hts V)
    have CR := Lib.hid (fun V => radd_any t hts V)
    have CK := Lib.hid (fun V => chk_any t (by omega) V)
    have CRK := Lib.hid (fun V => rchk_any t (by omega) V)
    have HAC := Lib.hid (fun (h : addE (sb t) = 0) => add_checked h)
    have CA' := Lib.hid (fun (h : (addB t).size ≤ 1000000000000) V => chk_any (addB t) h V)
    generalize addB t = a at CP CR HAC CA'
    generalize addE (sb t) = e at CP CR HAC
    generalize chkS (sb t) = c at CK CRK
    have c9 := HC.out _ hB
    clear ht
    go_upto_region 13 with (go_at_call 24; refine (CP.out _).mono ?_; rintro _ w2 ⟨rfl, B2⟩)
    have hB2 := link hB B2
    clear c9 hB B2 CP
    have c9 := HC.out _ hB2
    go_upto_region 14 with (go_at_call 25; refine (CR.out _).mono ?_; rintro _ w3 ⟨rfl, B3⟩)
    have hB3 := link hB2 B3
    clear c9 hB2 B3 CR
    have HC9 : Hid (∀ V, Below w3.heap.size w3 V → V.cell? ⟨gl, i, none⟩ = some (.string t)) := Lib.hid (fun V hV => HC.out V (link hB3 hV))
    clear HC
    by_cases he : e = 0
    · subst he
      obtain ⟨ha0, _, hasz⟩ := HAC.out rfl
      have CA := Lib.hid (fun V => (by have := CA'.out (by omega) V; rwa [ha0] at this : Calls Try.prog 26 #[.string a] V (IntR 0 V)))
      clear HAC CA' ha0 hasz
      refine wp_region_held_drew (S := fun w' => Below w3.heap.size w3 w') (by kernel_rfl) (below_drew (Below.refl _ _)) (fun _ => ?_)
      have hHeld : Below w3.heap.size w3 w3.drew := below_drew (Below.refl _ _)
      generalize w3.drew = V0 at hHeld ⊢
      refine wt (i := 0) (oi := ⟨some 79, .move (.tmp 15), 9, "law.go:153", #[], none⟩) (v := .string a) (Or.inl ⟨by rfl, fun w' hSw => by go_simp⟩) hHeld ?_
      try simp only [zP, zQ, zS, zZ, zC]
      refine wt (i := 1) (oi := ⟨some 80, .move (.tmp 17), 9, "law.go:153", #[], none⟩) (v := .string a) (Or.inl ⟨by rfl, fun w' hSw => by go_simp⟩) hHeld ?_
      try simp only [zP, zQ, zS, zZ, zC]
      refine wt (i := 2) (oi := ⟨some 81, .binOp .neq 9 (.tmp 79) (.tmp 80) 9, 4, "law.go:153", #[⟨0, .data⟩, ⟨1, .data⟩], none⟩) (v := .bool false) (Or.inl ⟨by rfl, fun w' hSw => by go_simp⟩) hHeld ?_
      try simp only [zP, zQ, zS, zZ, zC]
      refine wt (i := 3) (oi := ⟨some 82, .move (.tmp 81), 4, "law.go:153", #[⟨2, .data⟩], none⟩) (v := .bool false) (Or.inl ⟨by rfl, fun w' hSw => by go_simp⟩) hHeld ?_
      try simp only [zP, zQ, zS, zZ, zC]
      refine wt (i := 4) (oi := ⟨some 83, .move (.tmp 16), 26, "law.go:153", #[⟨3, .guard⟩], some (3, false)⟩) (v := .int .i64 0) (Or.inl ⟨by rfl, fun w' hSw => by go_simp⟩) hHeld ?_
      try simp only [zP, zQ, zS, zZ, zC]
      refine wt (i := 5) (oi := ⟨some 84, .move (.tmp 18), 26, "law.go:153", #[⟨3, .guard⟩], some (3, false)⟩) (v := .int .i64 0) (Or.inl ⟨by rfl, fun w' hSw => by go_simp⟩) hHeld ?_
      try simp only [zP, zQ, zS, zZ, zC]
      refine wt (i := 6) (oi := ⟨some 85, .binOp .neq 26 (.tmp 83) (.tmp 84) 26, 4, "law.go:153", #[⟨4, .data⟩, ⟨5, .data⟩, ⟨3, .guard⟩], some (3, false)⟩) (v := .bool false) (Or.inl ⟨by rfl, fun w' hSw => by go_simp⟩) hHeld ?_
      try simp only [zP, zQ, zS, zZ, zC]
      refine wt (i := 7) (oi := ⟨some 86, .pick (.tmp 82) (.const (Value.bool true)) (.tmp 85), 4, "law.go:153", #[⟨3, .data⟩, ⟨6, .data⟩], none⟩) (v := .bool false) (Or.inl ⟨by rfl, fun w' hSw => by go_simp⟩) hHeld ?_
      try simp only [zP, zQ, zS, zZ, zC]
      refine wt (i := 8) (oi := ⟨some 87, .move (.tmp 86), 4, "law.go:153", #[⟨7, .data⟩, ⟨3, .chain⟩], none⟩) (v := .bool false) (Or.inl ⟨by rfl, fun w' hSw => by go_simp⟩) hHeld ?_
      try simp only [zP, zQ, zS, zZ, zC]
      refine wt (i := 9) (oi := ⟨some 88, .move (.tmp 13), 49, "law.go:153", #[⟨8, .guard⟩], some (8, false)⟩) (v := .slice (some ⟨gl, 0, none⟩) 10 10) (Or.inl ⟨by rfl, fun w' hSw => by go_simp⟩) hHeld ?_
      try simp only [zP, zQ, zS, zZ, zC]
      refine wt (i := 10) (oi := ⟨some 89, .move (.tmp 14), 3, "law.go:153", #[⟨8, .guard⟩], some (8, false)⟩) (v := .int .i64 (i : Int)) (Or.inl ⟨by rfl, fun w' hSw => by go_simp⟩) hHeld ?_
      try simp only [zP, zQ, zS, zZ, zC]
      refine wt (i := 11) (oi := ⟨some 90, .indexAddr 49 (.tmp 88) (.tmp 89), 0, "law.go:153", #[⟨9, .data⟩, ⟨10, .data⟩, ⟨8, .guard⟩], some (8, false)⟩) (v := .pointer (some ⟨gl, i, none⟩)) (Or.inl ⟨by rfl, fun w' hSw => by go_simp⟩) hHeld ?_
      try simp only [zP, zQ, zS, zZ, zC]
      refine wt (i := 12) (oi := ⟨some 91, .load 9 (.tmp 90), 9, "law.go:153", #[⟨11, .data⟩, ⟨8, .guard⟩], some (8, false)⟩) (v := .string t) (Or.inl ⟨by rfl, fun w' hSw => by have c9 := HC9.out w' hSw; go_simp⟩) hHeld ?_
      try simp only [zP, zQ, zS, zZ, zC]
      refine wt (i := 14) (oi := ⟨some 93, .move (.tmp 13), 49, "law.go:153", #[⟨8, .guard⟩], some (8, false)⟩) (v := .slice (some ⟨gl, 0, none⟩) 10 10) (Or.inl ⟨by rfl, fun w' hSw => by go_simp⟩) hHeld ?_
      try simp only [zP, zQ, zS, zZ, zC]
      refine wt (i := 15) (oi := ⟨some 94, .move (.tmp 14), 3, "law.go:153", #[⟨8, .guard⟩], some (8, false)⟩) (v := .int .i64 (i : Int)) (Or.inl ⟨by rfl, fun w' hSw => by go_simp⟩) hHeld ?_
      try simp only [zP, zQ, zS, zZ, zC]
      refine wt (i := 16) (oi := ⟨some 95, .indexAddr 49 (.tmp 93) (.tmp 94), 0, "law.go:153", #[⟨14, .data⟩, ⟨15, .data⟩, ⟨8, .guard⟩], some (8, false)⟩) (v := .pointer (some ⟨gl, i, none⟩)) (Or.inl ⟨by rfl, fun w' hSw => by go_simp⟩) hHeld ?_
      try simp only [zP, zQ, zS, zZ, zC]
      refine wt (i := 17) (oi := ⟨some 96, .load 9 (.tmp 95), 9, "law.go:153", #[⟨16, .data⟩, ⟨8, .guard⟩], some (8, false)⟩) (v := .string t) (Or.inl ⟨by rfl, fun w' hSw => by have c9 := HC9.out w' hSw; go_simp⟩) hHeld ?_
      try simp only [zP, zQ, zS, zZ, zC]
      refine wpAnyH_ready (rs := [13]) (by kernel_rfl) (by simp) ?_
      refine AllReadyH.cons (o := ⟨some 92, .call { callee := .value (.func 26), args := #[.tmp 91], argTypes := #[9] }, 26, "law.go:153", #[⟨12, .data⟩, ⟨8, .chain⟩, ⟨8, .guard⟩], some (8, false)⟩) rfl (fun K hK => ?_) AllReadyH.nil
      rw [if_pos (by rfl)]
      go_simp
      refine (CK.out _).mono ?_
      rintro en V1 ⟨rfl, hB9⟩
      dsimp only
      refine hK.out _ _ (link hHeld hB9) (fun hHeld => ?_)
      clear hK K
      try simp only [zP, zQ, zS, zZ, zC]
      clear hB9
      refine wpAnyH_ready (rs := [18]) (by kernel_rfl) (by simp) ?_
      refine AllReadyH.cons (o := ⟨some 97, .call { callee := .value (.func 27), args := #[.tmp 96], argTypes := #[9] }, 26, "law.go:153", #[⟨17, .data⟩, ⟨13, .chain⟩, ⟨8, .guard⟩], some (8, false)⟩) rfl (fun K hK => ?_) AllReadyH.nil
      rw [if_pos (by rfl)]
      go_simp
      refine (CRK.out _).mono ?_
      rintro en V2 ⟨rfl, hB9⟩
      dsimp only
      refine hK.out _ _ (link hHeld hB9) (fun hHeld => ?_)
      clear hK K
      try simp only [zP, zQ, zS, zZ, zC]
      clear hB9
      refine wt (i := 19) (oi := ⟨some 98, .binOp .neq 26 (.tmp 92) (.tmp 97) 26, 4, "law.go:153", #[⟨13, .data⟩, ⟨18, .data⟩, ⟨8, .guard⟩], some (8, false)⟩) (v := .bool false) (Or.inl ⟨by rfl, fun w' hSw => by go_simp⟩) hHeld ?_
      try simp only [zP, zQ, zS, zZ, zC]
      refine wt (i := 20) (oi := ⟨some 99, .pick (.tmp 87) (.const (Value.bool true)) (.tmp 98), 4, "law.go:153", #[⟨8, .data⟩, ⟨19, .data⟩], none⟩) (v := .bool false) (Or.inl ⟨by rfl, fun w' hSw => by go_simp⟩) hHeld ?_
      try simp only [zP, zQ, zS, zZ, zC]
      refine wt (i := 21) (oi := ⟨some 100, .move (.tmp 99), 4, "law.go:153", #[⟨20, .data⟩, ⟨18, .chain⟩], none⟩) (v := .bool false) (Or.inl ⟨by rfl, fun w' hSw => by go_simp⟩) hHeld ?_
      try simp only [zP, zQ, zS, zZ, zC]
      refine wt (i := 22) (oi := ⟨some 101, .move (.tmp 16), 26, "law.go:153", #[⟨21, .guard⟩], some (21, false)⟩) (v := .int .i64 0) (Or.inl ⟨by rfl, fun w' hSw => by go_simp⟩) hHeld ?_
      try simp only [zP, zQ, zS, zZ, zC]
      refine wt (i := 23) (oi := ⟨some 102, .binOp .eql 26 (.tmp 101) (.const (Value.int IntKind.i64 0)) 26, 4, "law.go:153", #[⟨22, .data⟩, ⟨21, .guard⟩], some (21, false)⟩) (v := .bool true) (Or.inl ⟨by rfl, fun w' hSw => by go_simp⟩) hHeld ?_
      try simp only [zP, zQ, zS, zZ, zC]
      refine wt (i := 24) (oi := ⟨some 103, .move (.tmp 102), 4, "law.go:153", #[⟨23, .data⟩, ⟨21, .chain⟩, ⟨21, .guard⟩], some (21, false)⟩) (v := .bool true) (Or.inl ⟨by rfl, fun w' hSw => by go_simp⟩) hHeld ?_
      try simp only [zP, zQ, zS, zZ, zC]
      refine wt (i := 25) (oi := ⟨some 104, .move (.tmp 15), 9, "law.go:153", #[⟨24, .guard⟩], some (24, true)⟩) (v := .string a) (Or.inl ⟨by rfl, fun w' hSw => by go_simp⟩) hHeld ?_
      try simp only [zP, zQ, zS, zZ, zC]
      refine wpAnyH_ready (rs := [26]) (by kernel_rfl) (by simp) ?_
      refine AllReadyH.cons (o := ⟨some 105, .call { callee := .value (.func 26), args := #[.tmp 104], argTypes := #[9] }, 26, "law.go:153", #[⟨25, .data⟩, ⟨24, .chain⟩, ⟨24, .guard⟩], some (24, true)⟩) rfl (fun K hK => ?_) AllReadyH.nil
      rw [if_pos (by rfl)]
      go_simp
      refine (CA.out _).mono ?_
      rintro en V3 ⟨rfl, hB9⟩
      dsimp only
      refine hK.out _ _ (link hHeld hB9) (fun hHeld => ?_)
      clear hK K
      try simp only [zP, zQ, zS, zZ, zC]
      clear hB9
      refine wt (i := 27) (oi := ⟨some 106, .binOp .neq 26 (.tmp 105) (.const (Value.int IntKind.i64 0)) 26, 4, "law.go:153", #[⟨26, .data⟩, ⟨24, .guard⟩], some (24, true)⟩) (v := .bool false) (Or.inl ⟨by rfl, fun w' hSw => by go_simp⟩) hHeld ?_
      try simp only [zP, zQ, zS, zZ, zC]
      refine wt (i := 28) (oi := ⟨some 107, .pick (.tmp 103) (.tmp 106) (.const (Value.bool false)), 4, "law.go:153", #[⟨24, .data⟩, ⟨27, .data⟩, ⟨21, .guard⟩], some (21, false)⟩) (v := .bool false) (Or.inl ⟨by rfl, fun w' hSw => by go_simp⟩) hHeld ?_
      try simp only [zP, zQ, zS, zZ, zC]
      refine wt (i := 29) (oi := ⟨some 108, .pick (.tmp 100) (.const (Value.bool true)) (.tmp 107), 4, "law.go:153", #[⟨21, .data⟩, ⟨28, .data⟩], none⟩) (v := .bool false) (Or.inl ⟨by rfl, fun w' hSw => by go_simp⟩) hHeld ?_
      try simp only [zP, zQ, zS, zZ, zC]
      refine wpAnyH_done (by kernel_rfl) ?_ _
      have B4 := hHeld
      clear hHeld 
      go_wp2
      exact ⟨⟨i + 1, by omega, by go_num, link hB3 B4⟩, by simp [intOf]; omega⟩
    · clear HAC CA'
      refine wp_region_held_drew (S := fun w' => Below w3.heap.size w3 w') (by kernel_rfl) (below_drew (Below.refl _ _)) (fun _ => ?_)
      have hHeld : Below w3.heap.size w3 w3.drew := below_drew (Below.refl _ _)
      generalize w3.drew = V0 at hHeld ⊢
      refine wt (i := 0) (oi := ⟨some 79, .move (.tmp 15), 9, "law.go:153", #[], none⟩) (v := .string a) (Or.inl ⟨by rfl, fun w' hSw => by go_simp⟩) hHeld ?_
      try simp only [zP, zQ, zS, zZ, zC]
      refine wt (i := 1) (oi := ⟨some 80, .move (.tmp 17), 9, "law.go:153", #[], none⟩) (v := .string a) (Or.inl ⟨by rfl, fun w' hSw => by go_simp⟩) hHeld ?_
      try simp only [zP, zQ, zS, zZ, zC]
      refine wt (i := 2) (oi := ⟨some 81, .binOp .neq 9 (.tmp 79) (.tmp 80) 9, 4, "law.go:153", #[⟨0, .data⟩, ⟨1, .data⟩], none⟩) (v := .bool false) (Or.inl ⟨by rfl, fun w' hSw => by go_simp⟩) hHeld ?_
      try simp only [zP, zQ, zS, zZ, zC]
      refine wt (i := 3) (oi := ⟨some 82, .move (.tmp 81), 4, "law.go:153", #[⟨2, .data⟩], none⟩) (v := .bool false) (Or.inl ⟨by rfl, fun w' hSw => by go_simp⟩) hHeld ?_
      try simp only [zP, zQ, zS, zZ, zC]
      refine wt (i := 4) (oi := ⟨some 83, .move (.tmp 16), 26, "law.go:153", #[⟨3, .guard⟩], some (3, false)⟩) (v := .int .i64 e) (Or.inl ⟨by rfl, fun w' hSw => by go_simp⟩) hHeld ?_
      try simp only [zP, zQ, zS, zZ, zC]
      refine wt (i := 5) (oi := ⟨some 84, .move (.tmp 18), 26, "law.go:153", #[⟨3, .guard⟩], some (3, false)⟩) (v := .int .i64 e) (Or.inl ⟨by rfl, fun w' hSw => by go_simp⟩) hHeld ?_
      try simp only [zP, zQ, zS, zZ, zC]
      refine wt (i := 6) (oi := ⟨some 85, .binOp .neq 26 (.tmp 83) (.tmp 84) 26, 4, "law.go:153", #[⟨4, .data⟩, ⟨5, .data⟩, ⟨3, .guard⟩], some (3, false)⟩) (v := .bool false) (Or.inl ⟨by rfl, fun w' hSw => by go_simp⟩) hHeld ?_
      try simp only [zP, zQ, zS, zZ, zC]
      refine wt (i := 7) (oi := ⟨some 86, .pick (.tmp 82) (.const (Value.bool true)) (.tmp 85), 4, "law.go:153", #[⟨3, .data⟩, ⟨6, .data⟩], none⟩) (v := .bool false) (Or.inl ⟨by rfl, fun w' hSw => by go_simp⟩) hHeld ?_
      try simp only [zP, zQ, zS, zZ, zC]
      refine wt (i := 8) (oi := ⟨some 87, .move (.tmp 86), 4, "law.go:153", #[⟨7, .data⟩, ⟨3, .chain⟩], none⟩) (v := .bool false) (Or.inl ⟨by rfl, fun w' hSw => by go_simp⟩) hHeld ?_
      try simp only [zP, zQ, zS, zZ, zC]
      refine wt (i := 9) (oi := ⟨some 88, .move (.tmp 13), 49, "law.go:153", #[⟨8, .guard⟩], some (8, false)⟩) (v := .slice (some ⟨gl, 0, none⟩) 10 10) (Or.inl ⟨by rfl, fun w' hSw => by go_simp⟩) hHeld ?_
      try simp only [zP, zQ, zS, zZ, zC]
      refine wt (i := 10) (oi := ⟨some 89, .move (.tmp 14), 3, "law.go:153", #[⟨8, .guard⟩], some (8, false)⟩) (v := .int .i64 (i : Int)) (Or.inl ⟨by rfl, fun w' hSw => by go_simp⟩) hHeld ?_
      try simp only [zP, zQ, zS, zZ, zC]
      refine wt (i := 11) (oi := ⟨some 90, .indexAddr 49 (.tmp 88) (.tmp 89), 0, "law.go:153", #[⟨9, .data⟩, ⟨10, .data⟩, ⟨8, .guard⟩], some (8, false)⟩) (v := .pointer (some ⟨gl, i, none⟩)) (Or.inl ⟨by rfl, fun w' hSw => by go_simp⟩) hHeld ?_
      try simp only [zP, zQ, zS, zZ, zC]
      refine wt (i := 12) (oi := ⟨some 91, .load 9 (.tmp 90), 9, "law.go:153", #[⟨11, .data⟩, ⟨8, .guard⟩], some (8, false)⟩) (v := .string t) (Or.inl ⟨by rfl, fun w' hSw => by have c9 := HC9.out w' hSw; go_simp⟩) hHeld ?_
      try simp only [zP, zQ, zS, zZ, zC]
      refine wt (i := 14) (oi := ⟨some 93, .move (.tmp 13), 49, "law.go:153", #[⟨8, .guard⟩], some (8, false)⟩) (v := .slice (some ⟨gl, 0, none⟩) 10 10) (Or.inl ⟨by rfl, fun w' hSw => by go_simp⟩) hHeld ?_
      try simp only [zP, zQ, zS, zZ, zC]
      refine wt (i := 15) (oi := ⟨some 94, .move (.tmp 14), 3, "law.go:153", #[⟨8, .guard⟩], some (8, false)⟩) (v := .int .i64 (i : Int)) (Or.inl ⟨by rfl, fun w' hSw => by go_simp⟩) hHeld ?_
      try simp only [zP, zQ, zS, zZ, zC]
      refine wt (i := 16) (oi := ⟨some 95, .indexAddr 49 (.tmp 93) (.tmp 94), 0, "law.go:153", #[⟨14, .data⟩, ⟨15, .data⟩, ⟨8, .guard⟩], some (8, false)⟩) (v := .pointer (some ⟨gl, i, none⟩)) (Or.inl ⟨by rfl, fun w' hSw => by go_simp⟩) hHeld ?_
      try simp only [zP, zQ, zS, zZ, zC]
      refine wt (i := 17) (oi := ⟨some 96, .load 9 (.tmp 95), 9, "law.go:153", #[⟨16, .data⟩, ⟨8, .guard⟩], some (8, false)⟩) (v := .string t) (Or.inl ⟨by rfl, fun w' hSw => by have c9 := HC9.out w' hSw; go_simp⟩) hHeld ?_
      try simp only [zP, zQ, zS, zZ, zC]
      refine wpAnyH_ready (rs := [13]) (by kernel_rfl) (by simp) ?_
      refine AllReadyH.cons (o := ⟨some 92, .call { callee := .value (.func 26), args := #[.tmp 91], argTypes := #[9] }, 26, "law.go:153", #[⟨12, .data⟩, ⟨8, .chain⟩, ⟨8, .guard⟩], some (8, false)⟩) rfl (fun K hK => ?_) AllReadyH.nil
      rw [if_pos (by rfl)]
      go_simp
      refine (CK.out _).mono ?_
      rintro en V1 ⟨rfl, hB9⟩
      dsimp only
      refine hK.out _ _ (link hHeld hB9) (fun hHeld => ?_)
      clear hK K
      try simp only [zP, zQ, zS, zZ, zC]
      clear hB9
      refine wpAnyH_ready (rs := [18]) (by kernel_rfl) (by simp) ?_
      refine AllReadyH.cons (o := ⟨some 97, .call { callee := .value (.func 27), args := #[.tmp 96], argTypes := #[9] }, 26, "law.go:153", #[⟨17, .data⟩, ⟨13, .chain⟩, ⟨8, .guard⟩], some (8, false)⟩) rfl (fun K hK => ?_) AllReadyH.nil
      rw [if_pos (by rfl)]
      go_simp
      refine (CRK.out _).mono ?_
      rintro en V2 ⟨rfl, hB9⟩
      dsimp only
      refine hK.out _ _ (link hHeld hB9) (fun hHeld => ?_)
      clear hK K
      try simp only [zP, zQ, zS, zZ, zC]
      clear hB9
      refine wt (i := 19) (oi := ⟨some 98, .binOp .neq 26 (.tmp 92) (.tmp 97) 26, 4, "law.go:153", #[⟨13, .data⟩, ⟨18, .data⟩, ⟨8, .guard⟩], some (8, false)⟩) (v := .bool false) (Or.inl ⟨by rfl, fun w' hSw => by go_simp⟩) hHeld ?_
      try simp only [zP, zQ, zS, zZ, zC]
      refine wt (i := 20) (oi := ⟨some 99, .pick (.tmp 87) (.const (Value.bool true)) (.tmp 98), 4, "law.go:153", #[⟨8, .data⟩, ⟨19, .data⟩], none⟩) (v := .bool false) (Or.inl ⟨by rfl, fun w' hSw => by go_simp⟩) hHeld ?_
      try simp only [zP, zQ, zS, zZ, zC]
      refine wt (i := 21) (oi := ⟨some 100, .move (.tmp 99), 4, "law.go:153", #[⟨20, .data⟩, ⟨18, .chain⟩], none⟩) (v := .bool false) (Or.inl ⟨by rfl, fun w' hSw => by go_simp⟩) hHeld ?_
      try simp only [zP, zQ, zS, zZ, zC]
      refine wt (i := 22) (oi := ⟨some 101, .move (.tmp 16), 26, "law.go:153", #[⟨21, .guard⟩], some (21, false)⟩) (v := .int .i64 e) (Or.inl ⟨by rfl, fun w' hSw => by go_simp⟩) hHeld ?_
      try simp only [zP, zQ, zS, zZ, zC]
      refine wt (i := 23) (oi := ⟨some 102, .binOp .eql 26 (.tmp 101) (.const (Value.int IntKind.i64 0)) 26, 4, "law.go:153", #[⟨22, .data⟩, ⟨21, .guard⟩], some (21, false)⟩) (v := .bool false) (Or.inl ⟨by rfl, fun w' hSw => by go_simp⟩) hHeld ?_
      try simp only [zP, zQ, zS, zZ, zC]
      refine wt (i := 24) (oi := ⟨some 103, .move (.tmp 102), 4, "law.go:153", #[⟨23, .data⟩, ⟨21, .chain⟩, ⟨21, .guard⟩], some (21, false)⟩) (v := .bool false) (Or.inl ⟨by rfl, fun w' hSw => by go_simp⟩) hHeld ?_
      try simp only [zP, zQ, zS, zZ, zC]
      refine wt (i := 25) (oi := ⟨some 104, .move (.tmp 15), 9, "law.go:153", #[⟨24, .guard⟩], some (24, true)⟩) (v := undef) (Or.inr ⟨by rfl, rfl⟩) hHeld ?_
      try simp only [zP, zQ, zS, zZ, zC]
      refine wt (i := 26) (oi := ⟨some 105, .call { callee := .value (.func 26), args := #[.tmp 104], argTypes := #[9] }, 26, "law.go:153", #[⟨25, .data⟩, ⟨24, .chain⟩, ⟨24, .guard⟩], some (24, true)⟩) (v := undef) (Or.inr ⟨by rfl, rfl⟩) hHeld ?_
      try simp only [zP, zQ, zS, zZ, zC]
      refine wt (i := 27) (oi := ⟨some 106, .binOp .neq 26 (.tmp 105) (.const (Value.int IntKind.i64 0)) 26, 4, "law.go:153", #[⟨26, .data⟩, ⟨24, .guard⟩], some (24, true)⟩) (v := undef) (Or.inr ⟨by rfl, rfl⟩) hHeld ?_
      try simp only [zP, zQ, zS, zZ, zC]
      refine wt (i := 28) (oi := ⟨some 107, .pick (.tmp 103) (.tmp 106) (.const (Value.bool false)), 4, "law.go:153", #[⟨24, .data⟩, ⟨27, .data⟩, ⟨21, .guard⟩], some (21, false)⟩) (v := .bool false) (Or.inl ⟨by rfl, fun w' hSw => by go_simp⟩) hHeld ?_
      try simp only [zP, zQ, zS, zZ, zC]
      refine wt (i := 29) (oi := ⟨some 108, .pick (.tmp 100) (.const (Value.bool true)) (.tmp 107), 4, "law.go:153", #[⟨21, .data⟩, ⟨28, .data⟩], none⟩) (v := .bool false) (Or.inl ⟨by rfl, fun w' hSw => by go_simp⟩) hHeld ?_
      try simp only [zP, zQ, zS, zZ, zC]
      refine wpAnyH_done (by kernel_rfl) ?_ _
      have B4 := hHeld
      clear hHeld 
      go_wp2
      exact ⟨⟨i + 1, by omega, by go_num, link hB3 B4⟩, by simp [intOf]; omega⟩
  · obtain rfl : i = 10 := by omega
    go_wp2_with (go_at_call 16; refine (CL.out _).mono ?_; rintro _ w9 ⟨rfl, B9⟩)
    go_ret
    exact ⟨rfl, link BA.out (link hB B9)⟩
end Go.Proofs.Ytjpiidfoegaenaa
