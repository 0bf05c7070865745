/-
  The law's proof; proofs in general. Conditions: as each theorem states them; no axiom beyond propext, Classical.choice, Quot.sound.
-/
import Derived.Test.YtfhfmdnimebegaaDoorEw
import Derived.Test.YtfhfmdnimebegaaDoorEMug
import Derived.Test.YtfhfmdnimebegaaDoorEa

/-
  The law's proof: a proof of the reference as the package's; proofs in general.
-/
namespace Go.Proofs.YtfhfmdnimebegaaDoor
open Go.RowKit
set_option linter.unusedVariables false
set_option linter.unusedSimpArgs false

set_option maxHeartbeats 4000000 in
set_option maxRecDepth 100000 in
theorem lproof_any (F S : Int) (lf : List Lf) (sd : List (List Nat)) (q : Option Addr) (n c : Nat) (sa : Option Addr) (k sc : Nat) (hn : lf.length = n) (hn6 : n ≤ 1000000) (w : World) (hL : OwnL w q lf) (hS : SdV w w.heap.size (.slice sa k sc) sd) :
    Calls Tryd.prog 29 #[.agg #[.int .i64 F, .int .i64 S, .slice q n c, .slice sa k sc]] w fun e w' => ∃ p1 c1, e = .returned (.agg #[.int .i64 F, .int .i64 S, .slice p1 n c1, .slice sa k sc]) ∧ n ≤ c1 ∧ (n = 0 → p1 = none ∧ c1 = 0) ∧ OwnL w' p1 lf ∧ SdV w' w'.heap.size (.slice sa k sc) sd ∧ Below w.heap.size w w' := by
  have HP := Lib.hid (fun (V : World) (hB : Below w.heap.size w V) => own_any lf q n c hn (by omega) V (hL.keep hB))
  have HS := Lib.hid (fun (V : World) (hB : Below w.heap.size w V) => (hS.self hB : SdV V V.heap.size (.slice sa k sc) sd))
  have HN := Lib.hid hn
  clear hn hL hS
  go_enter Tryd.func29, Tryd.ntmps29
  go_upto_region 1 with (fail)
  generalize hw1 : World.alloc _ _ = W0
  have Kr : Blk W0 (w.heap.size + 1) 50 zeroPrf := hw1 ▸ blk_new1 w _ _ _
  have Ka : Blk W0 w.heap.size 54 [.int .i64 F, .int .i64 S, .slice q n c, .slice sa k sc] := hw1 ▸ ((blk_new w _ _).alloc _)
  have KB : Below w.heap.size w W0 := hw1 ▸ (((Below.refl _ _).alloc (Nat.le_refl _) _).alloc (by simp) _)
  clear hw1
  refine wp_region_held_drew (S := fun w' => Below (w.heap.size + 1) W0.drew w') (by kernel_rfl) (Below.refl _ _) (fun _ => ?_)
  have hHeld : Below (w.heap.size + 1) W0.drew W0.drew := Below.refl _ _
  replace KB := below_drew KB
  replace Ka := Ka.drew
  replace Kr := Kr.drew
  generalize W0.drew = V0 at hHeld KB Ka Kr ⊢
  have C0 : ∀ w', Below (w.heap.size + 1) V0 w' → w'.cell? ⟨w.heap.size, 0, none⟩ = some (.int .i64 F) := fun w' h => (h.cell (Nat.lt_succ_self _)).trans (Ka.cell (j := 0) rfl)
  have C1 : ∀ w', Below (w.heap.size + 1) V0 w' → w'.cell? ⟨w.heap.size, 1, none⟩ = some (.int .i64 S) := fun w' h => (h.cell (Nat.lt_succ_self _)).trans (Ka.cell (j := 1) rfl)
  have C2 : ∀ w', Below (w.heap.size + 1) V0 w' → w'.cell? ⟨w.heap.size, 2, none⟩ = some (.slice q n c) := fun w' h => (h.cell (Nat.lt_succ_self _)).trans (Ka.cell (j := 2) rfl)
  have C3 : ∀ w', Below (w.heap.size + 1) V0 w' → w'.cell? ⟨w.heap.size, 3, none⟩ = some (.slice sa k sc) := fun w' h => (h.cell (Nat.lt_succ_self _)).trans (Ka.cell (j := 3) rfl)
  refine wt (i := 0) (oi := ⟨some 3, .fieldAddr 54 (.tmp 1) 0, 0, "law.go:60", #[], none⟩) (v := .pointer (some ⟨w.heap.size, 0, none⟩)) (Or.inl ⟨by rfl, fun w' hSw => by go_simp⟩) hHeld ?_
  try simp only [zP, zQ, zS, zZ, zC]
  refine wt (i := 1) (oi := ⟨some 4, .load 3 (.tmp 3), 3, "law.go:60", #[⟨0, .data⟩], none⟩) (v := .int .i64 F) (Or.inl ⟨by rfl, fun w' hSw => by have hc := C0 w' hSw; go_simp⟩) hHeld ?_
  try simp only [zP, zQ, zS, zZ, zC]
  refine wt (i := 2) (oi := ⟨some 5, .fieldAddr 54 (.tmp 1) 1, 0, "law.go:60", #[], none⟩) (v := .pointer (some ⟨w.heap.size, 1, none⟩)) (Or.inl ⟨by rfl, fun w' hSw => by go_simp⟩) hHeld ?_
  try simp only [zP, zQ, zS, zZ, zC]
  refine wt (i := 3) (oi := ⟨some 6, .load 3 (.tmp 5), 3, "law.go:60", #[⟨2, .data⟩], none⟩) (v := .int .i64 S) (Or.inl ⟨by rfl, fun w' hSw => by have hc := C1 w' hSw; go_simp⟩) hHeld ?_
  try simp only [zP, zQ, zS, zZ, zC]
  refine wt (i := 4) (oi := ⟨some 7, .fieldAddr 54 (.tmp 1) 2, 0, "law.go:60", #[], none⟩) (v := .pointer (some ⟨w.heap.size, 2, none⟩)) (Or.inl ⟨by rfl, fun w' hSw => by go_simp⟩) hHeld ?_
  try simp only [zP, zQ, zS, zZ, zC]
  refine wt (i := 5) (oi := ⟨some 8, .load 24 (.tmp 7), 24, "law.go:60", #[⟨4, .data⟩], none⟩) (v := .slice q n c) (Or.inl ⟨by rfl, fun w' hSw => by have hc := C2 w' hSw; go_simp⟩) hHeld ?_
  try simp only [zP, zQ, zS, zZ, zC]
  refine wt (i := 7) (oi := ⟨some 10, .fieldAddr 54 (.tmp 1) 3, 0, "law.go:60", #[], none⟩) (v := .pointer (some ⟨w.heap.size, 3, none⟩)) (Or.inl ⟨by rfl, fun w' hSw => by go_simp⟩) hHeld ?_
  try simp only [zP, zQ, zS, zZ, zC]
  refine wt (i := 8) (oi := ⟨some 11, .load 48 (.tmp 10), 48, "law.go:60", #[⟨7, .data⟩], none⟩) (v := .slice sa k sc) (Or.inl ⟨by rfl, fun w' hSw => by have hc := C3 w' hSw; go_simp⟩) hHeld ?_
  try simp only [zP, zQ, zS, zZ, zC]
  refine wpAnyH_ready (rs := [6]) (by kernel_rfl) (by simp) ?_
  refine AllReadyH.cons (o := ⟨some 9, .call { callee := .value (.func 12), args := #[.tmp 8], argTypes := #[24] }, 33, "law.go:60", #[⟨5, .data⟩], none⟩) rfl (fun K hK => ?_) AllReadyH.nil
  rw [if_pos (by rfl)]
  go_simp
  refine (HP.out V0 KB).mono ?_
  rintro en V1 ⟨v1, rfl, hO1, hz1, hB1⟩
  obtain ⟨⟨p1, c1, e1, hc1, hL1⟩, _, _⟩ := ML_lvs hO1
  rw [HN.out] at e1 hc1
  subst e1
  dsimp only
  have H1 : Below (w.heap.size + 1) V0 V1 := hB1.mono (by have := Kr.lt; omega)
  have Kr1 := Kr.keep hB1
  refine hK.out _ _ (hHeld.trans H1) (fun hHeld => ?_)
  clear hK K
  try simp only [zP, zQ, zS, zZ, zC]
  refine wt (i := 9) (oi := ⟨some 12, .build 50 #[(0, .tmp 4), (1, .tmp 6), (2, .tmp 9), (3, .tmp 11)], 50, "law.go:60", #[⟨1, .data⟩, ⟨3, .data⟩, ⟨6, .data⟩, ⟨8, .data⟩], none⟩) (v := .agg #[.int .i64 F, .int .i64 S, .slice p1 n c1, .slice sa k sc]) (Or.inl ⟨by rfl, fun w' hSw => by go_simp⟩) hHeld ?_
  try simp only [zP, zQ, zS, zZ, zC]
  refine wpAnyH_ready (rs := [10]) (by kernel_rfl) (by simp) ?_
  refine AllReadyH.cons (o := ⟨none, .store 50 (.tmp 2) (.tmp 12), 0, "law.go:60", #[⟨9, .data⟩, ⟨6, .chain⟩, ⟨0, .phase⟩, ⟨1, .phase⟩, ⟨2, .phase⟩, ⟨3, .phase⟩, ⟨4, .phase⟩, ⟨5, .phase⟩, ⟨6, .phase⟩, ⟨7, .phase⟩, ⟨8, .phase⟩, ⟨9, .phase⟩], none⟩) rfl (fun K hK => ?_) AllReadyH.nil
  rw [if_pos (by rfl)]
  refine wp_store_mid 50 (.tmp 2) (.tmp 12) rfl (w.heap.size + 1) 0 #[.int .i64 F, .int .i64 S, .slice p1 n c1, .slice sa k sc] rfl rfl (by simpa using Kr1.there 0 4 (by simp)) (by kernel_rfl) (all_oneCell_toArray (by intro v hv; simp at hv; rcases hv with rfl | rfl | rfl | rfl <;> rfl)) ?_
  have O := only_sets (w.heap.size + 1) 0 V1 [.int .i64 F, .int .i64 S, .slice p1 n c1, .slice sa k sc]
  have Kq : Blk (V1.setCells (w.heap.size + 1) 0 [.int .i64 F, .int .i64 S, .slice p1 n c1, .slice sa k sc]) (w.heap.size + 1) 50 [.int .i64 F, .int .i64 S, .slice p1 n c1, .slice sa k sc] := Kr1.all rfl
  have H3 := O.2.2 _ _ (Nat.le_refl _) hHeld
  have B3 := O.2.2 _ _ (Nat.le_succ w.heap.size) (link KB hB1)
  have X := Oth.setCells Kr1 0 [.int .i64 F, .int .i64 S, .slice p1 n c1, .slice sa k sc]
  have O3 := X.row hO1 (by decide)
  dsimp only
  generalize World.setCells V1 (w.heap.size + 1) 0 [.int .i64 F, .int .i64 S, .slice p1 n c1, .slice sa k sc] = V3 at Kq H3 B3 O3 ⊢
  refine hK.out _ _ (H3) (fun hHeld => ?_)
  clear hK K
  try simp only [zP, zQ, zS, zZ, zC]
  refine wpAnyH_done (by kernel_rfl) ?_ _
  clear hHeld
  go_wp2
  have hL3 := (ML_lvs O3).1
  obtain ⟨p3, c3, e3, _, hL4⟩ := hL3
  injection e3 with e3 _ _
  subst e3
  exact bodyPost_ret (v := .agg #[.int .i64 F, .int .i64 S, .slice p1 n c1, .slice sa k sc]) (Kq.resultS (p := 2) (ty := 50) rfl _ rfl Tryd.underlying50 (by kernel_rfl)) rfl ⟨p1, c1, rfl, hc1, fun h0 => (by have e := hz1 (List.eq_nil_of_length_eq_zero (by rw [HN.out]; exact h0)); injection e with e4 _ e5; exact ⟨e4, e5⟩), hL4, HS.out V3 B3, B3⟩

/-- Some proof: few leaves and sides, no long strings. -/
def PK (w : World) (N a : Nat) (v : Value) : Prop := ∃ F S lf sd, PI w F S lf sd v ∧ Sz N lf ∧ lf.length ≤ a ∧ sd.length ≤ a ∧ Dgts sd
theorem PK.keep {w w' : World} {N a : Nat} {v : Value} (h : PK w N a v) (hB : Below w.heap.size w w') : PK w' N a v := by
  obtain ⟨F, S, lf, sd, h1, h2⟩ := h
  exact ⟨F, S, lf, sd, h1.keep hB, h2⟩
theorem PK.mono {w : World} {N a N' a' : Nat} {v : Value} (h : PK w N a v) (hN : N ≤ N') (ha : a ≤ a') : PK w N' a' v := by
  obtain ⟨F, S, lf, sd, h1, h2, h3, h4, h5⟩ := h
  exact ⟨F, S, lf, sd, h1, h2.mono hN, by omega, by omega, h5⟩
theorem PK.nil (w : World) (N a : Nat) : PK w N a (.agg zeroPrf.toArray) := ⟨0, 0, [], [], PI.nil w, fun x hx => by simp at hx, Nat.zero_le _, Nat.zero_le _, fun x hx => by simp at hx⟩
theorem PK.four {w : World} {N a : Nat} {v : Value} (h : PK w N a v) : ∃ x0 x1 x2 x3 : Value, v = .agg #[x0, x1, x2, x3] ∧ ∀ v ∈ [x0, x1, x2, x3], v.oneCell' = true := by
  obtain ⟨F, S, lf, sd, ⟨q, c, sa, sc, rfl, _⟩, _⟩ := h
  refine ⟨_, _, _, _, rfl, ?_⟩
  intro v hv
  simp at hv
  rcases hv with rfl | rfl | rfl | rfl <;> rfl
def GivesK (w : World) (N a : Nat) (e : Ending) (w' : World) : Prop := ∃ v, e = .returned v ∧ PK w' N a v ∧ Below w.heap.size w w'
def GivesE (w : World) (N a : Nat) (e : Ending) (w' : World) : Prop := ∃ v z, e = .returned (.tuple #[v, .int .i64 z]) ∧ PK w' N a v ∧ Below w.heap.size w w'
theorem bent_at (N a : Nat) (hN2 : 2 ≤ N) (hN : N ≤ 900000) (ha : a ≤ 900) (how by_ : Int) (hh1 : -9223372036854775808 ≤ how) (hh2 : how ≤ 9223372036854775807) (hb1 : -9223372036854775808 ≤ by_) (hb2 : by_ ≤ 9223372036854775807) (v : Value) (w : World) (h : PK w N a v) :
    Calls Tryd.prog 27 #[v, .int .i64 how, .int .i64 by_] w (GivesK w (N + 1) (a + 1)) := by
  obtain ⟨F, S, lf, sd, h1, h2, h3, h4, h5⟩ := h
  refine (rbent_any F S lf sd N hN2 (by omega) h2 (by omega) h5 (by omega) how by_ hh1 hh2 hb1 hb2 v w h1).mono ?_
  rintro e w' ⟨v', F', S', lf', sd', rfl, g1, g2, g3, g4, g5, hB⟩
  exact ⟨v', rfl, ⟨F', S', lf', sd', g1, g2, by omega, by omega, g5⟩, hB⟩
theorem sz_fit {ls : List Lf} (h : ls.all fits = true) : Sz 65536 ls := by
  intro x hx
  have := List.all_eq_true.1 h x hx
  simp [fits] at this
  exact this
theorem sz_sub {N : Nat} {ls : List Lf} (h : Sz N ls) (a b : Nat) : Sz N ((ls.drop a).take b) := fun x hx => h x (List.mem_of_mem_drop (List.mem_of_mem_take hx))
theorem sz_rng {N : Nat} {ls : List Lf} (h : Sz N ls) (r : Nat × Nat) : Sz N (rngA ls r).2.2.1 := sz_sub h _ _
theorem sz_no (N : Nat) (E : Int) : Sz N (noA E).2.2.1 := fun x hx => by simp [noA] at hx
theorem sz_prove {N : Nat} {ls : List Lf} (h : Sz N ls) (key : ByteArray) : Sz N (proveA ls key).2.2.1 := by
  unfold proveA
  split
  · exact sz_rng h _
  · exact sz_no _ _
theorem sz_range {N : Nat} {ls : List Lf} (h : Sz N ls) (low hik : ByteArray) : Sz N (rangeA ls low hik).2.2.1 := by
  unfold rangeA
  split
  · split
    · exact sz_no _ _
    · exact sz_rng h _
  · exact sz_no _ _
theorem GivesR.pk {w w' : World} {A : Ans} {N : Nat} {e : Ending} (h : GivesR w A e w') (hf : FewA A) (hz : Sz N A.2.2.1) : GivesE w N 11 e w' := by
  obtain ⟨v, rfl, hP, hB⟩ := h
  exact ⟨v, _, rfl, ⟨_, _, _, _, RPrf.pi hP, hz, hf.1, hf.2.1, hf.2.2⟩, hB⟩
theorem prove_pk (ls : List Lf) (N : Nat) (hz : Sz N ls) (p : Option Addr) (n c : Nat) (h : ls.length = n) (h11 : n ≤ 11) (hc : n ≤ c) (hq : n = 0 → p = none ∧ c = 0) (key : ByteArray) (w : World) (hG : GlobR w) (hL : OwnL w p ls) :
    Calls Tryd.prog 22 #[.slice p n c, .string key] w (GivesE w N 11) :=
  (rprove_all ls p n c h hc hq key w hG hL).mono (fun _ _ hg => GivesR.pk hg (few_prove ls (by omega) key) (sz_prove hz key))
theorem range_pk (ls : List Lf) (N : Nat) (hz : Sz N ls) (p : Option Addr) (n c : Nat) (h : ls.length = n) (h11 : n ≤ 11) (hc : n ≤ c) (hq : n = 0 → p = none ∧ c = 0) (low hik : ByteArray) (w : World) (hG : GlobR w) (hL : OwnL w p ls) :
    Calls Tryd.prog 24 #[.slice p n c, .string low, .string hik] w (GivesE w N 11) :=
  (rrange_all ls p n c h hc hq low hik w hG hL).mono (fun _ _ hg => GivesR.pk hg (few_range ls (by omega) low hik) (sz_range hz low hik))

end Go.Proofs.YtfhfmdnimebegaaDoor
