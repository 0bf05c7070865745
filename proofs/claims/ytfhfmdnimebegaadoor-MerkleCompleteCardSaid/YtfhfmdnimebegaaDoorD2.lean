/-
  Prove and Range. Conditions: as each theorem states them; no axiom beyond propext, Classical.choice, Quot.sound.
-/
import Derived.Test.YtfhfmdnimebegaaDoorD0

/-
  merkle.proof: the leaves of a range, and the digests beside them.
-/
namespace Go.Proofs.YtfhfmdnimebegaaDoor
open Go.RowKit
set_option linter.unusedVariables false
set_option linter.unusedSimpArgs false

theorem heap_sets (b : Nat) : ∀ (vs : List Value) (w : World) (o j : Nat), j ≠ b → (w.setCells b o vs).heap[j]? = w.heap[j]?
  | [], w, o, j, h => rfl
  | v :: vs, w, o, j, h => by rw [World.setCells, heap_sets b vs _ _ j h, heap_setCell_other w ⟨b, o, none⟩ j v h]
theorem Lvs.heap {w w' : World} {b off : Nat} {ls : List Lf} (h : Lvs w b off ls) (hh : w'.heap[b]? = w.heap[b]?) (hs : w.heap.size ≤ w'.heap.size) : Lvs w' b off ls :=
  ⟨Nat.lt_of_lt_of_le h.1 hs, fun i x hx => ⟨(World.cell?_of_block (w := w) hh).trans (h.2 i x hx).1, (World.cell?_of_block (w := w) hh).trans (h.2 i x hx).2⟩⟩
theorem OwnD.heap {w w' : World} {B B' : Nat} {v : Value} {l : List (List Nat)} (h : OwnD w B v l) (hh : ∀ j, B ≤ j → w'.heap[j]? = w.heap[j]?) (hB : B' ≤ B) : OwnD w' B' v l := by
  refine ⟨h.1, ?_⟩
  rcases h.2 with h0 | ⟨g, cap, cur, hv, hg, hx, rest⟩
  · exact .inl h0
  · exact .inr ⟨g, cap, cur, hv, Nat.le_trans hB hg, (hh g hg).trans hx, rest⟩
theorem one_own {w : World} {B : Nat} {v : Value} {l : List (List Nat)} (h : OwnD w B v l) : v.oneCell' = true := by
  rcases h.2 with ⟨rfl, _⟩ | ⟨g, cap, cur, rfl, _⟩ <;> rfl
theorem blk_at {w1 : World} {b : Nat} (h : w1.heap.size = b) (t : TypeId) (cs : Array Value) : Blk (w1.alloc (.cells cs t)) b t cs.toList := h ▸ blk_new w1 t cs
/-- A proof's leaves and digests, where they lie. -/
def PrfV (w : World) (B : Nat) (F n : Nat) (lf : List Lf) (sd : List (List Nat)) (v : Value) : Prop :=
  ∃ q c sv, v = .agg #[.int .i64 (F : Int), .int .i64 (n : Int), .slice q lf.length c, sv] ∧ OwnL w q lf ∧ lf.length ≤ c ∧ (∀ b off i, q = some ⟨b, off, i⟩ → B ≤ b) ∧ (lf = [] → q = none ∧ c = 0) ∧ OwnD w B sv sd

set_option maxHeartbeats 4000000 in
set_option maxRecDepth 100000 in
theorem proof_many (ls : List Lf) (b off n c F e : Nat) (hl : ls.length = n) (hn : n ≤ 4096) (hn0 : 0 < n) (hc : n ≤ c) (hFe : F < e) (hen : e ≤ n) (hS : Small ls) (w : World) (hG : Glob w) (hL : Lvs w b off ls) :
    Calls Tryd.prog 46 #[.slice (some ⟨b, off, none⟩) n c, .int .i64 (F : Int), .int .i64 (e : Int)] w
      fun en w' => ∃ v, en = .returned v ∧ PrfV w' w.heap.size F n ((ls.drop F).take (e - F)) (sidesM ls F e 0 n) v ∧ Below w.heap.size w w' := by
  have hmf : ∀ (fn : Fn) (first cap : Array Value) (w : World), (Instr.makeFunc fn first cap).run Tryd.prog w = .ok (.func fn first cap) w := fun _ _ _ _ => rfl
  have hpl : ((ls.drop F).take (e - F)).length = e - F := by rw [List.length_take, List.length_drop]; omega
  have hbw : b < w.heap.size := hL.1
  have HC := Lib.hid (fun (V : World) (hB : Below w.heap.size w V) => clone_any ((ls.drop F).take (e - F)) b (off + 2 * F) (e - F) (c - F) hpl (by omega) V (((hL.keep hB).drop F).take (e - F)))
  have HA := Lib.hid (fun (wI : World) (B fb eb pb lb cb : Nat) (lv : Value) (hE : CE wI fb eb pb lb cb F e b off n c) (h1 : fb < B ∧ fb ≠ pb) (h2 : eb < B ∧ eb ≠ pb) (h3 : lb < B ∧ lb ≠ pb) (h4 : cb < B ∧ cb ≠ pb) (hpb : pb < B) (hBI : B ≤ wI.heap.size) (hK : Below w.heap.size w wI) (hwp : w.heap.size ≤ pb) (hwB : w.heap.size ≤ B) (hP : CP wI B pb F n lv []) =>
    (show Calls Tryd.prog 66 #[.int .i64 0, .int .i64 (n : Int), .pointer (some ⟨fb, 0, none⟩), .pointer (some ⟨eb, 0, none⟩), .pointer (some ⟨pb, 0, none⟩), .pointer (some ⟨lb, 0, none⟩), .pointer (some ⟨cb, 0, none⟩)] wI fun en w' => en = .returned (.tuple #[]) ∧ Stays wI w' B pb ∧ CP w' B pb F n lv ([] ++ sidesM ls F e 0 n) from collect_any ls wI B fb eb pb lb cb F e b off n c F n lv (fun w' hs => hE.stays hs h1 h2 h3 h4) h3 h4 hpb hBI (fun w' hs => ⟨hG.keep (hs.lower hK hwp hwB), hL.keep (hs.lower hK hwp hwB)⟩) hS hl hn hc n 0 n rfl hn0 (Nat.le_refl _) wI [] (by simp; omega) (Stays.refl _ _ _) hP))
  generalize hPA : (ls.drop F).take (e - F) = part at hpl HC ⊢
  generalize sidesM ls F e 0 n = SD at HA ⊢
  clear hPA hL hG hS hl
  go_enter Tryd.func46, Tryd.ntmps46
  go_upto_region 1 with (fail)
  generalize hw1 : World.alloc _ _ = W0
  have Kl : Blk W0 w.heap.size 33 [.slice (some ⟨b, off, none⟩) n c] := hw1 ▸ (((blk_new w _ _).alloc _).alloc _).alloc _
  have Kf : Blk W0 (w.heap.size + 1) 3 [.int .i64 (F : Int)] := hw1 ▸ ((blk_at (by simp) _ _).alloc _).alloc _
  have Ke : Blk W0 (w.heap.size + 1 + 1) 3 [.int .i64 (e : Int)] := hw1 ▸ (blk_at (by simp) _ _).alloc _
  have Kr : Blk W0 (w.heap.size + 1 + 1 + 1) 50 [.int .i64 0, .int .i64 0, .slice none 0 0, .slice none 0 0] := hw1 ▸ blk_at (by simp) _ _
  have KB : Below w.heap.size w W0 := hw1 ▸ ((((Below.refl _ _).alloc (Nat.le_refl _) _).alloc (by simp) _).alloc (by simp; omega) _).alloc (by simp; omega) _
  clear hw1
  have hF64 : (0 : Int) ≤ (F : Int) := by omega
  have hlt0 := Kr.lt
  obtain ⟨fb, hfb⟩ : ∃ fb, w.heap.size + 1 = fb := ⟨_, rfl⟩
  rw [hfb] at Kf Ke Kr hlt0 ⊢
  obtain ⟨eb, heb⟩ : ∃ eb, fb + 1 = eb := ⟨_, rfl⟩
  rw [heb] at Ke Kr hlt0 ⊢
  obtain ⟨rb, hrb⟩ : ∃ rb, eb + 1 = rb := ⟨_, rfl⟩
  rw [hrb] at Kr hlt0 ⊢
  obtain ⟨lb, hlb⟩ : ∃ lb, w.heap.size = lb := ⟨_, rfl⟩
  rw [hlb] at HC HA KB hbw ⊢
  rw [hlb] at Kl hfb
  have hHeld : True := trivial
  refine wp_region_held_drew (S := fun w' => Below W0.drew.heap.size W0.drew w') (by kernel_rfl) (Below.refl _ _) (fun _ => ?_)
  have hHeld : Below W0.drew.heap.size W0.drew W0.drew := Below.refl _ _
  have C0 : ∀ w', Below W0.drew.heap.size W0.drew w' → w'.cell? ⟨fb, 0, none⟩ = some (.int .i64 (F : Int)) := fun w' h => (h.cell Kf.lt).trans (Kf.cell (j := 0) rfl)
  have C1 : ∀ w', Below W0.drew.heap.size W0.drew w' → w'.cell? ⟨lb, 0, none⟩ = some (.slice (some ⟨b, off, none⟩) n c) := fun w' h => (h.cell Kl.lt).trans (Kl.cell (j := 0) rfl)
  have C2 : ∀ w', Below W0.drew.heap.size W0.drew w' → w'.cell? ⟨eb, 0, none⟩ = some (.int .i64 (e : Int)) := fun w' h => (h.cell Ke.lt).trans (Ke.cell (j := 0) rfl)
  replace KB : Below lb w W0.drew := below_drew KB
  replace Kl := Kl.drew
  replace Kf := Kf.drew
  replace Ke := Ke.drew
  replace Kr := Kr.drew
  replace hlt0 : rb < W0.drew.heap.size := hlt0
  generalize W0.drew = V0 at Kl Kf Ke Kr KB C0 C1 C2 hHeld hlt0 ⊢
  refine wpAnyH_take (i := 0) (oi := ⟨some 9, .load 3 (.tmp 4), 3, "merkle.go:85", #[], none⟩) (v := .int .i64 (F : Int)) rfl (by kernel_rfl) (by kernel_rfl) (by kernel_rfl) (fun _ _ _ h => h) (Or.inl ⟨by rfl, fun w' hSw => by have hc := C0 w' hSw; go_simp⟩) hHeld ?_
  try simp only [Act.put, List.setIfInBounds_toArray, List.set_cons_zero, List.set_cons_succ]
  refine wpAnyH_take (i := 1) (oi := ⟨some 10, .load 33 (.tmp 3), 33, "merkle.go:85", #[], none⟩) (v := .slice (some ⟨b, off, none⟩) n c) rfl (by kernel_rfl) (by kernel_rfl) (by kernel_rfl) (fun _ _ _ h => h) (Or.inl ⟨by rfl, fun w' hSw => by have hc := C1 w' hSw; go_simp⟩) hHeld ?_
  try simp only [Act.put, List.setIfInBounds_toArray, List.set_cons_zero, List.set_cons_succ]
  refine wpAnyH_take (i := 2) (oi := ⟨some 11, .call { callee := .builtin .len, args := #[.tmp 10], argTypes := #[33] }, 3, "merkle.go:85", #[⟨1, .data⟩], none⟩) (v := .int .i64 (n : Int)) rfl (by kernel_rfl) (by kernel_rfl) (by kernel_rfl) (fun _ _ _ h => h) (Or.inl ⟨by rfl, fun w' hSw => by go_simp⟩) hHeld ?_
  try simp only [Act.put, List.setIfInBounds_toArray, List.set_cons_zero, List.set_cons_succ]
  refine wpAnyH_take (i := 3) (oi := ⟨some 12, .load 33 (.tmp 3), 33, "merkle.go:85", #[], none⟩) (v := .slice (some ⟨b, off, none⟩) n c) rfl (by kernel_rfl) (by kernel_rfl) (by kernel_rfl) (fun _ _ _ h => h) (Or.inl ⟨by rfl, fun w' hSw => by have hc := C1 w' hSw; go_simp⟩) hHeld ?_
  try simp only [Act.put, List.setIfInBounds_toArray, List.set_cons_zero, List.set_cons_succ]
  refine wpAnyH_take (i := 4) (oi := ⟨some 13, .load 3 (.tmp 4), 3, "merkle.go:85", #[], none⟩) (v := .int .i64 (F : Int)) rfl (by kernel_rfl) (by kernel_rfl) (by kernel_rfl) (fun _ _ _ h => h) (Or.inl ⟨by rfl, fun w' hSw => by have hc := C0 w' hSw; go_simp⟩) hHeld ?_
  try simp only [Act.put, List.setIfInBounds_toArray, List.set_cons_zero, List.set_cons_succ]
  refine wpAnyH_take (i := 5) (oi := ⟨some 14, .load 3 (.tmp 5), 3, "merkle.go:85", #[], none⟩) (v := .int .i64 (e : Int)) rfl (by kernel_rfl) (by kernel_rfl) (by kernel_rfl) (fun _ _ _ h => h) (Or.inl ⟨by rfl, fun w' hSw => by have hc := C2 w' hSw; go_simp⟩) hHeld ?_
  try simp only [Act.put, List.setIfInBounds_toArray, List.set_cons_zero, List.set_cons_succ]
  refine wpAnyH_take (i := 6) (oi := ⟨some 15, .slice 33 (.tmp 12) (some (.tmp 13)) (some (.tmp 14)) none, 33, "merkle.go:85", #[⟨3, .data⟩, ⟨4, .data⟩, ⟨5, .data⟩], none⟩) (v := .slice (some ⟨b, off + 2 * F, none⟩) (e - F) (c - F)) rfl (by kernel_rfl) (by kernel_rfl) (by kernel_rfl) (fun _ _ _ h => h) (Or.inl ⟨by rfl, fun w' hSw => by go_simp; rw [if_pos (Nat.le_of_lt hFe), if_pos (Nat.le_trans hen hc), if_neg (by omega : ¬ c = F), Nat.mul_comm F 2]⟩) hHeld ?_
  try simp only [Act.put, List.setIfInBounds_toArray, List.set_cons_zero, List.set_cons_succ]
  clear C0 C1 C2
  refine wpAnyH_ready (rs := [7, 9]) (by kernel_rfl) (by simp) ?_
  refine AllReadyH.cons (o := ⟨some 16, .call { callee := .value (.func 53), args := #[.tmp 15], argTypes := #[33] }, 33, "merkle.go:85", #[⟨6, .data⟩], none⟩) rfl (fun K hK => ?_) (AllReadyH.cons (o := ⟨some 7, .alloc 50, 0, "merkle.go:85", #[], none⟩) rfl (fun K hK => ?_) AllReadyH.nil)
  · have hKB := KB
    rw [if_pos (by rfl)]
    go_simp
    refine (HC.out V0 hKB).mono ?_
    rintro en V1 ⟨g, cap, rfl, hg, hcap, hLg, hB1⟩
    dsimp only
    refine hK.out _ _ (link hHeld hB1) (fun hHeld => ?_)
    clear hK K
    try simp only [Act.put, List.setIfInBounds_toArray, List.set_cons_zero, List.set_cons_succ]
    refine wpAnyH_take (i := 8) (oi := ⟨some 17, .build 50 #[(0, .tmp 9), (1, .tmp 11), (2, .tmp 16)], 50, "merkle.go:85", #[⟨0, .data⟩, ⟨2, .data⟩, ⟨7, .data⟩], none⟩) (v := .agg #[.int .i64 (F : Int), .int .i64 (n : Int), .slice (some ⟨g, 0, none⟩) (e - F) cap, .slice none 0 0]) rfl (by kernel_rfl) (by kernel_rfl) (by kernel_rfl) (fun _ _ _ h => h) (Or.inl ⟨by rfl, fun w' hSw => by go_simp⟩) hHeld ?_
    try simp only [Act.put, List.setIfInBounds_toArray, List.set_cons_zero, List.set_cons_succ]
    refine wpAnyH_ready (rs := [9]) (by kernel_rfl) (by simp) ?_
    refine AllReadyH.cons (o := ⟨some 7, .alloc 50, 0, "merkle.go:85", #[], none⟩) rfl (fun K hK => ?_) AllReadyH.nil
    rw [if_pos (by rfl)]
    go_simp
    refine hK.out _ _ (hHeld.alloc hHeld.size _) (fun hHeld => ?_)
    clear hK K
    try simp only [Act.put, List.setIfInBounds_toArray, List.set_cons_zero, List.set_cons_succ]
    have Kp := blk_new V1 50 #[.int .i64 0, .int .i64 0, .slice none 0 0, .slice none 0 0]
    obtain ⟨pb, hpb⟩ : ∃ pb, V1.heap.size = pb := ⟨_, rfl⟩
    rw [hpb] at Kp ⊢
    have hpg : g ≠ pb := by have := hLg.1; omega
    have hpV : V0.heap.size ≤ pb := by have := hB1.size; omega
    replace hLg := hLg.keep ((Below.refl _ V1).alloc (Nat.le_refl _) (.cells #[.int .i64 0, .int .i64 0, .slice none 0 0, .slice none 0 0] 50))
    have hX : Below V0.heap.size V0 (V1.alloc (.cells #[.int .i64 0, .int .i64 0, .slice none 0 0, .slice none 0 0] 50)) := hB1.alloc hB1.size _
    replace hg : V0.heap.size ≤ g := hg
    generalize World.alloc V1 _ = V2 at Kp hLg hX hHeld ⊢
    clear hB1 hKB hpb
    refine wpAnyH_ready (rs := [10]) (by kernel_rfl) (by simp) ?_
    refine AllReadyH.cons (o := ⟨none, .store 50 (.tmp 7) (.tmp 17), 0, "merkle.go:85", #[⟨9, .data⟩, ⟨8, .data⟩, ⟨7, .chain⟩, ⟨0, .phase⟩, ⟨1, .phase⟩, ⟨2, .phase⟩, ⟨3, .phase⟩, ⟨4, .phase⟩, ⟨5, .phase⟩, ⟨6, .phase⟩, ⟨7, .phase⟩, ⟨8, .phase⟩, ⟨9, .phase⟩], none⟩) rfl (fun K hK => ?_) AllReadyH.nil
    rw [if_pos (by rfl)]
    refine wp_store_mid 50 (.tmp 7) (.tmp 17) rfl pb 0 #[.int .i64 (F : Int), .int .i64 (n : Int), .slice (some ⟨g, 0, none⟩) (e - F) cap, .slice none 0 0] rfl rfl (by simpa using Kp.there 0 4 (by simp)) (by kernel_rfl) (all_oneCell_toArray (by intro v hv; simp at hv; rcases hv with rfl | rfl | rfl | rfl <;> rfl)) ?_
    have O := only_sets pb 0 V2 [.int .i64 (F : Int), .int .i64 (n : Int), .slice (some ⟨g, 0, none⟩) (e - F) cap, .slice none 0 0]
    have Kq : Blk (V2.setCells pb 0 [.int .i64 (F : Int), .int .i64 (n : Int), .slice (some ⟨g, 0, none⟩) (e - F) cap, .slice none 0 0]) pb 50 [.int .i64 (F : Int), .int .i64 (n : Int), .slice (some ⟨g, 0, none⟩) (e - F) cap, .slice none 0 0] := Kp.all rfl
    have X3 := O.2.2 _ _ hpV hX
    have L3 := hLg.heap (heap_sets pb [.int .i64 (F : Int), .int .i64 (n : Int), .slice (some ⟨g, 0, none⟩) (e - F) cap, .slice none 0 0] V2 0 g hpg) (Nat.le_of_eq O.1.symm)
    have H3 := O.2.2 _ _ (by omega) hHeld
    dsimp only
    generalize World.setCells V2 pb 0 [.int .i64 (F : Int), .int .i64 (n : Int), .slice (some ⟨g, 0, none⟩) (e - F) cap, .slice none 0 0] = V3 at Kq X3 L3 H3 ⊢
    refine hK.out _ _ H3 (fun hHeld => ?_)
    clear hK K hHeld H3 O Kp hLg hX
    try simp only [Act.put, List.setIfInBounds_toArray, List.set_cons_zero, List.set_cons_succ]
    refine wpAnyH_done (by kernel_rfl) ?_ _
    replace KB : Below lb w V3 := KB.trans (X3.mono (by have := KB.size; omega))
    replace Kl := Kl.keep X3
    replace Kf := Kf.keep X3
    replace Ke := Ke.keep X3
    replace Kr := Kr.keep X3
    replace X3 := X3.size
    have hpl3 := Kq.lt
    have hgl3 := L3.1
    go_upto_region 4 with (fail)
    have Kc := blk_new V3 111 #[.func (.func 66) #[] #[.pointer (some ⟨fb, 0, none⟩), .pointer (some ⟨eb, 0, none⟩), .pointer (some ⟨pb, 0, none⟩), .pointer (some ⟨lb, 0, none⟩), .pointer (some ⟨V3.heap.size, 0, none⟩)]]
    have KL := fun (b : Nat) (t : TypeId) (cs : List Value) (k : Blk V3 b t cs) => k.alloc (.cells #[.func (.func 66) #[] #[.pointer (some ⟨fb, 0, none⟩), .pointer (some ⟨eb, 0, none⟩), .pointer (some ⟨pb, 0, none⟩), .pointer (some ⟨lb, 0, none⟩), .pointer (some ⟨V3.heap.size, 0, none⟩)]] 111)
    have KX : Below V3.heap.size V3 (V3.alloc (.cells #[.func (.func 66) #[] #[.pointer (some ⟨fb, 0, none⟩), .pointer (some ⟨eb, 0, none⟩), .pointer (some ⟨pb, 0, none⟩), .pointer (some ⟨lb, 0, none⟩), .pointer (some ⟨V3.heap.size, 0, none⟩)]] 111)) := (Below.refl _ _).alloc (Nat.le_refl _) _
    have Kl4 := KL _ _ _ Kl
    have Kf4 := KL _ _ _ Kf
    have Ke4 := KL _ _ _ Ke
    have Kr4 := KL _ _ _ Kr
    have Kq4 := KL _ _ _ Kq
    have L4 := L3.keep KX
    have KB4 : Below lb w _ := KB.trans (KX.mono (by have := KB.size; omega))
    clear KL Kl Kf Ke Kr Kq L3 KB
    obtain ⟨cb, hcb⟩ : ∃ cb, V3.heap.size = cb := ⟨_, rfl⟩
    rw [hcb] at Kc KX X3 hpl3 hgl3 Kl4 Kf4 Ke4 Kr4 Kq4 L4 KB4 ⊢
    clear hcb
    generalize World.alloc V3 _ = V4 at Kc KX Kl4 Kf4 Ke4 Kr4 Kq4 L4 KB4 ⊢
    have hc4 := Kc.lt
    have hE : CE V4 fb eb pb lb cb F e b off n c := ⟨Kf4, Ke4, Kl4, Kc⟩
    have HX := HA.out V4 V4.heap.size fb eb pb lb cb (.slice (some ⟨g, 0, none⟩) (e - F) cap) hE (by omega) (by omega) (by omega) (by omega) (by omega) (Nat.le_refl _) (hlb ▸ KB4) (by omega) (by omega) ⟨_, Kq4, World.ownsRow_nil _ _ _ _⟩
    rw [List.nil_append] at HX
    replace HX := Lib.hid HX
    have cl := Kl4.cell (j := 0) rfl
    have cc := Kc.cell (j := 0) rfl
    clear hE HA HC KX Kf4 Ke4 Kc
    go_upto_region 6 with (go_at_call 66; refine HX.out.mono ?_; rintro en V5 ⟨rfl, hs5, sv, hP5, hO5⟩)
    have Kr5 := hs5.blk _ _ _ (by omega) (by omega) Kr4
    have L5 := L4.heap (hs5.heap g (by omega) hpg) hs5.size
    have KB5 := hs5.lower KB4 (by omega) (by omega)
    have hb5 : w.heap.size ≤ V4.heap.size := by omega
    clear HX cl cc Kr4 Kq4 Kl4 L4 KB4 hs5
    go_wp2_with (first
      | (refine load_struct rfl 50 (.tmp 7) rfl hP5 rfl Tryd.underlying50 (m := 4) (by kernel_rfl) rfl ?_)
      | (refine wpList_store_mid rfl 50 (.tmp 6) (.tmp 26) rfl rb 0 #[.int .i64 (F : Int), .int .i64 (n : Int), .slice (some ⟨g, 0, none⟩) (e - F) cap, sv] rfl rfl (by simpa using Kr5.there 0 4 (by simp)) (by kernel_rfl) (all_oneCell_toArray (by intro v hv; simp at hv; rcases hv with rfl | rfl | rfl | rfl <;> first | rfl | exact one_own hO5)) ?_))
    have h6 := heap_sets rb [.int .i64 (F : Int), .int .i64 (n : Int), .slice (some ⟨g, 0, none⟩) (e - F) cap, sv] V5 0
    have s6 := sets_size rb [.int .i64 (F : Int), .int .i64 (n : Int), .slice (some ⟨g, 0, none⟩) (e - F) cap, sv] V5 0
    have B6 := (only_sets rb 0 V5 [.int .i64 (F : Int), .int .i64 (n : Int), .slice (some ⟨g, 0, none⟩) (e - F) cap, sv]).2.2 _ _ (by omega) KB5
    have K6 : Blk (V5.setCells rb 0 [.int .i64 (F : Int), .int .i64 (n : Int), .slice (some ⟨g, 0, none⟩) (e - F) cap, sv]) rb 50 [.int .i64 (F : Int), .int .i64 (n : Int), .slice (some ⟨g, 0, none⟩) (e - F) cap, sv] := Kr5.all rfl
    try dsimp only at B6 ⊢
    generalize World.setCells V5 rb 0 [.int .i64 (F : Int), .int .i64 (n : Int), .slice (some ⟨g, 0, none⟩) (e - F) cap, sv] = V6 at h6 s6 B6 K6 ⊢
    exact bodyPost_ret (v := .agg #[.int .i64 (F : Int), .int .i64 (n : Int), .slice (some ⟨g, 0, none⟩) (e - F) cap, sv]) (K6.resultS (p := 6) (ty := 50) rfl _ rfl Tryd.underlying50 (by kernel_rfl)) rfl
      ⟨_, rfl, ⟨some ⟨g, 0, none⟩, cap, sv, by rw [hpl], fun _ => ⟨g, 0, rfl, L5.heap (h6 g (by omega)) (Nat.le_of_eq s6.symm)⟩, by rw [hpl]; exact hcap, fun b' off' i' he => by injection he with he; injection he with he; omega, (fun he => by rw [he] at hpl; simp at hpl; omega), hO5.heap (fun j hj => h6 j (by omega)) hb5⟩, hlb ▸ B6⟩
  · rw [if_pos (by rfl)]
    go_simp
    refine hK.out _ _ (hHeld.alloc hHeld.size _) (fun hHeld => ?_)
    clear hK K
    try simp only [Act.put, List.setIfInBounds_toArray, List.set_cons_zero, List.set_cons_succ]
    have Kp := blk_new V0 50 #[.int .i64 0, .int .i64 0, .slice none 0 0, .slice none 0 0]
    have hKB := KB.alloc (by have := KB.size; omega) (.cells #[.int .i64 0, .int .i64 0, .slice none 0 0, .slice none 0 0] 50)
    have hX0 : Below V0.heap.size V0 (V0.alloc (.cells #[.int .i64 0, .int .i64 0, .slice none 0 0, .slice none 0 0] 50)) := (Below.refl _ V0).alloc (Nat.le_refl _) _
    obtain ⟨pb, hpb⟩ : ∃ pb, V0.heap.size = pb := ⟨_, rfl⟩
    have hpV : V0.heap.size ≤ pb := Nat.le_of_eq hpb
    rw [hpb] at Kp hHeld ⊢
    generalize World.alloc V0 _ = V1 at Kp hKB hX0 hHeld ⊢
    have hX0w : V0.heap.size ≤ V1.heap.size := hX0.size
    refine wpAnyH_ready (rs := [7]) (by kernel_rfl) (by simp) ?_
    refine AllReadyH.cons (o := ⟨some 16, .call { callee := .value (.func 53), args := #[.tmp 15], argTypes := #[33] }, 33, "merkle.go:85", #[⟨6, .data⟩], none⟩) rfl (fun K hK => ?_) AllReadyH.nil
    rw [if_pos (by rfl)]
    go_simp
    refine (HC.out V1 hKB).mono ?_
    rintro en V2 ⟨g, cap, rfl, hg, hcap, hLg, hB1⟩
    dsimp only
    refine hK.out _ _ (hHeld.trans (hB1.mono (Nat.le_of_lt Kp.lt))) (fun hHeld => ?_)
    clear hK K
    try simp only [Act.put, List.setIfInBounds_toArray, List.set_cons_zero, List.set_cons_succ]
    refine wpAnyH_take (i := 8) (oi := ⟨some 17, .build 50 #[(0, .tmp 9), (1, .tmp 11), (2, .tmp 16)], 50, "merkle.go:85", #[⟨0, .data⟩, ⟨2, .data⟩, ⟨7, .data⟩], none⟩) (v := .agg #[.int .i64 (F : Int), .int .i64 (n : Int), .slice (some ⟨g, 0, none⟩) (e - F) cap, .slice none 0 0]) rfl (by kernel_rfl) (by kernel_rfl) (by kernel_rfl) (fun _ _ _ h => h) (Or.inl ⟨by rfl, fun w' hSw => by go_simp⟩) hHeld ?_
    try simp only [Act.put, List.setIfInBounds_toArray, List.set_cons_zero, List.set_cons_succ]
    have hpg : g ≠ pb := by have := Kp.lt; omega
    replace Kp := Kp.keep hB1
    replace hX0 := link hX0 hB1
    have hX := hX0
    replace hg : V0.heap.size ≤ g := Nat.le_trans hX0w hg
    clear hB1 hKB hpb hX0 hX0w
    refine wpAnyH_ready (rs := [10]) (by kernel_rfl) (by simp) ?_
    refine AllReadyH.cons (o := ⟨none, .store 50 (.tmp 7) (.tmp 17), 0, "merkle.go:85", #[⟨9, .data⟩, ⟨8, .data⟩, ⟨7, .chain⟩, ⟨0, .phase⟩, ⟨1, .phase⟩, ⟨2, .phase⟩, ⟨3, .phase⟩, ⟨4, .phase⟩, ⟨5, .phase⟩, ⟨6, .phase⟩, ⟨7, .phase⟩, ⟨8, .phase⟩, ⟨9, .phase⟩], none⟩) rfl (fun K hK => ?_) AllReadyH.nil
    rw [if_pos (by rfl)]
    refine wp_store_mid 50 (.tmp 7) (.tmp 17) rfl pb 0 #[.int .i64 (F : Int), .int .i64 (n : Int), .slice (some ⟨g, 0, none⟩) (e - F) cap, .slice none 0 0] rfl rfl (by simpa using Kp.there 0 4 (by simp)) (by kernel_rfl) (all_oneCell_toArray (by intro v hv; simp at hv; rcases hv with rfl | rfl | rfl | rfl <;> rfl)) ?_
    have O := only_sets pb 0 V2 [.int .i64 (F : Int), .int .i64 (n : Int), .slice (some ⟨g, 0, none⟩) (e - F) cap, .slice none 0 0]
    have Kq : Blk (V2.setCells pb 0 [.int .i64 (F : Int), .int .i64 (n : Int), .slice (some ⟨g, 0, none⟩) (e - F) cap, .slice none 0 0]) pb 50 [.int .i64 (F : Int), .int .i64 (n : Int), .slice (some ⟨g, 0, none⟩) (e - F) cap, .slice none 0 0] := Kp.all rfl
    have X3 := O.2.2 _ _ hpV hX
    have L3 := hLg.heap (heap_sets pb [.int .i64 (F : Int), .int .i64 (n : Int), .slice (some ⟨g, 0, none⟩) (e - F) cap, .slice none 0 0] V2 0 g hpg) (Nat.le_of_eq O.1.symm)
    have H3 := O.2.2 _ _ (by omega) hHeld
    dsimp only
    generalize World.setCells V2 pb 0 [.int .i64 (F : Int), .int .i64 (n : Int), .slice (some ⟨g, 0, none⟩) (e - F) cap, .slice none 0 0] = V3 at Kq X3 L3 H3 ⊢
    refine hK.out _ _ H3 (fun hHeld => ?_)
    clear hK K hHeld H3 O Kp hLg hX
    try simp only [Act.put, List.setIfInBounds_toArray, List.set_cons_zero, List.set_cons_succ]
    refine wpAnyH_done (by kernel_rfl) ?_ _
    replace KB : Below lb w V3 := KB.trans (X3.mono (by have := KB.size; omega))
    replace Kl := Kl.keep X3
    replace Kf := Kf.keep X3
    replace Ke := Ke.keep X3
    replace Kr := Kr.keep X3
    replace X3 := X3.size
    have hpl3 := Kq.lt
    have hgl3 := L3.1
    go_upto_region 4 with (fail)
    have Kc := blk_new V3 111 #[.func (.func 66) #[] #[.pointer (some ⟨fb, 0, none⟩), .pointer (some ⟨eb, 0, none⟩), .pointer (some ⟨pb, 0, none⟩), .pointer (some ⟨lb, 0, none⟩), .pointer (some ⟨V3.heap.size, 0, none⟩)]]
    have KL := fun (b : Nat) (t : TypeId) (cs : List Value) (k : Blk V3 b t cs) => k.alloc (.cells #[.func (.func 66) #[] #[.pointer (some ⟨fb, 0, none⟩), .pointer (some ⟨eb, 0, none⟩), .pointer (some ⟨pb, 0, none⟩), .pointer (some ⟨lb, 0, none⟩), .pointer (some ⟨V3.heap.size, 0, none⟩)]] 111)
    have KX : Below V3.heap.size V3 (V3.alloc (.cells #[.func (.func 66) #[] #[.pointer (some ⟨fb, 0, none⟩), .pointer (some ⟨eb, 0, none⟩), .pointer (some ⟨pb, 0, none⟩), .pointer (some ⟨lb, 0, none⟩), .pointer (some ⟨V3.heap.size, 0, none⟩)]] 111)) := (Below.refl _ _).alloc (Nat.le_refl _) _
    have Kl4 := KL _ _ _ Kl
    have Kf4 := KL _ _ _ Kf
    have Ke4 := KL _ _ _ Ke
    have Kr4 := KL _ _ _ Kr
    have Kq4 := KL _ _ _ Kq
    have L4 := L3.keep KX
    have KB4 : Below lb w _ := KB.trans (KX.mono (by have := KB.size; omega))
    clear KL Kl Kf Ke Kr Kq L3 KB
    obtain ⟨cb, hcb⟩ : ∃ cb, V3.heap.size = cb := ⟨_, rfl⟩
    rw [hcb] at Kc KX X3 hpl3 hgl3 Kl4 Kf4 Ke4 Kr4 Kq4 L4 KB4 ⊢
    clear hcb
    generalize World.alloc V3 _ = V4 at Kc KX Kl4 Kf4 Ke4 Kr4 Kq4 L4 KB4 ⊢
    have hc4 := Kc.lt
    have hE : CE V4 fb eb pb lb cb F e b off n c := ⟨Kf4, Ke4, Kl4, Kc⟩
    have HX := HA.out V4 V4.heap.size fb eb pb lb cb (.slice (some ⟨g, 0, none⟩) (e - F) cap) hE (by omega) (by omega) (by omega) (by omega) (by omega) (Nat.le_refl _) (hlb ▸ KB4) (by omega) (by omega) ⟨_, Kq4, World.ownsRow_nil _ _ _ _⟩
    rw [List.nil_append] at HX
    replace HX := Lib.hid HX
    have cl := Kl4.cell (j := 0) rfl
    have cc := Kc.cell (j := 0) rfl
    clear hE HA HC KX Kf4 Ke4 Kc
    go_upto_region 6 with (go_at_call 66; refine HX.out.mono ?_; rintro en V5 ⟨rfl, hs5, sv, hP5, hO5⟩)
    have Kr5 := hs5.blk _ _ _ (by omega) (by omega) Kr4
    have L5 := L4.heap (hs5.heap g (by omega) hpg) hs5.size
    have KB5 := hs5.lower KB4 (by omega) (by omega)
    have hb5 : w.heap.size ≤ V4.heap.size := by omega
    clear HX cl cc Kr4 Kq4 Kl4 L4 KB4 hs5
    go_wp2_with (first
      | (refine load_struct rfl 50 (.tmp 7) rfl hP5 rfl Tryd.underlying50 (m := 4) (by kernel_rfl) rfl ?_)
      | (refine wpList_store_mid rfl 50 (.tmp 6) (.tmp 26) rfl rb 0 #[.int .i64 (F : Int), .int .i64 (n : Int), .slice (some ⟨g, 0, none⟩) (e - F) cap, sv] rfl rfl (by simpa using Kr5.there 0 4 (by simp)) (by kernel_rfl) (all_oneCell_toArray (by intro v hv; simp at hv; rcases hv with rfl | rfl | rfl | rfl <;> first | rfl | exact one_own hO5)) ?_))
    have h6 := heap_sets rb [.int .i64 (F : Int), .int .i64 (n : Int), .slice (some ⟨g, 0, none⟩) (e - F) cap, sv] V5 0
    have s6 := sets_size rb [.int .i64 (F : Int), .int .i64 (n : Int), .slice (some ⟨g, 0, none⟩) (e - F) cap, sv] V5 0
    have B6 := (only_sets rb 0 V5 [.int .i64 (F : Int), .int .i64 (n : Int), .slice (some ⟨g, 0, none⟩) (e - F) cap, sv]).2.2 _ _ (by omega) KB5
    have K6 : Blk (V5.setCells rb 0 [.int .i64 (F : Int), .int .i64 (n : Int), .slice (some ⟨g, 0, none⟩) (e - F) cap, sv]) rb 50 [.int .i64 (F : Int), .int .i64 (n : Int), .slice (some ⟨g, 0, none⟩) (e - F) cap, sv] := Kr5.all rfl
    try dsimp only at B6 ⊢
    generalize World.setCells V5 rb 0 [.int .i64 (F : Int), .int .i64 (n : Int), .slice (some ⟨g, 0, none⟩) (e - F) cap, sv] = V6 at h6 s6 B6 K6 ⊢
    exact bodyPost_ret (v := .agg #[.int .i64 (F : Int), .int .i64 (n : Int), .slice (some ⟨g, 0, none⟩) (e - F) cap, sv]) (K6.resultS (p := 6) (ty := 50) rfl _ rfl Tryd.underlying50 (by kernel_rfl)) rfl
      ⟨_, rfl, ⟨some ⟨g, 0, none⟩, cap, sv, by rw [hpl], fun _ => ⟨g, 0, rfl, L5.heap (h6 g (by omega)) (Nat.le_of_eq s6.symm)⟩, by rw [hpl]; exact hcap, fun b' off' i' he => by injection he with he; injection he with he; omega, (fun he => by rw [he] at hpl; simp at hpl; omega), hO5.heap (fun j hj => h6 j (by omega)) hb5⟩, hlb ▸ B6⟩

end Go.Proofs.YtfhfmdnimebegaaDoor

/-
  merkle.proof without leaves.
-/
namespace Go.Proofs.YtfhfmdnimebegaaDoor
open Go.RowKit
set_option linter.unusedVariables false
set_option linter.unusedSimpArgs false

abbrev zeroPrf : List Value := [.int .i64 0, .int .i64 0, .slice none 0 0, .slice none 0 0]
theorem zero_one : ∀ v ∈ zeroPrf, v.oneCell' = true := by intro v hv; simp [zeroPrf] at hv; rcases hv with rfl | rfl <;> rfl

set_option maxHeartbeats 4000000 in
set_option maxRecDepth 100000 in
theorem proof_nil (w : World) :
    Calls Tryd.prog 46 #[.slice none 0 0, .int .i64 0, .int .i64 0] w
      fun en w' => en = .returned (.agg zeroPrf.toArray) ∧ Below w.heap.size w w' := by
  have hmf : ∀ (fn : Fn) (first cap : Array Value) (w : World), (Instr.makeFunc fn first cap).run Tryd.prog w = .ok (.func fn first cap) w := fun _ _ _ _ => rfl
  have HC := Lib.hid (fun V => clone_nil 0 0 V)
  go_enter Tryd.func46, Tryd.ntmps46
  go_upto_region 1 with (fail)
  generalize hw1 : World.alloc _ _ = W0
  have Kl : Blk W0 w.heap.size 33 [.slice none 0 0] := hw1 ▸ (((blk_new w _ _).alloc _).alloc _).alloc _
  have Kf : Blk W0 (w.heap.size + 1) 3 [.int .i64 0] := hw1 ▸ ((blk_at (by simp) _ _).alloc _).alloc _
  have Ke : Blk W0 (w.heap.size + 1 + 1) 3 [.int .i64 0] := hw1 ▸ (blk_at (by simp) _ _).alloc _
  have Kr : Blk W0 (w.heap.size + 1 + 1 + 1) 50 zeroPrf := hw1 ▸ blk_at (by simp) _ _
  have KB : Below w.heap.size w W0 := hw1 ▸ ((((Below.refl _ _).alloc (Nat.le_refl _) _).alloc (by simp) _).alloc (by simp; omega) _).alloc (by simp; omega) _
  clear hw1
  have hlt0 := Kr.lt
  obtain ⟨fb, hfb⟩ : ∃ fb, w.heap.size + 1 = fb := ⟨_, rfl⟩
  rw [hfb] at Kf Ke Kr hlt0 ⊢
  obtain ⟨eb, heb⟩ : ∃ eb, fb + 1 = eb := ⟨_, rfl⟩
  rw [heb] at Ke Kr hlt0 ⊢
  obtain ⟨rb, hrb⟩ : ∃ rb, eb + 1 = rb := ⟨_, rfl⟩
  rw [hrb] at Kr hlt0 ⊢
  obtain ⟨lb, hlb⟩ : ∃ lb, w.heap.size = lb := ⟨_, rfl⟩
  rw [hlb] at KB ⊢
  rw [hlb] at Kl hfb
  have hHeld : True := trivial
  refine wp_region_held_drew (S := fun w' => Below W0.drew.heap.size W0.drew w') (by kernel_rfl) (Below.refl _ _) (fun _ => ?_)
  have hHeld : Below W0.drew.heap.size W0.drew W0.drew := Below.refl _ _
  have C0 : ∀ w', Below W0.drew.heap.size W0.drew w' → w'.cell? ⟨fb, 0, none⟩ = some (.int .i64 0) := fun w' h => (h.cell Kf.lt).trans (Kf.cell (j := 0) rfl)
  have C1 : ∀ w', Below W0.drew.heap.size W0.drew w' → w'.cell? ⟨lb, 0, none⟩ = some (.slice none 0 0) := fun w' h => (h.cell Kl.lt).trans (Kl.cell (j := 0) rfl)
  have C2 : ∀ w', Below W0.drew.heap.size W0.drew w' → w'.cell? ⟨eb, 0, none⟩ = some (.int .i64 0) := fun w' h => (h.cell Ke.lt).trans (Ke.cell (j := 0) rfl)
  replace KB : Below lb w W0.drew := below_drew KB
  replace Kl := Kl.drew
  replace Kr := Kr.drew
  replace hlt0 : rb < W0.drew.heap.size := hlt0
  clear Kf Ke
  generalize W0.drew = V0 at Kl Kr KB C0 C1 C2 hHeld hlt0 ⊢
  refine wpAnyH_take (i := 0) (oi := ⟨some 9, .load 3 (.tmp 4), 3, "merkle.go:85", #[], none⟩) (v := .int .i64 0) rfl (by kernel_rfl) (by kernel_rfl) (by kernel_rfl) (fun _ _ _ h => h) (Or.inl ⟨by rfl, fun w' hSw => by have hc := C0 w' hSw; go_simp⟩) hHeld ?_
  try simp only [Act.put, List.setIfInBounds_toArray, List.set_cons_zero, List.set_cons_succ]
  refine wpAnyH_take (i := 1) (oi := ⟨some 10, .load 33 (.tmp 3), 33, "merkle.go:85", #[], none⟩) (v := .slice none 0 0) rfl (by kernel_rfl) (by kernel_rfl) (by kernel_rfl) (fun _ _ _ h => h) (Or.inl ⟨by rfl, fun w' hSw => by have hc := C1 w' hSw; go_simp⟩) hHeld ?_
  try simp only [Act.put, List.setIfInBounds_toArray, List.set_cons_zero, List.set_cons_succ]
  refine wpAnyH_take (i := 2) (oi := ⟨some 11, .call { callee := .builtin .len, args := #[.tmp 10], argTypes := #[33] }, 3, "merkle.go:85", #[⟨1, .data⟩], none⟩) (v := .int .i64 0) rfl (by kernel_rfl) (by kernel_rfl) (by kernel_rfl) (fun _ _ _ h => h) (Or.inl ⟨by rfl, fun w' hSw => by go_simp⟩) hHeld ?_
  try simp only [Act.put, List.setIfInBounds_toArray, List.set_cons_zero, List.set_cons_succ]
  refine wpAnyH_take (i := 3) (oi := ⟨some 12, .load 33 (.tmp 3), 33, "merkle.go:85", #[], none⟩) (v := .slice none 0 0) rfl (by kernel_rfl) (by kernel_rfl) (by kernel_rfl) (fun _ _ _ h => h) (Or.inl ⟨by rfl, fun w' hSw => by have hc := C1 w' hSw; go_simp⟩) hHeld ?_
  try simp only [Act.put, List.setIfInBounds_toArray, List.set_cons_zero, List.set_cons_succ]
  refine wpAnyH_take (i := 4) (oi := ⟨some 13, .load 3 (.tmp 4), 3, "merkle.go:85", #[], none⟩) (v := .int .i64 0) rfl (by kernel_rfl) (by kernel_rfl) (by kernel_rfl) (fun _ _ _ h => h) (Or.inl ⟨by rfl, fun w' hSw => by have hc := C0 w' hSw; go_simp⟩) hHeld ?_
  try simp only [Act.put, List.setIfInBounds_toArray, List.set_cons_zero, List.set_cons_succ]
  refine wpAnyH_take (i := 5) (oi := ⟨some 14, .load 3 (.tmp 5), 3, "merkle.go:85", #[], none⟩) (v := .int .i64 0) rfl (by kernel_rfl) (by kernel_rfl) (by kernel_rfl) (fun _ _ _ h => h) (Or.inl ⟨by rfl, fun w' hSw => by have hc := C2 w' hSw; go_simp⟩) hHeld ?_
  try simp only [Act.put, List.setIfInBounds_toArray, List.set_cons_zero, List.set_cons_succ]
  refine wpAnyH_take (i := 6) (oi := ⟨some 15, .slice 33 (.tmp 12) (some (.tmp 13)) (some (.tmp 14)) none, 33, "merkle.go:85", #[⟨3, .data⟩, ⟨4, .data⟩, ⟨5, .data⟩], none⟩) (v := .slice none 0 0) rfl (by kernel_rfl) (by kernel_rfl) (by kernel_rfl) (fun _ _ _ h => h) (Or.inl ⟨by rfl, fun w' hSw => by go_simp⟩) hHeld ?_
  try simp only [Act.put, List.setIfInBounds_toArray, List.set_cons_zero, List.set_cons_succ]
  clear C0 C1 C2
  refine wpAnyH_ready (rs := [7, 9]) (by kernel_rfl) (by simp) ?_
  refine AllReadyH.cons (o := ⟨some 16, .call { callee := .value (.func 53), args := #[.tmp 15], argTypes := #[33] }, 33, "merkle.go:85", #[⟨6, .data⟩], none⟩) rfl (fun K hK => ?_) (AllReadyH.cons (o := ⟨some 7, .alloc 50, 0, "merkle.go:85", #[], none⟩) rfl (fun K hK => ?_) AllReadyH.nil)
  · rw [if_pos (by rfl)]
    go_simp
    refine (HC.out V0).mono ?_
    rintro en w1 ⟨rfl, hw1⟩
    rw [hw1]
    clear hw1 w1
    dsimp only
    refine hK.out _ _ hHeld (fun hHeld => ?_)
    clear hK K
    try simp only [Act.put, List.setIfInBounds_toArray, List.set_cons_zero, List.set_cons_succ]
    refine wpAnyH_take (i := 8) (oi := ⟨some 17, .build 50 #[(0, .tmp 9), (1, .tmp 11), (2, .tmp 16)], 50, "merkle.go:85", #[⟨0, .data⟩, ⟨2, .data⟩, ⟨7, .data⟩], none⟩) (v := .agg zeroPrf.toArray) rfl (by kernel_rfl) (by kernel_rfl) (by kernel_rfl) (fun _ _ _ h => h) (Or.inl ⟨by rfl, fun w' hSw => by go_simp; try rfl⟩) hHeld ?_
    try simp only [Act.put, List.setIfInBounds_toArray, List.set_cons_zero, List.set_cons_succ]
    refine wpAnyH_ready (rs := [9]) (by kernel_rfl) (by simp) ?_
    refine AllReadyH.cons (o := ⟨some 7, .alloc 50, 0, "merkle.go:85", #[], none⟩) rfl (fun K hK => ?_) AllReadyH.nil
    rw [if_pos (by rfl)]
    go_simp
    refine hK.out _ _ (hHeld.alloc hHeld.size _) (fun hHeld => ?_)
    clear hK K
    try simp only [Act.put, List.setIfInBounds_toArray, List.set_cons_zero, List.set_cons_succ]
    have Kp : Blk _ _ _ zeroPrf := blk_new V0 50 zeroPrf.toArray
    obtain ⟨pb, hpb⟩ : ∃ pb, V0.heap.size = pb := ⟨_, rfl⟩
    have X1 : Below V0.heap.size V0 (V0.alloc (.cells zeroPrf.toArray 50)) := hHeld
    rw [hpb] at Kp X1 hHeld hlt0 ⊢
    have Kl1 := Kl.keep (hpb ▸ X1)
    have Kr1 := Kr.keep (hpb ▸ X1)
    have KB1 : Below lb w _ := KB.trans (X1.mono (by omega))
    generalize World.alloc V0 _ = V2 at Kp X1 Kl1 Kr1 KB1 hHeld ⊢
    refine wpAnyH_ready (rs := [10]) (by kernel_rfl) (by simp) ?_
    refine AllReadyH.cons (o := ⟨none, .store 50 (.tmp 7) (.tmp 17), 0, "merkle.go:85", #[⟨9, .data⟩, ⟨8, .data⟩, ⟨7, .chain⟩, ⟨0, .phase⟩, ⟨1, .phase⟩, ⟨2, .phase⟩, ⟨3, .phase⟩, ⟨4, .phase⟩, ⟨5, .phase⟩, ⟨6, .phase⟩, ⟨7, .phase⟩, ⟨8, .phase⟩, ⟨9, .phase⟩], none⟩) rfl (fun K hK => ?_) AllReadyH.nil
    rw [if_pos (by rfl)]
    refine wp_store_mid 50 (.tmp 7) (.tmp 17) rfl pb 0 zeroPrf.toArray rfl rfl (by simpa using Kp.there 0 4 (by simp [zeroPrf])) (by kernel_rfl) (all_oneCell_toArray zero_one) ?_
    have O := only_sets pb 0 V2 zeroPrf
    have Kq : Blk (V2.setCells pb 0 zeroPrf) pb 50 zeroPrf := Kp.all rfl
    have H3 := O.2.2 _ _ (Nat.le_refl _) hHeld
    have Kl3 := O.2.1 _ _ _ (by omega) Kl1
    have Kr3 := O.2.1 _ _ _ (by omega) Kr1
    have KB3 := O.2.2 _ _ (by omega) KB1
    have hs3 := O.1
    try dsimp only
    generalize World.setCells V2 pb 0 zeroPrf = V3 at Kq H3 Kl3 Kr3 KB3 hs3 ⊢
    refine hK.out _ _ H3 (fun hHeld => ?_)
    clear hK K hHeld H3 O Kp X1 Kl1 Kr1 KB1 KB Kl Kr
    try simp only [Act.put, List.setIfInBounds_toArray, List.set_cons_zero, List.set_cons_succ]
    refine wpAnyH_done (by kernel_rfl) ?_ _
    have hpb3 := Kq.lt
    go_upto_region 4 with (fail)
    generalize hw4 : World.alloc _ _ = V4
    have Kl4 : Blk V4 _ _ _ := hw4 ▸ Kl3.alloc _
    have Kr4 : Blk V4 _ _ _ := hw4 ▸ Kr3.alloc _
    have Kq4 : Blk V4 _ _ _ := hw4 ▸ Kq.alloc _
    have KB4 : Below lb w V4 := hw4 ▸ KB3.alloc (by omega) _
    have cl := Kl4.cell (j := 0) rfl
    clear hw4 Kl3 Kr3 Kq KB3
    go_wp2_with (first
      | (refine load_struct rfl 50 (.tmp 7) rfl Kq4 rfl Tryd.underlying50 (m := 4) (by kernel_rfl) rfl ?_)
      | (refine wpList_store_mid rfl 50 (.tmp 6) (.tmp 26) rfl rb 0 zeroPrf.toArray rfl rfl (by simpa using Kr4.there 0 4 (by simp [zeroPrf])) (by kernel_rfl) (all_oneCell_toArray zero_one) ?_))
    have B6 := (only_sets rb 0 V4 zeroPrf).2.2 _ _ (by omega) KB4
    have K6 : Blk (V4.setCells rb 0 zeroPrf) rb 50 zeroPrf := Kr4.all rfl
    try dsimp only at B6 ⊢
    generalize World.setCells V4 rb 0 zeroPrf = V6 at B6 K6 ⊢
    exact bodyPost_ret (v := .agg zeroPrf.toArray) (K6.resultS (p := 6) (ty := 50) rfl _ rfl Tryd.underlying50 (by kernel_rfl)) rfl ⟨rfl, hlb ▸ B6⟩
  · rw [if_pos (by rfl)]
    go_simp
    refine hK.out _ _ (hHeld.alloc hHeld.size _) (fun hHeld => ?_)
    clear hK K
    try simp only [Act.put, List.setIfInBounds_toArray, List.set_cons_zero, List.set_cons_succ]
    have Kp : Blk _ _ _ zeroPrf := blk_new V0 50 zeroPrf.toArray
    obtain ⟨pb, hpb⟩ : ∃ pb, V0.heap.size = pb := ⟨_, rfl⟩
    have X1 : Below V0.heap.size V0 (V0.alloc (.cells zeroPrf.toArray 50)) := hHeld
    rw [hpb] at Kp X1 hHeld hlt0 ⊢
    have Kl1 := Kl.keep (hpb ▸ X1)
    have Kr1 := Kr.keep (hpb ▸ X1)
    have KB1 : Below lb w _ := KB.trans (X1.mono (by omega))
    generalize World.alloc V0 _ = V2 at Kp X1 Kl1 Kr1 KB1 hHeld ⊢
    refine wpAnyH_ready (rs := [7]) (by kernel_rfl) (by simp) ?_
    refine AllReadyH.cons (o := ⟨some 16, .call { callee := .value (.func 53), args := #[.tmp 15], argTypes := #[33] }, 33, "merkle.go:85", #[⟨6, .data⟩], none⟩) rfl (fun K hK => ?_) AllReadyH.nil
    rw [if_pos (by rfl)]
    go_simp
    refine (HC.out V2).mono ?_
    rintro en w1 ⟨rfl, hw1⟩
    rw [hw1]
    clear hw1 w1
    dsimp only
    refine hK.out _ _ hHeld (fun hHeld => ?_)
    clear hK K
    try simp only [Act.put, List.setIfInBounds_toArray, List.set_cons_zero, List.set_cons_succ]
    refine wpAnyH_take (i := 8) (oi := ⟨some 17, .build 50 #[(0, .tmp 9), (1, .tmp 11), (2, .tmp 16)], 50, "merkle.go:85", #[⟨0, .data⟩, ⟨2, .data⟩, ⟨7, .data⟩], none⟩) (v := .agg zeroPrf.toArray) rfl (by kernel_rfl) (by kernel_rfl) (by kernel_rfl) (fun _ _ _ h => h) (Or.inl ⟨by rfl, fun w' hSw => by go_simp; try rfl⟩) hHeld ?_
    try simp only [Act.put, List.setIfInBounds_toArray, List.set_cons_zero, List.set_cons_succ]
    refine wpAnyH_ready (rs := [10]) (by kernel_rfl) (by simp) ?_
    refine AllReadyH.cons (o := ⟨none, .store 50 (.tmp 7) (.tmp 17), 0, "merkle.go:85", #[⟨9, .data⟩, ⟨8, .data⟩, ⟨7, .chain⟩, ⟨0, .phase⟩, ⟨1, .phase⟩, ⟨2, .phase⟩, ⟨3, .phase⟩, ⟨4, .phase⟩, ⟨5, .phase⟩, ⟨6, .phase⟩, ⟨7, .phase⟩, ⟨8, .phase⟩, ⟨9, .phase⟩], none⟩) rfl (fun K hK => ?_) AllReadyH.nil
    rw [if_pos (by rfl)]
    refine wp_store_mid 50 (.tmp 7) (.tmp 17) rfl pb 0 zeroPrf.toArray rfl rfl (by simpa using Kp.there 0 4 (by simp [zeroPrf])) (by kernel_rfl) (all_oneCell_toArray zero_one) ?_
    have O := only_sets pb 0 V2 zeroPrf
    have Kq : Blk (V2.setCells pb 0 zeroPrf) pb 50 zeroPrf := Kp.all rfl
    have H3 := O.2.2 _ _ (Nat.le_refl _) hHeld
    have Kl3 := O.2.1 _ _ _ (by omega) Kl1
    have Kr3 := O.2.1 _ _ _ (by omega) Kr1
    have KB3 := O.2.2 _ _ (by omega) KB1
    have hs3 := O.1
    try dsimp only
    generalize World.setCells V2 pb 0 zeroPrf = V3 at Kq H3 Kl3 Kr3 KB3 hs3 ⊢
    refine hK.out _ _ H3 (fun hHeld => ?_)
    clear hK K hHeld H3 O Kp X1 Kl1 Kr1 KB1 KB Kl Kr
    try simp only [Act.put, List.setIfInBounds_toArray, List.set_cons_zero, List.set_cons_succ]
    refine wpAnyH_done (by kernel_rfl) ?_ _
    have hpb3 := Kq.lt
    go_upto_region 4 with (fail)
    generalize hw4 : World.alloc _ _ = V4
    have Kl4 : Blk V4 _ _ _ := hw4 ▸ Kl3.alloc _
    have Kr4 : Blk V4 _ _ _ := hw4 ▸ Kr3.alloc _
    have Kq4 : Blk V4 _ _ _ := hw4 ▸ Kq.alloc _
    have KB4 : Below lb w V4 := hw4 ▸ KB3.alloc (by omega) _
    have cl := Kl4.cell (j := 0) rfl
    clear hw4 Kl3 Kr3 Kq KB3
    go_wp2_with (first
      | (refine load_struct rfl 50 (.tmp 7) rfl Kq4 rfl Tryd.underlying50 (m := 4) (by kernel_rfl) rfl ?_)
      | (refine wpList_store_mid rfl 50 (.tmp 6) (.tmp 26) rfl rb 0 zeroPrf.toArray rfl rfl (by simpa using Kr4.there 0 4 (by simp [zeroPrf])) (by kernel_rfl) (all_oneCell_toArray zero_one) ?_))
    have B6 := (only_sets rb 0 V4 zeroPrf).2.2 _ _ (by omega) KB4
    have K6 : Blk (V4.setCells rb 0 zeroPrf) rb 50 zeroPrf := Kr4.all rfl
    try dsimp only at B6 ⊢
    generalize World.setCells V4 rb 0 zeroPrf = V6 at B6 K6 ⊢
    exact bodyPost_ret (v := .agg zeroPrf.toArray) (K6.resultS (p := 6) (ty := 50) rfl _ rfl Tryd.underlying50 (by kernel_rfl)) rfl ⟨rfl, hlb ▸ B6⟩

end Go.Proofs.YtfhfmdnimebegaaDoor

/-
  merkle.Prove.
-/
namespace Go.Proofs.YtfhfmdnimebegaaDoor
open Go.RowKit
set_option linter.unusedVariables false
set_option linter.unusedSimpArgs false

theorem Blk.loadVarS {w : World} {b : Nat} {t ty : TypeId} {cs : List Value} (h : Blk w b t cs) {fs : Array Field} (hu : Tryd.prog.underlying ty = some (.struct fs)) (hi : (Tryd.prog.info? ty).map (·.size) = some cs.length) : (Go.loadVar ty ⟨b, 0, none⟩).run Tryd.prog w = .ok (.agg cs.toArray) w :=
  run_loadVar_row w b t ty cs.toArray (0, 0) (.struct fs) h hu rfl (by simpa using hi)
theorem build_prf (w : World) : (Instr.build 50 #[]).run Tryd.prog w = .ok (.agg zeroPrf.toArray) w := by kernel_rfl
theorem PrfV.nil (w : World) (B : Nat) : PrfV w B 0 0 [] [] (.agg zeroPrf.toArray) :=
  ⟨none, 0, .slice none 0 0, rfl, fun h => absurd rfl h, Nat.le_refl _, (fun b off i h => nomatch h), (fun _ => ⟨rfl, rfl⟩), World.ownsRow_nil _ _ _ _⟩
/-- A range that proof may be asked for. -/
def Rng (n F e : Nat) : Prop := n = 0 ∧ F = 0 ∧ e = 0 ∨ F < e ∧ e ≤ n
theorem proof_any (ls : List Lf) (q : Option Addr) (n c F e : Nat) (hl : ls.length = n) (hn : n ≤ 4096) (hc : n ≤ c) (hR : Rng n F e) (hq : n = 0 → q = none ∧ c = 0) (hS : Small ls) (w : World) (hG : Glob w) (hL : OwnL w q ls) :
    Calls Tryd.prog 46 #[.slice q n c, .int .i64 (F : Int), .int .i64 (e : Int)] w
      fun en w' => ∃ v, en = .returned v ∧ PrfV w' w.heap.size F n ((ls.drop F).take (e - F)) (sidesM ls F e 0 n) v ∧ Below w.heap.size w w' := by
  rcases hR with ⟨h0, hF, he⟩ | ⟨hFe, hen⟩
  · subst hF he
    obtain ⟨rfl, rfl⟩ := hq h0
    subst h0
    obtain rfl := List.eq_nil_of_length_eq_zero hl
    refine (proof_nil w).mono ?_
    rintro en w' ⟨rfl, hB⟩
    exact ⟨_, rfl, PrfV.nil _ _, hB⟩
  · obtain ⟨b, off, rfl, hL2⟩ := hL (by intro h; rw [h] at hl; simp at hl; omega)
    exact proof_many ls b off n c F e hl hn (by omega) hc hFe hen hS w hG hL2
theorem PrfV.one {w : World} {B F n : Nat} {lf : List Lf} {sd : List (List Nat)} {v : Value} (h : PrfV w B F n lf sd v) : ∃ cs : List Value, v = .agg cs.toArray ∧ cs.length = 4 ∧ ∀ v ∈ cs, v.oneCell' = true := by
  obtain ⟨q, c, sv, rfl, _, _, _, _, hO⟩ := h
  refine ⟨[.int .i64 (F : Int), .int .i64 (n : Int), .slice q lf.length c, sv], rfl, rfl, ?_⟩
  intro v hv
  simp at hv
  rcases hv with rfl | rfl | rfl | rfl <;> first | rfl | exact one_own hO
theorem PrfV.heap {w w' : World} {B B' F n : Nat} {lf : List Lf} {sd : List (List Nat)} {v : Value} (h : PrfV w B F n lf sd v) (hh : ∀ j, B ≤ j → w'.heap[j]? = w.heap[j]?) (hs : w.heap.size ≤ w'.heap.size) (hB : B' ≤ B) : PrfV w' B' F n lf sd v := by
  obtain ⟨q, c, sv, e, hL, hc, hb, hz, hO⟩ := h
  refine ⟨q, c, sv, e, fun hne => ?_, hc, fun b off i hq => Nat.le_trans hB (hb b off i hq), hz, hO.heap hh hB⟩
  obtain ⟨b, off, hq, hL2⟩ := hL hne
  exact ⟨b, off, hq, hL2.heap (hh b (hb b off none hq)) hs⟩

set_option maxHeartbeats 2000000 in
set_option maxRecDepth 100000 in
theorem prove_no (ls : List Lf) (p : Option Addr) (n c : Nat) (hl : ls.length = n) (hv : validM ls ≠ 0) (key : ByteArray) (w : World) (hL : OwnL w p ls) :
    Calls Tryd.prog 21 #[.slice p n c, .string key] w fun e w' => e = .returned (.tuple #[.agg zeroPrf.toArray, .int .i64 (validM ls)]) ∧ Below w.heap.size w w' := by
  have hz2 := build_prf
  have HV := Lib.hid (fun w0 (hB : Below w.heap.size w w0) => valid_any ls p n c hl w0 (hL.keep hB))
  clear hl hL
  generalize validM ls = v at hv HV ⊢
  go_enter Tryd.func21, Tryd.ntmps21
  go_upto_region 1 with (fail)
  generalize hw1 : World.alloc _ _ = W0
  have K2 : Blk W0 w.heap.size 50 zeroPrf := hw1 ▸ (blk_new w _ _)
  have KB : Below w.heap.size w W0 := hw1 ▸ ((Below.refl _ _).alloc (Nat.le_refl _) _)
  clear hw1
  go_wp2_with (first
    | (go_at_call 14; refine (HV.out _ KB).mono ?_; rintro e W1 ⟨rfl, hB1⟩)
    | (refine wpList_store_mid rfl 50 (.tmp 4) (.tmp 12) rfl w.heap.size 0 zeroPrf.toArray rfl rfl (by simpa using (K2.keep hB1).there 0 4 (by simp)) (by kernel_rfl) (all_oneCell_toArray zero_one) ?_))
  have B6 := (only_sets w.heap.size 0 W1 zeroPrf).2.2 _ _ (Nat.le_refl _) (link KB hB1)
  have K6 : Blk (W1.setCells w.heap.size 0 zeroPrf) w.heap.size 50 zeroPrf := (K2.keep hB1).all rfl
  try dsimp only at B6 ⊢
  generalize World.setCells W1 w.heap.size 0 zeroPrf = V6 at B6 K6 ⊢
  exact bodyPost_ret (v := .tuple #[.agg zeroPrf.toArray, .int .i64 v]) (results_and (p := 4) (q := 5) (ty := 50) rfl _ _ rfl rfl (K6.loadVarS Tryd.underlying50 (by kernel_rfl))) rfl ⟨rfl, B6⟩

/-- Whether the leaf at an index has a key. -/
def keyAt (ls : List Lf) (i : Nat) (key : ByteArray) : Bool := match ls[i]? with
  | some x => x.1.toList == key.toList
  | none => false
/-- The range of the proof for a key. -/
def proveR (ls : List Lf) (key : ByteArray) : Nat × Nat := if keyAt ls (fromM ls key) key then (fromM ls key, fromM ls key + 1) else (fromM ls key - 1, min (fromM ls key + 1) ls.length)
theorem fromM_le (ls : List Lf) (key : ByteArray) : fromM ls key ≤ ls.length := List.findIdx_le_length
theorem keyAt_lt {ls : List Lf} {i : Nat} {key : ByteArray} (h : keyAt ls i key = true) : i < ls.length := by
  unfold keyAt at h
  split at h
  · rename_i x hx; exact (List.getElem?_eq_some_iff.1 hx).1
  · cases h
theorem proveR_ok (ls : List Lf) (key : ByteArray) : Rng ls.length (proveR ls key).1 (proveR ls key).2 := by
  have h1 := fromM_le ls key
  unfold proveR Rng
  split
  · rename_i h
    have := keyAt_lt h
    exact Or.inr ⟨Nat.lt_succ_self _, this⟩
  · rcases Nat.eq_zero_or_pos ls.length with h0 | h0
    · exact Or.inl ⟨h0, by dsimp only; omega, by dsimp only; omega⟩
    · exact Or.inr ⟨by dsimp only; omega, by dsimp only; omega⟩

set_option maxHeartbeats 2000000 in
set_option maxRecDepth 100000 in
theorem prove_yes (ls : List Lf) (p : Option Addr) (n c : Nat) (hl : ls.length = n) (hc : n ≤ c) (hq : n = 0 → p = none ∧ c = 0) (h0 : validM ls = 0) (key : ByteArray) (w : World) (hG : Glob w) (hL : OwnL w p ls) :
    Calls Tryd.prog 21 #[.slice p n c, .string key] w fun e w' => ∃ v, e = .returned (.tuple #[v, .int .i64 0]) ∧
      PrfV w' w.heap.size (proveR ls key).1 n ((ls.drop (proveR ls key).1).take ((proveR ls key).2 - (proveR ls key).1)) (sidesM ls (proveR ls key).1 (proveR ls key).2 0 n) v ∧ Below w.heap.size w w' := by
  obtain ⟨hn4, hfit, hord⟩ := valid_zero h0
  have hS := small_of hfit
  have HV := Lib.hid (fun w0 (hB : Below w.heap.size w w0) => valid_any ls p n c hl w0 (hL.keep hB))
  rw [h0] at HV
  have HF := Lib.hid (fun w0 (hB : Below w.heap.size w w0) => from_any ls p n c hl (by omega) hord key w0 (hL.keep hB))
  have HP := Lib.hid (fun (w0 : World) (F e : Nat) (hR : Rng n F e) (hB : Below w.heap.size w w0) => proof_any ls p n c F e hl (by omega) hc hR hq hS w0 (hG.keep hB) (hL.keep hB))
  have hRok := proveR_ok ls key
  rw [hl] at hRok
  have hfl := fromM_le ls key
  rw [hl] at hfl
  have hkx : keyAt ls (fromM ls key) key = true → ∃ b off x, p = some ⟨b, off, none⟩ ∧ b < w.heap.size ∧ w.cell? ⟨b, off + fromM ls key * 2, none⟩ = some (.string x) ∧ (x.toList == key.toList) = true := by
    intro hk
    have hlt := keyAt_lt hk
    obtain ⟨b, off, hp, hL2⟩ := hL (by intro h; rw [h] at hlt; simp at hlt)
    have hx : ls[fromM ls key]? = some ls[fromM ls key] := List.getElem?_eq_getElem hlt
    refine ⟨b, off, _, hp, hL2.1, (hL2.at hx).1, ?_⟩
    unfold keyAt at hk
    rw [hx] at hk
    exact hk
  have hkn : ¬ keyAt ls (fromM ls key) key = true → fromM ls key < n → ∃ b off x, p = some ⟨b, off, none⟩ ∧ b < w.heap.size ∧ w.cell? ⟨b, off + fromM ls key * 2, none⟩ = some (.string x) ∧ (x.toList == key.toList) = false := by
    intro hk hlt
    obtain ⟨b, off, hp, hL2⟩ := hL (by intro h; rw [h] at hl; simp at hl; omega)
    have hx : ls[fromM ls key]? = some (ls[fromM ls key]'(by omega)) := List.getElem?_eq_getElem (by omega)
    refine ⟨b, off, _, hp, hL2.1, (hL2.at hx).1, ?_⟩
    unfold keyAt at hk
    rw [hx] at hk
    simpa using hk
  have hpr : proveR ls key = if keyAt ls (fromM ls key) key then (fromM ls key, fromM ls key + 1) else (fromM ls key - 1, min (fromM ls key + 1) n) := by unfold proveR; rw [hl]
  generalize proveR ls key = FE at hRok hpr ⊢
  obtain ⟨F, e⟩ := FE
  dsimp only at hRok ⊢
  have HQ := Lib.hid (fun (w0 : World) (hB : Below w.heap.size w w0) => HP.out w0 F e hRok hB)
  generalize (ls.drop F).take (e - F) = part at HQ ⊢
  generalize sidesM ls F e 0 n = SD at HQ ⊢
  generalize keyAt ls (fromM ls key) key = ka at hkx hkn hpr
  generalize fromM ls key = i at HF hfl hkx hkn hpr
  rw [hl] at hn4
  clear hL hG hl hS hfit hord h0 HP hq
  go_enter Tryd.func21, Tryd.ntmps21
  go_upto_region 1 with (fail)
  generalize hw1 : World.alloc _ _ = W0
  have K2 : Blk W0 w.heap.size 50 zeroPrf := hw1 ▸ (blk_new w _ _)
  have KB : Below w.heap.size w W0 := hw1 ▸ ((Below.refl _ _).alloc (Nat.le_refl _) _)
  clear hw1
  go_upto_region 5 with (first
    | (go_at_call 14; refine (HV.out _ KB).mono ?_; rintro e W1 ⟨rfl, hB1⟩)
    | (go_at_call 45; refine (HF.out _ (link KB hB1)).mono ?_; rintro e W2 ⟨rfl, hB2⟩))
  have CB := link (link KB hB1) hB2
  have L2 := (K2.keep hB1).keep hB2
  clear K2 KB hB1 hB2 HV HF
  rcases ka with _ | _
  · simp only [Bool.false_eq_true, if_false, Prod.mk.injEq] at hpr
    obtain ⟨hF, he⟩ := hpr
    have hE := Lib.hid (And.intro hF he)
    clear hF he hRok
    by_cases hlt : i < n
    · obtain ⟨b, off, x, rfl, hb, hx, hxk⟩ := hkn (by simp) hlt
      have cx := (CB.cell hb).trans hx
      clear hkx hkn
      go_wp2_with (first
        | (go_at_call 46; rw [show max ((i : Int) - 1) 0 = (F : Int) from by have := hE.out; omega, show min ((i : Int) + 1) (n : Int) = (e : Int) from by have := hE.out; omega]; refine (HQ.out _ CB).mono ?_; rintro e3 W3 ⟨v, rfl, hPv, hB3⟩; obtain ⟨cs, rfl, hcl, hc1⟩ := hPv.one)
        | (refine wpList_store_mid rfl 50 (.tmp 4) (.tmp 44) rfl w.heap.size 0 cs.toArray rfl rfl (by rw [show cs.toArray.size = 4 from hcl]; exact (L2.keep hB3).there 0 4 (by decide)) (by rw [show cs.toArray.size = 4 from hcl]; kernel_rfl) (all_oneCell_toArray hc1) ?_))
      have K6 : Blk (W3.setCells w.heap.size 0 cs) w.heap.size 50 cs := (L2.keep hB3).all (by rw [hcl]; rfl)
      have B6 := (only_sets w.heap.size 0 W3 cs).2.2 _ _ (Nat.le_refl _) (link CB hB3)
      have P6 := hPv.heap (w' := W3.setCells w.heap.size 0 cs) (B' := w.heap.size) (fun j hj => heap_sets w.heap.size cs W3 0 j (by have := L2.lt; omega)) (Nat.le_of_eq (sets_size w.heap.size cs W3 0).symm) (Nat.le_of_lt L2.lt)
      try dsimp only at B6 K6 P6 ⊢
      generalize World.setCells W3 w.heap.size 0 cs = V6 at B6 K6 P6 ⊢
      exact bodyPost_ret (v := .tuple #[.agg cs.toArray, .int .i64 0]) (results_and (p := 4) (q := 5) (ty := 50) rfl _ _ rfl rfl (K6.loadVarS Tryd.underlying50 (by rw [hcl]; kernel_rfl))) rfl ⟨_, rfl, P6, B6⟩
    · clear hkx hkn
      go_wp2_with (first
        | (go_at_call 46; rw [show max ((i : Int) - 1) 0 = (F : Int) from by have := hE.out; omega, show min ((i : Int) + 1) (n : Int) = (e : Int) from by have := hE.out; omega]; refine (HQ.out _ CB).mono ?_; rintro e3 W3 ⟨v, rfl, hPv, hB3⟩; obtain ⟨cs, rfl, hcl, hc1⟩ := hPv.one)
        | (refine wpList_store_mid rfl 50 (.tmp 4) (.tmp 44) rfl w.heap.size 0 cs.toArray rfl rfl (by rw [show cs.toArray.size = 4 from hcl]; exact (L2.keep hB3).there 0 4 (by decide)) (by rw [show cs.toArray.size = 4 from hcl]; kernel_rfl) (all_oneCell_toArray hc1) ?_))
      have K6 : Blk (W3.setCells w.heap.size 0 cs) w.heap.size 50 cs := (L2.keep hB3).all (by rw [hcl]; rfl)
      have B6 := (only_sets w.heap.size 0 W3 cs).2.2 _ _ (Nat.le_refl _) (link CB hB3)
      have P6 := hPv.heap (w' := W3.setCells w.heap.size 0 cs) (B' := w.heap.size) (fun j hj => heap_sets w.heap.size cs W3 0 j (by have := L2.lt; omega)) (Nat.le_of_eq (sets_size w.heap.size cs W3 0).symm) (Nat.le_of_lt L2.lt)
      try dsimp only at B6 K6 P6 ⊢
      generalize World.setCells W3 w.heap.size 0 cs = V6 at B6 K6 P6 ⊢
      exact bodyPost_ret (v := .tuple #[.agg cs.toArray, .int .i64 0]) (results_and (p := 4) (q := 5) (ty := 50) rfl _ _ rfl rfl (K6.loadVarS Tryd.underlying50 (by rw [hcl]; kernel_rfl))) rfl ⟨_, rfl, P6, B6⟩
  · obtain ⟨b, off, x, rfl, hb, hx, hxk⟩ := hkx rfl
    have cx := (CB.cell hb).trans hx
    simp only [if_true, Prod.mk.injEq] at hpr
    obtain ⟨rfl, he⟩ := hpr
    rcases hRok with hRok | hRok
    · omega
    have hw1 : IntKind.i64.wrap ((F : Int) + 1) = (e : Int) := by
      rw [show ((F : Int) + 1) = (e : Int) by omega]
      simp [IntKind.wrap, IntKind.signed, IntKind.bits]
      omega
    have hlt : F < n := by omega
    clear hkx hkn
    clear he hRok
    go_wp2_with (first
      | (go_at_call 46; refine (HQ.out _ CB).mono ?_; rintro e3 W3 ⟨v, rfl, hPv, hB3⟩; obtain ⟨cs, rfl, hcl, hc1⟩ := hPv.one)
      | (refine wpList_store_mid rfl 50 (.tmp 4) (.tmp 34) rfl w.heap.size 0 cs.toArray rfl rfl (by rw [show cs.toArray.size = 4 from hcl]; exact (L2.keep hB3).there 0 4 (by decide)) (by rw [show cs.toArray.size = 4 from hcl]; kernel_rfl) (all_oneCell_toArray hc1) ?_))
    have K6 : Blk (W3.setCells w.heap.size 0 cs) w.heap.size 50 cs := (L2.keep hB3).all (by rw [hcl]; rfl)
    have B6 := (only_sets w.heap.size 0 W3 cs).2.2 _ _ (Nat.le_refl _) (link CB hB3)
    have P6 := hPv.heap (w' := W3.setCells w.heap.size 0 cs) (B' := w.heap.size) (fun j hj => heap_sets w.heap.size cs W3 0 j (by have := L2.lt; omega)) (Nat.le_of_eq (sets_size w.heap.size cs W3 0).symm) (Nat.le_of_lt L2.lt)
    try dsimp only at B6 K6 P6 ⊢
    generalize World.setCells W3 w.heap.size 0 cs = V6 at B6 K6 P6 ⊢
    exact bodyPost_ret (v := .tuple #[.agg cs.toArray, .int .i64 0]) (results_and (p := 4) (q := 5) (ty := 50) rfl _ _ rfl rfl (K6.loadVarS Tryd.underlying50 (by rw [hcl]; kernel_rfl))) rfl ⟨_, rfl, P6, B6⟩

end Go.Proofs.YtfhfmdnimebegaaDoor

/-
  merkle.Range.
-/
namespace Go.Proofs.YtfhfmdnimebegaaDoor
open Go.RowKit
set_option linter.unusedVariables false
set_option linter.unusedSimpArgs false

/-- The range of the proof of a range of keys. -/
def rangeR (ls : List Lf) (low hik : ByteArray) : Nat × Nat := (fromM ls low - 1, min (fromM ls hik + 1) ls.length)
theorem sless_eq (a b : ByteArray) : sless a b = decide (a.toList < b.toList) := by unfold sless; rw [bytesLess_eq]
/-- What is less than a key is less than a greater one. -/
theorem sless_le {x a b : ByteArray} (h1 : sless b a = false) (h2 : sless x a = true) : sless x b = true := by
  rw [sless_eq] at *
  rw [decide_eq_true_eq] at *
  rw [decide_eq_false_iff_not] at h1
  rcases List.le_iff_lt_or_eq.1 (List.not_lt.1 h1) with h | h
  · exact List.lt_trans h2 h
  · rwa [← h]
theorem from_mono (low hik : ByteArray) (h : sless hik low = false) : ∀ ls : List Lf, fromM ls low ≤ fromM ls hik
  | [] => Nat.le_refl _
  | x :: r => by
    have ih := from_mono low hik h r
    unfold fromM at *
    rw [List.findIdx_cons, List.findIdx_cons]
    rcases hx : sless x.1 low with _ | _
    · simp
    · rw [sless_le h hx]
      simpa using ih
theorem rangeR_ok (ls : List Lf) (low hik : ByteArray) (h : sless hik low = false) : Rng ls.length (rangeR ls low hik).1 (rangeR ls low hik).2 := by
  have h1 := fromM_le ls low
  have h2 := fromM_le ls hik
  have h3 := from_mono low hik h ls
  unfold rangeR Rng
  rcases Nat.eq_zero_or_pos ls.length with h0 | h0
  · exact Or.inl ⟨h0, by dsimp only; omega, by dsimp only; omega⟩
  · exact Or.inr ⟨by dsimp only; omega, by dsimp only; omega⟩

set_option maxHeartbeats 2000000 in
set_option maxRecDepth 100000 in
theorem range_no (ls : List Lf) (p : Option Addr) (n c : Nat) (hl : ls.length = n) (hv : validM ls ≠ 0) (low hik : ByteArray) (w : World) (hL : OwnL w p ls) :
    Calls Tryd.prog 23 #[.slice p n c, .string low, .string hik] w fun e w' => e = .returned (.tuple #[.agg zeroPrf.toArray, .int .i64 (validM ls)]) ∧ Below w.heap.size w w' := by
  have hz2 := build_prf
  have HV := Lib.hid (fun w0 (hB : Below w.heap.size w w0) => valid_any ls p n c hl w0 (hL.keep hB))
  clear hl hL
  generalize validM ls = v at hv HV ⊢
  go_enter Tryd.func23, Tryd.ntmps23
  go_upto_region 1 with (fail)
  generalize hw1 : World.alloc _ _ = W0
  have K2 : Blk W0 w.heap.size 50 zeroPrf := hw1 ▸ (blk_new w _ _)
  have KB : Below w.heap.size w W0 := hw1 ▸ ((Below.refl _ _).alloc (Nat.le_refl _) _)
  clear hw1
  go_wp2_with (first
    | (go_at_call 14; refine (HV.out _ KB).mono ?_; rintro e W1 ⟨rfl, hB1⟩)
    | (refine wpList_store_mid rfl 50 (.tmp 6) (.tmp 13) rfl w.heap.size 0 zeroPrf.toArray rfl rfl (by simpa using (K2.keep hB1).there 0 4 (by simp)) (by kernel_rfl) (all_oneCell_toArray zero_one) ?_))
  have B6 := (only_sets w.heap.size 0 W1 zeroPrf).2.2 _ _ (Nat.le_refl _) (link KB hB1)
  have K6 : Blk (W1.setCells w.heap.size 0 zeroPrf) w.heap.size 50 zeroPrf := (K2.keep hB1).all rfl
  try dsimp only at B6 ⊢
  generalize World.setCells W1 w.heap.size 0 zeroPrf = V6 at B6 K6 ⊢
  exact bodyPost_ret (v := .tuple #[.agg zeroPrf.toArray, .int .i64 v]) (results_and (p := 6) (q := 7) (ty := 50) rfl _ _ rfl rfl (K6.loadVarS Tryd.underlying50 (by kernel_rfl))) rfl ⟨rfl, B6⟩


set_option maxHeartbeats 2000000 in
set_option maxRecDepth 100000 in
theorem range_bad (ls : List Lf) (p : Option Addr) (n c : Nat) (hl : ls.length = n) (hv : validM ls = 0) (low hik : ByteArray) (hlt : sless hik low = true) (w : World) (hL : OwnL w p ls) :
    Calls Tryd.prog 23 #[.slice p n c, .string low, .string hik] w fun e w' => e = .returned (.tuple #[.agg zeroPrf.toArray, .int .i64 5]) ∧ Below w.heap.size w w' := by
  have hz2 := build_prf
  have HV := Lib.hid (fun w0 (hB : Below w.heap.size w w0) => valid_any ls p n c hl w0 (hL.keep hB))
  clear hl hL
  rw [hv] at HV
  clear hv
  unfold sless at hlt
  go_enter Tryd.func23, Tryd.ntmps23
  go_upto_region 1 with (fail)
  generalize hw1 : World.alloc _ _ = W0
  have K2 : Blk W0 w.heap.size 50 zeroPrf := hw1 ▸ (blk_new w _ _)
  have KB : Below w.heap.size w W0 := hw1 ▸ ((Below.refl _ _).alloc (Nat.le_refl _) _)
  clear hw1
  go_wp2_with (first
    | (go_at_call 14; refine (HV.out _ KB).mono ?_; rintro e W1 ⟨rfl, hB1⟩)
    | (refine wpList_store_mid rfl 50 (.tmp 6) (.tmp 18) rfl w.heap.size 0 zeroPrf.toArray rfl rfl (by simpa using (K2.keep hB1).there 0 4 (by simp)) (by kernel_rfl) (all_oneCell_toArray zero_one) ?_))
  have B6 := (only_sets w.heap.size 0 W1 zeroPrf).2.2 _ _ (Nat.le_refl _) (link KB hB1)
  have K6 : Blk (W1.setCells w.heap.size 0 zeroPrf) w.heap.size 50 zeroPrf := (K2.keep hB1).all rfl
  try dsimp only at B6 ⊢
  generalize World.setCells W1 w.heap.size 0 zeroPrf = V6 at B6 K6 ⊢
  exact bodyPost_ret (v := .tuple #[.agg zeroPrf.toArray, .int .i64 5]) (results_and (p := 6) (q := 7) (ty := 50) rfl _ _ rfl rfl (K6.loadVarS Tryd.underlying50 (by kernel_rfl))) rfl ⟨rfl, B6⟩


set_option maxHeartbeats 2000000 in
set_option maxRecDepth 100000 in
theorem range_yes (ls : List Lf) (p : Option Addr) (n c : Nat) (hl : ls.length = n) (hc : n ≤ c) (hq : n = 0 → p = none ∧ c = 0) (h0 : validM ls = 0) (low hik : ByteArray) (hlt : sless hik low = false) (w : World) (hG : Glob w) (hL : OwnL w p ls) :
    Calls Tryd.prog 23 #[.slice p n c, .string low, .string hik] w fun e w' => ∃ v, e = .returned (.tuple #[v, .int .i64 0]) ∧
      PrfV w' w.heap.size (rangeR ls low hik).1 n ((ls.drop (rangeR ls low hik).1).take ((rangeR ls low hik).2 - (rangeR ls low hik).1)) (sidesM ls (rangeR ls low hik).1 (rangeR ls low hik).2 0 n) v ∧ Below w.heap.size w w' := by
  obtain ⟨hn4, hfit, hord⟩ := valid_zero h0
  have hS := small_of hfit
  have HV := Lib.hid (fun w0 (hB : Below w.heap.size w w0) => valid_any ls p n c hl w0 (hL.keep hB))
  rw [h0] at HV
  have HF := Lib.hid (fun w0 (hB : Below w.heap.size w w0) => from_any ls p n c hl (by omega) hord low w0 (hL.keep hB))
  have HT := Lib.hid (fun w0 (hB : Below w.heap.size w w0) => from_any ls p n c hl (by omega) hord hik w0 (hL.keep hB))
  have hRok := rangeR_ok ls low hik hlt
  rw [hl] at hRok
  have hpr : rangeR ls low hik = (fromM ls low - 1, min (fromM ls hik + 1) n) := by unfold rangeR; rw [hl]
  have hfl := fromM_le ls low
  have hft := fromM_le ls hik
  rw [hl] at hfl hft hn4
  generalize rangeR ls low hik = FE at hRok hpr ⊢
  obtain ⟨F, e⟩ := FE
  simp only [Prod.mk.injEq] at hpr
  dsimp only at hRok ⊢
  have HQ := Lib.hid (fun (w0 : World) (hB : Below w.heap.size w w0) => proof_any ls p n c F e hl (by omega) hc hRok hq hS w0 (hG.keep hB) (hL.keep hB))
  generalize (ls.drop F).take (e - F) = part at HQ ⊢
  generalize sidesM ls F e 0 n = SD at HQ ⊢
  generalize fromM ls low = i at HF hfl hpr
  generalize fromM ls hik = j at HT hft hpr
  have hE := Lib.hid hpr
  unfold sless at hlt
  clear hL hG hl hS hfit hord h0 hq hpr hRok
  go_enter Tryd.func23, Tryd.ntmps23
  go_upto_region 1 with (fail)
  generalize hw1 : World.alloc _ _ = W0
  have K2 : Blk W0 w.heap.size 50 zeroPrf := hw1 ▸ (blk_new w _ _)
  have KB : Below w.heap.size w W0 := hw1 ▸ ((Below.refl _ _).alloc (Nat.le_refl _) _)
  clear hw1
  go_upto_region 6 with (go_at_call 14; refine (HV.out _ KB).mono ?_; rintro e W1 ⟨rfl, hB1⟩)
  have CB1 := link KB hB1
  have L1 := K2.keep hB1
  clear K2 KB hB1 HV
  go_wp2_with (first
    | (go_at_call_of 45 (Value.string low); refine (HF.out _ CB1).mono ?_; rintro e W4 ⟨rfl, hB4⟩)
    | (go_at_call_of 45 (Value.string hik); refine (HT.out _ (link CB1 hB4)).mono ?_; rintro e W2 ⟨rfl, hB5⟩; have CB := link (link CB1 hB4) hB5; have L2 := (L1.keep hB4).keep hB5)
    | (go_at_call 46; rw [show max ((i : Int) - 1) 0 = (F : Int) from by have := hE.out; omega, show min ((j : Int) + 1) (n : Int) = (e : Int) from by have := hE.out; omega]; refine (HQ.out _ CB).mono ?_; rintro e3 W3 ⟨v, rfl, hPv, hB3⟩; obtain ⟨cs, rfl, hcl, hc1⟩ := hPv.one)
    | (refine wpList_store_mid rfl 50 (.tmp 6) (.tmp 32) rfl w.heap.size 0 cs.toArray rfl rfl (by rw [show cs.toArray.size = 4 from hcl]; exact (L2.keep hB3).there 0 4 (by decide)) (by rw [show cs.toArray.size = 4 from hcl]; kernel_rfl) (all_oneCell_toArray hc1) ?_))
  have K6 : Blk (W3.setCells w.heap.size 0 cs) w.heap.size 50 cs := (L2.keep hB3).all (by rw [hcl]; rfl)
  have B6 := (only_sets w.heap.size 0 W3 cs).2.2 _ _ (Nat.le_refl _) (link CB hB3)
  have P6 := hPv.heap (w' := W3.setCells w.heap.size 0 cs) (B' := w.heap.size) (fun j hj => heap_sets w.heap.size cs W3 0 j (by have := L2.lt; omega)) (Nat.le_of_eq (sets_size w.heap.size cs W3 0).symm) (Nat.le_of_lt L2.lt)
  try dsimp only at B6 K6 P6 ⊢
  generalize World.setCells W3 w.heap.size 0 cs = V6 at B6 K6 P6 ⊢
  exact bodyPost_ret (v := .tuple #[.agg cs.toArray, .int .i64 0]) (results_and (p := 6) (q := 7) (ty := 50) rfl _ _ rfl rfl (K6.loadVarS Tryd.underlying50 (by rw [hcl]; kernel_rfl))) rfl ⟨_, rfl, P6, B6⟩


end Go.Proofs.YtfhfmdnimebegaaDoor
