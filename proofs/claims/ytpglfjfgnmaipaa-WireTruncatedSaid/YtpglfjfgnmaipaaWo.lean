/-
  The calls of passimlaw01.sanity, at their literal arguments.
-/
import Derived.Test.YtpglfjfgnmaipaaWw
namespace Go.Proofs.Ytpglfjfgnmaipaa
open Go.RowKit

theorem sz_256 : sz 256 = 2 := by rw [sz_pos (by omega), sz_pos (by omega), show 256 / 256 / 256 = 0 from rfl, sz_zero]
theorem sz_2 : sz 2 = 1 := by rw [sz_pos (by omega), show 2 / 256 = 0 from rfl, sz_zero]
theorem sz_1 : sz 1 = 1 := by rw [sz_pos (by omega), show 1 / 256 = 0 from rfl, sz_zero]
theorem dec1 : dec [130, 1, 0, 9] = (256, 3, 0) := by simp [dec, val, sz_256]
theorem dec2 : dec [130, 1] = (0, 0, 3) := by simp [dec]
theorem dec3 : dec [129, 0] = (0, 0, 2) := by simp [dec, val, sz_zero]
theorem dec4 : dec [129, 2, 97, 98, 7] = (2, 2, 0) := by simp [dec, val, sz_2]
theorem decB4 : decB [129, 2, 97, 98, 7] = ([97, 98], 4, 0) := by simp [decB, lenD, lenE, dec4]
theorem dec5 : dec [129, 2, 129, 1, 127] = (2, 2, 0) := by simp [dec, val, sz_2]
theorem dec5a : dec [129, 1, 127] = (1, 2, 0) := by simp [dec, val, sz_1]
theorem dec5b : dec [127] = (-1, 1, 0) := by simp [dec, nv, val, sz_zero]
theorem list5 : listR (listD dec [129, 2, 129, 1, 127] 1) = ([1, -1], 5, 0) := by simp [listR, listD, lenD, lenE, dec5, loopD, dec5a, dec5b]

theorem has_new (w : World) (l : List Nat) (hl : ∀ d ∈ l, d < 256) (C : Array Value) (hC : C = (bytesV l).toArray) : Has (w.alloc (.cells C 5)) (some ⟨w.heap.size, 0, none⟩) l := by
  subst hC
  refine ⟨fun k u hk => ⟨_, rfl, by simp, new_cells w l _ k u hk⟩, hl⟩

theorem chain {a b c : World} (h1 : Below a.heap.size a b) (h2 : Below b.heap.size b c) : Below a.heap.size a c := h1.trans (h2.mono h1.size)
/-- The call returned v, and what was there has not changed. -/
def Quiet (w : World) (v : Value) (e : Ending) (w' : World) : Prop := e = .returned v ∧ Below w.heap.size w w'
theorem below_alloc {w w' : World} {o : Obj} (h : Below (w.alloc o).heap.size (w.alloc o) w') : Below w.heap.size w w' := ((Below.refl _ _).alloc (Nat.le_refl _) o).trans (h.mono (by simp))

theorem getInt_lit (w : World) (l : List Nat) (hl : ∀ d ∈ l, d < 256) (C : Array Value) (hC : C = (bytesV l).toArray) (n : Nat) (hn : n = l.length) (hs : n ≤ 1000) (x : Int) (u er : Nat) (hr : dec l = (x, u, er)) :
    Calls Try.prog 24 #[.slice (some ⟨w.heap.size, 0, none⟩) n n] (w.alloc (.cells C 5)) (Quiet w (.tuple #[.int .i64 x, .int .i64 u, .int .i64 er])) :=
  (getInt_any (some ⟨w.heap.size, 0, none⟩) l n n _ hn (by omega) (by omega) (has_new w l hl C hC)).mono fun e w' ⟨h1, h2⟩ => by
    subst h2; rw [hr] at h1
    exact ⟨h1, (Below.refl _ _).alloc (Nat.le_refl _) _⟩
theorem getBytes_lit (w : World) (l : List Nat) (hl : ∀ d ∈ l, d < 256) (C : Array Value) (hC : C = (bytesV l).toArray) (n : Nat) (hn : n = l.length) (hs : n ≤ 1000) (x : List Nat) (u er : Nat) (hr : decB l = (x, u, er)) (S : ByteArray) (hS : strOf x = S) :
    Calls Try.prog 26 #[.slice (some ⟨w.heap.size, 0, none⟩) n n] (w.alloc (.cells C 5)) (Quiet w (.tuple #[.string S, .int .i64 u, .int .i64 er])) :=
  (getBytes_any (some ⟨w.heap.size, 0, none⟩) l n n _ hn (by omega) (by omega) (has_new w l hl C hC)).mono fun e w' ⟨h1, h2⟩ => by
    subst h2; subst hS; rw [hr] at h1
    exact ⟨h1, (Below.refl _ _).alloc (Nat.le_refl _) _⟩
theorem own_cells {w : World} {B : Nat} {t : TypeId} {v : Value} {n : Nat} {xs : List Value} (h : w.ownsRow B t 1 v n xs) (hn : 0 < n) : ∃ g cap, v = .slice (some ⟨g, 0, none⟩) n cap ∧ Cells w (some ⟨g, 0, none⟩) xs := by
  obtain ⟨g, cap, rfl, hb, hlt⟩ := h.form hn
  exact ⟨g, cap, rfl, fun k u hk => ⟨_, rfl, hlt, h.cells (g := g) (by simp [Value.ownBlock]) k u hk⟩⟩
/-- The call returned a slice with the cells xs, the number of bytes and no error. -/
def GaveC (w : World) (n : Nat) (xs : List Value) (u : Nat) (e : Ending) (w' : World) : Prop :=
  ∃ g cap, e = .returned (.tuple #[.slice (some ⟨g, 0, none⟩) n cap, .int .i64 u, .int .i64 0]) ∧ Cells w' (some ⟨g, 0, none⟩) xs ∧ Below w.heap.size w w'
theorem getInts_lit (w : World) (l : List Nat) (hl : ∀ d ∈ l, d < 256) (C : Array Value) (hC : C = (bytesV l).toArray) (n : Nat) (hn : n = l.length) (hs : n ≤ 1000) (xs : List Int) (hx : 0 < xs.length) (u : Nat) (hr : listR (listD dec l 1) = (xs, u, 0)) :
    Calls Try.prog 28 #[.slice (some ⟨w.heap.size, 0, none⟩) n n] (w.alloc (.cells C 5)) (GaveC w xs.length (intsV xs) u) :=
  (getInts_any (some ⟨w.heap.size, 0, none⟩) l n n _ hn (by omega) (by omega) (by omega) (has_new w l hl C hC)).mono fun e w' ⟨v, h1, h2, h3⟩ => by
    rw [hr] at h1 h2
    obtain ⟨g, cap, rfl, hc⟩ := own_cells h2 hx
    exact ⟨g, cap, h1, hc, below_alloc h3⟩
theorem getStrings_lit (w : World) (l : List Nat) (hl : ∀ d ∈ l, d < 256) (C : Array Value) (hC : C = (bytesV l).toArray) (n : Nat) (hn : n = l.length) (hs : n ≤ 1000) (xs : List (List Nat)) (hx : 0 < xs.length) (u : Nat) (hr : listR (listD decB l 1) = (xs, u, 0)) :
    Calls Try.prog 31 #[.slice (some ⟨w.heap.size, 0, none⟩) n n] (w.alloc (.cells C 5)) (GaveC w xs.length (strsV (xs.map strOf)) u) :=
  (getStrings_any (some ⟨w.heap.size, 0, none⟩) l n n _ hn (by omega) (by omega) (by omega) (has_new w l hl C hC)).mono fun e w' ⟨v, h1, h2, h3⟩ => by
    rw [hr] at h1 h2
    obtain ⟨g, cap, rfl, hc⟩ := own_cells h2 hx
    exact ⟨g, cap, h1, by unfold strsV; rw [List.map_map]; exact hc, below_alloc h3⟩

/-- The call made a slice of the n bytes l. -/
def GaveB (w : World) (n : Nat) (l : List Nat) (e : Ending) (w' : World) : Prop :=
  ∃ g cap, e = .returned (.slice (some ⟨g, 0, none⟩) n cap) ∧ n ≤ cap ∧ Has w' (some ⟨g, 0, none⟩) l ∧ Below w.heap.size w w'
theorem gaveB_of {w : World} {m l : List Nat} {n : Nat} (hl : m = l) (hn : n = l.length) (h : ∀ d ∈ l, d < 256) {e : Ending} {w' : World} (hm : Made w m e w') : GaveB w n l e w' := by
  subst hl; subst hn
  obtain ⟨g, cap, h1, h2⟩ := hm
  refine ⟨g, cap, h1, ?_, h2.has h, h2.below⟩
  rcases h2.1.2 with ⟨h0, _⟩ | ⟨g', cap', cur, hv, _, _, hc, _⟩
  · cases h0
  · cases hv; exact hc
theorem gaveB_alloc {w : World} {n : Nat} {o : Obj} {l : List Nat} {e : Ending} {w' : World} (h : GaveB (w.alloc o) n l e w') : GaveB w n l e w' := by
  obtain ⟨g, cap, h1, h2, h3, h4⟩ := h
  exact ⟨g, cap, h1, h2, h3, below_alloc h4⟩
theorem same_lit (w : World) (A : Option Addr) (l m : List Nat) (n c : Nat) (hn : n = l.length) (hl : l.length ≤ 1000) (ha : Has w A l) (hm : ∀ d ∈ m, d < 256) (C : Array Value) (hC : C = (bytesV m).toArray) (k : Nat) (hk : k = m.length) (hs : k ≤ 1000) :
    Calls Try.prog 13 #[.slice A n c, .slice (some ⟨w.heap.size, 0, none⟩) k k] (w.alloc (.cells C 5)) (Told w (decide (l = m))) :=
  (same_any A _ l m n k c k _ hn hk (by omega) (by omega) (ha.keep ((Below.refl _ _).alloc (Nat.le_refl _) _)) (has_new w m hm C hC)).mono fun e w' ⟨h1, h2⟩ => ⟨h1, below_alloc h2⟩
theorem cells_new (w : World) (xs : List Value) (t : TypeId) (C : Array Value) (hC : C = xs.toArray) : Cells (w.alloc (.cells C t)) (some ⟨w.heap.size, 0, none⟩) xs := by
  subst hC
  intro k u hk
  refine ⟨_, rfl, by simp, ?_⟩
  rw [Addr.add_mid, Nat.zero_add, World.cell?_alloc_mark]
  simpa using hk
theorem sameInts_lit (w : World) (A : Option Addr) (l m : List Int) (n c : Nat) (hn : n = l.length) (hl : l.length ≤ 1000) (ha : Cells w A (intsV l)) (C : Array Value) (hC : C = (intsV m).toArray) (k : Nat) (hk : k = m.length) (hs : k ≤ 1000) :
    Calls Try.prog 30 #[.slice A n c, .slice (some ⟨w.heap.size, 0, none⟩) k k] (w.alloc (.cells C 3)) (Told w (decide (l = m))) :=
  (sameInts_any A _ l m n k c k _ hn hk (by omega) (by omega) (ha.keep ((Below.refl _ _).alloc (Nat.le_refl _) _)) (cells_new w _ _ C hC)).mono fun e w' ⟨h1, h2⟩ => ⟨h1, below_alloc h2⟩
theorem sameTexts_lit (w : World) (A : Option Addr) (l m : List ByteArray) (n c : Nat) (hn : n = l.length) (hl : l.length ≤ 1000) (ha : Cells w A (strsV l)) (C : Array Value) (hC : C = (strsV m).toArray) (k : Nat) (hk : k = m.length) (hs : k ≤ 1000) :
    Calls Try.prog 33 #[.slice A n c, .slice (some ⟨w.heap.size, 0, none⟩) k k] (w.alloc (.cells C 9)) (Told w (decide (l = m))) :=
  (sameTexts_any A _ l m n k c k _ hn hk (by omega) (by omega) (ha.keep ((Below.refl _ _).alloc (Nat.le_refl _) _)) (cells_new w _ _ C hC)).mono fun e w' ⟨h1, h2⟩ => ⟨h1, below_alloc h2⟩

def D0 : List Nat := [1, 2, 0, 0, 0, 0, 0, 0, 0, 0, 0, 0, 0, 0, 0, 0]
def E0 : List Nat := [129, 1, 1, 2, 0, 0, 0, 0, 0, 0, 0, 0, 0, 0, 0, 0, 0, 0]
theorem enc_1 : enc 1 = [129, 1] := by simp [enc, sz_1, be]
theorem enc_2 : enc 2 = [129, 2] := by simp [enc, sz_2, be]
theorem enc_0 : enc 0 = [128] := by simp [enc, sz_zero, be]
theorem enc_m1 : enc (-1) = [127] := by simp [enc, sz_zero, be]
theorem enc_m257 : enc (-257) = [125, 254, 255] := by simp [enc, sz_256, be]
theorem encD_0 : encD [D0] = E0 := by
  unfold encD
  rw [show (([D0] : List (List Nat)).length : Int) = 1 from rfl, enc_1]
  rfl
theorem dig_0 : Dig D0 := by unfold Dig D0; simp
theorem dec_E0 : dec E0 = (1, 2, 0) := by simp [E0, dec, val, sz_1]
theorem list_E0 : listR (listD decG E0 16) = ([D0], 18, 0) := by
  have h : lenD E0 16 = (1, 2, 0) := by unfold lenD; rw [dec_E0]; simp [lenE, E0]
  have h2 : listD decG E0 16 = ([D0], 18, 0) := by unfold listD; rw [h]; simp [loopD, decG, E0, D0]
  rw [h2]; simp [listR]
theorem E0_lt : ∀ d ∈ E0, d < 256 := by unfold E0; simp
theorem digests_lit (w : World) (b : Nat) (hb : b = w.heap.size) (C : Array Value) (hC : C = (bytesV D0).toArray) :
    Calls Try.prog 22 #[.slice (some ⟨b, 0, none⟩) 1 1] (w.alloc (.cells C 57)) (GaveB w 18 E0) := by
  subst hb
  refine (digests_any (some ⟨w.heap.size, 0, none⟩) [D0] 1 1 _ rfl (by simp) ?_).mono fun e w' h => gaveB_alloc (gaveB_of encD_0 rfl E0_lt h)
  intro k d hk
  have hk0 : k = 0 := by
    rcases Nat.eq_zero_or_pos k with h | h
    · exact h
    · rw [List.getElem?_eq_none (by simp; omega)] at hk; cases hk
  subst hk0
  obtain rfl : D0 = d := by simpa using hk
  refine ⟨dig_0, _, rfl, by simp, fun j u hj => ?_⟩
  subst hC
  simp only [Nat.zero_mul, Nat.zero_add]
  exact new_cells w D0 _ j u hj
/-- The call returned the digests l, the number of bytes and no error. -/
def GaveDs (w : World) (n : Nat) (l : List (List Nat)) (u : Nat) (e : Ending) (w' : World) : Prop :=
  ∃ g cap, e = .returned (.tuple #[.slice (some ⟨g, 0, none⟩) n cap, .int .i64 u, .int .i64 0]) ∧ DRow w' g 0 l ∧ Below w.heap.size w w'
theorem getDigests_lit (w : World) (g c : Nat) (hc : 18 ≤ c) (hr : Has w (some ⟨g, 0, none⟩) E0) :
    Calls Try.prog 34 #[.slice (some ⟨g, 0, none⟩) 18 c] w (GaveDs w 1 [D0] 18) :=
  (getDigests_any (some ⟨g, 0, none⟩) E0 18 c w rfl hc (by omega) (by simp [E0]) hr).mono fun e w' ⟨v, h1, h2, h3⟩ => by
    rw [list_E0] at h1 h2
    obtain ⟨g', cap, rfl, hb, hlt⟩ := h2.form (by simp)
    refine ⟨g', cap, h1, ?_, h3⟩
    intro k d hk
    have hk0 : k = 0 := by
      rcases Nat.eq_zero_or_pos k with h | h
      · exact h
      · rw [List.getElem?_eq_none (by simp; omega)] at hk; cases hk
    subst hk0
    obtain rfl : D0 = d := by simpa using hk
    refine ⟨dig_0, hlt, fun j u hj => ?_⟩
    have := h2.cells (g := g') (by simp [Value.ownBlock]) j u (by simpa using hj)
    rw [Addr.add_mid] at this
    simpa using this
theorem decB_6a : decB [128, 129, 1, 97, 5] = ([], 1, 0) := by simp [decB, lenD, lenE, dec, val, sz_zero]
theorem decB_6b : decB [129, 1, 97, 5] = ([97], 3, 0) := by simp [decB, lenD, lenE, dec, val, sz_1]
theorem list6 : listR (listD decB [129, 2, 128, 129, 1, 97, 5] 1) = ([[], [97]], 6, 0) := by
  have h : lenD [129, 2, 128, 129, 1, 97, 5] 1 = (2, 2, 0) := by simp [lenD, lenE, dec, val, sz_2]
  simp [listR, listD, h, loopD, decB_6a, decB_6b]

theorem told_true {f : FuncId} {args : Array Value} {w w0 : World} {b : Bool} (h : Calls Try.prog f args w (Told w0 b)) (hb : b = true) : Calls Try.prog f args w (Told w0 true) := by
  subst hb; exact h
theorem strings_lit (w : World) (C : Array Value) (hC : C = #[.string ⟨#[]⟩, .string ⟨#[97]⟩]) : Calls Try.prog 20 #[.slice (some ⟨w.heap.size, 0, none⟩) 2 2] (w.alloc (.cells C 9)) (GaveB w 6 [129, 2, 128, 129, 1, 97]) := by
  subst hC
  refine (strings_any (some ⟨w.heap.size, 0, none⟩) [⟨#[]⟩, ⟨#[97]⟩] 2 2 _ rfl (by simp) (by decide) (cells_new w _ _ _ rfl)).mono fun e w' h => gaveB_alloc (gaveB_of (l := [129, 2, 128, 129, 1, 97]) ?_ rfl (by simp) h)
  have e : sbs [⟨#[]⟩, ⟨#[97]⟩] = [[], [97]] := rfl
  rw [e]
  simp [encT, encS, enc_2, enc_1, enc_0]
theorem int_lit (w : World) : Calls Try.prog 14 #[.int .i64 (-257)] w (GaveB w 3 [125, 254, 255]) :=
  (int_any (-257) (by omega) (by omega) w).mono fun e w' h => gaveB_of (l := [125, 254, 255]) enc_m257 rfl (by simp) h
theorem bytes_lit (w : World) : Calls Try.prog 16 #[.string ⟨#[97, 98]⟩] w (GaveB w 4 [129, 2, 97, 98]) :=
  (bytes_any ⟨#[97, 98]⟩ (by decide) w).mono fun e w' h => gaveB_of (l := [129, 2, 97, 98]) (by
    have e : sb ⟨#[97, 98]⟩ = [97, 98] := rfl
    rw [e]; simp [encS, enc_2]) rfl (by simp) h
theorem ints_lit (w : World) (C : Array Value) (hC : C = #[.int .i64 1, .int .i64 (-1)]) : Calls Try.prog 18 #[.slice (some ⟨w.heap.size, 0, none⟩) 2 2] (w.alloc (.cells C 3)) (GaveB w 5 [129, 2, 129, 1, 127]) := by
  subst hC
  refine (ints_any (some ⟨w.heap.size, 0, none⟩) [1, -1] 2 2 _ rfl (by simp) (by simp [I64]) (cells_new w _ _ _ rfl)).mono fun e w' h => gaveB_alloc (gaveB_of (l := [129, 2, 129, 1, 127]) ?_ rfl (by simp) h)
  simp [encL, enc_2, enc_1, enc_m1]
theorem drow_new (w : World) (t : TypeId) (C : Array Value) (hC : C = (bytesV D0).toArray) : DRow (w.alloc (.cells C t)) w.heap.size 0 [D0] := by
  intro k d hk
  have hk0 : k = 0 := by
    rcases Nat.eq_zero_or_pos k with h | h
    · exact h
    · rw [List.getElem?_eq_none (by simp; omega)] at hk; cases hk
  subst hk0
  obtain rfl : D0 = d := by simpa using hk
  refine ⟨dig_0, by simp, fun j u hj => ?_⟩
  subst hC
  have := new_cells w D0 t j u hj
  rw [Addr.add_mid] at this
  simpa using this
theorem sameDigests_lit (w : World) (g n c : Nat) (hn : n = 1) (h : DRow w g 0 [D0]) (C : Array Value) (hC : C = (bytesV D0).toArray) :
    Calls Try.prog 36 #[.slice (some ⟨g, 0, none⟩) n c, .slice (some ⟨w.heap.size, 0, none⟩) 1 1] (w.alloc (.cells C 57)) (Told w true) :=
  (told_true (sameDigests_any g 0 w.heap.size 0 [D0] [D0] n 1 c 1 _ (by simpa using hn) rfl (by simp) (by simp) (h.keep ((Below.refl _ _).alloc (Nat.le_refl _) _)) (drow_new w _ C hC)) (by simp)).mono fun e w' ⟨h1, h2⟩ => ⟨h1, below_alloc h2⟩

end Go.Proofs.Ytpglfjfgnmaipaa
