/-
  put of the reference: strings in increasing order with a further one.
-/
import Derived.Test.YtjpiidfoegaenaaEi
import Derived.Test.YtjpiidfoegaenaaEk
namespace Go.Proofs.Ytjpiidfoegaenaa
open Go Go.RowKit
set_option linter.unusedVariables false
set_option linter.unusedSimpArgs false

def ltS (x y : ByteArray) : Bool := decide (x.data.toList < y.data.toList)
theorem less_eq (x y : ByteArray) : Op.bytesLess x.toList y.toList = ltS x y := by
  unfold ltS
  rw [bytesLess_eq, Lib.toList_data, Lib.toList_data]
theorem data_inj {x y : ByteArray} (h : x.data.toList = y.data.toList) : x = y := by
  obtain ⟨⟨l⟩⟩ := x
  obtain ⟨⟨m⟩⟩ := y
  have : l = m := h
  rw [this]
instance decBA : DecidableEq ByteArray := fun x y => decidable_of_iff (x.data.toList = y.data.toList) ⟨data_inj, fun h => by rw [h]⟩
theorem ltS_sl {x y : ByteArray} (h : ltS x y = true) : SL x.data.toList y.data.toList := by
  have h : x.data.toList < y.data.toList := of_decide_eq_true h
  exact ⟨List.le_of_lt h, fun e => by rw [e] at h; exact List.lt_irrefl _ h⟩
theorem tri (x y : ByteArray) : x = y ∨ ltS x y = true ∨ ltS y x = true := by
  by_cases h1 : x.data.toList < y.data.toList
  · exact Or.inr (Or.inl (decide_eq_true h1))
  · by_cases h2 : y.data.toList < x.data.toList
    · exact Or.inr (Or.inr (decide_eq_true h2))
    · exact Or.inl (data_inj (List.le_antisymm (List.not_lt.1 h2) (List.not_lt.1 h1)))
theorem sl_lt {x y : ByteArray} (h : SL x.data.toList y.data.toList) : ltS x y = true := by
  rcases tri x y with e | e | e
  · exact absurd (by rw [e]) h.2
  · exact e
  · exact absurd (List.le_antisymm h.1 (ltS_sl e).1) h.2
theorem lt_not {x y : ByteArray} (h : ltS x y = true) : ltS y x = false := by
  rcases hb : ltS y x with _ | _
  · rfl
  · exact absurd (List.le_antisymm (ltS_sl h).1 (ltS_sl hb).1) (ltS_sl h).2
theorem lt_self (x : ByteArray) : ltS x x = false := by
  rcases hb : ltS x x with _ | _
  · rfl
  · exact absurd rfl (ltS_sl hb).2
/-- The list with a further string. -/
def inT (x : ByteArray) (L : List ByteArray) : Bool := L.any fun y => !(ltS y x) && !(ltS x y)
def putT (L : List ByteArray) (x : ByteArray) : List ByteArray := if inT x L then L else L.filter (fun y => ltS y x) ++ [x] ++ L.filter (fun y => ltS x y)
theorem inT_iff {x : ByteArray} {L : List ByteArray} : inT x L = true ↔ x ∈ L := by
  unfold inT
  rw [List.any_eq_true]
  constructor
  · rintro ⟨y, hy, h⟩
    rw [Bool.and_eq_true, Bool.not_eq_true', Bool.not_eq_true'] at h
    rcases tri y x with e | e | e
    · rw [← e]; exact hy
    · rw [h.1] at e; cases e
    · rw [h.2] at e; cases e
  · intro h
    exact ⟨x, h, by rw [lt_self]; rfl⟩
theorem put_in {x : ByteArray} {L : List ByteArray} (h : x ∈ L) : putT L x = L := if_pos (inT_iff.2 h)
theorem put_out {x : ByteArray} {L : List ByteArray} (h : x ∉ L) : putT L x = L.filter (fun y => ltS y x) ++ [x] ++ L.filter (fun y => ltS x y) := if_neg (fun e => h (inT_iff.1 e))
def Srt (L : List ByteArray) : Prop := L.Pairwise fun a b => SL a.data.toList b.data.toList
theorem Srt.bs {L : List ByteArray} (h : Srt L) : (bsL L).Pairwise SL := by
  unfold bsL
  exact List.pairwise_map.2 h
theorem put_mem {L : List ByteArray} {x y : ByteArray} : y ∈ putT L x ↔ y ∈ L ∨ y = x := by
  by_cases h : x ∈ L
  · rw [put_in h]
    exact ⟨Or.inl, fun h1 => h1.elim id (fun e => e ▸ h)⟩
  · rw [put_out h]
    simp only [List.mem_append, List.mem_filter, List.mem_singleton]
    constructor
    · rintro ((⟨h1, _⟩ | h1) | ⟨h1, _⟩)
      · exact Or.inl h1
      · exact Or.inr h1
      · exact Or.inl h1
    · rintro (h1 | h1)
      · rcases tri y x with e | e | e
        · exact Or.inl (Or.inr e)
        · exact Or.inl (Or.inl ⟨h1, e⟩)
        · exact Or.inr ⟨h1, e⟩
      · exact Or.inl (Or.inr h1)
theorem put_sorted {L : List ByteArray} {x : ByteArray} (h : Srt L) : Srt (putT L x) := by
  unfold putT
  split
  · exact h
  · unfold Srt at *
    rw [List.pairwise_append, List.pairwise_append]
    refine ⟨⟨h.filter _, List.pairwise_singleton _ _, fun a ha b hb => ?_⟩, h.filter _, fun a ha b hb => ?_⟩
    · rw [List.mem_singleton.1 hb]
      exact ltS_sl (List.mem_filter.1 ha).2
    · have h2 := ltS_sl (List.mem_filter.1 hb).2
      rcases List.mem_append.1 ha with h1 | h1
      · exact SL.of (ltS_sl (List.mem_filter.1 h1).2).1 h2.1 h2.2
      · rw [List.mem_singleton.1 h1]; exact h2
theorem put_len (L : List ByteArray) (x : ByteArray) : (putT L x).length ≤ 2 * L.length + 1 := by
  unfold putT
  split
  · omega
  · have h1 := List.length_filter_le (fun y => ltS y x) L
    have h2 := List.length_filter_le (fun y => ltS x y) L
    simp only [List.length_append, List.length_singleton]
    omega
/-- A list of strings that lies somewhere. -/
def LstA (L : List ByteArray) (w : World) (e : Ending) (w' : World) : Prop := ∃ (q : Option Addr) (n c : Nat), e = .returned (.slice q n c) ∧ L.length = n ∧ At strE w' q L ∧ Below w.heap.size w w'
def PuRel (L : List ByteArray) (x : ByteArray) (n : Nat) (w : World) (v i : Value) (V : World) : Prop := ∃ k : Nat, k ≤ n ∧ i = .int .i64 (k : Int) ∧ x ∉ L.take k ∧ OwnR strE V w.heap.size v ((L.take k).filter fun y => ltS y x) ∧ Below w.heap.size w V
def PvRel (L F : List ByteArray) (x : ByteArray) (n : Nat) (w : World) (v i : Value) (V : World) : Prop := ∃ k : Nat, k ≤ n ∧ i = .int .i64 (k : Int) ∧ OwnR strE V w.heap.size v (F ++ (L.take k).filter fun y => ltS x y) ∧ Below w.heap.size w V
set_option maxHeartbeats 4000000 in
set_option maxRecDepth 100000 in
theorem put_any (L : List ByteArray) (q : Option Addr) (n c : Nat) (hn : L.length = n) (hn6 : n ≤ 1000000) (x : ByteArray) (w : World) (hA : At strE w q L) :
    Calls Try.prog 49 #[.slice q n c, .string x] w (LstA (putT L x) w) := by
  have HN := Lib.hid hn
  have HAA := Lib.hid hA
  have h00 : ∀ k, ((L.take k).filter fun y => ltS y x).length ≤ 1000000 := fun k => by
    have h1 := List.length_filter_le (fun y => ltS y x) (L.take k)
    have h2 := List.length_take_le' k L
    omega
  have h01 : ∀ k, ((L.take k).filter fun y => ltS x y).length ≤ 1000000 := fun k => by
    have h1 := List.length_filter_le (fun y => ltS x y) (L.take k)
    have h2 := List.length_take_le' k L
    omega
  have H0 := Lib.hid h00
  have H1 := Lib.hid h01
  clear hn h00 h01 hA
  go_enter Try.func49, Try.ntmps49
  go_wp2
  go_loopw [5, 6] (fun v i V => PuRel L x n w v i V) (fun _ i _ => n - (intOf i).toNat)
  case atStart => exact ⟨0, by omega, rfl, by simp, OwnR.nil _ _ _, Below.refl _ _⟩
  case round =>
  obtain ⟨k, hk, rfl, hx, hO, hB⟩ := hrel
  rcases Nat.lt_or_ge k n with hlt | hge
  · have hltz : (k : Int) < (n : Int) := by omega
    obtain ⟨y, hy⟩ : ∃ y, L[k]? = some y := ⟨_, List.getElem?_eq_getElem (by rw [HN.out]; exact hlt)⟩
    obtain ⟨b, off, rfl, hLay⟩ := (HAA.out.keep hB).get (i := k) (by rw [HN.out]; exact hlt)
    have c9 := hLay.2 k y 0 _ hy rfl
    rw [show k * strE.k = k by show k * 1 = k; omega, Nat.add_zero] at c9
    have HT : Hid (L.take (k + 1) = L.take k ++ [y]) := Lib.hid (by rw [List.take_add_one, hy]; rfl)
    rcases tri y x with e | e | e
    · subst e
      have HM : Hid (putT L y = L) := Lib.hid (put_in (List.mem_of_getElem? hy))
      clear hy hLay hx hO
      go_wp2
      go_ret
      exact ⟨_, _, _, rfl, by rw [HM.out]; exact HN.out, by rw [HM.out]; exact HAA.out.keep hB, hB⟩
    · have hne : y ≠ x := fun h => by rw [h, lt_self] at e; cases e
      have hb := bytes_ne hne
      have hl : Op.bytesLess y.toList x.toList = true := by rw [less_eq]; exact e
      have HX : Hid (x ∉ L.take (k + 1)) := Lib.hid (by rw [HT.out, List.mem_append, List.mem_singleton]; exact fun h => h.elim hx (fun h => hne h.symm))
      have HF : Hid ((L.take (k + 1)).filter (fun y => ltS y x) = (L.take k).filter (fun y => ltS y x) ++ [y]) := Lib.hid (by rw [HT.out, List.filter_append]; simp [e])
      have hle : ((L.take k).filter fun y => ltS y x).length ≤ 1000000000000 := by have := H0.out k; omega
      clear hy hLay hx hne e
      go_wp2_with (at_builtin; refine push_el strE rfl (.tmp 27) (.tmp 32) rfl ((L.take k).filter fun y => ltS y x) y _ rfl hO hB.size _ rfl _ rfl hle ?_; intro v6 W6 hO6 hB7 hR6)
      exact ⟨⟨k + 1, by omega, by go_num, HX.out, by rw [HF.out]; exact hO6, hB.trans hB7⟩, by simp [intOf]; omega⟩
    · have hne : y ≠ x := fun h => by rw [h, lt_self] at e; cases e
      have hb := bytes_ne hne
      have hl : Op.bytesLess y.toList x.toList = false := by rw [less_eq]; exact lt_not e
      have HX : Hid (x ∉ L.take (k + 1)) := Lib.hid (by rw [HT.out, List.mem_append, List.mem_singleton]; exact fun h => h.elim hx (fun h => hne h.symm))
      have HF : Hid ((L.take (k + 1)).filter (fun y => ltS y x) = (L.take k).filter (fun y => ltS y x)) := Lib.hid (by rw [HT.out, List.filter_append]; simp [lt_not e])
      clear hy hLay hx hne e
      go_wp2
      exact ⟨⟨k + 1, by omega, by go_num, HX.out, by rw [HF.out]; exact hO, hB⟩, by simp [intOf]; omega⟩
  have hgez : ¬ (k : Int) < (n : Int) := by omega
  rw [List.take_of_length_le (by rw [HN.out]; omega)] at hx hO
  have HM : Hid (putT L x = L.filter (fun y => ltS y x) ++ [x] ++ L.filter (fun y => ltS x y)) := Lib.hid (put_out hx)
  have hle : (L.filter fun y => ltS y x).length ≤ 1000000000000 := by
    have h1 := List.length_filter_le (fun y => ltS y x) L
    have := HN.out
    omega
  have hle2 : (L.filter fun y => ltS y x).length ≤ 1000000 := by
    have h1 := List.length_filter_le (fun y => ltS y x) L
    have := HN.out
    omega
  have HLE := Lib.hid hle2
  clear hx H0 hle2
  go_wp2_with (at_builtin; refine push_el strE rfl (.tmp 34) (.tmp 36) rfl (L.filter fun y => ltS y x) x _ rfl hO hB.size _ rfl _ rfl hle ?_; intro v6 W6 hO6 hB7 hR6)
  have hB6 := hB.trans hB7
  clear hO hB hB7 hR6 hle hgez hge hk
  have HFL : Hid ((L.filter (fun y => ltS y x) ++ [x]).length ≤ 1000001) := Lib.hid (by rw [List.length_append, List.length_singleton]; have := HLE.out; omega)
  generalize L.filter (fun y => ltS y x) ++ [x] = F at hO6 HM HFL
  obtain ⟨wo, rfl⟩ : ∃ wo : World, wo = W6 := ⟨_, rfl⟩
  go_loopw [5, 7] (fun v i V => PvRel L F x n w v i V) (fun _ i _ => n - (intOf i).toNat)
  case atStart => exact ⟨0, by omega, rfl, by simpa using hO6, hB6⟩
  case round =>
  obtain ⟨k, hk, rfl, hO, hB⟩ := hrel
  clear hO6 hB6
  rcases Nat.lt_or_ge k n with hlt | hge
  · have hltz : (k : Int) < (n : Int) := by omega
    obtain ⟨y, hy⟩ : ∃ y, L[k]? = some y := ⟨_, List.getElem?_eq_getElem (by rw [HN.out]; exact hlt)⟩
    obtain ⟨b, off, rfl, hLay⟩ := (HAA.out.keep hB).get (i := k) (by rw [HN.out]; exact hlt)
    have c9 := hLay.2 k y 0 _ hy rfl
    rw [show k * strE.k = k by show k * 1 = k; omega, Nat.add_zero] at c9
    have HT : Hid (L.take (k + 1) = L.take k ++ [y]) := Lib.hid (by rw [List.take_add_one, hy]; rfl)
    rcases hg : ltS x y with _ | _
    · have hb : (Op.bytesLess y.toList x.toList || y.toList == x.toList) = true := by
        rcases tri y x with e | e | e
        · rw [e]; simp
        · rw [less_eq, e]; rfl
        · rw [hg] at e; cases e
      have HF : Hid ((L.take (k + 1)).filter (fun y => ltS x y) = (L.take k).filter (fun y => ltS x y)) := Lib.hid (by rw [HT.out, List.filter_append]; simp [hg])
      clear hy hLay hg
      go_wp2
      exact ⟨⟨k + 1, by omega, by go_num, by rw [HF.out]; exact hO, hB⟩, by simp [intOf]; omega⟩
    · have hb : (Op.bytesLess y.toList x.toList || y.toList == x.toList) = false := by
        rw [less_eq, lt_not hg, bytes_ne (fun h => by rw [h, lt_self] at hg; cases hg)]; rfl
      have HF : Hid (F ++ (L.take (k + 1)).filter (fun y => ltS x y) = F ++ (L.take k).filter (fun y => ltS x y) ++ [y]) := Lib.hid (by rw [HT.out, List.filter_append, List.append_assoc]; simp [hg])
      have hle : (F ++ (L.take k).filter fun y => ltS x y).length ≤ 1000000000000 := by rw [List.length_append]; have := H1.out k; have := HFL.out; omega
      clear hy hLay hg
      go_wp2_with (at_builtin; refine push_el strE rfl (.tmp 50) (.tmp 55) rfl (F ++ (L.take k).filter fun y => ltS x y) y _ rfl hO hB.size _ rfl _ rfl hle ?_; intro v6 W7 hO6 hB7 hR6)
      exact ⟨⟨k + 1, by omega, by go_num, by rw [HF.out]; exact hO6, hB.trans hB7⟩, by simp [intOf]; omega⟩
  · have hgez : ¬ (k : Int) < (n : Int) := by omega
    rw [List.take_of_length_le (by rw [HN.out]; omega)] at hO
    obtain ⟨q6, c6, rfl, _, A6, _⟩ := hO.form
    clear hO
    go_wp2
    go_ret
    exact ⟨q6, _, c6, rfl, by rw [HM.out, List.length_append], by rw [HM.out]; exact A6, hB⟩
end Go.Proofs.Ytjpiidfoegaenaa
