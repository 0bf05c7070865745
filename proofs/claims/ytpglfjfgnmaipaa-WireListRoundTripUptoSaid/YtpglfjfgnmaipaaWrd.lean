/-
  passimref01.GetDigests, for every byte slice of at most 10^9 bytes.
-/
import Derived.Test.YtpglfjfgnmaipaaWrs
namespace Go.Proofs.Ytpglfjfgnmaipaa
open Go.RowKit

/-- The digests that the reference has gathered. -/
def RowD (W w : World) (v : Value) (xs : List (List Nat)) : Prop := w.ownsRow W.heap.size 57 16 v xs.length (xs.flatMap bytesV) ∧ Below W.heap.size W w
def BackD (W : World) (r : List (List Nat) × Nat × Nat) (e : Ending) (w' : World) : Prop :=
  ∃ v, e = .returned (.tuple #[v, .int .i64 r.2.1, .int .i64 r.2.2]) ∧ RowD W w' v r.1
theorem backD_err {W w : World} {r : List (List Nat) × Nat × Nat} {er : Nat} (h : r = ([], 0, er)) (hB : Below W.heap.size W w) : BackD W r (.returned (.tuple #[.slice none 0 0, .int .i64 0, .int .i64 er])) w := by
  subst h
  exact ⟨_, rfl, World.ownsRow_nil _ _ _ _, hB⟩
theorem backD_ok {W w : World} {r : List (List Nat) × Nat × Nat} {v : Value} {xs : List (List Nat)} {u : Nat} (h : r = (xs, u, 0)) (hG : RowD W w v xs) : BackD W r (.returned (.tuple #[v, .int .i64 u, .int .i64 0])) w := by
  subst h
  exact ⟨v, rfl, hG⟩

/-- append(l, d): l the call's own digests, d a digest that was laid just before. -/
theorem push_dig {w : World} {B : Nat} {ops : Array Oper} {rest : List Oper} {o : Oper} {a : Act} {Q : Exit → Act → World → Prop} (hgd : o.guard = none) (s x : Operand)
    (ho : o.op = .call { callee := .builtin .append, args := #[s, x], argTypes := #[24, 24] })
    (l : List (List Nat)) (y : List Nat) (hy : y.length = 16) (v : Value) (hs : a.eval s = v) (hown : w.ownsRow B 57 16 v l.length (l.flatMap bytesV)) (hB : B ≤ w.heap.size)
    (c : Nat) (hx : a.eval x = .slice (some ⟨w.heap.size, 0, none⟩) 1 c) (hl : l.length ≤ 1000000000)
    (h : ∀ v' w', w'.ownsRow B 57 16 v' (l ++ [y]).length ((l ++ [y]).flatMap bytesV) → (w.alloc (.cells (bytesV y).toArray 57)).grownBy w' v.ownBlock → wpList Try.prog ops Q rest (a.put o.dst v') w') :
    wpList Try.prog ops Q (o :: rest) a (w.alloc (.cells (bytesV y).toArray 57)) := by
  obtain ⟨i0, hi, hz0, hz1, hz2⟩ := info_parts diginfo
  refine wpList_append_own _ hgd s x 24 ho B 57 i0 zeroDig 16 16 Try.underlying24 hi hz0 hz1 hz2 rfl (by decide) v l.length (l.flatMap bytesV) hs (hown.alloc _) ⟨w.heap.size, 0, none⟩ 1 c (bytesV y) hx (by rw [bytesV_length, hy]) ?c1 ?c2 ?c3 ?c4 ?c5 ?_
  case c1 => exact new_cells w y _
  case c2 => intro u hu; obtain ⟨z, _, rfl⟩ := List.mem_map.1 hu; rfl
  case c3 => unfold maxLen; omega
  case c4 => omega
  case c5 => simp; omega
  intro v' w' hown' hgrow _
  exact h v' w' (dig_snoc l y rfl _ rfl hown') hgrow

theorem fold_dig (x : List Nat) (h : x.length = 16) : List.foldl (fun (cs : Array Value) (x : Value × Nat) => cs.setIfInBounds x.snd x.fst) #[.int .u8 0, .int .u8 0, .int .u8 0, .int .u8 0, .int .u8 0, .int .u8 0, .int .u8 0, .int .u8 0, .int .u8 0, .int .u8 0, .int .u8 0, .int .u8 0, .int .u8 0, .int .u8 0, .int .u8 0, .int .u8 0] (bytesV x).zipIdx = (bytesV x).toArray := by
  obtain ⟨x0, x1, x2, x3, x4, x5, x6, x7, x8, x9, x10, x11, x12, x13, x14, x15, rfl⟩ := ex16 x h
  simp [bytesV, byteV, List.zipIdx_cons]

theorem row_setCell {w : World} {b j : Nat} {zs : Array Value} {u : Value} {t : TypeId} (h : w.heap[b]? = some (.cells zs t (0, 0))) : (w.setCell ⟨b, j, none⟩ u).heap[b]? = some (.cells (zs.setIfInBounds j u) t (0, 0)) := by
  have hlt := lt_of_block h
  have h' : w.heap[b] = .cells zs t (0, 0) := by simpa [Array.getElem?_eq_getElem hlt] using h
  show (w.heap.modify b _)[b]? = _
  rw [Array.getElem?_eq_getElem (by simpa using hlt), Array.getElem_modify_self, h']
  rfl
theorem row_cell {w : World} {b j : Nat} {zs : Array Value} {t : TypeId} (h : w.heap[b]? = some (.cells zs t (0, 0))) (hj : j < zs.size) : w.cell? ⟨b, j, none⟩ = some zs[j] := by
  unfold World.cell?
  simp [h, hj]
theorem row_free {w : World} {b j : Nat} {zs : Array Value} {t : TypeId} (h : w.heap[b]? = some (.cells zs t (0, 0))) : w.frozen? ⟨b, j, none⟩ = false := by
  unfold World.frozen?
  simp [h]

set_option maxHeartbeats 400000 in
set_option maxRecDepth 100000 in
theorem rgetDigests_any (A : Option Addr) (l : List Nat) (n c : Nat) (w : World) (hn : n = l.length) (hc : n ≤ c) (hc2 : n ≤ 140737488355328) (hl : l.length ≤ 1000000000) (hr : Has w A l) :
    Calls Try.prog 35 #[.slice A n c] w (BackD w (listR (listD decG l 16))) := by
  have C : Calls Try.prog 40 #[.slice A n c, .int .i64 (16 : Nat)] w (fun e w' => e = .returned (three (lenD l 16)) ∧ Below w.heap.size w w') := rcount_any A l n c 16 w hn hc hc2 hr (by omega) (by omega)
  have hI := lenD_ok l 16
  subst hn
  unfold listD
  generalize lenD l 16 = r at C hI ⊢
  obtain ⟨x, u, er⟩ := r
  simp only [three] at C hI ⊢
  have H := Lib.hid C
  clear C
  obtain ⟨h1, h2, h3, h4, h5⟩ := hI
  by_cases h7 : er = 0
  · have he : ((er : Int) != 0) = false := by simp [h7]
    obtain ⟨k, rfl⟩ := Int.eq_ofNat_of_zero_le h3
    obtain ⟨h8, h9⟩ := h4 h7
    rw [if_neg (by simp [h7])]
    simp only [Int.toNat_natCast] at h9 ⊢
    have hlen : 0 < l.length := by omega
    obtain ⟨_, ad, rfl, _, _⟩ := hr.at 0 l[0] (List.getElem?_eq_getElem hlen)
    go_enter Try.func35, Try.ntmps35
    go_wp2_with fail
    refine H.out.mono ?_
    rintro e w1 ⟨rfl, hB1⟩
    have HG : RowD w w1 (.slice none 0 0) [] := ⟨World.ownsRow_nil _ _ _ _, hB1⟩
    clear H
    go_wp2
    go_loopw [6, 8, 9] (fun s6 s8 s9 wr => ∃ (i used : Nat) (vv : Value) (xs : List (List Nat)), s8 = vv ∧ i ≤ k ∧ s9 = .int .i64 i ∧ s6 = .int .i64 used ∧ used + (k - i) * 16 ≤ l.length ∧ xs.length ≤ i ∧ RowD w wr vv xs ∧ Hid (loopD decG l (k - i) used xs = loopD decG l k u [])) (fun _ _ s9 _ => k - (intOf s9).toNat)
    case atStart => exact ⟨0, u, _, [], rfl, by omega, rfl, rfl, by omega, by simp, HG, Lib.hid rfl⟩
    case round =>
      obtain ⟨i, used, vv, xs, hvv, hi, rfl, rfl, hu, hxs, hG2, HL⟩ := hrel
      have hv2 := hvv.symm
      clear hvv
      subst hv2
      by_cases hik : i < k
      · have hHas : Has wr (some ad) l := hr.keep hG2.2
        obtain ⟨wr0, hwr0⟩ : ∃ b, b = wr.heap.size := ⟨_, rfl⟩
        have hsp : used + 16 ≤ l.length := by
          have : 1 * 16 ≤ (k - i) * 16 := Nat.mul_le_mul_right _ (by omega)
          omega
        go_wp2
        go_loopw [11] (fun s11 wx => ∃ (j : Nat) (zs : Array Value), j ≤ 16 ∧ s11 = .int .i64 j ∧ zs.size = 16 ∧ Hid (∀ i, i < j → zs[i]? = some (byteV (l.getD (used + i) 0))) ∧ wx.heap[wr.heap.size]? = some (.cells zs 57 (0, 0)) ∧ Below wr.heap.size wr wx) (fun s11 _ => 16 - (intOf s11).toNat)
        case atStart => exact ⟨0, _, by omega, rfl, rfl, Lib.hid (fun i hi => by omega), heap_alloc_new wr _, (Below.refl _ _).alloc (Nat.le_refl _) _⟩
        case round =>
          obtain ⟨j, zs, hj, rfl, hz, HZ, hblk, hBx⟩ := hrel
          by_cases hj16 : j < 16
          · have hju : used + j < l.length := by omega
            obtain ⟨hy, ad', e, hbb, hcell⟩ := (hHas.keep hBx).at (used + j) l[used + j] (List.getElem?_eq_getElem hju)
            obtain rfl : ad = ad' := by simpa using e
            have hgd : l.getD (used + j) 0 = l[used + j] := by simp [List.getD, List.getElem?_eq_getElem hju]
            have HGD := Lib.hid hgd
            generalize l[used + j] = y at hcell HGD hy
            unfold byteV at hcell
            clear e hgd
            have hcz := row_cell hblk (j := j) (by omega)
            have hfz := row_free (j := j) hblk
            have b1 : (used : Int) + (j : Int) < (l.length : Int) := by omega
            have HZ2 : Hid (∀ i, i < j + 1 → (zs.setIfInBounds j (.int .u8 (y : Int)))[i]? = some (byteV (l.getD (used + i) 0))) := fun i hi => by
              rw [Array.getElem?_setIfInBounds]
              by_cases hij : j = i
              · subst hij
                rw [if_pos rfl, if_pos (by omega), HGD.out]; rfl
              · rw [if_neg hij]
                exact HZ.out i (by omega)
            go_wp2
            exact ⟨⟨j + 1, zs.setIfInBounds j (.int .u8 (y : Int)), by omega, by simp, by simpa using hz, HZ2, row_setCell hblk, hBx.setCell (Nat.le_refl _) _⟩, by simp [intOf]; omega⟩
          · obtain rfl : j = 16 := by omega
            obtain ⟨x, hx⟩ : ∃ x, x = (l.drop used).take 16 := ⟨_, rfl⟩
            have hx16 : x.length = 16 := by rw [hx, List.length_take, List.length_drop]; omega
            have hzx : zs = (bytesV x).toArray := by
              apply Array.ext
              · simp [bytesV_length, hx16, hz]
              · intro i hi1 hi2
                have h1 := HZ.out i (by omega)
                rw [Array.getElem?_eq_getElem hi1] at h1
                have h2 : i < x.length := by omega
                have h3 : x[i] = l.getD (used + i) 0 := by
                  subst hx
                  rw [List.getElem_take, List.getElem_drop]
                  simp [List.getD, List.getElem?_eq_getElem (by omega : used + i < l.length)]
                simp only [Option.some.injEq] at h1
                rw [h1, ← h3]
                simp [bytesV]
            subst hzx
            have hcs : ∀ j u, (bytesV x)[j]? = some u → wr.cell? ((⟨wr0, 0, none⟩ : Addr).add j) = some u := by
              rw [hwr0]
              intro j u hu
              have hj : j < (bytesV x).toArray.size := by have := (List.getElem?_eq_some_iff.1 hu).1; simpa using this
              rw [Addr.add_mid, Nat.zero_add, row_cell hblk hj]
              rw [← hu]; simp
            have hG3 : RowD w wr vv xs := ⟨owns_keep hG2.1 hBx, hG2.2.trans (hBx.mono hG2.2.size)⟩
            have HN : Hid (loopD decG l (k - (i + 1)) (used + 16) (xs ++ [x]) = loopD decG l k u []) := by
              have h1 := loopD_ok (f := decG) (b := l) (n := k - i) (used := used) (xs := xs) (x := x) (u := 16) (er := 0) (by omega) (by rw [hx]; rfl) rfl
              have e : k - i - 1 = k - (i + 1) := by omega
              rw [e] at h1
              exact h1.symm.trans HL.out
            clear hx HZ hz hBx hblk hG2 HL
            have hlx : xs.length ≤ 1000000000 := by omega
            have hfold := fold_dig x hx16
            have hbx : (bytesV x).length = 16 := by rw [bytesV_length, hx16]
            subst hwr0
            go_wp2_with (first | (at_builtin; refine push_dig (w := wr) (B := w.heap.size) rfl _ _ rfl xs x hx16 vv rfl hG3.1 hG3.2.size _ rfl hlx ?_) | refine store_dig rfl _ _ _ rfl rfl x hx16 rfl rfl ?_ | refine load_dig rfl _ rfl _ rfl x hx16 hcs ?_)
            intro v' w' hown' hgrow
            have hG4 : RowD w w' v' (xs ++ [x]) := ⟨by simpa [List.flatMap_append] using hown', (hG3.2.alloc hG3.2.size _).grown hgrow (by have := hG3.2.size; simp; omega) (fun j hj => (hG3.1.lt j hj).1)⟩
            clear hG3 hown' hgrow hcs
            go_wp2
            go_roundw
            case rel => exact ⟨i + 1, used + 16, _, xs ++ [x], rfl, by omega, by go_num, by go_num, by omega, by simp; omega, hG4, HN⟩
            case measure => simp [intOf]; omega
      · obtain rfl : k = i := by omega
        go_wp2
        go_ret3
        have e := HL.out
        rw [Nat.sub_self, loopD_zero] at e
        exact backD_ok (by rw [← e]; exact listR_ok) hG2
  · have he : ((er : Int) != 0) = true := by simp [h7]
    rw [if_pos h7]
    go_enter Try.func35, Try.ntmps35
    go_wp2_with fail
    refine H.out.mono ?_
    rintro e w1 ⟨rfl, hB1⟩
    clear H
    go_wp2
    go_ret3
    exact backD_err (listR_err h7) hB1

end Go.Proofs.Ytpglfjfgnmaipaa
