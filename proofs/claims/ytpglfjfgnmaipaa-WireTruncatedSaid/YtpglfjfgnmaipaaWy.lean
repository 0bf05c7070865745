/-
  wire.GetDigests, for every byte slice of at most 10^9 bytes.
-/
import Derived.Test.YtpglfjfgnmaipaaWz
namespace Go.Proofs.Ytpglfjfgnmaipaa
open Go.RowKit

/-- The call returned the list of integers, the number of bytes and the error of r; what is older has not changed. -/
def RetG (W : World) (r : List (List Nat) × Nat × Nat) (e : Ending) (w' : World) : Prop :=
  ∃ v, e = .returned (.tuple #[v, .int .i64 r.2.1, .int .i64 r.2.2]) ∧ w'.ownsRow (W.heap.size + 1) 57 16 v r.1.length (r.1.flatMap bytesV) ∧ Below W.heap.size W w'

set_option maxHeartbeats 400000 in
theorem getDigests_any (A : Option Addr) (l : List Nat) (n c : Nat) (w : World) (hn : n = l.length) (hc : n ≤ c) (hc2 : n ≤ 140737488355328) (hl : l.length ≤ 1000000000) (hr : Has w A l) :
    Calls Try.prog 34 #[.slice A n c] w (RetG w (listR (listD decG l 16))) := by
  have hmf : ∀ (fn : Fn) (first cap : Array Value) (w : World), (Instr.makeFunc fn first cap).run Try.prog w = .ok (.func fn first cap) w := fun _ _ _ _ => rfl
  have hG : GotD w (w.alloc (.cells #[.slice none 0 0] 24)) (.slice none 0 0) [] := ⟨heap_alloc_new w _, World.ownsRow_nil _ _ _ _, (Below.refl _ _).alloc (Nat.le_refl _) _⟩
  have C := listG_any w A l n c (.slice none 0 0) _ hn hc hc2 hl hr hG
  have H := Lib.hid C
  clear C hG
  subst hn
  generalize listD decG l 16 = r at H ⊢
  obtain ⟨xs, u, er⟩ := r
  go_enter Try.func34, Try.ntmps34
  go_wp2_with fail
  refine H.out.mono ?_
  rintro e w1 ⟨rfl, v1, hG1⟩
  obtain ⟨hb, hown, hB⟩ := hG1
  simp only at hown
  have hcell : w1.cell? ⟨w.heap.size, 0, none⟩ = some v1 := cell_of_one hb
  clear hb
  by_cases he : er = 0
  · have hb : ((er : Int) != 0) = false := by simp [he]
    go_wp2
    go_ret3
    exact ⟨v1, by simp [listR, he], by simpa [listR, he] using hown, hB⟩
  · have hb : ((er : Int) != 0) = true := by simp [he]
    go_wp2
    go_ret3
    exact ⟨.slice none 0 0, by simp [listR, he], by simp [listR, he]; exact World.ownsRow_nil _ _ _ _, hB⟩

end Go.Proofs.Ytpglfjfgnmaipaa
