/-
  Sheets, quires and leaves: plain mathematics. No program is named here.
  A volume has p pages, and h sheets in each quire (2 h leaves); sheet k lies in quire k / h at place k % h.
-/
import Init.Data.List.Lemmas
import Init.Data.Nat.Lemmas
import Init.Omega
namespace Go.Proofs.Ytahmpagolmodhaa

/-- The error that all functions of a volume return first. -/
def volE (p l : Int) : Int := if p < 0 ∨ l < 2 ∨ 16 < l ∨ l % 2 ≠ 0 then 1 else if 999 < p then 4 else 0
/-- A sheet. -/
structure Sh where
  q : Int
  fa : Int
  fb : Int
  ba : Int
  bb : Int
  deriving DecidableEq
/-- A page, or 0 behind the last one. -/
def numT (p n : Nat) : Nat := if p < n then 0 else n
/-- The number of quires. -/
def qnT (p h : Nat) : Nat := (p + 4 * h - 1) / (4 * h)
/-- The two leaves of a sheet. -/
def lfA (h k : Nat) : Nat := k / h * (2 * h) + 1 + k % h
def lfB (h k : Nat) : Nat := (k / h + 1) * (2 * h) - k % h
def shT (p h k : Nat) : Sh := ⟨((k / h : Nat) : Int), (numT p (2 * lfB h k) : Nat), (numT p (2 * lfA h k - 1) : Nat), (numT p (2 * lfA h k) : Nat), (numT p (2 * lfB h k - 1) : Nat)⟩
/-- The sheets of a volume. -/
def foldM (p h : Nat) : List Sh := (List.range (qnT p h * h)).map (shT p h)
/-- The conjugate leaf. -/
def conjT (h n : Nat) : Nat := 2 * ((n - 1) / (2 * h) * (2 * h)) + 2 * h + 1 - n
/-- Whether a leaf is one of the volume's. -/
def inT (p h : Nat) (n : Int) : Bool := decide (1 ≤ n) && decide (n ≤ ((qnT p h * (2 * h) : Nat) : Int))
/-- The leaf of a page, and whether the page is its front; the pages of a leaf. -/
def leafT (n : Int) : Int := if n < 1 ∨ 1024 < n then 0 else (n + 1) / 2
def frontT (n : Int) : Bool := if n < 1 ∨ 1024 < n then false else decide (n % 2 = 1)
def pagA (n : Int) : Int := if n < 1 ∨ 512 < n then 0 else 2 * n - 1
def pagB (n : Int) : Int := if n < 1 ∨ 512 < n then 0 else 2 * n
/-- What Conjugate answers for a volume that is right. -/
def conjN (p h : Nat) (n : Int) : Int := if inT p h n = true then ((conjT h n.toNat : Nat) : Int) else 0
def conjE (p h : Nat) (n : Int) : Int := if inT p h n = true then 0 else 5
/-- The sheet of a leaf. -/
def ofLeaf (h n : Nat) : Nat := (n - 1) / (2 * h) * h + (if (n - 1) % (2 * h) < h then (n - 1) % (2 * h) else 2 * h - 1 - (n - 1) % (2 * h))
/-- Whether a list has one of the leaves of a sheet. -/
def hasT (c : List Int) (h k : Nat) : Bool := c.contains ((lfA h k : Nat) : Int) || c.contains ((lfB h k : Nat) : Int)
/-- The sheets that have one of the leaves. -/
def shsT (p h : Nat) (c : List Int) : List Nat := (List.range (qnT p h * h)).filter (hasT c h)

theorem eight {P : Nat → Prop} (h1 : P 1) (h2 : P 2) (h3 : P 3) (h4 : P 4) (h5 : P 5) (h6 : P 6) (h7 : P 7) (h8 : P 8) : ∀ h, 1 ≤ h → h ≤ 8 → P h := by
  intro h a b
  match h, a, b with
  | 1, _, _ => exact h1
  | 2, _, _ => exact h2
  | 3, _, _ => exact h3
  | 4, _, _ => exact h4
  | 5, _, _ => exact h5
  | 6, _, _ => exact h6
  | 7, _, _ => exact h7
  | 8, _, _ => exact h8
  | n + 9, _, b => omega

/-- The leaves of a sheet: in the volume, the first before the second, conjugate. -/
theorem lf_all : ∀ h, 1 ≤ h → h ≤ 8 → ∀ k n, k < n * h → 1 ≤ lfA h k ∧ lfA h k < lfB h k ∧ lfB h k ≤ n * (2 * h) ∧ (lfA h k + lfB h k) % 2 = 1 ∧ conjT h (lfA h k) = lfB h k ∧ conjT h (lfB h k) = lfA h k ∧ ofLeaf h (lfA h k) = k ∧ ofLeaf h (lfB h k) = k := by
  refine eight ?_ ?_ ?_ ?_ ?_ ?_ ?_ ?_ <;> (intro k n hk; unfold ofLeaf conjT lfA lfB; refine ⟨?_, ?_, ?_, ?_, ?_, ?_, ?_, ?_⟩ <;> (try split) <;> omega)
/-- The sheet of a leaf has it. -/
theorem of_all : ∀ h, 1 ≤ h → h ≤ 8 → ∀ m n, 1 ≤ m → m ≤ n * (2 * h) → ofLeaf h m < n * h ∧ (lfA h (ofLeaf h m) = m ∨ lfB h (ofLeaf h m) = m) ∧ 1 ≤ conjT h m ∧ conjT h m ≤ n * (2 * h) ∧ conjT h (conjT h m) = m ∧ (conjT h m + m) % 2 = 1 ∧ ofLeaf h (conjT h m) = ofLeaf h m := by
  refine eight ?_ ?_ ?_ ?_ ?_ ?_ ?_ ?_ <;> (intro m n h1 h2; unfold ofLeaf conjT lfA lfB; refine ⟨?_, ?_, ?_, ?_, ?_, ?_, ?_⟩ <;> (repeat' split) <;> omega)
end Go.Proofs.Ytahmpagolmodhaa
