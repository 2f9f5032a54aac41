/-
  The roots of ShaConstants as plain functions: what the reference does, step by step, in lists of digits.
-/
import Derived.Test.YtphifnknbaebkaaDoorShaV
namespace Go.Proofs.YtphifnknbaebkaaDoor
open Go.RowKit

/-- a number, a list of numbers is worked out ahead (for the kernel: nothing else is said) -/
def now {α : Type} : Nat → (Nat → α) → α
  | 0, f => f 0
  | k + 1, f => f (k + 1)
theorem now_eq {α : Type} (n : Nat) (f : Nat → α) : now n f = f n := by cases n <;> rfl
def nowL {α : Type} : List Nat → (List Nat → α) → α
  | [], f => f []
  | x :: xs, f => now x fun x' => nowL xs fun ys => f (x' :: ys)
theorem nowL_eq {α : Type} (l : List Nat) (f : List Nat → α) : nowL l f = f l := by
  induction l generalizing f with
  | nil => rfl
  | cons x xs ih => rw [nowL, now_eq, ih]
/-- the digits to the base 65536, the lowest one first -/
def digs : Nat → Nat → List Nat
  | 0, _ => []
  | n + 1, x => if x = 0 then [] else x % 65536 :: digs n (x / 65536)
/-- a digit that is too large is carried on -/
def carry : Nat → List Nat → Nat → Option (List Nat)
  | 0, _, _ => none
  | n + 1, l, j =>
    match l[j]? with
    | none => none
    | some v => if v < 65536 then some l else
      match l[j + 1]? with
      | none => none
      | some u => if u + v / 65536 < 18446744073709551616 then nowL ((l.set (j + 1) (u + v / 65536)).set j (v % 65536)) fun l' => carry n l' (j + 1) else none
/-- one digit times a number -/
def inner (a : Nat) : List Nat → Nat → List Nat → Option (List Nat)
  | [], _, l => some l
  | b :: bs, p, l =>
    match l[p]? with
    | none => none
    | some v => if v + a * b < 18446744073709551616 then
        match nowL (l.set p (v + a * b)) fun l' => carry 20 l' p with
        | none => none
        | some l' => nowL l' (inner a bs (p + 1))
      else none
def outer (bs : List Nat) : List Nat → Nat → List Nat → Option (List Nat)
  | [], _, l => some l
  | a :: xs, p, l =>
    match inner a bs p l with
    | none => none
    | some l' => outer bs xs (p + 1) l'
def prod (a b : List Nat) : Option (List Nat) := outer b a 0 (List.replicate (a.length + b.length + 1) 0)
/-- the digits of two numbers are compared from above -/
def above (a b : List Nat) : Nat → Bool
  | 0 => false
  | i + 1 => if a.getD i 0 = b.getD i 0 then above a b i else decide (b.getD i 0 < a.getD i 0)
def powd (y : List Nat) : Nat → List Nat → Option (List Nat)
  | 0, p => some p
  | k + 1, p =>
    match prod p y with
    | none => none
    | some p' => powd y k p'
/-- the root, a bit at a time -/
def rootd (lim : List Nat) (d : Nat) : Nat → Nat → Option Nat
  | 0, x => some x
  | n + 1, x =>
    match nowL (digs 4 (x + 2 ^ n)) fun y => powd y (d - 1) y with
    | none => none
    | some p => nowL p fun p => now (if above p lim (max p.length lim.length) then x else x + 2 ^ n) (rootd lim d n)
def rootn (n d : Nat) : Option Nat := rootd (List.replicate (2 * d) 0 ++ digs 4 n) d 37 0
/-- does no number from d on, whose square is not above n, divide n? -/
def nodiv : Nat → Nat → Nat → Bool → Option Bool
  | 0, _, _, _ => none
  | f + 1, n, d, p => if d * d ≤ n then nodiv f n (d + 1) (if n % d = 0 then false else p) else some p
def primed : Nat → Nat → Nat → Option Nat
  | 0, _, _ => none
  | f + 1, n, i =>
    match nodiv 20 n 2 true with
    | none => none
    | some p => if p = true ∧ i = 0 then some n else now (n + 1) fun n' => now (if p = true then i - 1 else i) (primed f n')
def goodRoot (i d v : Nat) : Bool :=
  match primed 320 2 i with
  | none => false
  | some n =>
    match now n fun n => rootn n d with
    | none => false
    | some r => r % 4294967296 == v

theorem good_start : ((List.range 8).all fun i => goodRoot i 2 (st0.get i)) = true := by kernel_rfl
end Go.Proofs.YtphifnknbaebkaaDoor
