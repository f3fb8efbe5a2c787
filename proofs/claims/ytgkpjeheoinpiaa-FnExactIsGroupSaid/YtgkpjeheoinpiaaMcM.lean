/-
  Instructions of the machine: what a field may be, which are valid, what they cost, what they read and write. Plain mathematics.
-/
import Derived.Test.YtgkpjeheoinpiaaLan
namespace Go.Proofs.Ytgkpjeheoinpiaa.Mc
set_option linter.unusedVariables false

/-- An instruction. -/
structure In where
  kd : Int
  d : Int
  a : Int
  b : Int
  m : Int
  i : Int
  tb : List Int
/-- A machine is valid. -/
def mok (l b : Int) : Bool := Ln.lanes l && decide (Wd.IsBits b)
/-- What the fields of a kind are. -/
def whats (kd : Int) : List Int :=
  if kd = 0 then [1, 0, 4, 3, 7] else if kd = 1 then [0, 1, 4, 3, 7] else if kd = 2 then [1, 1, 0, 3, 7] else if kd = 3 then [0, 1, 1, 3, 7] else if kd = 4 then [1, 1, 1, 3, 8] else if kd = 5 then [2, 1, 1, 3, 9]
  else if kd = 6 then [1, 1, 1, 2, 0] else if kd = 7 then [1, 1, 1, 3, 0] else if kd = 8 then [1, 0, 0, 3, 6] else if kd = 9 then [1, 0, 5, 3, 6] else if kd = 10 then [1, 1, 0, 3, 8] else if kd = 11 then [2, 2, 2, 0, 10]
  else if kd = 12 then [1, 1, 0, 3, 0] else if kd = 13 then [1, 1, 0, 3, 0] else [1, 2, 0, 0, 0]
def rlo (t : Int) : Int := if t = 3 then -1 else if t = 4 then 1 else 0
def rhi (b t : Int) : Int :=
  if t = 1 then 7 else if t = 2 then 3 else if t = 3 then 3 else if t = 4 then 8 else if t = 5 then 8 else if t = 6 then Wd.pw b - 1 else if t = 7 then 63 else if t = 8 then 17 else if t = 9 then 5 else if t = 10 then 3 else 0
/-- The least and the greatest number of the field k of a kind. -/
def flo (kd : Int) (k : Nat) : Int := if k = 3 ∧ (whats kd).getD k 0 = 0 then -1 else rlo ((whats kd).getD k 0)
def fhi (b kd : Int) (k : Nat) : Int := if k = 3 ∧ (whats kd).getD k 0 = 0 then -1 else rhi b ((whats kd).getD k 0)
def flds (x : In) : List Int := [x.d, x.a, x.b, x.m, x.i]
def inR (lo hi n : Int) : Bool := decide (lo ≤ n ∧ n ≤ hi)
def fitK (b : Int) (x : In) (k : Nat) : Bool := inR (flo x.kd k) (fhi b x.kd k) ((flds x).getD k 0)
def fit5 (b : Int) (x : In) : Bool := fitK b x 0 && (fitK b x 1 && (fitK b x 2 && (fitK b x 3 && fitK b x 4)))
def tbAll (l : Int) (tb : List Int) : Bool := tb.all fun z => inR 0 (2 * l - 1) z
def tbOk (l : Int) (x : In) : Bool := if x.kd = 7 then tbAll l x.tb && decide ((x.tb.length : Int) = l) else decide (x.tb.length = 0)
def isKd (x : In) : Bool := inR 0 14 x.kd
/-- An instruction of a valid machine. -/
def isIn (l b : Int) (x : In) : Bool := isKd x && (fit5 b x && tbOk l x)
def vIn (l b : Int) (x : In) : Bool := mok l b && isIn l b x
def isPr (l b : Int) (xs : List In) : Bool := xs.all (isIn l b) && decide (xs.length ≤ 60)
def vPr (l b : Int) (xs : List In) : Bool := mok l b && isPr l b xs
/-- A table reaches the second one of two vectors. -/
def two (l : Int) (tb : List Int) : Bool := tb.any fun z => decide (l ≤ z)
def cost1 (l : Int) (x : In) : Int :=
  if x.kd = 0 ∨ x.kd = 1 then (if 1 < x.b then l else 1) else if x.kd = 2 ∨ x.kd = 3 ∨ x.kd = 10 then l else if x.kd = 4 then (if x.i = 2 then 3 else 1) else if x.kd = 7 then (if two l x.tb then 2 else 1) else if x.kd = 12 ∨ x.kd = 13 then 2 else 1
def costs (l : Int) (xs : List In) : Int := (xs.map (cost1 l)).foldl (· + ·) 0
def cost (l b : Int) (xs : List In) : Int × Bool := if vPr l b xs then (costs l xs, true) else (0, false)

theorem kd_cases {x : In} (h : isKd x = true) : x.kd = 0 ∨ x.kd = 1 ∨ x.kd = 2 ∨ x.kd = 3 ∨ x.kd = 4 ∨ x.kd = 5 ∨ x.kd = 6 ∨ x.kd = 7 ∨ x.kd = 8 ∨ x.kd = 9 ∨ x.kd = 10 ∨ x.kd = 11 ∨ x.kd = 12 ∨ x.kd = 13 ∨ x.kd = 14 := by
  unfold isKd inR at h; have := of_decide_eq_true h; omega
theorem mok_lanes {l b : Int} (h : mok l b = true) : l = 2 ∨ l = 4 ∨ l = 8 ∨ l = 16 := by
  unfold mok at h; exact Ln.lanes_cases (by simpa using (Bool.and_eq_true _ _ ▸ h).1)
theorem mok_bits {l b : Int} (h : mok l b = true) : Wd.IsBits b := by
  unfold mok at h; exact of_decide_eq_true (Bool.and_eq_true _ _ ▸ h).2
end Go.Proofs.Ytgkpjeheoinpiaa.Mc
