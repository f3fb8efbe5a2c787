/-
  Plain mathematics of interleaving, of taking apart, and of wider words: answers of two lists and a Bool.
-/
import Derived.Test.YtfmplneopmbfoaaLan2
namespace Ln
set_option linter.unusedVariables false

def no2 : List Int × List Int × Bool := ([], [], false)
def ans2 (c : Bool) (zs ys : List Int) : List Int × List Int × Bool := if c then (zs, ys, true) else no2
def interleave (b : Int) (xs ys : List Int) : List Int × List Int × Bool := ans2 (both b xs ys) (tab (weave xs ys) xs.length) (tab (fun i => weave xs ys (xs.length + i)) xs.length)
def deinterleave (b : Int) (xs ys : List Int) : List Int × List Int × Bool := ans2 (both b xs ys) (tab (fun i => (xs ++ ys).getD (2 * i) 0) xs.length) (tab (fun i => (xs ++ ys).getD (2 * i + 1) 0) xs.length)
def canWiden (b : Int) (xs : List Int) : Bool := vec b xs && (!(b == 16) && !decide ((xs.length : Int) < 4))
def widen (b : Int) (xs : List Int) (s : Bool) : List Int × List Int × Bool := ans2 (canWiden b xs) (tab (fun i => wide b s (xs.getD i 0)) (xs.length / 2)) (tab (fun i => wide b s (xs.getD (xs.length / 2 + i) 0)) (xs.length / 2))
theorem weave_even (xs ys : List Int) (k : Nat) : weave xs ys (2 * k) = xs.getD k 0 := by
  unfold weave; rw [if_pos (by omega), show 2 * k / 2 = k by omega]
theorem weave_odd (xs ys : List Int) (k : Nat) : weave xs ys (2 * k + 1) = ys.getD k 0 := by
  unfold weave; rw [if_neg (by omega), show (2 * k + 1) / 2 = k by omega]
theorem tab_take (f : Nat → Int) (n m : Nat) (h : m ≤ n) : (tab f n).take m = tab f m := by
  apply List.ext_getElem
  · simp [tab]; omega
  · intro i h1 h2; simp [tab]
theorem tab_drop (f : Nat → Int) (n m : Nat) : (tab f n).drop m = tab (fun i => f (m + i)) (n - m) := by
  apply List.ext_getElem
  · simp [tab]
  · intro i h1 h2; simp [tab]
end Ln
