/-
  Plain mathematics of scans and of halving: what is reached lane by lane.
-/
import Derived.Test.YtigodbilfjppbaaGreatDoorLan6
namespace Ln
set_option linter.unusedVariables false

/-- The scan's lanes. -/
def sc (op b : Int) (xs : List Int) : Nat → Int
  | 0 => xs.getD 0 0
  | k + 1 => Wd.doOp op b (sc op b xs k) (xs.getD (k + 1) 0)
def scan (op b : Int) (xs : List Int) : List Int × Bool := ans (isOp op && vec b xs) (tab (sc op b xs) xs.length)
theorem word_do {op b x y : Int} (h0 : 0 ≤ op) (h1 : op ≤ 17) (hx : Wd.IsWord b x) (hy : Wd.IsWord b y) : Wd.IsWord b (Wd.doOp op b x y) := ⟨hx.1, Wd.doOp_word h0 h1 hx.1 hx.2 hy.2⟩
theorem sc_word {op b : Int} {xs : List Int} (h0 : 0 ≤ op) (h1 : op ≤ 17) (hv : vec b xs = true) : ∀ k, k < xs.length → Wd.IsWord b (sc op b xs k) := by
  intro k
  induction k with
  | zero => intro h; exact vec_word hv h
  | succ k ih => intro h; exact word_do h0 h1 (ih (by omega)) (vec_word hv h)
/-- One halving. -/
def half1 (op b : Int) (zs : List Int) (h : Nat) : List Int := tab (fun i => Wd.doOp op b (zs.getD i 0) (zs.getD (h + i) 0)) h
/-- What is left of a list of 2 ^ f numbers. -/
def red (op b : Int) : Nat → List Int → Int
  | 0, zs => zs.getD 0 0
  | f + 1, zs => red op b f (half1 op b zs (2 ^ f))
def lg (n : Nat) : Nat := if n = 16 then 4 else if n = 8 then 3 else if n = 4 then 2 else if n = 2 then 1 else 0
theorem lg_pow {n : Nat} (h : n = 2 ∨ n = 4 ∨ n = 8 ∨ n = 16) : n = 2 ^ lg n := by
  rcases h with rfl | rfl | rfl | rfl <;> rfl
def reduce (op b : Int) (xs : List Int) : Int × Bool := if isOp op && vec b xs then (red op b (lg xs.length) xs, true) else (0, false)
theorem half1_len (op b : Int) (zs : List Int) (h : Nat) : (half1 op b zs h).length = h := tab_len _ _
theorem half1_word {op b : Int} {zs : List Int} {h : Nat} (h0 : 0 ≤ op) (h1 : op ≤ 17) (hw : ∀ k, k < h + h → Wd.IsWord b (zs.getD k 0)) : ∀ k, k < h → Wd.IsWord b ((half1 op b zs h).getD k 0) := by
  intro k hk
  unfold half1
  rw [tab_getD _ _ _ hk]
  exact word_do h0 h1 (hw k (by omega)) (hw (h + k) (by omega))
end Ln
