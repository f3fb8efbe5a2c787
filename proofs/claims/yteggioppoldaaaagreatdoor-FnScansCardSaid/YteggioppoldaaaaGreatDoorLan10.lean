/-
  Plain mathematics of associative operations: the scan by steps is the scan; halving comes to the scan's last lane.
-/
import Derived.Test.YteggioppoldaaaaGreatDoorLan9
namespace Ln
set_option linter.unusedVariables false

/-- The lanes s .. s + k taken together from the left. -/
def seg (D : Int → Int → Int) (zs : List Int) (s : Nat) : Nat → Int
  | 0 => zs.getD s 0
  | k + 1 => D (seg D zs s k) (zs.getD (s + k + 1) 0)
structure Asc (D : Int → Int → Int) (W : Int → Prop) : Prop where
  word : ∀ x y, W x → W y → W (D x y)
  assoc : ∀ x y z, W x → W y → W z → D (D x y) z = D x (D y z)
theorem seg_word {D : Int → Int → Int} {W : Int → Prop} (h : Asc D W) {zs : List Int} (s : Nat) : ∀ k, (∀ i, i ≤ s + k → W (zs.getD i 0)) → W (seg D zs s k) := by
  intro k
  induction k with
  | zero => intro hw; exact hw s (Nat.le_refl _)
  | succ k ih => intro hw; exact h.word _ _ (ih fun i hi => hw i (by omega)) (hw _ (Nat.le_refl _))
theorem seg_split {D : Int → Int → Int} {W : Int → Prop} (h : Asc D W) {zs : List Int} (s k : Nat) : ∀ l, (∀ i, i ≤ s + k + l + 1 → W (zs.getD i 0)) → seg D zs s (k + l + 1) = D (seg D zs s k) (seg D zs (s + k + 1) l) := by
  intro l
  induction l with
  | zero => intro hw; rfl
  | succ l ih =>
    intro hw
    have e1 : seg D zs s (k + (l + 1) + 1) = D (seg D zs s (k + l + 1)) (zs.getD (s + k + 1 + l + 1) 0) := by
      show D (seg D zs s (k + (l + 1))) (zs.getD (s + (k + (l + 1)) + 1) 0) = _
      rw [show s + (k + (l + 1)) + 1 = s + k + 1 + l + 1 by omega]; rfl
    rw [e1, ih fun i hi => hw i (by omega)]
    exact h.assoc _ _ _ (seg_word h s k fun i hi => hw i (by omega)) (seg_word h (s + k + 1) l fun i hi => hw i (by omega)) (hw _ (by omega))
theorem seg_half {D : Int → Int → Int} {W : Int → Prop} (h : Asc D W) (hc : ∀ x y, W x → W y → D x y = D y x) {zs hs : List Int} {m : Nat} (hh : ∀ i, i < m → hs.getD i 0 = D (zs.getD i 0) (zs.getD (m + i) 0)) (hw : ∀ i, i < m + m → W (zs.getD i 0)) :
    ∀ k, k < m → seg D hs 0 k = D (seg D zs 0 k) (seg D zs m k) := by
  intro k
  induction k with
  | zero => intro hk; exact hh 0 hk
  | succ k ih =>
    intro hk
    have wa := seg_word h (zs := zs) 0 k fun i hi => hw i (by omega)
    have wb := seg_word h (zs := zs) m k fun i hi => hw i (by omega)
    have wx := hw (0 + k + 1) (by omega)
    have wy := hw (m + (0 + k + 1)) (by omega)
    show D (seg D hs 0 k) (hs.getD (0 + k + 1) 0) = D (D (seg D zs 0 k) (zs.getD (0 + k + 1) 0)) (D (seg D zs m k) (zs.getD (m + k + 1) 0))
    rw [ih (by omega), hh _ (by omega), show m + k + 1 = m + (0 + k + 1) by omega]
    generalize seg D zs 0 k = A at *
    generalize seg D zs m k = B at *
    generalize zs.getD (0 + k + 1) 0 = x at *
    generalize zs.getD (m + (0 + k + 1)) 0 = y at *
    rw [h.assoc A B (D x y) wa wb (h.word _ _ wx wy), ← h.assoc B x y wb wx wy, hc B x wb wx, h.assoc x B y wx wb wy, ← h.assoc A x (D B y) wa wx (h.word _ _ wb wy)]
theorem asc_do {op b : Int} (h0 : 0 ≤ op) (h1 : op ≤ 17) (ha : Wd.assoc op = true) : Asc (Wd.doOp op b) (Wd.IsWord b) :=
  ⟨fun x y hx hy => word_do h0 h1 hx hy, fun x y z hx hy hz => Wd.doOp_assoc ha hx.1 hx.2 hy.2 hz.2⟩
theorem sc_seg (op b : Int) (xs : List Int) : ∀ k, sc op b xs k = seg (Wd.doOp op b) xs 0 k
  | 0 => rfl
  | k + 1 => by
    show Wd.doOp op b (sc op b xs k) (xs.getD (k + 1) 0) = Wd.doOp op b (seg (Wd.doOp op b) xs 0 k) (xs.getD (0 + k + 1) 0)
    rw [sc_seg op b xs k, Nat.zero_add]
theorem st_seg {op b : Int} {xs : List Int} (h0 : 0 ≤ op) (h1 : op ≤ 17) (ha : Wd.assoc op = true) (hw : ∀ i, i < xs.length → Wd.IsWord b (xs.getD i 0)) :
    ∀ j i, i < xs.length → (st op b xs j).getD i 0 = if 2 ^ j ≤ i then seg (Wd.doOp op b) xs (i + 1 - 2 ^ j) (2 ^ j - 1) else seg (Wd.doOp op b) xs 0 i := by
  have A := asc_do (b := b) h0 h1 ha
  intro j
  induction j with
  | zero =>
    intro i hi
    by_cases h : 2 ^ 0 ≤ i
    · rw [if_pos h]; rfl
    · have : i = 0 := by simp at h; exact h
      subst this; rfl
  | succ j ih =>
    intro i hi
    have hp : 0 < 2 ^ j := Nat.pow_pos (by decide)
    have hps : 2 ^ (j + 1) = 2 ^ j + 2 ^ j := by rw [Nat.pow_succ]; omega
    show (tab (ssF op b (st op b xs j) (2 ^ j)) xs.length).getD i 0 = _
    rw [tab_getD _ _ _ hi, hps]
    unfold ssF
    rw [ih i hi, ih (i - 2 ^ j) (Nat.lt_of_le_of_lt (Nat.sub_le _ _) hi)]
    generalize 2 ^ j = far at *
    by_cases hf : far ≤ i
    · rw [if_pos hf, if_pos hf]
      by_cases h2 : far + far ≤ i
      · rw [if_pos h2, if_pos (by omega)]
        have e := seg_split A (zs := xs) (i + 1 - (far + far)) (far - 1) (far - 1) (fun q hq => hw q (by omega))
        rw [show i + 1 - (far + far) + (far - 1) + 1 = i + 1 - far by omega, show far - 1 + (far - 1) + 1 = far + far - 1 by omega] at e
        rw [e, show i - far + 1 - far = i + 1 - (far + far) by omega]
      · rw [if_neg h2, if_neg (by omega)]
        have e := seg_split A (zs := xs) 0 (i - far) (far - 1) (fun q hq => hw q (by omega))
        rw [show 0 + (i - far) + 1 = i + 1 - far by omega, show i - far + (far - 1) + 1 = i by omega] at e
        exact e.symm
    · rw [if_neg hf, if_neg (by omega), if_neg (by omega)]
theorem st_scan {op b : Int} {xs : List Int} (h0 : 0 ≤ op) (h1 : op ≤ 17) (ha : Wd.assoc op = true) (hv : vec b xs = true) : st op b xs (lg xs.length) = tab (sc op b xs) xs.length := by
  have hn := vec_len hv
  have hp := lg_pow (n := xs.length) (by omega)
  have e := tab_self (st op b xs (lg xs.length))
  rw [st_len] at e
  rw [← e]
  refine tab_congr fun i hi => ?_
  rw [st_seg h0 h1 ha (fun q hq => vec_word hv hq) _ i hi, if_neg (by omega), sc_seg]
theorem red_seg {op b : Int} (h0 : 0 ≤ op) (h1 : op ≤ 17) (ha : Wd.assoc op = true) (hc : Wd.comm op = true) :
    ∀ f (zs : List Int), (∀ i, i < 2 ^ f → Wd.IsWord b (zs.getD i 0)) → red op b f zs = seg (Wd.doOp op b) zs 0 (2 ^ f - 1) := by
  have A := asc_do (b := b) h0 h1 ha
  intro f
  induction f with
  | zero => intro zs hw; rfl
  | succ f ih =>
    intro zs hw
    have hp : 0 < 2 ^ f := Nat.pow_pos (by decide)
    have hps : 2 ^ (f + 1) = 2 ^ f + 2 ^ f := by rw [Nat.pow_succ]; omega
    rw [hps] at hw ⊢
    show red op b f (half1 op b zs (2 ^ f)) = _
    rw [ih _ (half1_word h0 h1 hw)]
    have e := seg_half A (fun x y hx hy => Wd.doOp_comm hc hx.1 hx.2 hy.2) (zs := zs) (hs := half1 op b zs (2 ^ f)) (m := 2 ^ f) (fun i hi => tab_getD _ _ _ hi) hw (2 ^ f - 1) (by omega)
    rw [e]
    have e2 := seg_split A (zs := zs) 0 (2 ^ f - 1) (2 ^ f - 1) (fun q hq => hw q (by omega))
    rw [show 0 + (2 ^ f - 1) + 1 = 2 ^ f by omega, show 2 ^ f - 1 + (2 ^ f - 1) + 1 = 2 ^ f + 2 ^ f - 1 by omega] at e2
    exact e2.symm
theorem red_scan {op b : Int} {xs : List Int} (h0 : 0 ≤ op) (h1 : op ≤ 17) (ha : Wd.assoc op = true) (hc : Wd.comm op = true) (hv : vec b xs = true) : red op b (lg xs.length) xs = sc op b xs (xs.length - 1) := by
  have hn := vec_len hv
  have hp := lg_pow (n := xs.length) (by omega)
  rw [red_seg h0 h1 ha hc _ _ (fun i hi => vec_word hv (by omega)), ← hp, sc_seg]
end Ln
