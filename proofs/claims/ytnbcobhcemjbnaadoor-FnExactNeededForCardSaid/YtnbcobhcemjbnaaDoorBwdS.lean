/-
  slices.Backward over statements: the iterator's contract: what it hands out, from the last one on; its body may write, but not what lay below.
-/
import Derived.Test.YtnbcobhcemjbnaaDoorLstS
import Derived.Test.YtnbcobhcemjbnaaDoorScM
import Derived.RangeFuncNested
import Derived.RangeFuncBound
import Derived.RangeFuncCalls
import Derived.RangeFuncLeaves
import Derived.RangeFuncBox
import Derived.Shelf.Abstract
import Derived.Shelf.RegionOpen
import Derived.OwnWalkIn
import Derived.TacticsInMore
import Derived.LoopNIn
import Derived.LoopIn
namespace Go.Proofs.YtnbcobhcemjbnaaDoor.Wds
open Go.RowKit Go.Shelf
attribute [local go_sem] Oper.semAt_some
set_option linter.unusedVariables false

/-- What a round of the body keeps: what lies below n₀, and the box of the slice. -/
structure KpB (Bs n₀ : Nat) (W W' : World) : Prop where
  h : Below n₀ W W'
  b : ∀ v, W.cell? ⟨Bs, 0, none⟩ = some v → W'.cell? ⟨Bs, 0, none⟩ = some v
theorem KpB.refl (Bs n₀ : Nat) (W : World) : KpB Bs n₀ W W := ⟨Below.refl _ _, fun _ h => h⟩
theorem KpB.trans {Bs n₀ : Nat} {X Y Z : World} (h : KpB Bs n₀ X Y) (k : KpB Bs n₀ Y Z) : KpB Bs n₀ X Z := ⟨h.h.trans k.h, fun v hv => k.b v (h.b v hv)⟩
theorem kpB_b {Bs n₀ : Nat} {w : World} (hn : n₀ ≤ w.heap.size) (W : World) (l : Nat) (o o' : Obj) (hl : w.heap.size ≤ l) (h : W.heap[l]? = some o) (h1 : o.isCells = false) (h2 : o.isWalk = false) : KpB Bs n₀ W (W.putObj l o') :=
  ⟨belowK_b (w := w) hn W l o o' hl h h1 h2, fun v hv => cell_kept hv (grownBy_putObj' W l o') (fun r e => by cases e; exact ⟨o, h, h1⟩)⟩
/-- The indices from the last one on, k of them. -/
def bwd (n k : Nat) : List Nat := (List.range k).map fun j => n - 1 - j
theorem bwd_succ (n k : Nat) : bwd n (k + 1) = bwd n k ++ [n - 1 - k] := by simp [bwd, List.range_succ]
theorem bwd_len (n k : Nat) : (bwd n k).length = k := by simp [bwd]
abbrev StIx (n : Nat) := { j : Nat // j < n }
set_option maxRecDepth 100000 in
set_option maxHeartbeats 2000000 in
theorem bwdS1 (F : Fence) (d : Nat) (h7 : F.fn 85) (hro : F.round = none) (hd : 1 ≤ d) (l Bs n₀ b off n cap : Nat) (hn : n ≤ 16) (tv : Nat → Value) (hb : 0 < n → b < n₀) (J Jx : List (StIx n) → World → Prop)
    (hY : ∀ pre x W, J pre W → pre.length < n → YieldAt F (d - 1) Tryd.prog l #[.int .i64 ((x.1 : Nat) : Int), tv x.1] W fun e W' =>
      (e = .returned (.bool true) ∧ J (pre ++ [x]) W' ∧ KpB Bs n₀ W W') ∨ (e = .returned (.bool false) ∧ Jx (pre ++ [x]) W'))
    (W : World) (A : Option Addr) (hA : 0 < n → A = some ⟨b, off, none⟩) (hBs : W.cell? ⟨Bs, 0, none⟩ = some (.slice A n cap))
    (p q r t : Nat → Int) (htv : ∀ j, tv j = .agg #[.int .i64 (p j), .int .i64 (q j), .int .i64 (r j), .int .i64 (t j)])
    (hc : ∀ j, j < n → W.cell? ⟨b, off + j * 4, none⟩ = some (.int .i64 (p j)) ∧ W.cell? ⟨b, off + j * 4 + 1, none⟩ = some (.int .i64 (q j)) ∧ W.cell? ⟨b, off + j * 4 + 2, none⟩ = some (.int .i64 (r j)) ∧ W.cell? ⟨b, off + j * 4 + 3, none⟩ = some (.int .i64 (t j))) (h0 : J [] W) :
    CallsIn F d Tryd.prog 85 #[.func (.yield l) #[] #[], .pointer (some ⟨Bs, 0, none⟩)] W fun e W' => (∃ v, e = .returned v) ∧
      ((∃ ys, ys.map (·.1) = bwd n n ∧ J ys W') ∨ (∃ pre, (∃ k, k ≤ n ∧ pre.map (·.1) = bwd n k) ∧ Jx pre W')) := by
  refine callsIn_of_wp Tryd.func85 rfl h7 ?_ hro
  simp only [Tryd.ntmps85, List.size_toArray, List.length_cons, List.length_nil, Nat.reduceAdd, Nat.reduceSub, Array.replicate_succ, Array.replicate_zero, List.push_toArray, List.append_toArray, List.nil_append, List.cons_append]
  have u1 : IntKind.i64.wrap ((n : Int) - 1) = (n : Int) - 1 := by rw [IntKind.wrap_i64]; omega
  gi_wp2
  gi_loopw [3] (fun i wr => ∃ (k : Nat) (z : Int), k ≤ n ∧ z = (n : Int) - 1 - k ∧ i = .int .i64 z ∧ (∃ ys, ys.map (·.1) = bwd n k ∧ J ys wr) ∧ KpB Bs n₀ W wr) (fun i _ => (intOf i + 1).toNat)
  case atStart => exact ⟨0, (n : Int) - 1, Nat.zero_le _, by omega, by go_num, ⟨[], rfl, h0⟩, KpB.refl _ _ _⟩
  case round =>
    obtain ⟨k, z, hk, hz, rfl, ⟨ys, hys, hJs⟩, hnx⟩ := hrel
    have hbs' := hnx.b _ hBs
    by_cases hlt : k < n
    · obtain ⟨j, rfl⟩ : ∃ j : Nat, z = (j : Int) := ⟨n - 1 - k, by omega⟩
      rw [hA (by omega)] at hbs'
      have hj : j = n - 1 - k := by omega
      have hjn : j < n := by omega
      obtain ⟨c0, c1, c2, c3⟩ := hc j (by omega)
      have hb := hb (by omega)
      have e0 := (hnx.h.cell (p := ⟨b, off + j * 4, none⟩) hb).trans c0
      have e1 := (hnx.h.cell (p := ⟨b, off + j * 4 + 1, none⟩) hb).trans c1
      have e2 := (hnx.h.cell (p := ⟨b, off + j * 4 + 2, none⟩) hb).trans c2
      have e3 := (hnx.h.cell (p := ⟨b, off + j * 4 + 3, none⟩) hb).trans c3
      obtain ⟨fn, tmps, assign, body, hy, hR⟩ := hY ys ⟨j, hjn⟩ wr hJs (by have := congrArg List.length hys; rw [List.length_map, bwd_len] at this; omega)
      dsimp only at hy hR
      have i1 : (0 : Int) ≤ (j : Int) := by omega
      have i2 : (j : Int) < (n : Int) := by omega
      have u2 : IntKind.i64.wrap ((j : Int) - 1) = (j : Int) - 1 := by rw [IntKind.wrap_i64]; omega
      rw [htv j] at hy
      have HJ := Lib.hid (And.intro hj hz)
      clear hj hz
      gi_wp2
      refine hR.mono ?_
      rintro e W3 (⟨rfl, hJ3, hk3⟩ | ⟨rfl, hJx3⟩)
      · gi_wp2
        go_roundw
        case rel => exact ⟨k + 1, (j : Int) - 1, by omega, by have := HJ.out.2; omega, by go_num, ⟨_, by rw [List.map_append, hys, bwd_succ, ← HJ.out.1]; rfl, hJ3⟩, hnx.trans hk3⟩
        case measure => simp [intOf]; try omega
      · gi_wp2
        refine bodyPost_ret (results_none rfl _ _ _) rfl ?_
        exact ⟨⟨_, rfl⟩, .inr ⟨_, ⟨k + 1, by omega, by rw [List.map_append, hys, bwd_succ, ← HJ.out.1]; rfl⟩, hJx3⟩⟩
    · obtain rfl : k = n := by omega
      have hz2 : z = -1 := by omega
      subst hz2
      gi_wp2
      go_end0
      exact ⟨⟨_, rfl⟩, .inl ⟨_, hys, hJs⟩⟩
theorem RdS.tight {w : World} {B n : Nat} {A : Option Addr} {ts : List Sc.St} (h : RdS w B A n ts) : RdS w w.heap.size A n ts :=
  ⟨h.1, fun hn => by
    obtain ⟨g, o, e, hg, hc⟩ := h.2 hn
    have hl := h.1
    exact ⟨g, o, e, World.block_lt_of_cell? w _ (hc 0 (ts[0]'(by omega)) (List.getElem?_eq_getElem (by omega))).1, hc⟩⟩
/-- slices.Backward(ts): the slice is boxed; the function value captures the box. -/
theorem bwdS (F : Fence) (d : Nat) (h5 : F.fn 57) (hro : F.round = none) (A : Option Addr) (n c : Nat) (w : World) :
    CallsIn F d Tryd.prog 57 #[.slice A n c] w fun e w' => e = .returned (.func (.func 85) #[] #[.pointer (some ⟨w.heap.size, 0, none⟩)]) ∧ w' = w.alloc (.cells #[.slice A n c] 39) := by
  refine callsIn_of_wp Tryd.func57 rfl h5 ?_ hro
  simp only [Tryd.ntmps57, List.size_toArray, List.length_cons, List.length_nil, Nat.reduceAdd, Nat.reduceSub, Array.replicate_succ, Array.replicate_zero, List.push_toArray, List.append_toArray, List.nil_append, List.cons_append]
  gi_wp2
  go_ret
  exact ⟨rfl, rfl⟩
/-- Statements that read as ts, handed out from the last one on: what is handed out of the place j. -/
theorem bwdS_stops (F : Fence) (d : Nat) (h7 : F.fn 85) (hro : F.round = none) (hd : 1 ≤ d) (Bs n₀ : Nat) (A : Option Addr) (n cap : Nat) (ts : List Sc.St) (hn : n ≤ 16) (w : World) (hBs : Bs < w.heap.size) (hn₀ : n₀ ≤ w.heap.size)
    (hc : w.cell? ⟨Bs, 0, none⟩ = some (.slice A n cap)) (h : RdS w n₀ A n ts) :
    SeqStopsK F d Tryd.prog 85 #[.pointer (some ⟨Bs, 0, none⟩)] (fun x : StIx n => #[.int .i64 ((x.1 : Nat) : Int), .agg #[.int .i64 (Sc.nth ts x.1).op, .int .i64 (Sc.nth ts x.1).d, .int .i64 (Sc.nth ts x.1).a, .int .i64 (Sc.nth ts x.1).b]]) (KpB Bs n₀)
        (fun ys => ys.map (·.1) = bwd n n) (fun pre => ∃ k, k ≤ n ∧ pre.map (·.1) = bwd n k) n w := by
  by_cases h0 : 0 < n
  · obtain ⟨g, o, _, rfl, hg, _⟩ : ∃ g o, ∃ _ : True, A = some ⟨g, o, none⟩ ∧ g < n₀ ∧ True := by
      obtain ⟨g, o, e, hg, _⟩ := h.2 h0; exact ⟨g, o, trivial, e, hg, trivial⟩
    have hat : ∀ j, j < n → At4 (fun i => w.cell? ⟨g, i, none⟩) (o + j * 4) (Sc.nth ts j) := by
      intro j hj
      obtain ⟨g', o', e, _, hh⟩ := h.at_ hj
      injection e with e; injection e with e1 e2; subst e1; subst e2; exact hh
    refine fun l J Jx W hW _ _ hY hj0 => ?_
    have hb : Below n₀ w W := hW.mono hn₀
    exact bwdS1 F d h7 hro hd l Bs n₀ g o n cap hn (fun j => .agg #[.int .i64 (Sc.nth ts j).op, .int .i64 (Sc.nth ts j).d, .int .i64 (Sc.nth ts j).a, .int .i64 (Sc.nth ts j).b]) (fun _ => hg) J Jx hY W _ (fun _ => rfl) ((hW.cell (p := ⟨Bs, 0, none⟩) hBs).trans hc)
      (fun j => (Sc.nth ts j).op) (fun j => (Sc.nth ts j).d) (fun j => (Sc.nth ts j).a) (fun j => (Sc.nth ts j).b) (fun _ => rfl)
      (fun j hj => ⟨(hb.cell (p := ⟨g, o + j * 4, none⟩) hg).trans (hat j hj).1, (hb.cell (p := ⟨g, o + j * 4 + 1, none⟩) hg).trans (hat j hj).2.1, (hb.cell (p := ⟨g, o + j * 4 + 2, none⟩) hg).trans (hat j hj).2.2.1, (hb.cell (p := ⟨g, o + j * 4 + 3, none⟩) hg).trans (hat j hj).2.2.2⟩) hj0
  · obtain rfl : n = 0 := by omega
    refine fun l J Jx W hW _ _ hY hj0 => ?_
    exact bwdS1 F d h7 hro hd l Bs n₀ 0 0 0 cap hn (fun j => .agg #[.int .i64 (Sc.nth ts j).op, .int .i64 (Sc.nth ts j).d, .int .i64 (Sc.nth ts j).a, .int .i64 (Sc.nth ts j).b]) (fun hh => absurd hh (by omega)) J Jx hY W A (fun hh => absurd hh (by omega)) ((hW.cell (p := ⟨Bs, 0, none⟩) hBs).trans hc)
      (fun j => (Sc.nth ts j).op) (fun j => (Sc.nth ts j).d) (fun j => (Sc.nth ts j).a) (fun j => (Sc.nth ts j).b) (fun _ => rfl) (fun j hj => absurd hj (by omega)) hj0
end Go.Proofs.YtnbcobhcemjbnaaDoor.Wds
