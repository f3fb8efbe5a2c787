/-
  The iterator over the subsets of the first n numbers: what it hands out, from the greatest one down; its body may write, but not what lay below.
-/
import Derived.Test.YtfmplneopmbfoaaSpM
import Derived.Test.YtfmplneopmbfoaaU32
import Derived.RangeFuncNested
import Derived.RangeFuncBound
import Derived.RangeFuncCalls
import Derived.RangeFuncLeaves
import Derived.RangeFuncBox
import Derived.Shelf.Abstract
import Derived.Shelf.RegionOpen
import Derived.OwnWalkIn
import Derived.TacticsInMore
import Derived.LoopNIn
import Derived.LoopIn
namespace Go.Proofs.Ytfmplneopmbfoaa.Wds
open Go.RowKit Go.Shelf
attribute [local go_sem] Oper.semAt_some
set_option linter.unusedVariables false

/-- What a round of the body keeps: what lies below n₀, and the box of the set. -/
structure KpB (Bs n₀ : Nat) (W W' : World) : Prop where
  h : Below n₀ W W'
  b : ∀ v, W.cell? ⟨Bs, 0, none⟩ = some v → W'.cell? ⟨Bs, 0, none⟩ = some v
theorem KpB.refl (Bs n₀ : Nat) (W : World) : KpB Bs n₀ W W := ⟨Below.refl _ _, fun _ h => h⟩
theorem KpB.trans {Bs n₀ : Nat} {X Y Z : World} (h : KpB Bs n₀ X Y) (k : KpB Bs n₀ Y Z) : KpB Bs n₀ X Z := ⟨h.h.trans k.h, fun v hv => k.b v (h.b v hv)⟩
theorem kpB_b {Bs n₀ : Nat} {w : World} (hn : n₀ ≤ w.heap.size) (W : World) (l : Nat) (o o' : Obj) (hl : w.heap.size ≤ l) (h : W.heap[l]? = some o) (h1 : o.isCells = false) (h2 : o.isWalk = false) : KpB Bs n₀ W (W.putObj l o') :=
  ⟨belowK_b (w := w) hn W l o o' hl h h1 h2, fun v hv => cell_kept hv (grownBy_putObj' W l o') (fun r e => by cases e; exact ⟨o, h, h1⟩)⟩
theorem KpB.of {Bs n₀ : Nat} {W W' : World} (h : Below W.heap.size W W') (hn : n₀ ≤ W.heap.size) : KpB Bs n₀ W W' :=
  ⟨h.mono hn, fun v hv => (h.cell (World.block_lt_of_cell? W _ hv)).trans hv⟩
theorem KpB.set {Bs n₀ : Nat} {W W' : World} (h : KpB Bs n₀ W W') {p : Addr} (hp : n₀ ≤ p.block) (hne : Bs ≠ p.block) (u : Value) : KpB Bs n₀ W (W'.setCell p u) :=
  ⟨h.h.setCell hp u, fun v hv => by
    have h1 := h.b v hv
    rw [← h1]
    exact World.cell?_of_block (Below.heap_setCell W' p u Bs hne)⟩
theorem keepsFrom_of {B : Nat} {W W' : World} (h : Below W.heap.size W W') : KeepsFrom B W W' :=
  ⟨h.size, fun k o _ hk _ => (h.block k (Array.getElem?_eq_some_iff.1 hk).1).trans hk⟩
theorem blk_own {β : Type} (g : Nat) (t : TypeId) (f : β → Array Value) : Go.Own (fun (s : β) (W : World) => W.heap[g]? = some (.cells (f s) t (0, 0))) := fun s X Y row hs hg hrow =>
  (grownBy_keeps_cells hg hrow hs rfl).trans hs
abbrev SbIx (N : Nat) := { j : Nat // j < N }
theorem and_ones {z n : Nat} (h : z < 2 ^ n) : z &&& (2 ^ n - 1) = z := by rw [Nat.and_two_pow_sub_one_eq_mod, Nat.mod_eq_of_lt h]
set_option maxRecDepth 100000 in
set_option maxHeartbeats 2000000 in
theorem subs1 (F : Fence) (d : Nat) (h7 : F.fn 99) (hro : F.round = none) (hd : 1 ≤ d) (l Bs n₀ n N : Nat) (hn : n ≤ 31) (hN : N = 2 ^ n) (J Jx : List (SbIx N) → World → Prop)
    (hY : ∀ pre x W, J pre W → pre.length < N → YieldAt F (d - 1) Try.prog l #[.int .u32 ((x.1 : Nat) : Int)] W fun e W' =>
      (e = .returned (.bool true) ∧ J (pre ++ [x]) W' ∧ KpB Bs n₀ W W') ∨ (e = .returned (.bool false) ∧ Jx (pre ++ [x]) W'))
    (W : World) (hBs : W.cell? ⟨Bs, 0, none⟩ = some (.int .u32 ((N - 1 : Nat) : Int))) (h0 : J [] W) :
    CallsIn F d Try.prog 99 #[.func (.yield l) #[] #[], .pointer (some ⟨Bs, 0, none⟩)] W fun e W' => (∃ v, e = .returned v) ∧
      ((∃ ys, ys.map (·.1) = Sp.down N N ∧ J ys W') ∨ (∃ pre, (∃ k, k ≤ N ∧ pre.map (·.1) = Sp.down N k) ∧ Jx pre W')) := by
  have hN0 : 1 ≤ N := by rw [hN]; exact Nat.one_le_two_pow
  have hN32 : N < 4294967296 := by rw [hN]; exact Sc.pow_lt hn
  have HA := Lib.hid (fun z (hz : z < N) => show bits .and .u32 (z : Int) ((N - 1 : Nat) : Int) = (z : Int) by
    rw [u32_and z (N - 1) (by omega) (by omega), hN, and_ones (by rw [← hN]; exact hz)])
  clear hN
  refine callsIn_of_wp Try.func99 rfl h7 ?_ hro
  simp only [Try.ntmps99, List.size_toArray, List.length_cons, List.length_nil, Nat.reduceAdd, Nat.reduceSub, Array.replicate_succ, Array.replicate_zero, List.push_toArray, List.append_toArray, List.nil_append, List.cons_append]
  gi_wp2
  gi_loopw [3] (fun i wr => ∃ (k z : Nat), k < N ∧ z = N - 1 - k ∧ i = .int .u32 (z : Int) ∧ (∃ ys, ys.map (·.1) = Sp.down N k ∧ J ys wr) ∧ KpB Bs n₀ W wr) (fun i _ => (intOf i).toNat)
  case atStart => exact ⟨0, N - 1, by omega, by omega, rfl, ⟨[], rfl, h0⟩, KpB.refl _ _ _⟩
  case round =>
    obtain ⟨k, z, hk, hz, rfl, ⟨ys, hys, hJs⟩, hnx⟩ := hrel
    have hbs' := hnx.b _ hBs
    have hzN : z < N := by omega
    obtain ⟨fn, tmps, assign, body, hy, hR⟩ := hY ys ⟨z, hzN⟩ wr hJs (by have := congrArg List.length hys; rw [List.length_map, Sp.down_len] at this; omega)
    dsimp only at hy hR
    have HZ := Lib.hid hz
    have HK := Lib.hid hnx
    have HYS := Lib.hid hys
    clear hz hbs' hnx hys
    by_cases h0z : z = 0
    · have e1 : ((z : Int) != 0) = false := by simpa using h0z
      have e2 : ((z : Int) == 0) = true := by simpa using h0z
      have e4 : decide ((z : Int) = 0) = true := by simpa using h0z
      have H0 := Lib.hid h0z
      clear h0z
      gi_wp2
      refine hR.mono ?_
      rintro e W3 (⟨rfl, hJ3, hk3⟩ | ⟨rfl, hJx3⟩)
      · gi_wp2
        go_end0
        have hkN : k + 1 = N := by have := HZ.out; have := H0.out; omega
        refine ⟨⟨_, rfl⟩, .inl ⟨_, ?_, hJ3⟩⟩
        have hD : Sp.down N N = Sp.down N k ++ [z] := by
          have h1 := Sp.down_succ N k
          rw [← HZ.out] at h1
          exact (congrArg (Sp.down N) hkN.symm).trans h1
        rw [List.map_append, HYS.out, hD]; rfl
      · gi_wp2
        go_end0
        exact ⟨⟨_, rfl⟩, .inr ⟨_, ⟨k + 1, by omega, by rw [List.map_append, HYS.out, Sp.down_succ, ← HZ.out]; rfl⟩, hJx3⟩⟩
    · have e1 : ((z : Int) != 0) = true := by simpa using h0z
      have e2 : ((z : Int) == 0) = false := by simpa using h0z
      have e3 : ¬ ((z : Int) = 0) := by omega
      gi_wp2
      refine hR.mono ?_
      rintro e W3 (⟨rfl, hJ3, hk3⟩ | ⟨rfl, hJx3⟩)
      · have hb3 := hk3.b _ (HK.out.b _ hBs)
        have HK3 := Lib.hid (HK.out.trans hk3)
        have hk2 : k + 1 < N := by have := HZ.out; omega
        have u1 : IntKind.u32.wrap ((z : Int) - 1) = ((z - 1 : Nat) : Int) := by rw [IntKind.wrap_u32]; omega
        have u2 := HA.out (z - 1) (by omega)
        have hq2 := Lib.hid (show z - 1 = N - 1 - (k + 1) by have := HZ.out; omega)
        have HM := Lib.hid (show (ys ++ [(⟨z, hzN⟩ : SbIx N)]).map (·.1) = Sp.down N (k + 1) by rw [List.map_append, HYS.out, Sp.down_succ, ← HZ.out]; rfl)
        obtain ⟨q, hq⟩ : ∃ q, q = z - 1 := ⟨_, rfl⟩
        rw [← hq] at u1 u2 hq2
        have hm : q < z := by omega
        clear hk3 hq
        gi_wp2
        go_roundw
        case rel => exact ⟨k + 1, q, hk2, hq2.out, rfl, ⟨_, HM.out, hJ3⟩, HK3.out⟩
        case measure => simp [intOf]; omega
      · gi_wp2
        go_end0
        exact ⟨⟨_, rfl⟩, .inr ⟨_, ⟨k + 1, by omega, by rw [List.map_append, HYS.out, Sp.down_succ, ← HZ.out]; rfl⟩, hJx3⟩⟩
/-- s.subsets(): the set is boxed; the function value captures the box. -/
theorem subs (F : Fence) (d : Nat) (h5 : F.fn 86) (hro : F.round = none) (s : Int) (w : World) :
    CallsIn F d Try.prog 86 #[.int .u32 s] w fun e w' => e = .returned (.func (.func 99) #[] #[.pointer (some ⟨w.heap.size, 0, none⟩)]) ∧ w' = w.alloc (.cells #[.int .u32 s] 72) := by
  refine callsIn_of_wp Try.func86 rfl h5 ?_ hro
  simp only [Try.ntmps86, List.size_toArray, List.length_cons, List.length_nil, Nat.reduceAdd, Nat.reduceSub, Array.replicate_succ, Array.replicate_zero, List.push_toArray, List.append_toArray, List.nil_append, List.cons_append]
  gi_wp2
  go_ret
  exact ⟨rfl, rfl⟩
theorem subs_stops (F : Fence) (d : Nat) (h7 : F.fn 99) (hro : F.round = none) (hd : 1 ≤ d) (Bs n₀ n N : Nat) (hn : n ≤ 31) (hN : N = 2 ^ n) (w : World) (hBs : Bs < w.heap.size)
    (hc : w.cell? ⟨Bs, 0, none⟩ = some (.int .u32 ((N - 1 : Nat) : Int))) :
    SeqStopsK F d Try.prog 99 #[.pointer (some ⟨Bs, 0, none⟩)] (fun x : SbIx N => #[.int .u32 ((x.1 : Nat) : Int)]) (KpB Bs n₀)
        (fun ys => ys.map (·.1) = Sp.down N N) (fun pre => ∃ k, k ≤ N ∧ pre.map (·.1) = Sp.down N k) N w := by
  refine fun l J Jx W hW _ _ hY hj0 => ?_
  exact subs1 F d h7 hro hd l Bs n₀ n N hn hN J Jx hY W ((hW.cell (p := ⟨Bs, 0, none⟩) hBs).trans hc) hj0
end Go.Proofs.Ytfmplneopmbfoaa.Wds
