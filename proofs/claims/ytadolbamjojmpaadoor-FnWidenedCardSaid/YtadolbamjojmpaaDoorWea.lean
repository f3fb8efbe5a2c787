/-
  Lanes in turn, and lanes taken apart: the code's and the model's functions; one contract each.
-/
import Derived.Test.YtadolbamjojmpaaDoorSld
import Derived.Test.YtadolbamjojmpaaDoorLan5
import Derived.Deep.RegionWith
import Derived.Deep.RegionHeld3
import Derived.RegionTactic
namespace Go.Proofs.YtadolbamjojmpaaDoor.Wds
open Go.RowKit
set_option linter.unusedVariables false

theorem Ret2.no {w w' : World} (hb : Below w.heap.size w w') : Ret2 Ln.no2.1 Ln.no2.2.1 Ln.no2.2.2 w (.returned (.tuple #[.slice none 0 0, .slice none 0 0, .bool false])) w' :=
  ⟨none, 0, 0, none, 0, 0, rfl, Own.nil _ _ _ _, Own.nil _ _ _ _, (fun g o g' o' h => by cases h), Nat.zero_le _, Nat.zero_le _, hb⟩
/-- What a copy leaves that is made at a later moment W of the world w0. -/
def CopyAt (zs : List Int) (w0 W : World) (e : Ending) (w' : World) : Prop :=
  ∃ A n c, e = .returned (.slice A n c) ∧ Own w' W.heap.size w'.heap.size A n zs ∧ n ≤ 1048576 ∧ Below W.heap.size W w' ∧ Below w0.heap.size w0 w'
theorem sOwnAt (ad : Addr) (n c : Nat) (zs : List Int) (B : Nat) (w0 W : World) (hn : n ≤ 1048576) (h : Rd w0 B (some ad) n zs) (hb : Below w0.heap.size w0 W) :
    Calls Tryd.prog 30 #[.slice (some ad) n c] W (CopyAt zs w0 W) :=
  (sOwn_any ad n c zs B W hn (h.below hb)).mono fun e w' ⟨A, n', c', he, ho, hn', _, hb'⟩ => ⟨A, n', c', he, ho, hn', hb', hb.trans (hb'.mono hb.size)⟩
theorem apart_of {w : World} {lo hi lo' hi' n n' : Nat} {A A' : Option Addr} {zs ys : List Int} (h : Own w lo hi A n zs) (h' : Own w lo' hi' A' n' ys) (hd : hi ≤ lo' ∨ hi' ≤ lo) (hn : 0 < n) (hn' : 0 < n') : Apart A n A' n' := by
  intro g o g' o' e e'
  obtain ⟨k, _, _, f, h1, h2, _⟩ := h.2 hn
  obtain ⟨k', _, _, f', h1', h2', _⟩ := h'.2 hn'
  rw [e] at f
  rw [e'] at f'
  injection f with f
  injection f with f _
  injection f' with f'
  injection f' with f' _
  refine .inl fun hh => ?_
  omega
theorem Ret2.mk_ {w wf : World} {A A' : Option Addr} {n n' c c' lo hi lo' hi' : Nat} {zs ys : List Int} (h : Own wf lo hi A n zs) (h' : Own wf lo' hi' A' n' ys) (hd : hi ≤ lo' ∨ hi' ≤ lo) (l1 : w.heap.size ≤ lo) (l2 : w.heap.size ≤ lo')
    (u1 : hi ≤ wf.heap.size) (u2 : hi' ≤ wf.heap.size) (hn : n ≤ 1048576) (hn' : n' ≤ 1048576) (p : 0 < n) (p' : 0 < n') (hb : Below w.heap.size w wf) :
    Ret2 zs ys true w (.returned (.tuple #[.slice A n c, .slice A' n' c', .bool true])) wf :=
  ⟨A, n, c, A', n', c', rfl, h.more l1 u1, h'.more l2 u2, apart_of h h' hd p p', hn, hn', hb⟩
end Go.Proofs.YtadolbamjojmpaaDoor.Wds
