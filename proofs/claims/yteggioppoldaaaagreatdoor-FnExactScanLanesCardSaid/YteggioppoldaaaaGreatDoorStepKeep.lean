/-
  Appending one number to a row of the call's own inside a region that draws its order: the row's old cells stay where they were.
-/
import Derived.Test.YteggioppoldaaaaGreatDoorStepPush
namespace Go.Proofs.YteggioppoldaaaaGreatDoor.Wds
open Go.RowKit
set_option linter.unusedVariables false

theorem run_push_keeps {P : Program} (w : World) (ty : TypeId) (i : TypeInfo) (ht : P.underlying 25 = some (.slice 2)) (hi : P.info? 2 = some i) (hz : i.zero = some (.int .i64 0)) (hsize : i.size = 1) (hby : i.bytes = 8)
    (base g n cap : Nat) (xs : List Int) (z : Int) (hown : w.ownsRow base 2 1 (.slice (some ⟨g, 0, none⟩) n cap) n (xs.map (Value.int .i64)))
    (ad : Nat) (hcell : w.cell? ⟨ad, 0, none⟩ = some (.int .i64 z)) (hn : n ≤ 1099511627776) (hbase : base ≤ w.heap.size) :
    ∃ v' w', (Builtin.append_ #[25, 25] ty #[.slice (some ⟨g, 0, none⟩) n cap, .slice (some ⟨ad, 0, none⟩) 1 1]).run P w = .ok v' w' ∧
      w'.ownsRow base 2 1 v' (n + 1) ((xs ++ [z]).map (Value.int .i64)) ∧ Below base w w' ∧ ∀ k, k < n → w'.cell? ⟨g, k, none⟩ = w.cell? ⟨g, k, none⟩ := by
  have hnews : ∀ j u, ([Value.int .i64 z] : List Value)[j]? = some u → w.cell? ((⟨ad, 0, none⟩ : Addr).add j) = some u := by
    intro j u hj
    match j, hj with
    | 0, hj => simp at hj; subst hj; simpa [Addr.add] using hcell
  have h1 : ∀ u ∈ ([Value.int .i64 z] : List Value), u.oneCell' = true := by intro u hu; simp at hu; subst hu; rfl
  have hml : n + 1 ≤ maxLen := by unfold maxLen; omega
  obtain ⟨v', w', hrun, ho, hg, _⟩ := run_append_own (P := P) w base 25 ty 2 i (.int .i64 0) 1 8 ht hi hz hsize hby rfl (by decide) _ n _ hown ⟨ad, 0, none⟩ 1 1 [.int .i64 z] rfl hnews h1 hml (by omega) hbase
  have hform := hown.2
  rcases hform with ⟨e, _⟩ | ⟨g', cap', cur, e, hbg, hgg, hnc, hcm, hcs, htake⟩
  · cases e
  · injection e with e1 _ e3
    injection e1 with e1
    injection e1 with e1 _
    subst e1; subst e3
    refine ⟨v', w', hrun, by simpa using ho, (Below.refl base w).grown hg hbase (fun r hr => by simp only [Value.ownBlock, Option.some.injEq] at hr; omega), fun k hk => ?_⟩
    by_cases hroom : n + 1 ≤ cap
    · have hr := run_append_room (P := P) w 25 ty 2 i ht hi g n cap cur hgg ⟨ad, 0, none⟩ 1 1 [.int .i64 z] (by simp [hsize]) hnews h1 hroom (by rw [hsize]; simp; omega)
      rw [hr] at hrun
      injection hrun with _ e2
      subst e2
      rw [cell_setRow_same w g k cur _ _ _ hgg, cell_of_row w g k cur _ (0, 0) hgg]
      have hkc : k < cur.size := by omega
      rw [hsize, Nat.mul_one]
      have hlt : k < (cur.toList.take n).length := by rw [List.length_take]; simp; omega
      rw [List.getElem?_toArray, List.append_assoc, List.getElem?_append_left hlt, List.getElem?_take_of_lt hk, Array.getElem?_toList]
    · have holds : ∀ j u, (xs.map (Value.int .i64))[j]? = some u → w.cell? ((⟨g, 0, none⟩ : Addr).add j) = some u := hown.cells (g := g) rfl
      have hr := run_append_grow (P := P) w 25 ty 2 i (.int .i64 0) ht hi hz ⟨g, 0, none⟩ n cap (xs.map (Value.int .i64)) (by rw [hsize]; exact hown.1) holds ⟨ad, 0, none⟩ 1 1 [.int .i64 z] (by simp [hsize]) hnews (by omega) (by unfold maxLen at hml; omega) (growslice_fits (by unfold maxLen at hml; omega) (by rw [hby]; omega))
      rw [hr] at hrun
      injection hrun with _ e2
      subst e2
      exact World.cell?_of_block (a := ⟨g, k, none⟩) (Below.heap_alloc w.drew _ _ (lt_of_block hgg))
theorem step_push_keeps {P : Program} {ops : Array Oper} {o : Oper} {a : Act} {K : Act → World → Prop} {Q : Exit → Act → World → Prop} {E : Prop} (W : World) (hgd : o.guard = none) (s x : Operand)
    (ho : o.op = .call { callee := .builtin .append, args := #[s, x], argTypes := #[25, 25] })
    (i : TypeInfo) (ht : P.underlying 25 = some (.slice 2)) (hi : P.info? 2 = some i) (hz : i.zero = some (.int .i64 0)) (hsize : i.size = 1) (hby : i.bytes = 8)
    (base g n cap : Nat) (xs : List Int) (z : Int) (hs : a.eval s = .slice (some ⟨g, 0, none⟩) n cap) (hown : W.ownsRow base 2 1 (.slice (some ⟨g, 0, none⟩) n cap) n (xs.map (Value.int .i64)))
    (ad : Nat) (hx : a.eval x = .slice (some ⟨ad, 0, none⟩) 1 1) (hcell : W.cell? ⟨ad, 0, none⟩ = some (.int .i64 z)) (hn : n ≤ 1099511627776) (hbase : base ≤ W.heap.size)
    (h : ∀ v' w', w'.ownsRow base 2 1 v' (n + 1) ((xs ++ [z]).map (Value.int .i64)) → Below base W w' → Hid (∀ k, k < n → w'.cell? ⟨g, k, none⟩ = W.cell? ⟨g, k, none⟩) → K (a.put o.dst v') w') :
    if Region.wanted o (yielded ops a.tmps) = true then Oper.wp P o a W K Q else E := by
  have hw : Region.wanted o (yielded ops a.tmps) = true := by simp [Region.wanted, hgd]
  rw [if_pos hw]
  obtain ⟨v', w', hrun, h2, h3, h4⟩ := run_push_keeps (P := P) W o.type i ht hi hz hsize hby base g n cap xs z hown ad hcell hn hbase
  unfold Oper.wp execOp
  simp only [ho, resolve, invoke, builtin, Sem.run_bind, Sem.run_pure, Result.andThen_ok, List.map_toArray, List.map_cons, List.map_nil, hs, hx, hrun]
  exact h v' w' h2 h3 h4
end Go.Proofs.YteggioppoldaaaaGreatDoor.Wds
