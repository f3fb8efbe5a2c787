/-
  What ReadOp returns, over the translated program, where the table of texts holds what its initialiser lays.
-/
import Derived.Test.YthdiiefacgodnaaDoorOpTx
namespace Go.Proofs.YthdiiefacgodnaaDoor.Wds
open Go.RowKit
set_option linter.unusedVariables false

set_option maxRecDepth 100000 in
set_option maxHeartbeats 8000000 in
theorem readOp_any (s : ByteArray) (w : World) (hm : s.size ≤ maxLen) (h : OpT w) : Calls Tryd.prog 16 #[.string s] w fun e w' => e = .returned (.tuple #[.int .i64 (Wd.rdN s.toList), .bool (Wd.rdB s.toList)]) ∧ w = w' := by
  have c0 : w.cell? ⟨0, 0, none⟩ = some (.string { data := #[97, 100, 100] }) := h 0 (by decide)
  have c1 : w.cell? ⟨0, 1, none⟩ = some (.string { data := #[115, 117, 98] }) := h 1 (by decide)
  have c2 : w.cell? ⟨0, 2, none⟩ = some (.string { data := #[109, 117, 108] }) := h 2 (by decide)
  have c3 : w.cell? ⟨0, 3, none⟩ = some (.string { data := #[97, 110, 100] }) := h 3 (by decide)
  have c4 : w.cell? ⟨0, 4, none⟩ = some (.string { data := #[111, 114] }) := h 4 (by decide)
  have c5 : w.cell? ⟨0, 5, none⟩ = some (.string { data := #[120, 111, 114] }) := h 5 (by decide)
  have c6 : w.cell? ⟨0, 6, none⟩ = some (.string { data := #[109, 105, 110, 117] }) := h 6 (by decide)
  have c7 : w.cell? ⟨0, 7, none⟩ = some (.string { data := #[109, 97, 120, 117] }) := h 7 (by decide)
  have c8 : w.cell? ⟨0, 8, none⟩ = some (.string { data := #[109, 105, 110, 115] }) := h 8 (by decide)
  have c9 : w.cell? ⟨0, 9, none⟩ = some (.string { data := #[109, 97, 120, 115] }) := h 9 (by decide)
  have c10 : w.cell? ⟨0, 10, none⟩ = some (.string { data := #[97, 100, 100, 117] }) := h 10 (by decide)
  have c11 : w.cell? ⟨0, 11, none⟩ = some (.string { data := #[97, 100, 100, 115] }) := h 11 (by decide)
  have c12 : w.cell? ⟨0, 12, none⟩ = some (.string { data := #[115, 117, 98, 117] }) := h 12 (by decide)
  have c13 : w.cell? ⟨0, 13, none⟩ = some (.string { data := #[115, 117, 98, 115] }) := h 13 (by decide)
  have c14 : w.cell? ⟨0, 14, none⟩ = some (.string { data := #[97, 118, 103] }) := h 14 (by decide)
  have c15 : w.cell? ⟨0, 15, none⟩ = some (.string { data := #[115, 104, 108] }) := h 15 (by decide)
  have c16 : w.cell? ⟨0, 16, none⟩ = some (.string { data := #[115, 104, 114, 117] }) := h 16 (by decide)
  have c17 : w.cell? ⟨0, 17, none⟩ = some (.string { data := #[115, 104, 114, 115] }) := h 17 (by decide)
  have ik0 : ∀ w, (Instr.index 54 (.agg #[.string { data := #[97, 100, 100] }, .string { data := #[115, 117, 98] }, .string { data := #[109, 117, 108] }, .string { data := #[97, 110, 100] }, .string { data := #[111, 114] }, .string { data := #[120, 111, 114] }, .string { data := #[109, 105, 110, 117] }, .string { data := #[109, 97, 120, 117] }, .string { data := #[109, 105, 110, 115] }, .string { data := #[109, 97, 120, 115] }, .string { data := #[97, 100, 100, 117] }, .string { data := #[97, 100, 100, 115] }, .string { data := #[115, 117, 98, 117] }, .string { data := #[115, 117, 98, 115] }, .string { data := #[97, 118, 103] }, .string { data := #[115, 104, 108] }, .string { data := #[115, 104, 114, 117] }, .string { data := #[115, 104, 114, 115] }]) (.int .i64 0)).run Tryd.prog w = .ok (.string { data := #[97, 100, 100] }) w := fun _ => by kernel_rfl
  have ik1 : ∀ w, (Instr.index 54 (.agg #[.string { data := #[97, 100, 100] }, .string { data := #[115, 117, 98] }, .string { data := #[109, 117, 108] }, .string { data := #[97, 110, 100] }, .string { data := #[111, 114] }, .string { data := #[120, 111, 114] }, .string { data := #[109, 105, 110, 117] }, .string { data := #[109, 97, 120, 117] }, .string { data := #[109, 105, 110, 115] }, .string { data := #[109, 97, 120, 115] }, .string { data := #[97, 100, 100, 117] }, .string { data := #[97, 100, 100, 115] }, .string { data := #[115, 117, 98, 117] }, .string { data := #[115, 117, 98, 115] }, .string { data := #[97, 118, 103] }, .string { data := #[115, 104, 108] }, .string { data := #[115, 104, 114, 117] }, .string { data := #[115, 104, 114, 115] }]) (.int .i64 1)).run Tryd.prog w = .ok (.string { data := #[115, 117, 98] }) w := fun _ => by kernel_rfl
  have ik2 : ∀ w, (Instr.index 54 (.agg #[.string { data := #[97, 100, 100] }, .string { data := #[115, 117, 98] }, .string { data := #[109, 117, 108] }, .string { data := #[97, 110, 100] }, .string { data := #[111, 114] }, .string { data := #[120, 111, 114] }, .string { data := #[109, 105, 110, 117] }, .string { data := #[109, 97, 120, 117] }, .string { data := #[109, 105, 110, 115] }, .string { data := #[109, 97, 120, 115] }, .string { data := #[97, 100, 100, 117] }, .string { data := #[97, 100, 100, 115] }, .string { data := #[115, 117, 98, 117] }, .string { data := #[115, 117, 98, 115] }, .string { data := #[97, 118, 103] }, .string { data := #[115, 104, 108] }, .string { data := #[115, 104, 114, 117] }, .string { data := #[115, 104, 114, 115] }]) (.int .i64 2)).run Tryd.prog w = .ok (.string { data := #[109, 117, 108] }) w := fun _ => by kernel_rfl
  have ik3 : ∀ w, (Instr.index 54 (.agg #[.string { data := #[97, 100, 100] }, .string { data := #[115, 117, 98] }, .string { data := #[109, 117, 108] }, .string { data := #[97, 110, 100] }, .string { data := #[111, 114] }, .string { data := #[120, 111, 114] }, .string { data := #[109, 105, 110, 117] }, .string { data := #[109, 97, 120, 117] }, .string { data := #[109, 105, 110, 115] }, .string { data := #[109, 97, 120, 115] }, .string { data := #[97, 100, 100, 117] }, .string { data := #[97, 100, 100, 115] }, .string { data := #[115, 117, 98, 117] }, .string { data := #[115, 117, 98, 115] }, .string { data := #[97, 118, 103] }, .string { data := #[115, 104, 108] }, .string { data := #[115, 104, 114, 117] }, .string { data := #[115, 104, 114, 115] }]) (.int .i64 3)).run Tryd.prog w = .ok (.string { data := #[97, 110, 100] }) w := fun _ => by kernel_rfl
  have ik4 : ∀ w, (Instr.index 54 (.agg #[.string { data := #[97, 100, 100] }, .string { data := #[115, 117, 98] }, .string { data := #[109, 117, 108] }, .string { data := #[97, 110, 100] }, .string { data := #[111, 114] }, .string { data := #[120, 111, 114] }, .string { data := #[109, 105, 110, 117] }, .string { data := #[109, 97, 120, 117] }, .string { data := #[109, 105, 110, 115] }, .string { data := #[109, 97, 120, 115] }, .string { data := #[97, 100, 100, 117] }, .string { data := #[97, 100, 100, 115] }, .string { data := #[115, 117, 98, 117] }, .string { data := #[115, 117, 98, 115] }, .string { data := #[97, 118, 103] }, .string { data := #[115, 104, 108] }, .string { data := #[115, 104, 114, 117] }, .string { data := #[115, 104, 114, 115] }]) (.int .i64 4)).run Tryd.prog w = .ok (.string { data := #[111, 114] }) w := fun _ => by kernel_rfl
  have ik5 : ∀ w, (Instr.index 54 (.agg #[.string { data := #[97, 100, 100] }, .string { data := #[115, 117, 98] }, .string { data := #[109, 117, 108] }, .string { data := #[97, 110, 100] }, .string { data := #[111, 114] }, .string { data := #[120, 111, 114] }, .string { data := #[109, 105, 110, 117] }, .string { data := #[109, 97, 120, 117] }, .string { data := #[109, 105, 110, 115] }, .string { data := #[109, 97, 120, 115] }, .string { data := #[97, 100, 100, 117] }, .string { data := #[97, 100, 100, 115] }, .string { data := #[115, 117, 98, 117] }, .string { data := #[115, 117, 98, 115] }, .string { data := #[97, 118, 103] }, .string { data := #[115, 104, 108] }, .string { data := #[115, 104, 114, 117] }, .string { data := #[115, 104, 114, 115] }]) (.int .i64 5)).run Tryd.prog w = .ok (.string { data := #[120, 111, 114] }) w := fun _ => by kernel_rfl
  have ik6 : ∀ w, (Instr.index 54 (.agg #[.string { data := #[97, 100, 100] }, .string { data := #[115, 117, 98] }, .string { data := #[109, 117, 108] }, .string { data := #[97, 110, 100] }, .string { data := #[111, 114] }, .string { data := #[120, 111, 114] }, .string { data := #[109, 105, 110, 117] }, .string { data := #[109, 97, 120, 117] }, .string { data := #[109, 105, 110, 115] }, .string { data := #[109, 97, 120, 115] }, .string { data := #[97, 100, 100, 117] }, .string { data := #[97, 100, 100, 115] }, .string { data := #[115, 117, 98, 117] }, .string { data := #[115, 117, 98, 115] }, .string { data := #[97, 118, 103] }, .string { data := #[115, 104, 108] }, .string { data := #[115, 104, 114, 117] }, .string { data := #[115, 104, 114, 115] }]) (.int .i64 6)).run Tryd.prog w = .ok (.string { data := #[109, 105, 110, 117] }) w := fun _ => by kernel_rfl
  have ik7 : ∀ w, (Instr.index 54 (.agg #[.string { data := #[97, 100, 100] }, .string { data := #[115, 117, 98] }, .string { data := #[109, 117, 108] }, .string { data := #[97, 110, 100] }, .string { data := #[111, 114] }, .string { data := #[120, 111, 114] }, .string { data := #[109, 105, 110, 117] }, .string { data := #[109, 97, 120, 117] }, .string { data := #[109, 105, 110, 115] }, .string { data := #[109, 97, 120, 115] }, .string { data := #[97, 100, 100, 117] }, .string { data := #[97, 100, 100, 115] }, .string { data := #[115, 117, 98, 117] }, .string { data := #[115, 117, 98, 115] }, .string { data := #[97, 118, 103] }, .string { data := #[115, 104, 108] }, .string { data := #[115, 104, 114, 117] }, .string { data := #[115, 104, 114, 115] }]) (.int .i64 7)).run Tryd.prog w = .ok (.string { data := #[109, 97, 120, 117] }) w := fun _ => by kernel_rfl
  have ik8 : ∀ w, (Instr.index 54 (.agg #[.string { data := #[97, 100, 100] }, .string { data := #[115, 117, 98] }, .string { data := #[109, 117, 108] }, .string { data := #[97, 110, 100] }, .string { data := #[111, 114] }, .string { data := #[120, 111, 114] }, .string { data := #[109, 105, 110, 117] }, .string { data := #[109, 97, 120, 117] }, .string { data := #[109, 105, 110, 115] }, .string { data := #[109, 97, 120, 115] }, .string { data := #[97, 100, 100, 117] }, .string { data := #[97, 100, 100, 115] }, .string { data := #[115, 117, 98, 117] }, .string { data := #[115, 117, 98, 115] }, .string { data := #[97, 118, 103] }, .string { data := #[115, 104, 108] }, .string { data := #[115, 104, 114, 117] }, .string { data := #[115, 104, 114, 115] }]) (.int .i64 8)).run Tryd.prog w = .ok (.string { data := #[109, 105, 110, 115] }) w := fun _ => by kernel_rfl
  have ik9 : ∀ w, (Instr.index 54 (.agg #[.string { data := #[97, 100, 100] }, .string { data := #[115, 117, 98] }, .string { data := #[109, 117, 108] }, .string { data := #[97, 110, 100] }, .string { data := #[111, 114] }, .string { data := #[120, 111, 114] }, .string { data := #[109, 105, 110, 117] }, .string { data := #[109, 97, 120, 117] }, .string { data := #[109, 105, 110, 115] }, .string { data := #[109, 97, 120, 115] }, .string { data := #[97, 100, 100, 117] }, .string { data := #[97, 100, 100, 115] }, .string { data := #[115, 117, 98, 117] }, .string { data := #[115, 117, 98, 115] }, .string { data := #[97, 118, 103] }, .string { data := #[115, 104, 108] }, .string { data := #[115, 104, 114, 117] }, .string { data := #[115, 104, 114, 115] }]) (.int .i64 9)).run Tryd.prog w = .ok (.string { data := #[109, 97, 120, 115] }) w := fun _ => by kernel_rfl
  have ik10 : ∀ w, (Instr.index 54 (.agg #[.string { data := #[97, 100, 100] }, .string { data := #[115, 117, 98] }, .string { data := #[109, 117, 108] }, .string { data := #[97, 110, 100] }, .string { data := #[111, 114] }, .string { data := #[120, 111, 114] }, .string { data := #[109, 105, 110, 117] }, .string { data := #[109, 97, 120, 117] }, .string { data := #[109, 105, 110, 115] }, .string { data := #[109, 97, 120, 115] }, .string { data := #[97, 100, 100, 117] }, .string { data := #[97, 100, 100, 115] }, .string { data := #[115, 117, 98, 117] }, .string { data := #[115, 117, 98, 115] }, .string { data := #[97, 118, 103] }, .string { data := #[115, 104, 108] }, .string { data := #[115, 104, 114, 117] }, .string { data := #[115, 104, 114, 115] }]) (.int .i64 10)).run Tryd.prog w = .ok (.string { data := #[97, 100, 100, 117] }) w := fun _ => by kernel_rfl
  have ik11 : ∀ w, (Instr.index 54 (.agg #[.string { data := #[97, 100, 100] }, .string { data := #[115, 117, 98] }, .string { data := #[109, 117, 108] }, .string { data := #[97, 110, 100] }, .string { data := #[111, 114] }, .string { data := #[120, 111, 114] }, .string { data := #[109, 105, 110, 117] }, .string { data := #[109, 97, 120, 117] }, .string { data := #[109, 105, 110, 115] }, .string { data := #[109, 97, 120, 115] }, .string { data := #[97, 100, 100, 117] }, .string { data := #[97, 100, 100, 115] }, .string { data := #[115, 117, 98, 117] }, .string { data := #[115, 117, 98, 115] }, .string { data := #[97, 118, 103] }, .string { data := #[115, 104, 108] }, .string { data := #[115, 104, 114, 117] }, .string { data := #[115, 104, 114, 115] }]) (.int .i64 11)).run Tryd.prog w = .ok (.string { data := #[97, 100, 100, 115] }) w := fun _ => by kernel_rfl
  have ik12 : ∀ w, (Instr.index 54 (.agg #[.string { data := #[97, 100, 100] }, .string { data := #[115, 117, 98] }, .string { data := #[109, 117, 108] }, .string { data := #[97, 110, 100] }, .string { data := #[111, 114] }, .string { data := #[120, 111, 114] }, .string { data := #[109, 105, 110, 117] }, .string { data := #[109, 97, 120, 117] }, .string { data := #[109, 105, 110, 115] }, .string { data := #[109, 97, 120, 115] }, .string { data := #[97, 100, 100, 117] }, .string { data := #[97, 100, 100, 115] }, .string { data := #[115, 117, 98, 117] }, .string { data := #[115, 117, 98, 115] }, .string { data := #[97, 118, 103] }, .string { data := #[115, 104, 108] }, .string { data := #[115, 104, 114, 117] }, .string { data := #[115, 104, 114, 115] }]) (.int .i64 12)).run Tryd.prog w = .ok (.string { data := #[115, 117, 98, 117] }) w := fun _ => by kernel_rfl
  have ik13 : ∀ w, (Instr.index 54 (.agg #[.string { data := #[97, 100, 100] }, .string { data := #[115, 117, 98] }, .string { data := #[109, 117, 108] }, .string { data := #[97, 110, 100] }, .string { data := #[111, 114] }, .string { data := #[120, 111, 114] }, .string { data := #[109, 105, 110, 117] }, .string { data := #[109, 97, 120, 117] }, .string { data := #[109, 105, 110, 115] }, .string { data := #[109, 97, 120, 115] }, .string { data := #[97, 100, 100, 117] }, .string { data := #[97, 100, 100, 115] }, .string { data := #[115, 117, 98, 117] }, .string { data := #[115, 117, 98, 115] }, .string { data := #[97, 118, 103] }, .string { data := #[115, 104, 108] }, .string { data := #[115, 104, 114, 117] }, .string { data := #[115, 104, 114, 115] }]) (.int .i64 13)).run Tryd.prog w = .ok (.string { data := #[115, 117, 98, 115] }) w := fun _ => by kernel_rfl
  have ik14 : ∀ w, (Instr.index 54 (.agg #[.string { data := #[97, 100, 100] }, .string { data := #[115, 117, 98] }, .string { data := #[109, 117, 108] }, .string { data := #[97, 110, 100] }, .string { data := #[111, 114] }, .string { data := #[120, 111, 114] }, .string { data := #[109, 105, 110, 117] }, .string { data := #[109, 97, 120, 117] }, .string { data := #[109, 105, 110, 115] }, .string { data := #[109, 97, 120, 115] }, .string { data := #[97, 100, 100, 117] }, .string { data := #[97, 100, 100, 115] }, .string { data := #[115, 117, 98, 117] }, .string { data := #[115, 117, 98, 115] }, .string { data := #[97, 118, 103] }, .string { data := #[115, 104, 108] }, .string { data := #[115, 104, 114, 117] }, .string { data := #[115, 104, 114, 115] }]) (.int .i64 14)).run Tryd.prog w = .ok (.string { data := #[97, 118, 103] }) w := fun _ => by kernel_rfl
  have ik15 : ∀ w, (Instr.index 54 (.agg #[.string { data := #[97, 100, 100] }, .string { data := #[115, 117, 98] }, .string { data := #[109, 117, 108] }, .string { data := #[97, 110, 100] }, .string { data := #[111, 114] }, .string { data := #[120, 111, 114] }, .string { data := #[109, 105, 110, 117] }, .string { data := #[109, 97, 120, 117] }, .string { data := #[109, 105, 110, 115] }, .string { data := #[109, 97, 120, 115] }, .string { data := #[97, 100, 100, 117] }, .string { data := #[97, 100, 100, 115] }, .string { data := #[115, 117, 98, 117] }, .string { data := #[115, 117, 98, 115] }, .string { data := #[97, 118, 103] }, .string { data := #[115, 104, 108] }, .string { data := #[115, 104, 114, 117] }, .string { data := #[115, 104, 114, 115] }]) (.int .i64 15)).run Tryd.prog w = .ok (.string { data := #[115, 104, 108] }) w := fun _ => by kernel_rfl
  have ik16 : ∀ w, (Instr.index 54 (.agg #[.string { data := #[97, 100, 100] }, .string { data := #[115, 117, 98] }, .string { data := #[109, 117, 108] }, .string { data := #[97, 110, 100] }, .string { data := #[111, 114] }, .string { data := #[120, 111, 114] }, .string { data := #[109, 105, 110, 117] }, .string { data := #[109, 97, 120, 117] }, .string { data := #[109, 105, 110, 115] }, .string { data := #[109, 97, 120, 115] }, .string { data := #[97, 100, 100, 117] }, .string { data := #[97, 100, 100, 115] }, .string { data := #[115, 117, 98, 117] }, .string { data := #[115, 117, 98, 115] }, .string { data := #[97, 118, 103] }, .string { data := #[115, 104, 108] }, .string { data := #[115, 104, 114, 117] }, .string { data := #[115, 104, 114, 115] }]) (.int .i64 16)).run Tryd.prog w = .ok (.string { data := #[115, 104, 114, 117] }) w := fun _ => by kernel_rfl
  have ik17 : ∀ w, (Instr.index 54 (.agg #[.string { data := #[97, 100, 100] }, .string { data := #[115, 117, 98] }, .string { data := #[109, 117, 108] }, .string { data := #[97, 110, 100] }, .string { data := #[111, 114] }, .string { data := #[120, 111, 114] }, .string { data := #[109, 105, 110, 117] }, .string { data := #[109, 97, 120, 117] }, .string { data := #[109, 105, 110, 115] }, .string { data := #[109, 97, 120, 115] }, .string { data := #[97, 100, 100, 117] }, .string { data := #[97, 100, 100, 115] }, .string { data := #[115, 117, 98, 117] }, .string { data := #[115, 117, 98, 115] }, .string { data := #[97, 118, 103] }, .string { data := #[115, 104, 108] }, .string { data := #[115, 104, 114, 117] }, .string { data := #[115, 104, 114, 115] }]) (.int .i64 17)).run Tryd.prog w = .ok (.string { data := #[115, 104, 114, 115] }) w := fun _ => by kernel_rfl
  clear h
  go_enter Tryd.func16, Tryd.ntmps16
  go_wp2
  clear c0 c1 c2 c3 c4 c5 c6 c7 c8 c9 c10 c11 c12 c13 c14 c15 c16 c17
  go_loop [7] (fun i => ∃ k : Nat, k ≤ 18 ∧ i = .int .i64 k ∧ Hid (∀ j, j < k → Wd.opTx.getD j [] ≠ s.toList)) (fun i => 18 - (intOf i).toNat)
  case atStart => exact ⟨0, Nat.zero_le _, rfl, Lib.hid (fun j hj => by omega)⟩
  case round =>
    obtain ⟨k, hk, rfl, hn⟩ := hrel
    rcases (show k = 0 ∨ k = 1 ∨ k = 2 ∨ k = 3 ∨ k = 4 ∨ k = 5 ∨ k = 6 ∨ k = 7 ∨ k = 8 ∨ k = 9 ∨ k = 10 ∨ k = 11 ∨ k = 12 ∨ k = 13 ∨ k = 14 ∨ k = 15 ∨ k = 16 ∨ k = 17 ∨ k = 18 from by omega) with rfl | rfl | rfl | rfl | rfl | rfl | rfl | rfl | rfl | rfl | rfl | rfl | rfl | rfl | rfl | rfl | rfl | rfl | rfl
    · clear ik1 ik2 ik3 ik4 ik5 ik6 ik7 ik8 ik9 ik10 ik11 ik12 ik13 ik14 ik15 ik16 ik17
      by_cases he : s.toList = [97, 100, 100]
      · have hr := Wd.rd_hit (l := s.toList) (k := 0) (by decide) (by exact he.symm) hn.out
        have hb : ([97, 100, 100] == s.toList) = true := by rw [he]; exact beq_self_eq_true _
        clear he
        have HR := Lib.hid hr; clear hr
        go_wp2
        go_ret2
        exact ⟨by rw [HR.out.1, HR.out.2]; rfl, rfl⟩
      · have HN : Hid (∀ j, j < 0 + 1 → Wd.opTx.getD j [] ≠ s.toList) := Lib.hid (fun j hj => by
          by_cases h : j < 0
          · exact hn.out j h
          · obtain rfl : j = 0 := by omega
            exact fun e => he e.symm)
        have hb : ([97, 100, 100] == s.toList) = false := by rw [beq_eq_false_iff_ne]; exact fun e => he e.symm
        clear he
        go_wp2
        go_round
        case rel => exact ⟨1, by decide, rfl, HN⟩
        case measure => simp [intOf]
    · clear ik0 ik2 ik3 ik4 ik5 ik6 ik7 ik8 ik9 ik10 ik11 ik12 ik13 ik14 ik15 ik16 ik17
      by_cases he : s.toList = [115, 117, 98]
      · have hr := Wd.rd_hit (l := s.toList) (k := 1) (by decide) (by exact he.symm) hn.out
        have hb : ([115, 117, 98] == s.toList) = true := by rw [he]; exact beq_self_eq_true _
        clear he
        have HR := Lib.hid hr; clear hr
        go_wp2
        go_ret2
        exact ⟨by rw [HR.out.1, HR.out.2]; rfl, rfl⟩
      · have HN : Hid (∀ j, j < 1 + 1 → Wd.opTx.getD j [] ≠ s.toList) := Lib.hid (fun j hj => by
          by_cases h : j < 1
          · exact hn.out j h
          · obtain rfl : j = 1 := by omega
            exact fun e => he e.symm)
        have hb : ([115, 117, 98] == s.toList) = false := by rw [beq_eq_false_iff_ne]; exact fun e => he e.symm
        clear he
        go_wp2
        go_round
        case rel => exact ⟨2, by decide, rfl, HN⟩
        case measure => simp [intOf]
    · clear ik0 ik1 ik3 ik4 ik5 ik6 ik7 ik8 ik9 ik10 ik11 ik12 ik13 ik14 ik15 ik16 ik17
      by_cases he : s.toList = [109, 117, 108]
      · have hr := Wd.rd_hit (l := s.toList) (k := 2) (by decide) (by exact he.symm) hn.out
        have hb : ([109, 117, 108] == s.toList) = true := by rw [he]; exact beq_self_eq_true _
        clear he
        have HR := Lib.hid hr; clear hr
        go_wp2
        go_ret2
        exact ⟨by rw [HR.out.1, HR.out.2]; rfl, rfl⟩
      · have HN : Hid (∀ j, j < 2 + 1 → Wd.opTx.getD j [] ≠ s.toList) := Lib.hid (fun j hj => by
          by_cases h : j < 2
          · exact hn.out j h
          · obtain rfl : j = 2 := by omega
            exact fun e => he e.symm)
        have hb : ([109, 117, 108] == s.toList) = false := by rw [beq_eq_false_iff_ne]; exact fun e => he e.symm
        clear he
        go_wp2
        go_round
        case rel => exact ⟨3, by decide, rfl, HN⟩
        case measure => simp [intOf]
    · clear ik0 ik1 ik2 ik4 ik5 ik6 ik7 ik8 ik9 ik10 ik11 ik12 ik13 ik14 ik15 ik16 ik17
      by_cases he : s.toList = [97, 110, 100]
      · have hr := Wd.rd_hit (l := s.toList) (k := 3) (by decide) (by exact he.symm) hn.out
        have hb : ([97, 110, 100] == s.toList) = true := by rw [he]; exact beq_self_eq_true _
        clear he
        have HR := Lib.hid hr; clear hr
        go_wp2
        go_ret2
        exact ⟨by rw [HR.out.1, HR.out.2]; rfl, rfl⟩
      · have HN : Hid (∀ j, j < 3 + 1 → Wd.opTx.getD j [] ≠ s.toList) := Lib.hid (fun j hj => by
          by_cases h : j < 3
          · exact hn.out j h
          · obtain rfl : j = 3 := by omega
            exact fun e => he e.symm)
        have hb : ([97, 110, 100] == s.toList) = false := by rw [beq_eq_false_iff_ne]; exact fun e => he e.symm
        clear he
        go_wp2
        go_round
        case rel => exact ⟨4, by decide, rfl, HN⟩
        case measure => simp [intOf]
    · clear ik0 ik1 ik2 ik3 ik5 ik6 ik7 ik8 ik9 ik10 ik11 ik12 ik13 ik14 ik15 ik16 ik17
      by_cases he : s.toList = [111, 114]
      · have hr := Wd.rd_hit (l := s.toList) (k := 4) (by decide) (by exact he.symm) hn.out
        have hb : ([111, 114] == s.toList) = true := by rw [he]; exact beq_self_eq_true _
        clear he
        have HR := Lib.hid hr; clear hr
        go_wp2
        go_ret2
        exact ⟨by rw [HR.out.1, HR.out.2]; rfl, rfl⟩
      · have HN : Hid (∀ j, j < 4 + 1 → Wd.opTx.getD j [] ≠ s.toList) := Lib.hid (fun j hj => by
          by_cases h : j < 4
          · exact hn.out j h
          · obtain rfl : j = 4 := by omega
            exact fun e => he e.symm)
        have hb : ([111, 114] == s.toList) = false := by rw [beq_eq_false_iff_ne]; exact fun e => he e.symm
        clear he
        go_wp2
        go_round
        case rel => exact ⟨5, by decide, rfl, HN⟩
        case measure => simp [intOf]
    · clear ik0 ik1 ik2 ik3 ik4 ik6 ik7 ik8 ik9 ik10 ik11 ik12 ik13 ik14 ik15 ik16 ik17
      by_cases he : s.toList = [120, 111, 114]
      · have hr := Wd.rd_hit (l := s.toList) (k := 5) (by decide) (by exact he.symm) hn.out
        have hb : ([120, 111, 114] == s.toList) = true := by rw [he]; exact beq_self_eq_true _
        clear he
        have HR := Lib.hid hr; clear hr
        go_wp2
        go_ret2
        exact ⟨by rw [HR.out.1, HR.out.2]; rfl, rfl⟩
      · have HN : Hid (∀ j, j < 5 + 1 → Wd.opTx.getD j [] ≠ s.toList) := Lib.hid (fun j hj => by
          by_cases h : j < 5
          · exact hn.out j h
          · obtain rfl : j = 5 := by omega
            exact fun e => he e.symm)
        have hb : ([120, 111, 114] == s.toList) = false := by rw [beq_eq_false_iff_ne]; exact fun e => he e.symm
        clear he
        go_wp2
        go_round
        case rel => exact ⟨6, by decide, rfl, HN⟩
        case measure => simp [intOf]
    · clear ik0 ik1 ik2 ik3 ik4 ik5 ik7 ik8 ik9 ik10 ik11 ik12 ik13 ik14 ik15 ik16 ik17
      by_cases he : s.toList = [109, 105, 110, 117]
      · have hr := Wd.rd_hit (l := s.toList) (k := 6) (by decide) (by exact he.symm) hn.out
        have hb : ([109, 105, 110, 117] == s.toList) = true := by rw [he]; exact beq_self_eq_true _
        clear he
        have HR := Lib.hid hr; clear hr
        go_wp2
        go_ret2
        exact ⟨by rw [HR.out.1, HR.out.2]; rfl, rfl⟩
      · have HN : Hid (∀ j, j < 6 + 1 → Wd.opTx.getD j [] ≠ s.toList) := Lib.hid (fun j hj => by
          by_cases h : j < 6
          · exact hn.out j h
          · obtain rfl : j = 6 := by omega
            exact fun e => he e.symm)
        have hb : ([109, 105, 110, 117] == s.toList) = false := by rw [beq_eq_false_iff_ne]; exact fun e => he e.symm
        clear he
        go_wp2
        go_round
        case rel => exact ⟨7, by decide, rfl, HN⟩
        case measure => simp [intOf]
    · clear ik0 ik1 ik2 ik3 ik4 ik5 ik6 ik8 ik9 ik10 ik11 ik12 ik13 ik14 ik15 ik16 ik17
      by_cases he : s.toList = [109, 97, 120, 117]
      · have hr := Wd.rd_hit (l := s.toList) (k := 7) (by decide) (by exact he.symm) hn.out
        have hb : ([109, 97, 120, 117] == s.toList) = true := by rw [he]; exact beq_self_eq_true _
        clear he
        have HR := Lib.hid hr; clear hr
        go_wp2
        go_ret2
        exact ⟨by rw [HR.out.1, HR.out.2]; rfl, rfl⟩
      · have HN : Hid (∀ j, j < 7 + 1 → Wd.opTx.getD j [] ≠ s.toList) := Lib.hid (fun j hj => by
          by_cases h : j < 7
          · exact hn.out j h
          · obtain rfl : j = 7 := by omega
            exact fun e => he e.symm)
        have hb : ([109, 97, 120, 117] == s.toList) = false := by rw [beq_eq_false_iff_ne]; exact fun e => he e.symm
        clear he
        go_wp2
        go_round
        case rel => exact ⟨8, by decide, rfl, HN⟩
        case measure => simp [intOf]
    · clear ik0 ik1 ik2 ik3 ik4 ik5 ik6 ik7 ik9 ik10 ik11 ik12 ik13 ik14 ik15 ik16 ik17
      by_cases he : s.toList = [109, 105, 110, 115]
      · have hr := Wd.rd_hit (l := s.toList) (k := 8) (by decide) (by exact he.symm) hn.out
        have hb : ([109, 105, 110, 115] == s.toList) = true := by rw [he]; exact beq_self_eq_true _
        clear he
        have HR := Lib.hid hr; clear hr
        go_wp2
        go_ret2
        exact ⟨by rw [HR.out.1, HR.out.2]; rfl, rfl⟩
      · have HN : Hid (∀ j, j < 8 + 1 → Wd.opTx.getD j [] ≠ s.toList) := Lib.hid (fun j hj => by
          by_cases h : j < 8
          · exact hn.out j h
          · obtain rfl : j = 8 := by omega
            exact fun e => he e.symm)
        have hb : ([109, 105, 110, 115] == s.toList) = false := by rw [beq_eq_false_iff_ne]; exact fun e => he e.symm
        clear he
        go_wp2
        go_round
        case rel => exact ⟨9, by decide, rfl, HN⟩
        case measure => simp [intOf]
    · clear ik0 ik1 ik2 ik3 ik4 ik5 ik6 ik7 ik8 ik10 ik11 ik12 ik13 ik14 ik15 ik16 ik17
      by_cases he : s.toList = [109, 97, 120, 115]
      · have hr := Wd.rd_hit (l := s.toList) (k := 9) (by decide) (by exact he.symm) hn.out
        have hb : ([109, 97, 120, 115] == s.toList) = true := by rw [he]; exact beq_self_eq_true _
        clear he
        have HR := Lib.hid hr; clear hr
        go_wp2
        go_ret2
        exact ⟨by rw [HR.out.1, HR.out.2]; rfl, rfl⟩
      · have HN : Hid (∀ j, j < 9 + 1 → Wd.opTx.getD j [] ≠ s.toList) := Lib.hid (fun j hj => by
          by_cases h : j < 9
          · exact hn.out j h
          · obtain rfl : j = 9 := by omega
            exact fun e => he e.symm)
        have hb : ([109, 97, 120, 115] == s.toList) = false := by rw [beq_eq_false_iff_ne]; exact fun e => he e.symm
        clear he
        go_wp2
        go_round
        case rel => exact ⟨10, by decide, rfl, HN⟩
        case measure => simp [intOf]
    · clear ik0 ik1 ik2 ik3 ik4 ik5 ik6 ik7 ik8 ik9 ik11 ik12 ik13 ik14 ik15 ik16 ik17
      by_cases he : s.toList = [97, 100, 100, 117]
      · have hr := Wd.rd_hit (l := s.toList) (k := 10) (by decide) (by exact he.symm) hn.out
        have hb : ([97, 100, 100, 117] == s.toList) = true := by rw [he]; exact beq_self_eq_true _
        clear he
        have HR := Lib.hid hr; clear hr
        go_wp2
        go_ret2
        exact ⟨by rw [HR.out.1, HR.out.2]; rfl, rfl⟩
      · have HN : Hid (∀ j, j < 10 + 1 → Wd.opTx.getD j [] ≠ s.toList) := Lib.hid (fun j hj => by
          by_cases h : j < 10
          · exact hn.out j h
          · obtain rfl : j = 10 := by omega
            exact fun e => he e.symm)
        have hb : ([97, 100, 100, 117] == s.toList) = false := by rw [beq_eq_false_iff_ne]; exact fun e => he e.symm
        clear he
        go_wp2
        go_round
        case rel => exact ⟨11, by decide, rfl, HN⟩
        case measure => simp [intOf]
    · clear ik0 ik1 ik2 ik3 ik4 ik5 ik6 ik7 ik8 ik9 ik10 ik12 ik13 ik14 ik15 ik16 ik17
      by_cases he : s.toList = [97, 100, 100, 115]
      · have hr := Wd.rd_hit (l := s.toList) (k := 11) (by decide) (by exact he.symm) hn.out
        have hb : ([97, 100, 100, 115] == s.toList) = true := by rw [he]; exact beq_self_eq_true _
        clear he
        have HR := Lib.hid hr; clear hr
        go_wp2
        go_ret2
        exact ⟨by rw [HR.out.1, HR.out.2]; rfl, rfl⟩
      · have HN : Hid (∀ j, j < 11 + 1 → Wd.opTx.getD j [] ≠ s.toList) := Lib.hid (fun j hj => by
          by_cases h : j < 11
          · exact hn.out j h
          · obtain rfl : j = 11 := by omega
            exact fun e => he e.symm)
        have hb : ([97, 100, 100, 115] == s.toList) = false := by rw [beq_eq_false_iff_ne]; exact fun e => he e.symm
        clear he
        go_wp2
        go_round
        case rel => exact ⟨12, by decide, rfl, HN⟩
        case measure => simp [intOf]
    · clear ik0 ik1 ik2 ik3 ik4 ik5 ik6 ik7 ik8 ik9 ik10 ik11 ik13 ik14 ik15 ik16 ik17
      by_cases he : s.toList = [115, 117, 98, 117]
      · have hr := Wd.rd_hit (l := s.toList) (k := 12) (by decide) (by exact he.symm) hn.out
        have hb : ([115, 117, 98, 117] == s.toList) = true := by rw [he]; exact beq_self_eq_true _
        clear he
        have HR := Lib.hid hr; clear hr
        go_wp2
        go_ret2
        exact ⟨by rw [HR.out.1, HR.out.2]; rfl, rfl⟩
      · have HN : Hid (∀ j, j < 12 + 1 → Wd.opTx.getD j [] ≠ s.toList) := Lib.hid (fun j hj => by
          by_cases h : j < 12
          · exact hn.out j h
          · obtain rfl : j = 12 := by omega
            exact fun e => he e.symm)
        have hb : ([115, 117, 98, 117] == s.toList) = false := by rw [beq_eq_false_iff_ne]; exact fun e => he e.symm
        clear he
        go_wp2
        go_round
        case rel => exact ⟨13, by decide, rfl, HN⟩
        case measure => simp [intOf]
    · clear ik0 ik1 ik2 ik3 ik4 ik5 ik6 ik7 ik8 ik9 ik10 ik11 ik12 ik14 ik15 ik16 ik17
      by_cases he : s.toList = [115, 117, 98, 115]
      · have hr := Wd.rd_hit (l := s.toList) (k := 13) (by decide) (by exact he.symm) hn.out
        have hb : ([115, 117, 98, 115] == s.toList) = true := by rw [he]; exact beq_self_eq_true _
        clear he
        have HR := Lib.hid hr; clear hr
        go_wp2
        go_ret2
        exact ⟨by rw [HR.out.1, HR.out.2]; rfl, rfl⟩
      · have HN : Hid (∀ j, j < 13 + 1 → Wd.opTx.getD j [] ≠ s.toList) := Lib.hid (fun j hj => by
          by_cases h : j < 13
          · exact hn.out j h
          · obtain rfl : j = 13 := by omega
            exact fun e => he e.symm)
        have hb : ([115, 117, 98, 115] == s.toList) = false := by rw [beq_eq_false_iff_ne]; exact fun e => he e.symm
        clear he
        go_wp2
        go_round
        case rel => exact ⟨14, by decide, rfl, HN⟩
        case measure => simp [intOf]
    · clear ik0 ik1 ik2 ik3 ik4 ik5 ik6 ik7 ik8 ik9 ik10 ik11 ik12 ik13 ik15 ik16 ik17
      by_cases he : s.toList = [97, 118, 103]
      · have hr := Wd.rd_hit (l := s.toList) (k := 14) (by decide) (by exact he.symm) hn.out
        have hb : ([97, 118, 103] == s.toList) = true := by rw [he]; exact beq_self_eq_true _
        clear he
        have HR := Lib.hid hr; clear hr
        go_wp2
        go_ret2
        exact ⟨by rw [HR.out.1, HR.out.2]; rfl, rfl⟩
      · have HN : Hid (∀ j, j < 14 + 1 → Wd.opTx.getD j [] ≠ s.toList) := Lib.hid (fun j hj => by
          by_cases h : j < 14
          · exact hn.out j h
          · obtain rfl : j = 14 := by omega
            exact fun e => he e.symm)
        have hb : ([97, 118, 103] == s.toList) = false := by rw [beq_eq_false_iff_ne]; exact fun e => he e.symm
        clear he
        go_wp2
        go_round
        case rel => exact ⟨15, by decide, rfl, HN⟩
        case measure => simp [intOf]
    · clear ik0 ik1 ik2 ik3 ik4 ik5 ik6 ik7 ik8 ik9 ik10 ik11 ik12 ik13 ik14 ik16 ik17
      by_cases he : s.toList = [115, 104, 108]
      · have hr := Wd.rd_hit (l := s.toList) (k := 15) (by decide) (by exact he.symm) hn.out
        have hb : ([115, 104, 108] == s.toList) = true := by rw [he]; exact beq_self_eq_true _
        clear he
        have HR := Lib.hid hr; clear hr
        go_wp2
        go_ret2
        exact ⟨by rw [HR.out.1, HR.out.2]; rfl, rfl⟩
      · have HN : Hid (∀ j, j < 15 + 1 → Wd.opTx.getD j [] ≠ s.toList) := Lib.hid (fun j hj => by
          by_cases h : j < 15
          · exact hn.out j h
          · obtain rfl : j = 15 := by omega
            exact fun e => he e.symm)
        have hb : ([115, 104, 108] == s.toList) = false := by rw [beq_eq_false_iff_ne]; exact fun e => he e.symm
        clear he
        go_wp2
        go_round
        case rel => exact ⟨16, by decide, rfl, HN⟩
        case measure => simp [intOf]
    · clear ik0 ik1 ik2 ik3 ik4 ik5 ik6 ik7 ik8 ik9 ik10 ik11 ik12 ik13 ik14 ik15 ik17
      by_cases he : s.toList = [115, 104, 114, 117]
      · have hr := Wd.rd_hit (l := s.toList) (k := 16) (by decide) (by exact he.symm) hn.out
        have hb : ([115, 104, 114, 117] == s.toList) = true := by rw [he]; exact beq_self_eq_true _
        clear he
        have HR := Lib.hid hr; clear hr
        go_wp2
        go_ret2
        exact ⟨by rw [HR.out.1, HR.out.2]; rfl, rfl⟩
      · have HN : Hid (∀ j, j < 16 + 1 → Wd.opTx.getD j [] ≠ s.toList) := Lib.hid (fun j hj => by
          by_cases h : j < 16
          · exact hn.out j h
          · obtain rfl : j = 16 := by omega
            exact fun e => he e.symm)
        have hb : ([115, 104, 114, 117] == s.toList) = false := by rw [beq_eq_false_iff_ne]; exact fun e => he e.symm
        clear he
        go_wp2
        go_round
        case rel => exact ⟨17, by decide, rfl, HN⟩
        case measure => simp [intOf]
    · clear ik0 ik1 ik2 ik3 ik4 ik5 ik6 ik7 ik8 ik9 ik10 ik11 ik12 ik13 ik14 ik15 ik16
      by_cases he : s.toList = [115, 104, 114, 115]
      · have hr := Wd.rd_hit (l := s.toList) (k := 17) (by decide) (by exact he.symm) hn.out
        have hb : ([115, 104, 114, 115] == s.toList) = true := by rw [he]; exact beq_self_eq_true _
        clear he
        have HR := Lib.hid hr; clear hr
        go_wp2
        go_ret2
        exact ⟨by rw [HR.out.1, HR.out.2]; rfl, rfl⟩
      · have HN : Hid (∀ j, j < 17 + 1 → Wd.opTx.getD j [] ≠ s.toList) := Lib.hid (fun j hj => by
          by_cases h : j < 17
          · exact hn.out j h
          · obtain rfl : j = 17 := by omega
            exact fun e => he e.symm)
        have hb : ([115, 104, 114, 115] == s.toList) = false := by rw [beq_eq_false_iff_ne]; exact fun e => he e.symm
        clear he
        go_wp2
        go_round
        case rel => exact ⟨18, by decide, rfl, HN⟩
        case measure => simp [intOf]
    · have hr := Wd.rd_miss (l := s.toList) hn.out
      have HR := Lib.hid hr; clear hr
      go_wp2
      go_ret2
      exact ⟨by rw [HR.out.1, HR.out.2]; rfl, rfl⟩
end Go.Proofs.YthdiiefacgodnaaDoor.Wds
