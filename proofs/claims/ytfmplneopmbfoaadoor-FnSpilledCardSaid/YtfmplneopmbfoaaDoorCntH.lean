/-
  The laws' own helpers: how often a list has a number, and whether it has it. Two contracts.
-/
import Derived.Test.YtfmplneopmbfoaaDoorLst
import Derived.Test.YtfmplneopmbfoaaDoorVecW
import Derived.LoopTactic
import Derived.WalkKit
namespace Go.Proofs.YtfmplneopmbfoaaDoor.Wds
open Go.RowKit
set_option linter.unusedVariables false

theorem count_snoc (zs : List Int) (x : Int) {k : Nat} (h : k < zs.length) : (zs.take (k + 1)).count x = (zs.take k).count x + if zs.getD k 0 = x then 1 else 0 := by
  rw [List.take_succ_eq_append_getElem h, List.count_append, List.count_singleton, List.getD_eq_getElem?_getD, List.getElem?_eq_getElem h]
  simp
theorem count_len (zs : List Int) (x : Int) (k : Nat) : (zs.take k).count x ≤ k := Nat.le_trans List.count_le_length (by simp; omega)
theorem r8count_any (A : Option Addr) (n c : Nat) (zs : List Int) (B : Nat) (x : Int) (w : World) (hn : n ≤ 1048576) (h : Rd w B A n zs) :
    Calls Tryd.prog 42 #[.slice A n c, .int .i64 x] w fun e w' => e = .returned (.int .i64 (zs.count x : Nat)) ∧ Below w.heap.size w w' := by
  have H := Lib.hid h; clear h
  go_enter Tryd.func42, Tryd.ntmps42
  go_wp2
  go_loopw [5, 6] (fun q i wr => ∃ k : Nat, k ≤ n ∧ i = .int .i64 k ∧ q = .int .i64 ((zs.take k).count x : Nat) ∧ Below w.heap.size w wr) (fun _ i _ => n - (intOf i).toNat)
  case atStart => exact ⟨0, Nat.zero_le _, rfl, rfl, Below.refl _ _⟩
  case round =>
    obtain ⟨k, hk, rfl, rfl, hb⟩ := hrel
    by_cases hlt : k < n
    · obtain ⟨g, o, rfl, hg, hc⟩ := H.out.at_ hlt
      have hd := (hb.cell (p := ⟨g, o + k, none⟩) (World.block_lt_of_cell? w _ hc)).trans hc
      have hcs := count_snoc zs x (k := k) (by rw [H.out.len]; exact hlt)
      have hcl := count_len zs x k
      obtain ⟨z, hz⟩ : ∃ z, z = zs.getD k 0 := ⟨_, rfl⟩
      rw [← hz] at hd hcs
      obtain ⟨m, hm⟩ : ∃ m, m = (zs.take k).count x := ⟨_, rfl⟩
      rw [← hm] at hcs hcl ⊢
      have HB := Lib.hid hb
      have HCS := Lib.hid hcs; clear hz hc hb hm hcs
      have i1 : (0 : Int) ≤ (k : Int) := by omega
      have i2 : (k : Int) < (n : Int) := by omega
      by_cases he : z = x
      · subst he
        go_wp2
        go_roundw
        case rel => exact ⟨k + 1, by omega, by go_num, by have := HCS.out; rw [if_pos rfl] at this; rw [this]; go_num, HB.out⟩
        case measure => simp [intOf]; omega
      · go_wp2
        go_roundw
        case rel => exact ⟨k + 1, by omega, by go_num, by have := HCS.out; rw [if_neg he] at this; rw [this]; rfl, HB.out⟩
        case measure => simp [intOf]; omega
    · have hkn : k = n := by omega
      have HALL := Lib.hid (And.intro hkn hb); clear hkn hb
      go_wp2
      go_ret
      obtain ⟨hkn, hb⟩ := HALL.out
      refine ⟨?_, hb⟩
      rw [hkn, List.take_of_length_le (by rw [H.out.len]; exact Nat.le_refl _)]
      rfl
theorem r8has_any (A : Option Addr) (n c : Nat) (zs : List Int) (B : Nat) (x : Int) (w : World) (hn : n ≤ 1048576) (h : Rd w B A n zs) :
    Calls Tryd.prog 14 #[.slice A n c, .int .i64 x] w (RetB (zs.contains x) w) := by
  have C := Lib.hid (r8count_any A n c zs B x w hn h); clear h
  have hq := List.count_pos_iff (l := zs) (a := x)
  have hcx : zs.contains x = decide (0 < zs.count x) := by
    rw [List.contains_eq_mem, decide_eq_decide]; exact hq.symm
  rw [hcx]
  obtain ⟨m, hm⟩ : ∃ m, m = zs.count x := ⟨_, rfl⟩
  rw [← hm] at C ⊢
  clear hm hq hcx
  go_enter Tryd.func14, Tryd.ntmps14
  go_wp2_with fail
  refine C.out.mono ?_
  rintro e w' ⟨rfl, hb⟩
  have HB := Lib.hid hb; clear hb
  go_wp2
  go_ret
  exact ⟨ret_bool (by simp), HB.out⟩
end Go.Proofs.YtfmplneopmbfoaaDoor.Wds
