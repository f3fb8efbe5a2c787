/-
  The draw of a mask of so many lanes: a new row of noughts and ones.
-/
import Derived.Test.YtigodbilfjppbaaGreatDoorDraw8
import Derived.Test.YtigodbilfjppbaaGreatDoorLan6
namespace Go.Proofs.YtigodbilfjppbaaGreatDoor.Wds
open Go.RowKit
set_option linter.unusedVariables false

/-- The relation of the loop that draws bits. -/
def DrawingM (n0 N B sb : Nat) (a : Option Addr) (len cap : Nat) (zs : List Int) (w : World) (v n : Value) (wr : World) : Prop :=
  ∃ (k : Nat) (ws : List Int), k ≤ n0 ∧ n = .int .i64 (k : Int) ∧ ws.length = k ∧ (∀ x ∈ ws, x = 0 ∨ x = 1) ∧
    wr.ownsRow B 2 1 v k (ws.map (Value.int .i64)) ∧ Src wr sb (N + 4 * k) a len cap zs ∧ Below w.heap.size w wr ∧ B ≤ wr.heap.size
/-- A mask that was drawn: its row is new. -/
def DrawnM (n : Nat) (w : World) (e : Ending) (w' : World) : Prop :=
  ∃ (g c : Nat) (ws : List Int), e = .returned (.slice (some ⟨g, 0, none⟩) n c) ∧ Own w' w.heap.size w'.heap.size (some ⟨g, 0, none⟩) n ws ∧ n ≤ c ∧ Ln.msk ws = true ∧ Below w.heap.size w w'
set_option maxHeartbeats 1000000 in
theorem r8mask_any (n : Nat) (a : Option Addr) (len cap : Nat) (zs : List Int) (w : World) (hl : Ln.lanes n = true) (h : IsRow .u8 w a len cap zs) :
    Calls Tryz.prog 9 #[.slice a len cap, .int .i64 n] w (DrawnM n w) := by
  obtain ⟨i0, hi, hz0, hz1, hz2⟩ := info_parts A_info2
  have HS := Lib.hid (src_new w a len cap zs h); clear h
  have hc := Ln.lanes_cases hl
  have h0 : 0 < n := by omega
  have hn : n ≤ 16 := by omega
  have HL := Lib.hid hl
  clear hc hl
  go_enter Tryz.func9, Tryz.ntmps9
  go_wp2_with fail
  refine (from_any _ _ _ _).mono ?_
  rintro e w' ⟨rfl, rfl⟩
  go_wp2
  go_loopw [6, 7] (fun v i wr => DrawingM n 0 (w.heap.size + 1) w.heap.size a len cap zs w v i wr) (fun _ i _ => n - (intOf i).toNat)
  case atStart =>
    refine ⟨0, [], Nat.zero_le _, rfl, rfl, by simp, ?_, HS.out.grown (World.grownBy_alloc _ _ none) (by simp) (by intro r hr; cases hr), ((Below.refl _ _).alloc (Nat.le_refl _) _).alloc (by simp) _, by simp⟩
    refine ⟨rfl, .inr ⟨w.heap.size + 1, 0, #[], ?_, Nat.le_refl _, ?_, Nat.le_refl _, Nat.zero_le _, rfl, rfl⟩⟩
    · first | rfl | simp
    · show ((w.heap.push _).push _)[w.heap.size + 1]? = _
      simp [Array.getElem_push]
  case round =>
    obtain ⟨k, ws, hk, rfl, hlen, hr, hown, hsrc, hbel, hsz0⟩ := hrel
    have HSRC := Lib.hid hsrc; clear hsrc
    have HOWN := Lib.hid hown; clear hown
    have HR := Lib.hid hr; clear hr
    have HLEN := Lib.hid hlen; clear hlen
    have HBEL := Lib.hid hbel; clear hbel
    by_cases hlt : k < n
    · have i1 : (k : Int) < (n : Int) := by omega
      have hsb : w.heap.size < w.heap.size + 1 := by omega
      go_wp2_with fail
      refine (pick_any 2 _ w.heap.size (0 + 4 * k) a len cap zs HSRC.out (by omega)).mono ?_
      rintro e w1 ⟨z, rfl, z0, z1, hA⟩
      have hown1 := HOWN.out.kept hA.2 (own_ne HOWN.out hsb)
      have HOWN1 := Lib.hid hown1; clear hown1
      have hs1 := hA.2.size
      have HA := Lib.hid hA; clear hA
      have HZ := Lib.hid (show z = 0 ∨ z = 1 by have := z1 (by omega); omega); clear z0 z1
      go_wp2_with (at_builtin; refine wpList_append_own _ rfl _ _ 25 rfl (w.heap.size + 1) 2 i0 (.int .i64 0) 1 8 Tryz.underlying25 hi hz0 hz1 hz2 rfl (by decide) _ _ _ rfl (HOWN1.out.alloc _) ⟨w1.heap.size, 0, none⟩ 1 1 [.int .i64 z] rfl rfl ?c1 ?c2 ?c3 ?c4 ?c5 ?_)
      case c1 =>
        intro j u hj
        match j, hj with
        | 0, hj => simp at hj; subst hj; simp [Addr.add]
      case c2 => intro u hu; simp at hu; subst hu; rfl
      case c3 => unfold maxLen; omega
      case c4 => omega
      case c5 => simp; omega
      intro v' w2 hown2 hgrow _
      go_wp2
      go_roundw
      case rel =>
        have hs2 := hgrow.size
        have HS1 := HA.out.1.grown (World.grownBy_alloc w1 (.cells #[.int .i64 z] 2) none) (by simp) (by intro r hr; cases hr)
        have hne := own_ne HOWN1.out hsb
        refine ⟨k + 1, ws ++ [z], by omega, by go_num, by rw [List.length_append, HLEN.out]; rfl, ?_, ?_, ?_, ?_, ?_⟩
        · intro x hx
          rcases List.mem_append.1 hx with hx | hx
          · exact HR.out x hx
          · rw [List.mem_singleton.1 hx]; exact HZ.out
        · rw [List.map_append]; exact hown2
        · exact (HS1.grown hgrow (by rcases hne with h | h <;> (first | (rw [h]; simp) | exact h)) (own_ge HOWN1.out hsb)).more (by omega)
        · have hb1 := HBEL.out.trans ((grown_below HA.out.2 (by have := HBEL.out.size; omega) (Nat.le_refl _)).trans ((Below.refl w.heap.size w1).alloc (by have := HBEL.out.size; omega) (.cells #[.int .i64 z] 2)))
          exact hb1.grown hgrow (by have := HBEL.out.size; simp; omega) (fun r hr => Nat.le_of_lt (own_ge HOWN1.out hsb r hr))
        · simp at hs2; omega
      case measure => simp [intOf]; omega
    · have hkn : k = n := by omega
      subst hkn
      obtain ⟨g, cp, rfl, k1, k2⟩ := own_some HOWN.out h0
      have K1 := Lib.hid k1
      have K2 := Lib.hid k2
      clear k1 k2
      go_wp2
      go_ret
      refine ⟨g, cp, ws, rfl, K2.out.more (by simp) (Nat.le_refl _), K1.out, ?_, HBEL.out⟩
      unfold Ln.msk
      rw [HLEN.out, HL.out, Bool.true_and, List.all_eq_true]
      intro x hx
      rcases HR.out x hx with rfl | rfl <;> rfl
end Go.Proofs.YtigodbilfjppbaaGreatDoor.Wds
