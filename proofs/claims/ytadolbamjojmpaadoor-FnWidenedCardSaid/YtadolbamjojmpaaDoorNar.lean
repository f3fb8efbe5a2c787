/-
  Narrower words: the code's and the model's function; one contract each.
-/
import Derived.Test.YtadolbamjojmpaaDoorOp8n
import Derived.Test.YtadolbamjojmpaaDoorSdoBase
import Derived.Test.YtadolbamjojmpaaDoorVecW
import Derived.Test.YtadolbamjojmpaaDoorSld
import Derived.Test.YtadolbamjojmpaaDoorErrLaid
namespace Ln
/-- What becomes of a word of b bits in half as many. -/
def nf (b mode x : Int) : Int := if mode = 0 then Wd.wr (b / 2) x else if mode = 1 then (if x < Wd.pw (b / 2) - 1 then x else Wd.pw (b / 2) - 1) else Wd.wr (b / 2) (Wd.cl (b / 2) (Wd.sg b x))
def narOk (b : Int) (xs ys : List Int) (mode : Int) : Bool := both b xs ys && (!(b == 4) && (!decide (8 < (xs.length : Int)) && decide (0 ≤ mode ∧ mode ≤ 2)))
def narrow (b : Int) (xs ys : List Int) (mode : Int) : List Int × Bool := ans (narOk b xs ys mode) (tab (fun i => nf b mode ((xs ++ ys).getD i 0)) (xs.length + xs.length))
end Ln
namespace Go.Proofs.YtadolbamjojmpaaDoor.Wds
open Go.RowKit Go.Proofs.YtadolbamjojmpaaDoor.Err
set_option linter.unusedVariables false

theorem half_bits {b : Int} (hb : Wd.IsBits b) (h4 : b ≠ 4) : (b / 2 = 4 ∨ b / 2 = 8) ∧ (b = 8 ∨ b = 16) := by unfold Wd.IsBits at hb; omega
theorem near_u {x p : Int} (h0 : 0 ≤ x) : near 0 (p - 1) x = if x < p - 1 then x else p - 1 := by
  unfold near
  rw [if_neg (by omega)]
  split <;> split <;> omega
theorem near_s (h n : Int) : near (- Wd.hf h) (Wd.hf h - 1) n = Wd.cl h n := by
  unfold near Wd.cl
  split <;> rfl
theorem wr_small {h x : Int} (hb : Wd.IsBits h) : Wd.wr h x = x % Wd.pw h := rfl
set_option maxHeartbeats 400000 in
theorem narrowed_8_0 (x : Int) (w : World) (hx : Wd.IsWord 8 x) (hg : ErrT w) :
    Calls Tryd.prog 25 #[.int .i64 8, .int .i64 x, .int .i64 0] w fun e w' => e = .returned (.tuple #[.int .i64 (Ln.nf 8 0 x), .bool true]) ∧ Below w.heap.size w w' := by
  have hx0 : 0 ≤ x := hx.2.1
  have hx1 : x < 256 := hx.2.2
  have ev : Ln.nf 8 0 x = x % 256 % 16 := by
    show x % 16 = x % 256 % 16
    omega
  rw [ev]
  obtain ⟨y, hy⟩ : ∃ y, y = x % 256 := ⟨_, rfl⟩
  have y0 : 0 ≤ y := by omega
  have y1 : y < 256 := by omega
  have C := Lib.hid (fun W => Op8.cut_any 4 y W (by omega) y0 y1)
  obtain ⟨z, hz⟩ : ∃ z, z = y % 16 := ⟨_, rfl⟩
  have z0 : 0 ≤ z := by omega
  have z1 : z < 256 := by omega
  have C2 := Lib.hid (show ∀ W, Calls Tryd.prog 39 #[.agg #[.int .i64 4], .int .u8 y] W fun e w' => e = .returned (.int .u8 z) ∧ Below W.heap.size W w' from fun W => (C.out W).mono fun e w' ⟨he, hw⟩ => ⟨by rw [he, hz]; rfl, hw ▸ (Below.refl _ _).alloc (Nat.le_refl _) _⟩)
  rw [← hy, ← hz]
  have ew : IntKind.u8.wrap x = y := by rw [IntKind.wrap_u8, hy]
  have HY := Lib.hid hy
  have HZ := Lib.hid hz
  clear hy hz C ev hg hx
  go_enter Tryd.func25, Tryd.ntmps25
  go_wp2_with fail
  refine (C2.out _).mono ?_
  rintro e w1 ⟨rfl, hb⟩
  have HB := Lib.hid hb; clear hb
  go_wp2_with fail
  go_ret2
  exact ⟨rfl, (by repeat (first | exact HB.out.mono (by simp) | exact Below.refl _ _ | refine Below.trans ?_ (HB.out.mono (by simp)) | refine Below.drew ?_ | refine Below.alloc ?_ (by first | exact Nat.le_refl _ | (simp; done) | (simp; omega)) _ | refine Below.setCell ?_ (by simp) _))⟩
set_option maxHeartbeats 400000 in
theorem narrowed_8_1 (x : Int) (w : World) (hx : Wd.IsWord 8 x) (hg : ErrT w) :
    Calls Tryd.prog 25 #[.int .i64 8, .int .i64 x, .int .i64 1] w fun e w' => e = .returned (.tuple #[.int .i64 (Ln.nf 8 1 x), .bool true]) ∧ Below w.heap.size w w' := by
  have hx0 : 0 ≤ x := hx.2.1
  have hx1 : x < 256 := hx.2.2
  obtain ⟨z, hz⟩ : ∃ z, z = Ln.nf 8 1 x := ⟨_, rfl⟩
  have ez : near 0 (Wd.pw 4 - 1) x = z := by rw [near_u hx0, hz]; rfl
  have z0 : 0 ≤ z := by rw [hz]; show 0 ≤ if x < 16 - 1 then x else 16 - 1; split <;> omega
  have z1 : z < 256 := by rw [hz]; show (if x < 16 - 1 then x else 16 - 1) < 256; split <;> omega
  have C2 := Lib.hid (fun W (hbW : Below w.heap.size w W) => (ez ▸ Op8.saturateU_any 4 x W (by omega) (hg.below hbW hg.lt) : Calls Tryd.prog 40 #[.agg #[.int .i64 4], .int .i64 x] W fun e w' => e = .returned (.int .u8 z) ∧ Below W.heap.size W w'))
  rw [← hz]
  clear hz ez hg hx
  go_enter Tryd.func25, Tryd.ntmps25
  go_wp2_with fail
  refine (C2.out _ ?_).mono ?_
  · first | exact (Below.refl _ _).alloc (Nat.le_refl _) _ | exact ((Below.refl _ _).alloc (Nat.le_refl _) _).setCell (by simp) _
  rintro e w1 ⟨rfl, hb⟩
  have HB := Lib.hid hb; clear hb
  go_wp2_with fail
  go_ret2
  exact ⟨rfl, (by repeat (first | exact HB.out.mono (by simp) | exact Below.refl _ _ | refine Below.trans ?_ (HB.out.mono (by simp)) | refine Below.drew ?_ | refine Below.alloc ?_ (by first | exact Nat.le_refl _ | (simp; done) | (simp; omega)) _ | refine Below.setCell ?_ (by simp) _))⟩
set_option maxHeartbeats 400000 in
theorem narrowed_8_2 (x : Int) (w : World) (hx : Wd.IsWord 8 x) (hg : ErrT w) :
    Calls Tryd.prog 25 #[.int .i64 8, .int .i64 x, .int .i64 2] w fun e w' => e = .returned (.tuple #[.int .i64 (Ln.nf 8 2 x), .bool true]) ∧ Below w.heap.size w w' := by
  have hx0 : 0 ≤ x := hx.2.1
  have hx1 : x < 256 := hx.2.2
  obtain ⟨z, hz⟩ : ∃ z, z = Ln.nf 8 2 x := ⟨_, rfl⟩
  have ez : Wd.wr 4 (near (- Wd.hf 4) (Wd.hf 4 - 1) (Wd.sg 8 x)) = z := by rw [near_s, hz]; rfl
  have zb := Wd.wr_word (bits := 4) (by unfold Wd.IsBits; omega) (near (- Wd.hf 4) (Wd.hf 4 - 1) (Wd.sg 8 x))
  rw [ez] at zb
  have z0 : 0 ≤ z := zb.1
  have z1 : z < 256 := by have := zb.2; have e : Wd.pw 4 = 16 := rfl; omega
  have CG := Lib.hid (fun W => signed_any 8 x W hx)
  have C2 := Lib.hid (fun W (hbW : Below w.heap.size w W) => (ez ▸ Op8.saturateS_any 4 (Wd.sg 8 x) W (by omega) (hg.below hbW hg.lt) : Calls Tryd.prog 41 #[.agg #[.int .i64 4], .int .i64 (Wd.sg 8 x)] W fun e w' => e = .returned (.int .u8 z) ∧ Below W.heap.size W w'))
  have hsg : -65536 ≤ Wd.sg 8 x ∧ Wd.sg 8 x ≤ 65536 := by
    have := Wd.sg_range hx.1 hx.2
    omega
  obtain ⟨y, hy⟩ : ∃ y, y = Wd.sg 8 x := ⟨_, rfl⟩
  rw [← hy] at CG C2 hsg
  rw [← hz]
  obtain ⟨y0, y1⟩ := hsg
  clear hz ez hg hx zb hy
  go_enter Tryd.func25, Tryd.ntmps25
  go_wp2
  go_region_with (first
    | (go_at_call 27; (with_reducible refine (CG.out _).mono ?_); rintro e w1 ⟨rfl, rfl⟩)
    | (go_at_call 41; (with_reducible refine (C2.out _ ?_).mono ?_); (repeat (first | exact Below.refl _ _ | refine Below.drew ?_ | refine Below.alloc ?_ (by first | exact Nat.le_refl _ | (simp; done)) _ | refine Below.setCell ?_ (by simp) _)); rintro e w2 ⟨rfl, hb⟩; have HB := Lib.hid hb; clear hb))
  all_goals (try go_simp)
  all_goals (try go_wp2)
  all_goals go_ret2
  all_goals exact ⟨(by first | rfl | (show Ending.returned (.tuple #[.int .i64 (IntKind.i64.wrap z), .bool true]) = _; rw [IntWalk.i64_in z (by omega)])), (by repeat (first | exact HB.out.mono (by simp) | exact Below.refl _ _ | refine Below.trans ?_ (HB.out.mono (by simp)) | refine Below.drew ?_ | refine Below.alloc ?_ (by first | exact Nat.le_refl _ | (simp; done) | (simp; omega)) _ | refine Below.setCell ?_ (by simp) _))⟩
set_option maxHeartbeats 400000 in
theorem narrowed_16_0 (x : Int) (w : World) (hx : Wd.IsWord 16 x) (hg : ErrT w) :
    Calls Tryd.prog 25 #[.int .i64 16, .int .i64 x, .int .i64 0] w fun e w' => e = .returned (.tuple #[.int .i64 (Ln.nf 16 0 x), .bool true]) ∧ Below w.heap.size w w' := by
  have hx0 : 0 ≤ x := hx.2.1
  have hx1 : x < 65536 := hx.2.2
  have ev : Ln.nf 16 0 x = x % 256 % 256 := by
    show x % 256 = x % 256 % 256
    omega
  rw [ev]
  obtain ⟨y, hy⟩ : ∃ y, y = x % 256 := ⟨_, rfl⟩
  have y0 : 0 ≤ y := by omega
  have y1 : y < 256 := by omega
  have C := Lib.hid (fun W => Op8.cut_any 8 y W (by omega) y0 y1)
  obtain ⟨z, hz⟩ : ∃ z, z = y % 256 := ⟨_, rfl⟩
  have z0 : 0 ≤ z := by omega
  have z1 : z < 256 := by omega
  have C2 := Lib.hid (show ∀ W, Calls Tryd.prog 39 #[.agg #[.int .i64 8], .int .u8 y] W fun e w' => e = .returned (.int .u8 z) ∧ Below W.heap.size W w' from fun W => (C.out W).mono fun e w' ⟨he, hw⟩ => ⟨by rw [he, hz]; rfl, hw ▸ (Below.refl _ _).alloc (Nat.le_refl _) _⟩)
  rw [← hy, ← hz]
  have ew : IntKind.u8.wrap x = y := by rw [IntKind.wrap_u8, hy]
  have HY := Lib.hid hy
  have HZ := Lib.hid hz
  clear hy hz C ev hg hx
  go_enter Tryd.func25, Tryd.ntmps25
  go_wp2_with fail
  refine (C2.out _).mono ?_
  rintro e w1 ⟨rfl, hb⟩
  have HB := Lib.hid hb; clear hb
  go_wp2_with fail
  go_ret2
  exact ⟨rfl, (by repeat (first | exact HB.out.mono (by simp) | exact Below.refl _ _ | refine Below.trans ?_ (HB.out.mono (by simp)) | refine Below.drew ?_ | refine Below.alloc ?_ (by first | exact Nat.le_refl _ | (simp; done) | (simp; omega)) _ | refine Below.setCell ?_ (by simp) _))⟩
set_option maxHeartbeats 400000 in
theorem narrowed_16_1 (x : Int) (w : World) (hx : Wd.IsWord 16 x) (hg : ErrT w) :
    Calls Tryd.prog 25 #[.int .i64 16, .int .i64 x, .int .i64 1] w fun e w' => e = .returned (.tuple #[.int .i64 (Ln.nf 16 1 x), .bool true]) ∧ Below w.heap.size w w' := by
  have hx0 : 0 ≤ x := hx.2.1
  have hx1 : x < 65536 := hx.2.2
  obtain ⟨z, hz⟩ : ∃ z, z = Ln.nf 16 1 x := ⟨_, rfl⟩
  have ez : near 0 (Wd.pw 8 - 1) x = z := by rw [near_u hx0, hz]; rfl
  have z0 : 0 ≤ z := by rw [hz]; show 0 ≤ if x < 256 - 1 then x else 256 - 1; split <;> omega
  have z1 : z < 256 := by rw [hz]; show (if x < 256 - 1 then x else 256 - 1) < 256; split <;> omega
  have C2 := Lib.hid (fun W (hbW : Below w.heap.size w W) => (ez ▸ Op8.saturateU_any 8 x W (by omega) (hg.below hbW hg.lt) : Calls Tryd.prog 40 #[.agg #[.int .i64 8], .int .i64 x] W fun e w' => e = .returned (.int .u8 z) ∧ Below W.heap.size W w'))
  rw [← hz]
  clear hz ez hg hx
  go_enter Tryd.func25, Tryd.ntmps25
  go_wp2_with fail
  refine (C2.out _ ?_).mono ?_
  · first | exact (Below.refl _ _).alloc (Nat.le_refl _) _ | exact ((Below.refl _ _).alloc (Nat.le_refl _) _).setCell (by simp) _
  rintro e w1 ⟨rfl, hb⟩
  have HB := Lib.hid hb; clear hb
  go_wp2_with fail
  go_ret2
  exact ⟨rfl, (by repeat (first | exact HB.out.mono (by simp) | exact Below.refl _ _ | refine Below.trans ?_ (HB.out.mono (by simp)) | refine Below.drew ?_ | refine Below.alloc ?_ (by first | exact Nat.le_refl _ | (simp; done) | (simp; omega)) _ | refine Below.setCell ?_ (by simp) _))⟩
set_option maxHeartbeats 400000 in
theorem narrowed_16_2 (x : Int) (w : World) (hx : Wd.IsWord 16 x) (hg : ErrT w) :
    Calls Tryd.prog 25 #[.int .i64 16, .int .i64 x, .int .i64 2] w fun e w' => e = .returned (.tuple #[.int .i64 (Ln.nf 16 2 x), .bool true]) ∧ Below w.heap.size w w' := by
  have hx0 : 0 ≤ x := hx.2.1
  have hx1 : x < 65536 := hx.2.2
  obtain ⟨z, hz⟩ : ∃ z, z = Ln.nf 16 2 x := ⟨_, rfl⟩
  have ez : Wd.wr 8 (near (- Wd.hf 8) (Wd.hf 8 - 1) (Wd.sg 16 x)) = z := by rw [near_s, hz]; rfl
  have zb := Wd.wr_word (bits := 8) (by unfold Wd.IsBits; omega) (near (- Wd.hf 8) (Wd.hf 8 - 1) (Wd.sg 16 x))
  rw [ez] at zb
  have z0 : 0 ≤ z := zb.1
  have z1 : z < 256 := by have := zb.2; have e : Wd.pw 8 = 256 := rfl; omega
  have CG := Lib.hid (fun W => signed_any 16 x W hx)
  have C2 := Lib.hid (fun W (hbW : Below w.heap.size w W) => (ez ▸ Op8.saturateS_any 8 (Wd.sg 16 x) W (by omega) (hg.below hbW hg.lt) : Calls Tryd.prog 41 #[.agg #[.int .i64 8], .int .i64 (Wd.sg 16 x)] W fun e w' => e = .returned (.int .u8 z) ∧ Below W.heap.size W w'))
  have hsg : -65536 ≤ Wd.sg 16 x ∧ Wd.sg 16 x ≤ 65536 := by
    have := Wd.sg_range hx.1 hx.2
    omega
  obtain ⟨y, hy⟩ : ∃ y, y = Wd.sg 16 x := ⟨_, rfl⟩
  rw [← hy] at CG C2 hsg
  rw [← hz]
  obtain ⟨y0, y1⟩ := hsg
  clear hz ez hg hx zb hy
  go_enter Tryd.func25, Tryd.ntmps25
  go_wp2
  go_region_with (first
    | (go_at_call 27; (with_reducible refine (CG.out _).mono ?_); rintro e w1 ⟨rfl, rfl⟩)
    | (go_at_call 41; (with_reducible refine (C2.out _ ?_).mono ?_); (repeat (first | exact Below.refl _ _ | refine Below.drew ?_ | refine Below.alloc ?_ (by first | exact Nat.le_refl _ | (simp; done)) _ | refine Below.setCell ?_ (by simp) _)); rintro e w2 ⟨rfl, hb⟩; have HB := Lib.hid hb; clear hb))
  all_goals (try go_simp)
  all_goals (try go_wp2)
  all_goals go_ret2
  all_goals exact ⟨(by first | rfl | (show Ending.returned (.tuple #[.int .i64 (IntKind.i64.wrap z), .bool true]) = _; rw [IntWalk.i64_in z (by omega)])), (by repeat (first | exact HB.out.mono (by simp) | exact Below.refl _ _ | refine Below.trans ?_ (HB.out.mono (by simp)) | refine Below.drew ?_ | refine Below.alloc ?_ (by first | exact Nat.le_refl _ | (simp; done) | (simp; omega)) _ | refine Below.setCell ?_ (by simp) _))⟩
end Go.Proofs.YtadolbamjojmpaaDoor.Wds
