/-
  What 'operate' on words held in a uint16 returns and does to memory, over the translated program: the operation's result, what was there keeps.
-/
import Derived.Test.YtigodbilfjppbaaGreatDoorCl16
namespace Go.Proofs.YtigodbilfjppbaaGreatDoor.Op16
open Go.RowKit Go.Proofs.YtigodbilfjppbaaGreatDoor.Err Go.Proofs.YtigodbilfjppbaaGreatDoor.Wds
set_option linter.unusedVariables false

def w2 (b : Int) (w : World) : World := ((w.alloc (.cells #[.int .i64 b] 58)).alloc (.cells #[Value.func (Fn.func 55) #[] #[Value.pointer (some ⟨w.heap.size, 0, none⟩)], Value.func (Fn.func 57) #[] #[Value.pointer (some ⟨w.heap.size, 0, none⟩)], Value.func (Fn.func 58) #[] #[Value.pointer (some ⟨w.heap.size, 0, none⟩)], Value.func (Fn.func 59) #[] #[], Value.func (Fn.func 60) #[] #[], Value.func (Fn.func 61) #[] #[], Value.func (Fn.func 62) #[] #[], Value.func (Fn.func 63) #[] #[], Value.func (Fn.func 64) #[] #[Value.pointer (some ⟨w.heap.size, 0, none⟩)], Value.func (Fn.func 66) #[] #[Value.pointer (some ⟨w.heap.size, 0, none⟩)], Value.func (Fn.func 67) #[] #[Value.pointer (some ⟨w.heap.size, 0, none⟩)], Value.func (Fn.func 69) #[] #[Value.pointer (some ⟨w.heap.size, 0, none⟩)], Value.func (Fn.func 72) #[] #[Value.pointer (some ⟨w.heap.size, 0, none⟩)], Value.func (Fn.func 73) #[] #[Value.pointer (some ⟨w.heap.size, 0, none⟩)], Value.func (Fn.func 74) #[] #[], Value.func (Fn.func 75) #[] #[Value.pointer (some ⟨w.heap.size, 0, none⟩)], Value.func (Fn.func 77) #[] #[Value.pointer (some ⟨w.heap.size, 0, none⟩)], Value.func (Fn.func 78) #[] #[Value.pointer (some ⟨w.heap.size, 0, none⟩)]] 78))
theorem w2_below (b : Int) (w : World) : Below w.heap.size w (w2 b w) := by
  unfold w2; repeat (first | exact Below.refl _ _ | refine Below.drew ?_ | refine Below.alloc ?_ (by first | exact Nat.le_refl _ | (simp; done) | (simp; omega)) _)
theorem w2_size (b : Int) (w : World) : (w2 b w).heap.size = w.heap.size + 2 := by unfold w2; simp
theorem w2_s (b : Int) (w : World) : (w2 b w).cell? ⟨w.heap.size, 0, none⟩ = some (.int .i64 b) := by unfold w2; simp
set_option maxRecDepth 100000 in
theorem opr (op b x y r : Int) (k : Nat) (caps : Array Value) (w : World) (h0 : 0 ≤ op) (h1 : op < 18)
    (hc : (w2 b w).cell? ⟨w.heap.size + 1, op.toNat, none⟩ = some (.func (.func k) #[] caps))
    (hent : ∀ (xs : Array Value) (W : World), (callFunc k xs).run Tryz.prog W = .ok (.enter k xs) W)
    (hcl : Calls Tryz.prog k (#[.int .u16 x, .int .u16 y] ++ caps) (w2 b w) fun e w' => e = .returned (.int .u16 r) ∧ Below (w2 b w).heap.size (w2 b w) w') :
    Calls Tryz.prog 43 #[.int .i64 op, .agg #[.int .i64 b], .int .u16 x, .int .u16 y] w fun e w' => e = .returned (.int .u16 r) ∧ Below w.heap.size w w' := by
  have HB := Lib.hid (w2_below b w)
  have HS := Lib.hid (w2_size b w)
  unfold w2 at *
  have HC := Lib.hid hcl; clear hcl
  go_enter Tryz.func43, Tryz.ntmps43
  go_wp2_with fail
  refine HC.out.mono ?_
  rintro e w' ⟨rfl, hbel⟩
  go_wp2_with fail
  go_ret
  exact ⟨rfl, HB.out.trans (hbel.mono (by rw [HS.out]; omega))⟩
theorem opr0 (b x y : Int) (w : World) (h : (16 ≤ b ∧ b ≤ 16)) (hx : 0 ≤ x ∧ x < Wd.pw b) (hy : 0 ≤ y ∧ y < Wd.pw b) (hg : ErrT w) : Calls Tryz.prog 43 #[.int .i64 0, .agg #[.int .i64 b], .int .u16 x, .int .u16 y] w fun e w' => e = .returned (.int .u16 (Wd.doOp 0 b x y)) ∧ Below w.heap.size w w' :=
  opr 0 b x y _ 55 #[.pointer (some ⟨w.heap.size, 0, none⟩)] w (by decide) (by decide) (by simp [w2]) (fun xs W => by simp [go_sem]) (cl0 b x y w.heap.size _ h hx hy (w2_s b w) (hg.below (w2_below b w) hg.lt))
theorem opr1 (b x y : Int) (w : World) (h : (16 ≤ b ∧ b ≤ 16)) (hx : 0 ≤ x ∧ x < Wd.pw b) (hy : 0 ≤ y ∧ y < Wd.pw b) (hg : ErrT w) : Calls Tryz.prog 43 #[.int .i64 1, .agg #[.int .i64 b], .int .u16 x, .int .u16 y] w fun e w' => e = .returned (.int .u16 (Wd.doOp 1 b x y)) ∧ Below w.heap.size w w' :=
  opr 1 b x y _ 57 #[.pointer (some ⟨w.heap.size, 0, none⟩)] w (by decide) (by decide) (by simp [w2]) (fun xs W => by simp [go_sem]) (cl1 b x y w.heap.size _ h hx hy (w2_s b w) (hg.below (w2_below b w) hg.lt))
theorem opr2 (b x y : Int) (w : World) (h : (16 ≤ b ∧ b ≤ 16)) (hx : 0 ≤ x ∧ x < Wd.pw b) (hy : 0 ≤ y ∧ y < Wd.pw b) (hg : ErrT w) : Calls Tryz.prog 43 #[.int .i64 2, .agg #[.int .i64 b], .int .u16 x, .int .u16 y] w fun e w' => e = .returned (.int .u16 (Wd.doOp 2 b x y)) ∧ Below w.heap.size w w' :=
  opr 2 b x y _ 58 #[.pointer (some ⟨w.heap.size, 0, none⟩)] w (by decide) (by decide) (by simp [w2]) (fun xs W => by simp [go_sem]) (cl2 b x y w.heap.size _ h hx hy (w2_s b w) (hg.below (w2_below b w) hg.lt))
theorem opr3 (b x y : Int) (w : World) (h : (16 ≤ b ∧ b ≤ 16)) (hx : 0 ≤ x ∧ x < Wd.pw b) (hy : 0 ≤ y ∧ y < Wd.pw b) (hg : ErrT w) : Calls Tryz.prog 43 #[.int .i64 3, .agg #[.int .i64 b], .int .u16 x, .int .u16 y] w fun e w' => e = .returned (.int .u16 (Wd.doOp 3 b x y)) ∧ Below w.heap.size w w' :=
  opr 3 b x y _ 59 #[] w (by decide) (by decide) (by simp [w2]) (fun xs W => by simp [go_sem]) (cl3 b x y _ h hx hy)
theorem opr4 (b x y : Int) (w : World) (h : (16 ≤ b ∧ b ≤ 16)) (hx : 0 ≤ x ∧ x < Wd.pw b) (hy : 0 ≤ y ∧ y < Wd.pw b) (hg : ErrT w) : Calls Tryz.prog 43 #[.int .i64 4, .agg #[.int .i64 b], .int .u16 x, .int .u16 y] w fun e w' => e = .returned (.int .u16 (Wd.doOp 4 b x y)) ∧ Below w.heap.size w w' :=
  opr 4 b x y _ 60 #[] w (by decide) (by decide) (by simp [w2]) (fun xs W => by simp [go_sem]) (cl4 b x y _ h hx hy)
theorem opr5 (b x y : Int) (w : World) (h : (16 ≤ b ∧ b ≤ 16)) (hx : 0 ≤ x ∧ x < Wd.pw b) (hy : 0 ≤ y ∧ y < Wd.pw b) (hg : ErrT w) : Calls Tryz.prog 43 #[.int .i64 5, .agg #[.int .i64 b], .int .u16 x, .int .u16 y] w fun e w' => e = .returned (.int .u16 (Wd.doOp 5 b x y)) ∧ Below w.heap.size w w' :=
  opr 5 b x y _ 61 #[] w (by decide) (by decide) (by simp [w2]) (fun xs W => by simp [go_sem]) (cl5 b x y _ h hx hy)
theorem opr6 (b x y : Int) (w : World) (h : (16 ≤ b ∧ b ≤ 16)) (hx : 0 ≤ x ∧ x < Wd.pw b) (hy : 0 ≤ y ∧ y < Wd.pw b) (hg : ErrT w) : Calls Tryz.prog 43 #[.int .i64 6, .agg #[.int .i64 b], .int .u16 x, .int .u16 y] w fun e w' => e = .returned (.int .u16 (Wd.doOp 6 b x y)) ∧ Below w.heap.size w w' :=
  opr 6 b x y _ 62 #[] w (by decide) (by decide) (by simp [w2]) (fun xs W => by simp [go_sem]) (cl6 b x y _ h hx hy)
theorem opr7 (b x y : Int) (w : World) (h : (16 ≤ b ∧ b ≤ 16)) (hx : 0 ≤ x ∧ x < Wd.pw b) (hy : 0 ≤ y ∧ y < Wd.pw b) (hg : ErrT w) : Calls Tryz.prog 43 #[.int .i64 7, .agg #[.int .i64 b], .int .u16 x, .int .u16 y] w fun e w' => e = .returned (.int .u16 (Wd.doOp 7 b x y)) ∧ Below w.heap.size w w' :=
  opr 7 b x y _ 63 #[] w (by decide) (by decide) (by simp [w2]) (fun xs W => by simp [go_sem]) (cl7 b x y _ h hx hy)
theorem opr8 (b x y : Int) (w : World) (h : (16 ≤ b ∧ b ≤ 16)) (hx : 0 ≤ x ∧ x < Wd.pw b) (hy : 0 ≤ y ∧ y < Wd.pw b) (hg : ErrT w) : Calls Tryz.prog 43 #[.int .i64 8, .agg #[.int .i64 b], .int .u16 x, .int .u16 y] w fun e w' => e = .returned (.int .u16 (Wd.doOp 8 b x y)) ∧ Below w.heap.size w w' :=
  opr 8 b x y _ 64 #[.pointer (some ⟨w.heap.size, 0, none⟩)] w (by decide) (by decide) (by simp [w2]) (fun xs W => by simp [go_sem]) (cl8 b x y w.heap.size _ h hx hy (w2_s b w) (hg.below (w2_below b w) hg.lt))
theorem opr9 (b x y : Int) (w : World) (h : (16 ≤ b ∧ b ≤ 16)) (hx : 0 ≤ x ∧ x < Wd.pw b) (hy : 0 ≤ y ∧ y < Wd.pw b) (hg : ErrT w) : Calls Tryz.prog 43 #[.int .i64 9, .agg #[.int .i64 b], .int .u16 x, .int .u16 y] w fun e w' => e = .returned (.int .u16 (Wd.doOp 9 b x y)) ∧ Below w.heap.size w w' :=
  opr 9 b x y _ 66 #[.pointer (some ⟨w.heap.size, 0, none⟩)] w (by decide) (by decide) (by simp [w2]) (fun xs W => by simp [go_sem]) (cl9 b x y w.heap.size _ h hx hy (w2_s b w) (hg.below (w2_below b w) hg.lt))
theorem opr10 (b x y : Int) (w : World) (h : (16 ≤ b ∧ b ≤ 16)) (hx : 0 ≤ x ∧ x < Wd.pw b) (hy : 0 ≤ y ∧ y < Wd.pw b) (hg : ErrT w) : Calls Tryz.prog 43 #[.int .i64 10, .agg #[.int .i64 b], .int .u16 x, .int .u16 y] w fun e w' => e = .returned (.int .u16 (Wd.doOp 10 b x y)) ∧ Below w.heap.size w w' :=
  opr 10 b x y _ 67 #[.pointer (some ⟨w.heap.size, 0, none⟩)] w (by decide) (by decide) (by simp [w2]) (fun xs W => by simp [go_sem]) (cl10 b x y w.heap.size _ h hx hy (w2_s b w) (hg.below (w2_below b w) hg.lt))
theorem opr11 (b x y : Int) (w : World) (h : (16 ≤ b ∧ b ≤ 16)) (hx : 0 ≤ x ∧ x < Wd.pw b) (hy : 0 ≤ y ∧ y < Wd.pw b) (hg : ErrT w) : Calls Tryz.prog 43 #[.int .i64 11, .agg #[.int .i64 b], .int .u16 x, .int .u16 y] w fun e w' => e = .returned (.int .u16 (Wd.doOp 11 b x y)) ∧ Below w.heap.size w w' :=
  opr 11 b x y _ 69 #[.pointer (some ⟨w.heap.size, 0, none⟩)] w (by decide) (by decide) (by simp [w2]) (fun xs W => by simp [go_sem]) (cl11 b x y w.heap.size _ h hx hy (w2_s b w) (hg.below (w2_below b w) hg.lt))
theorem opr12 (b x y : Int) (w : World) (h : (16 ≤ b ∧ b ≤ 16)) (hx : 0 ≤ x ∧ x < Wd.pw b) (hy : 0 ≤ y ∧ y < Wd.pw b) (hg : ErrT w) : Calls Tryz.prog 43 #[.int .i64 12, .agg #[.int .i64 b], .int .u16 x, .int .u16 y] w fun e w' => e = .returned (.int .u16 (Wd.doOp 12 b x y)) ∧ Below w.heap.size w w' :=
  opr 12 b x y _ 72 #[.pointer (some ⟨w.heap.size, 0, none⟩)] w (by decide) (by decide) (by simp [w2]) (fun xs W => by simp [go_sem]) (cl12 b x y w.heap.size _ h hx hy (w2_s b w) (hg.below (w2_below b w) hg.lt))
theorem opr13 (b x y : Int) (w : World) (h : (16 ≤ b ∧ b ≤ 16)) (hx : 0 ≤ x ∧ x < Wd.pw b) (hy : 0 ≤ y ∧ y < Wd.pw b) (hg : ErrT w) : Calls Tryz.prog 43 #[.int .i64 13, .agg #[.int .i64 b], .int .u16 x, .int .u16 y] w fun e w' => e = .returned (.int .u16 (Wd.doOp 13 b x y)) ∧ Below w.heap.size w w' :=
  opr 13 b x y _ 73 #[.pointer (some ⟨w.heap.size, 0, none⟩)] w (by decide) (by decide) (by simp [w2]) (fun xs W => by simp [go_sem]) (cl13 b x y w.heap.size _ h hx hy (w2_s b w) (hg.below (w2_below b w) hg.lt))
theorem opr14 (b x y : Int) (w : World) (h : (16 ≤ b ∧ b ≤ 16)) (hx : 0 ≤ x ∧ x < Wd.pw b) (hy : 0 ≤ y ∧ y < Wd.pw b) (hg : ErrT w) : Calls Tryz.prog 43 #[.int .i64 14, .agg #[.int .i64 b], .int .u16 x, .int .u16 y] w fun e w' => e = .returned (.int .u16 (Wd.doOp 14 b x y)) ∧ Below w.heap.size w w' :=
  opr 14 b x y _ 74 #[] w (by decide) (by decide) (by simp [w2]) (fun xs W => by simp [go_sem]) (cl14 b x y _ h hx hy)
theorem opr15 (b x y : Int) (w : World) (h : (16 ≤ b ∧ b ≤ 16)) (hx : 0 ≤ x ∧ x < Wd.pw b) (hy : 0 ≤ y ∧ y < Wd.pw b) (hg : ErrT w) : Calls Tryz.prog 43 #[.int .i64 15, .agg #[.int .i64 b], .int .u16 x, .int .u16 y] w fun e w' => e = .returned (.int .u16 (Wd.doOp 15 b x y)) ∧ Below w.heap.size w w' :=
  opr 15 b x y _ 75 #[.pointer (some ⟨w.heap.size, 0, none⟩)] w (by decide) (by decide) (by simp [w2]) (fun xs W => by simp [go_sem]) (cl15 b x y w.heap.size _ h hx hy (w2_s b w) (hg.below (w2_below b w) hg.lt))
theorem opr16 (b x y : Int) (w : World) (h : (16 ≤ b ∧ b ≤ 16)) (hx : 0 ≤ x ∧ x < Wd.pw b) (hy : 0 ≤ y ∧ y < Wd.pw b) (hg : ErrT w) : Calls Tryz.prog 43 #[.int .i64 16, .agg #[.int .i64 b], .int .u16 x, .int .u16 y] w fun e w' => e = .returned (.int .u16 (Wd.doOp 16 b x y)) ∧ Below w.heap.size w w' :=
  opr 16 b x y _ 77 #[.pointer (some ⟨w.heap.size, 0, none⟩)] w (by decide) (by decide) (by simp [w2]) (fun xs W => by simp [go_sem]) (cl16 b x y w.heap.size _ h hx hy (w2_s b w) (hg.below (w2_below b w) hg.lt))
theorem opr17 (b x y : Int) (w : World) (h : (16 ≤ b ∧ b ≤ 16)) (hx : 0 ≤ x ∧ x < Wd.pw b) (hy : 0 ≤ y ∧ y < Wd.pw b) (hg : ErrT w) : Calls Tryz.prog 43 #[.int .i64 17, .agg #[.int .i64 b], .int .u16 x, .int .u16 y] w fun e w' => e = .returned (.int .u16 (Wd.doOp 17 b x y)) ∧ Below w.heap.size w w' :=
  opr 17 b x y _ 78 #[.pointer (some ⟨w.heap.size, 0, none⟩)] w (by decide) (by decide) (by simp [w2]) (fun xs W => by simp [go_sem]) (cl17 b x y w.heap.size _ h hx hy (w2_s b w) (hg.below (w2_below b w) hg.lt))
theorem operate_any (op b x y : Int) (w : World) (h0 : 0 ≤ op) (h1 : op ≤ 17) (h : (16 ≤ b ∧ b ≤ 16)) (hx : 0 ≤ x ∧ x < Wd.pw b) (hy : 0 ≤ y ∧ y < Wd.pw b) (hg : ErrT w) : Calls Tryz.prog 43 #[.int .i64 op, .agg #[.int .i64 b], .int .u16 x, .int .u16 y] w fun e w' => e = .returned (.int .u16 (Wd.doOp op b x y)) ∧ Below w.heap.size w w' := by
  rcases Wd.op_cases h0 h1 with rfl | rfl | rfl | rfl | rfl | rfl | rfl | rfl | rfl | rfl | rfl | rfl | rfl | rfl | rfl | rfl | rfl | rfl
  · exact opr0 b x y w h hx hy hg
  · exact opr1 b x y w h hx hy hg
  · exact opr2 b x y w h hx hy hg
  · exact opr3 b x y w h hx hy hg
  · exact opr4 b x y w h hx hy hg
  · exact opr5 b x y w h hx hy hg
  · exact opr6 b x y w h hx hy hg
  · exact opr7 b x y w h hx hy hg
  · exact opr8 b x y w h hx hy hg
  · exact opr9 b x y w h hx hy hg
  · exact opr10 b x y w h hx hy hg
  · exact opr11 b x y w h hx hy hg
  · exact opr12 b x y w h hx hy hg
  · exact opr13 b x y w h hx hy hg
  · exact opr14 b x y w h hx hy hg
  · exact opr15 b x y w h hx hy hg
  · exact opr16 b x y w h hx hy hg
  · exact opr17 b x y w h hx hy hg
end Go.Proofs.YtigodbilfjppbaaGreatDoor.Op16
