/-
  What the eighteen operations on words held in a uint8 return and do to memory, over the translated program: one contract each.
-/
import Derived.Test.YtigodbilfjppbaaGreatDoorOp8
import Derived.WalkLawsBesides
namespace Go.Proofs.YtigodbilfjppbaaGreatDoor.Op8
open Go.RowKit Go.Proofs.YtigodbilfjppbaaGreatDoor.Err Go.Proofs.YtigodbilfjppbaaGreatDoor.Wds
set_option linter.unusedVariables false

theorem cl0 (b x y : Int) (sb : Nat) (w : World) (h : (b = 4 ∨ b = 8)) (hx : 0 ≤ x ∧ x < Wd.pw b) (hy : 0 ≤ y ∧ y < Wd.pw b) (hs : w.cell? ⟨sb, 0, none⟩ = some (.int .i64 b)) (hg : ErrT w) : Calls Tryz.prog 79 #[.int .u8 x, .int .u8 y, .pointer (some ⟨sb, 0, none⟩)] w fun e w' => e = .returned (.int .u8 (Wd.doOp 0 b x y)) ∧ Below w.heap.size w w' := by
  have hok := okBits h
  obtain ⟨hx0, hx1⟩ := hx
  obtain ⟨hy0, hy1⟩ := hy
  have p1 := (okBd h).1
  have p2 := (okBd h).2.1
  have hx2 : x < 256 := by omega
  have hy2 : y < 256 := by omega
  have hsl : sb < w.heap.size := World.block_lt_of_cell? w _ hs
  clear hg
  have e1 := Opm.wrap_u8 (x + y)
  go_enter Tryz.func79, Tryz.ntmps79
  go_wp2_with fail
  refine (cut_any _ _ _ h (by omega) (by omega)).mono ?_
  rintro e w' ⟨rfl, rfl⟩
  go_wp2_with fail
  go_ret
  exact ⟨ret_int (Opm.fin0_8 b x y h ⟨hx0, hx1⟩ ⟨hy0, hy1⟩), (Below.refl _ _).alloc (Nat.le_refl _) _⟩
theorem cl1 (b x y : Int) (sb : Nat) (w : World) (h : (b = 4 ∨ b = 8)) (hx : 0 ≤ x ∧ x < Wd.pw b) (hy : 0 ≤ y ∧ y < Wd.pw b) (hs : w.cell? ⟨sb, 0, none⟩ = some (.int .i64 b)) (hg : ErrT w) : Calls Tryz.prog 81 #[.int .u8 x, .int .u8 y, .pointer (some ⟨sb, 0, none⟩)] w fun e w' => e = .returned (.int .u8 (Wd.doOp 1 b x y)) ∧ Below w.heap.size w w' := by
  have hok := okBits h
  obtain ⟨hx0, hx1⟩ := hx
  obtain ⟨hy0, hy1⟩ := hy
  have p1 := (okBd h).1
  have p2 := (okBd h).2.1
  have hx2 : x < 256 := by omega
  have hy2 : y < 256 := by omega
  have hsl : sb < w.heap.size := World.block_lt_of_cell? w _ hs
  clear hg
  have e1 := Opm.wrap_u8 (x - y)
  go_enter Tryz.func81, Tryz.ntmps81
  go_wp2_with fail
  refine (cut_any _ _ _ h (by omega) (by omega)).mono ?_
  rintro e w' ⟨rfl, rfl⟩
  go_wp2_with fail
  go_ret
  exact ⟨ret_int (Opm.fin1_8 b x y h ⟨hx0, hx1⟩ ⟨hy0, hy1⟩), (Below.refl _ _).alloc (Nat.le_refl _) _⟩
theorem cl2 (b x y : Int) (sb : Nat) (w : World) (h : (b = 4 ∨ b = 8)) (hx : 0 ≤ x ∧ x < Wd.pw b) (hy : 0 ≤ y ∧ y < Wd.pw b) (hs : w.cell? ⟨sb, 0, none⟩ = some (.int .i64 b)) (hg : ErrT w) : Calls Tryz.prog 82 #[.int .u8 x, .int .u8 y, .pointer (some ⟨sb, 0, none⟩)] w fun e w' => e = .returned (.int .u8 (Wd.doOp 2 b x y)) ∧ Below w.heap.size w w' := by
  have hok := okBits h
  obtain ⟨hx0, hx1⟩ := hx
  obtain ⟨hy0, hy1⟩ := hy
  have p1 := (okBd h).1
  have p2 := (okBd h).2.1
  have hx2 : x < 256 := by omega
  have hy2 : y < 256 := by omega
  have hsl : sb < w.heap.size := World.block_lt_of_cell? w _ hs
  clear hg
  have m0 : 0 ≤ x * y := Int.mul_nonneg hx0 hy0
  have e1 := Opm.wrap_u8 (x * y)
  go_enter Tryz.func82, Tryz.ntmps82
  go_wp2_with fail
  refine (cut_any _ _ _ h (by omega) (by omega)).mono ?_
  rintro e w' ⟨rfl, rfl⟩
  go_wp2_with fail
  go_ret
  exact ⟨ret_int (Opm.fin2_8 b x y h ⟨hx0, hx1⟩ ⟨hy0, hy1⟩), (Below.refl _ _).alloc (Nat.le_refl _) _⟩
theorem cl3 (b x y : Int) (w : World) (h : (b = 4 ∨ b = 8)) (hx : 0 ≤ x ∧ x < Wd.pw b) (hy : 0 ≤ y ∧ y < Wd.pw b) : Calls Tryz.prog 83 #[.int .u8 x, .int .u8 y] w fun e w' => e = .returned (.int .u8 (Wd.doOp 3 b x y)) ∧ Below w.heap.size w w' := by
  have hok := okBits h
  obtain ⟨hx0, hx1⟩ := hx
  obtain ⟨hy0, hy1⟩ := hy
  have p1 := (okBd h).1
  have p2 := (okBd h).2.1
  have hx2 : x < 256 := by omega
  have hy2 : y < 256 := by omega
  go_enter Tryz.func83, Tryz.ntmps83
  go_wp2
  go_ret
  exact ⟨ret_int (Opm.fin3_8 b x y h ⟨hx0, hx1⟩ ⟨hy0, hy1⟩), Below.refl _ _⟩
theorem cl4 (b x y : Int) (w : World) (h : (b = 4 ∨ b = 8)) (hx : 0 ≤ x ∧ x < Wd.pw b) (hy : 0 ≤ y ∧ y < Wd.pw b) : Calls Tryz.prog 84 #[.int .u8 x, .int .u8 y] w fun e w' => e = .returned (.int .u8 (Wd.doOp 4 b x y)) ∧ Below w.heap.size w w' := by
  have hok := okBits h
  obtain ⟨hx0, hx1⟩ := hx
  obtain ⟨hy0, hy1⟩ := hy
  have p1 := (okBd h).1
  have p2 := (okBd h).2.1
  have hx2 : x < 256 := by omega
  have hy2 : y < 256 := by omega
  go_enter Tryz.func84, Tryz.ntmps84
  go_wp2
  go_ret
  exact ⟨ret_int (Opm.fin4_8 b x y h ⟨hx0, hx1⟩ ⟨hy0, hy1⟩), Below.refl _ _⟩
theorem cl5 (b x y : Int) (w : World) (h : (b = 4 ∨ b = 8)) (hx : 0 ≤ x ∧ x < Wd.pw b) (hy : 0 ≤ y ∧ y < Wd.pw b) : Calls Tryz.prog 85 #[.int .u8 x, .int .u8 y] w fun e w' => e = .returned (.int .u8 (Wd.doOp 5 b x y)) ∧ Below w.heap.size w w' := by
  have hok := okBits h
  obtain ⟨hx0, hx1⟩ := hx
  obtain ⟨hy0, hy1⟩ := hy
  have p1 := (okBd h).1
  have p2 := (okBd h).2.1
  have hx2 : x < 256 := by omega
  have hy2 : y < 256 := by omega
  go_enter Tryz.func85, Tryz.ntmps85
  go_wp2
  go_ret
  exact ⟨ret_int (Opm.fin5_8 b x y h ⟨hx0, hx1⟩ ⟨hy0, hy1⟩), Below.refl _ _⟩
theorem cl14 (b x y : Int) (w : World) (h : (b = 4 ∨ b = 8)) (hx : 0 ≤ x ∧ x < Wd.pw b) (hy : 0 ≤ y ∧ y < Wd.pw b) : Calls Tryz.prog 98 #[.int .u8 x, .int .u8 y] w fun e w' => e = .returned (.int .u8 (Wd.doOp 14 b x y)) ∧ Below w.heap.size w w' := by
  have hok := okBits h
  obtain ⟨hx0, hx1⟩ := hx
  obtain ⟨hy0, hy1⟩ := hy
  have p1 := (okBd h).1
  have p2 := (okBd h).2.1
  have hx2 : x < 256 := by omega
  have hy2 : y < 256 := by omega
  go_enter Tryz.func98, Tryz.ntmps98
  go_wp2
  go_ret
  exact ⟨ret_int (Opm.fin14_8 b x y h ⟨hx0, hx1⟩ ⟨hy0, hy1⟩), Below.refl _ _⟩
theorem cl6 (b x y : Int) (w : World) (h : (b = 4 ∨ b = 8)) (hx : 0 ≤ x ∧ x < Wd.pw b) (hy : 0 ≤ y ∧ y < Wd.pw b) : Calls Tryz.prog 86 #[.int .u8 x, .int .u8 y] w fun e w' => e = .returned (.int .u8 (Wd.doOp 6 b x y)) ∧ Below w.heap.size w w' := by
  have hok := okBits h
  obtain ⟨hx0, hx1⟩ := hx
  obtain ⟨hy0, hy1⟩ := hy
  have p1 := (okBd h).1
  have p2 := (okBd h).2.1
  have hx2 : x < 256 := by omega
  have hy2 : y < 256 := by omega
  rcases (show x < y ∨ (x ≤ y ∧ y ≤ x) ∨ y < x from by omega) with hh | ⟨hh, hh'⟩ | hh
  all_goals
    go_enter Tryz.func86, Tryz.ntmps86
    go_wp2
    go_ret
    exact ⟨ret_int (by simp only [Wd.doOp, reduceIte, Int.reduceEq]; omega), Below.refl _ _⟩
theorem cl7 (b x y : Int) (w : World) (h : (b = 4 ∨ b = 8)) (hx : 0 ≤ x ∧ x < Wd.pw b) (hy : 0 ≤ y ∧ y < Wd.pw b) : Calls Tryz.prog 87 #[.int .u8 x, .int .u8 y] w fun e w' => e = .returned (.int .u8 (Wd.doOp 7 b x y)) ∧ Below w.heap.size w w' := by
  have hok := okBits h
  obtain ⟨hx0, hx1⟩ := hx
  obtain ⟨hy0, hy1⟩ := hy
  have p1 := (okBd h).1
  have p2 := (okBd h).2.1
  have hx2 : x < 256 := by omega
  have hy2 : y < 256 := by omega
  rcases (show x < y ∨ (x ≤ y ∧ y ≤ x) ∨ y < x from by omega) with hh | ⟨hh, hh'⟩ | hh
  all_goals
    go_enter Tryz.func87, Tryz.ntmps87
    go_wp2
    go_ret
    exact ⟨ret_int (by simp only [Wd.doOp, reduceIte, Int.reduceEq]; omega), Below.refl _ _⟩
theorem cl8 (b x y : Int) (sb : Nat) (w : World) (h : (b = 4 ∨ b = 8)) (hx : 0 ≤ x ∧ x < Wd.pw b) (hy : 0 ≤ y ∧ y < Wd.pw b) (hs : w.cell? ⟨sb, 0, none⟩ = some (.int .i64 b)) (hg : ErrT w) : Calls Tryz.prog 88 #[.int .u8 x, .int .u8 y, .pointer (some ⟨sb, 0, none⟩)] w fun e w' => e = .returned (.int .u8 (Wd.doOp 8 b x y)) ∧ Below w.heap.size w w' := by
  have hok := okBits h
  obtain ⟨hx0, hx1⟩ := hx
  obtain ⟨hy0, hy1⟩ := hy
  have p1 := (okBd h).1
  have p2 := (okBd h).2.1
  have hx2 : x < 256 := by omega
  have hy2 : y < 256 := by omega
  have hsl : sb < w.heap.size := World.block_lt_of_cell? w _ hs
  clear hg
  have f1 := Opm.fl_bd b x (okBits h) hx0 hx1
  have f2 := Opm.fl_bd b y (okBits h) hy0 hy1
  obtain ⟨f1a, f1b⟩ := f1
  obtain ⟨f2a, f2b⟩ := f2
  rcases (show Opm.fl b x < Opm.fl b y ∨ (Opm.fl b x ≤ Opm.fl b y ∧ Opm.fl b y ≤ Opm.fl b x) ∨ Opm.fl b y < Opm.fl b x from by omega) with hh | ⟨hh, hh'⟩ | hh
  · go_enter Tryz.func88, Tryz.ntmps88
    go_wp2
    go_region_held3 (fun w' => w'.cell? ⟨sb, 0, none⟩ = some (.int .i64 b)) (first | (refine (Below.cell (B := w.heap.size) (w := w) (p := ⟨sb, 0, none⟩) ?_ hsl).trans hs; (repeat (first | exact Below.refl _ _ | refine Below.drew ?_ | refine Below.alloc ?_ (by first | exact Nat.le_refl _ | (simp; done) | (simp; omega)) _)); done) | (exact (hbel.cell (by simp; omega)).trans (by assumption)) | go_keep)
      (first | (go_at_call 89; refine (flip_any _ _ _ h ?_ ?_).mono ?_; omega; omega; rintro e w' ⟨rfl, rfl⟩))
    go_wp2
    go_ret
    exact ⟨ret_int (Opm.fin8 b x y hok ⟨hx0, hx1⟩ ⟨hy0, hy1⟩ _ (by first | exact .inl ⟨rfl, by omega⟩ | exact .inr ⟨rfl, by omega⟩)), by repeat (first | exact Below.refl _ _ | refine Below.drew ?_ | refine Below.alloc ?_ (by first | exact Nat.le_refl _ | (simp; done) | (simp; omega)) _)⟩
  · go_enter Tryz.func88, Tryz.ntmps88
    go_wp2
    go_region_held3 (fun w' => w'.cell? ⟨sb, 0, none⟩ = some (.int .i64 b)) (first | (refine (Below.cell (B := w.heap.size) (w := w) (p := ⟨sb, 0, none⟩) ?_ hsl).trans hs; (repeat (first | exact Below.refl _ _ | refine Below.drew ?_ | refine Below.alloc ?_ (by first | exact Nat.le_refl _ | (simp; done) | (simp; omega)) _)); done) | (exact (hbel.cell (by simp; omega)).trans (by assumption)) | go_keep)
      (first | (go_at_call 89; refine (flip_any _ _ _ h ?_ ?_).mono ?_; omega; omega; rintro e w' ⟨rfl, rfl⟩))
    go_wp2
    go_ret
    exact ⟨ret_int (Opm.fin8 b x y hok ⟨hx0, hx1⟩ ⟨hy0, hy1⟩ _ (by first | exact .inl ⟨rfl, by omega⟩ | exact .inr ⟨rfl, by omega⟩)), by repeat (first | exact Below.refl _ _ | refine Below.drew ?_ | refine Below.alloc ?_ (by first | exact Nat.le_refl _ | (simp; done) | (simp; omega)) _)⟩
  · go_enter Tryz.func88, Tryz.ntmps88
    go_wp2
    go_region_held3 (fun w' => w'.cell? ⟨sb, 0, none⟩ = some (.int .i64 b)) (first | (refine (Below.cell (B := w.heap.size) (w := w) (p := ⟨sb, 0, none⟩) ?_ hsl).trans hs; (repeat (first | exact Below.refl _ _ | refine Below.drew ?_ | refine Below.alloc ?_ (by first | exact Nat.le_refl _ | (simp; done) | (simp; omega)) _)); done) | (exact (hbel.cell (by simp; omega)).trans (by assumption)) | go_keep)
      (first | (go_at_call 89; refine (flip_any _ _ _ h ?_ ?_).mono ?_; omega; omega; rintro e w' ⟨rfl, rfl⟩))
    go_wp2
    go_ret
    exact ⟨ret_int (Opm.fin8 b x y hok ⟨hx0, hx1⟩ ⟨hy0, hy1⟩ _ (by first | exact .inl ⟨rfl, by omega⟩ | exact .inr ⟨rfl, by omega⟩)), by repeat (first | exact Below.refl _ _ | refine Below.drew ?_ | refine Below.alloc ?_ (by first | exact Nat.le_refl _ | (simp; done) | (simp; omega)) _)⟩
theorem cl9 (b x y : Int) (sb : Nat) (w : World) (h : (b = 4 ∨ b = 8)) (hx : 0 ≤ x ∧ x < Wd.pw b) (hy : 0 ≤ y ∧ y < Wd.pw b) (hs : w.cell? ⟨sb, 0, none⟩ = some (.int .i64 b)) (hg : ErrT w) : Calls Tryz.prog 90 #[.int .u8 x, .int .u8 y, .pointer (some ⟨sb, 0, none⟩)] w fun e w' => e = .returned (.int .u8 (Wd.doOp 9 b x y)) ∧ Below w.heap.size w w' := by
  have hok := okBits h
  obtain ⟨hx0, hx1⟩ := hx
  obtain ⟨hy0, hy1⟩ := hy
  have p1 := (okBd h).1
  have p2 := (okBd h).2.1
  have hx2 : x < 256 := by omega
  have hy2 : y < 256 := by omega
  have hsl : sb < w.heap.size := World.block_lt_of_cell? w _ hs
  clear hg
  have f1 := Opm.fl_bd b x (okBits h) hx0 hx1
  have f2 := Opm.fl_bd b y (okBits h) hy0 hy1
  obtain ⟨f1a, f1b⟩ := f1
  obtain ⟨f2a, f2b⟩ := f2
  rcases (show Opm.fl b x < Opm.fl b y ∨ (Opm.fl b x ≤ Opm.fl b y ∧ Opm.fl b y ≤ Opm.fl b x) ∨ Opm.fl b y < Opm.fl b x from by omega) with hh | ⟨hh, hh'⟩ | hh
  · go_enter Tryz.func90, Tryz.ntmps90
    go_wp2
    go_region_held3 (fun w' => w'.cell? ⟨sb, 0, none⟩ = some (.int .i64 b)) (first | (refine (Below.cell (B := w.heap.size) (w := w) (p := ⟨sb, 0, none⟩) ?_ hsl).trans hs; (repeat (first | exact Below.refl _ _ | refine Below.drew ?_ | refine Below.alloc ?_ (by first | exact Nat.le_refl _ | (simp; done) | (simp; omega)) _)); done) | (exact (hbel.cell (by simp; omega)).trans (by assumption)) | go_keep)
      (first | (go_at_call 89; refine (flip_any _ _ _ h ?_ ?_).mono ?_; omega; omega; rintro e w' ⟨rfl, rfl⟩))
    go_wp2
    go_ret
    exact ⟨ret_int (Opm.fin9 b x y hok ⟨hx0, hx1⟩ ⟨hy0, hy1⟩ _ (by first | exact .inl ⟨rfl, by omega⟩ | exact .inr ⟨rfl, by omega⟩)), by repeat (first | exact Below.refl _ _ | refine Below.drew ?_ | refine Below.alloc ?_ (by first | exact Nat.le_refl _ | (simp; done) | (simp; omega)) _)⟩
  · go_enter Tryz.func90, Tryz.ntmps90
    go_wp2
    go_region_held3 (fun w' => w'.cell? ⟨sb, 0, none⟩ = some (.int .i64 b)) (first | (refine (Below.cell (B := w.heap.size) (w := w) (p := ⟨sb, 0, none⟩) ?_ hsl).trans hs; (repeat (first | exact Below.refl _ _ | refine Below.drew ?_ | refine Below.alloc ?_ (by first | exact Nat.le_refl _ | (simp; done) | (simp; omega)) _)); done) | (exact (hbel.cell (by simp; omega)).trans (by assumption)) | go_keep)
      (first | (go_at_call 89; refine (flip_any _ _ _ h ?_ ?_).mono ?_; omega; omega; rintro e w' ⟨rfl, rfl⟩))
    go_wp2
    go_ret
    exact ⟨ret_int (Opm.fin9 b x y hok ⟨hx0, hx1⟩ ⟨hy0, hy1⟩ _ (by first | exact .inl ⟨rfl, by omega⟩ | exact .inr ⟨rfl, by omega⟩)), by repeat (first | exact Below.refl _ _ | refine Below.drew ?_ | refine Below.alloc ?_ (by first | exact Nat.le_refl _ | (simp; done) | (simp; omega)) _)⟩
  · go_enter Tryz.func90, Tryz.ntmps90
    go_wp2
    go_region_held3 (fun w' => w'.cell? ⟨sb, 0, none⟩ = some (.int .i64 b)) (first | (refine (Below.cell (B := w.heap.size) (w := w) (p := ⟨sb, 0, none⟩) ?_ hsl).trans hs; (repeat (first | exact Below.refl _ _ | refine Below.drew ?_ | refine Below.alloc ?_ (by first | exact Nat.le_refl _ | (simp; done) | (simp; omega)) _)); done) | (exact (hbel.cell (by simp; omega)).trans (by assumption)) | go_keep)
      (first | (go_at_call 89; refine (flip_any _ _ _ h ?_ ?_).mono ?_; omega; omega; rintro e w' ⟨rfl, rfl⟩))
    go_wp2
    go_ret
    exact ⟨ret_int (Opm.fin9 b x y hok ⟨hx0, hx1⟩ ⟨hy0, hy1⟩ _ (by first | exact .inl ⟨rfl, by omega⟩ | exact .inr ⟨rfl, by omega⟩)), by repeat (first | exact Below.refl _ _ | refine Below.drew ?_ | refine Below.alloc ?_ (by first | exact Nat.le_refl _ | (simp; done) | (simp; omega)) _)⟩
theorem cl10 (b x y : Int) (sb : Nat) (w : World) (h : (b = 4 ∨ b = 8)) (hx : 0 ≤ x ∧ x < Wd.pw b) (hy : 0 ≤ y ∧ y < Wd.pw b) (hs : w.cell? ⟨sb, 0, none⟩ = some (.int .i64 b)) (hg : ErrT w) : Calls Tryz.prog 91 #[.int .u8 x, .int .u8 y, .pointer (some ⟨sb, 0, none⟩)] w fun e w' => e = .returned (.int .u8 (Wd.doOp 10 b x y)) ∧ Below w.heap.size w w' := by
  have hok := okBits h
  obtain ⟨hx0, hx1⟩ := hx
  obtain ⟨hy0, hy1⟩ := hy
  have p1 := (okBd h).1
  have p2 := (okBd h).2.1
  have hx2 : x < 256 := by omega
  have hy2 : y < 256 := by omega
  have hsl : sb < w.heap.size := World.block_lt_of_cell? w _ hs
  go_enter Tryz.func91, Tryz.ntmps91
  go_wp2_with (go_at_call 92; refine (saturateU_any _ _ _ h hg).mono ?_; rintro e w' ⟨rfl, hbel⟩)
  go_ret
  exact ⟨ret_int (fin10 b x y ⟨hx0, hx1⟩ ⟨hy0, hy1⟩), hbel⟩
theorem cl12 (b x y : Int) (sb : Nat) (w : World) (h : (b = 4 ∨ b = 8)) (hx : 0 ≤ x ∧ x < Wd.pw b) (hy : 0 ≤ y ∧ y < Wd.pw b) (hs : w.cell? ⟨sb, 0, none⟩ = some (.int .i64 b)) (hg : ErrT w) : Calls Tryz.prog 96 #[.int .u8 x, .int .u8 y, .pointer (some ⟨sb, 0, none⟩)] w fun e w' => e = .returned (.int .u8 (Wd.doOp 12 b x y)) ∧ Below w.heap.size w w' := by
  have hok := okBits h
  obtain ⟨hx0, hx1⟩ := hx
  obtain ⟨hy0, hy1⟩ := hy
  have p1 := (okBd h).1
  have p2 := (okBd h).2.1
  have hx2 : x < 256 := by omega
  have hy2 : y < 256 := by omega
  have hsl : sb < w.heap.size := World.block_lt_of_cell? w _ hs
  go_enter Tryz.func96, Tryz.ntmps96
  go_wp2_with (go_at_call 92; refine (saturateU_any _ _ _ h hg).mono ?_; rintro e w' ⟨rfl, hbel⟩)
  go_ret
  exact ⟨ret_int (fin12 b x y ⟨hx0, hx1⟩ ⟨hy0, hy1⟩), hbel⟩
theorem cl11 (b x y : Int) (sb : Nat) (w : World) (h : (b = 4 ∨ b = 8)) (hx : 0 ≤ x ∧ x < Wd.pw b) (hy : 0 ≤ y ∧ y < Wd.pw b) (hs : w.cell? ⟨sb, 0, none⟩ = some (.int .i64 b)) (hg : ErrT w) : Calls Tryz.prog 93 #[.int .u8 x, .int .u8 y, .pointer (some ⟨sb, 0, none⟩)] w fun e w' => e = .returned (.int .u8 (Wd.doOp 11 b x y)) ∧ Below w.heap.size w w' := by
  have hok := okBits h
  obtain ⟨hx0, hx1⟩ := hx
  obtain ⟨hy0, hy1⟩ := hy
  have p1 := (okBd h).1
  have p2 := (okBd h).2.1
  have hx2 : x < 256 := by omega
  have hy2 : y < 256 := by omega
  have hsl : sb < w.heap.size := World.block_lt_of_cell? w _ hs
  have s1 := Wd.sg_range (okBits h) ⟨hx0, hx1⟩
  have s2 := Wd.sg_range (okBits h) ⟨hy0, hy1⟩
  have e1 : IntKind.i64.wrap (Wd.sg b x + Wd.sg b y) = Wd.sg b x + Wd.sg b y := IntWalk.i64_in _ (by omega)
  obtain ⟨s1a, s1b, _, s1d, s1e⟩ := s1
  obtain ⟨s2a, s2b, _, s2d, s2e⟩ := s2
  have HG := Lib.hid hg; clear hg
  go_enter Tryz.func93, Tryz.ntmps93
  go_wp2
  go_region_held3 (fun w' => w'.cell? ⟨sb, 0, none⟩ = some (.int .i64 b)) (first | (refine (Below.cell (B := w.heap.size) (w := w) (p := ⟨sb, 0, none⟩) ?_ hsl).trans hs; (repeat (first | exact Below.refl _ _ | refine Below.drew ?_ | refine Below.alloc ?_ (by first | exact Nat.le_refl _ | (simp; done) | (simp; omega)) _)); done) | (exact (hbel.cell (by simp; omega)).trans (by assumption)) | go_keep)
    (first | (go_at_call 95; refine (msigned_any _ _ _ h ?_ ?_).mono ?_; omega; omega; rintro e w' ⟨rfl, rfl⟩) | (go_at_call 94; refine (saturateS_any _ _ _ h ?_).mono ?_; (exact HG.out.below (by repeat (first | exact Below.refl _ _ | refine Below.drew ?_ | refine Below.alloc ?_ (by first | exact Nat.le_refl _ | (simp; done) | (simp; omega)) _)) HG.out.lt); rintro e w' ⟨rfl, hbel⟩))
  go_wp2
  go_ret
  exact ⟨ret_int (fin11 b x y), (show Below w.heap.size w _ from by repeat (first | exact Below.refl _ _ | refine Below.drew ?_ | refine Below.alloc ?_ (by first | exact Nat.le_refl _ | (simp; done) | (simp; omega)) _)).trans (hbel.mono (by simp; omega))⟩
theorem cl13 (b x y : Int) (sb : Nat) (w : World) (h : (b = 4 ∨ b = 8)) (hx : 0 ≤ x ∧ x < Wd.pw b) (hy : 0 ≤ y ∧ y < Wd.pw b) (hs : w.cell? ⟨sb, 0, none⟩ = some (.int .i64 b)) (hg : ErrT w) : Calls Tryz.prog 97 #[.int .u8 x, .int .u8 y, .pointer (some ⟨sb, 0, none⟩)] w fun e w' => e = .returned (.int .u8 (Wd.doOp 13 b x y)) ∧ Below w.heap.size w w' := by
  have hok := okBits h
  obtain ⟨hx0, hx1⟩ := hx
  obtain ⟨hy0, hy1⟩ := hy
  have p1 := (okBd h).1
  have p2 := (okBd h).2.1
  have hx2 : x < 256 := by omega
  have hy2 : y < 256 := by omega
  have hsl : sb < w.heap.size := World.block_lt_of_cell? w _ hs
  have s1 := Wd.sg_range (okBits h) ⟨hx0, hx1⟩
  have s2 := Wd.sg_range (okBits h) ⟨hy0, hy1⟩
  have e1 : IntKind.i64.wrap (Wd.sg b x - Wd.sg b y) = Wd.sg b x - Wd.sg b y := IntWalk.i64_in _ (by omega)
  obtain ⟨s1a, s1b, _, s1d, s1e⟩ := s1
  obtain ⟨s2a, s2b, _, s2d, s2e⟩ := s2
  have HG := Lib.hid hg; clear hg
  go_enter Tryz.func97, Tryz.ntmps97
  go_wp2
  go_region_held3 (fun w' => w'.cell? ⟨sb, 0, none⟩ = some (.int .i64 b)) (first | (refine (Below.cell (B := w.heap.size) (w := w) (p := ⟨sb, 0, none⟩) ?_ hsl).trans hs; (repeat (first | exact Below.refl _ _ | refine Below.drew ?_ | refine Below.alloc ?_ (by first | exact Nat.le_refl _ | (simp; done) | (simp; omega)) _)); done) | (exact (hbel.cell (by simp; omega)).trans (by assumption)) | go_keep)
    (first | (go_at_call 95; refine (msigned_any _ _ _ h ?_ ?_).mono ?_; omega; omega; rintro e w' ⟨rfl, rfl⟩) | (go_at_call 94; refine (saturateS_any _ _ _ h ?_).mono ?_; (exact HG.out.below (by repeat (first | exact Below.refl _ _ | refine Below.drew ?_ | refine Below.alloc ?_ (by first | exact Nat.le_refl _ | (simp; done) | (simp; omega)) _)) HG.out.lt); rintro e w' ⟨rfl, hbel⟩))
  go_wp2
  go_ret
  exact ⟨ret_int (fin13 b x y), (show Below w.heap.size w _ from by repeat (first | exact Below.refl _ _ | refine Below.drew ?_ | refine Below.alloc ?_ (by first | exact Nat.le_refl _ | (simp; done) | (simp; omega)) _)).trans (hbel.mono (by simp; omega))⟩
theorem cl15 (b x y : Int) (sb : Nat) (w : World) (h : (b = 4 ∨ b = 8)) (hx : 0 ≤ x ∧ x < Wd.pw b) (hy : 0 ≤ y ∧ y < Wd.pw b) (hs : w.cell? ⟨sb, 0, none⟩ = some (.int .i64 b)) (hg : ErrT w) : Calls Tryz.prog 99 #[.int .u8 x, .int .u8 y, .pointer (some ⟨sb, 0, none⟩)] w fun e w' => e = .returned (.int .u8 (Wd.doOp 15 b x y)) ∧ Below w.heap.size w w' := by
  have hok := okBits h
  obtain ⟨hx0, hx1⟩ := hx
  obtain ⟨hy0, hy1⟩ := hy
  have p1 := (okBd h).1
  have p2 := (okBd h).2.1
  have hx2 : x < 256 := by omega
  have hy2 : y < 256 := by omega
  have hsl : sb < w.heap.size := World.block_lt_of_cell? w _ hs
  clear hg
  have p3 : 4 ≤ b := (okBd h).2.2.2.1
  have p4 : b ≤ 8 := (okBd h).2.2.2.2
  have k0 : 0 ≤ y % b := Int.emod_nonneg _ (by omega)
  have k1 : y % b < 8 := by have := Int.emod_lt_of_pos y (show 0 < b by omega); omega
  go_enter Tryz.func99, Tryz.ntmps99
  go_wp2
  go_region_held3 (fun w' => w'.cell? ⟨sb, 0, none⟩ = some (.int .i64 b)) (first | (refine (Below.cell (B := w.heap.size) (w := w) (p := ⟨sb, 0, none⟩) ?_ hsl).trans hs; (repeat (first | exact Below.refl _ _ | refine Below.drew ?_ | refine Below.alloc ?_ (by first | exact Nat.le_refl _ | (simp; done) | (simp; omega)) _)); done) | (exact (hbel.cell (by simp; omega)).trans (by assumption)) | go_keep)
    (first | (go_at_call 100; refine (shift_any _ _ _ h ?_ ?_).mono ?_; omega; omega; rintro e w' ⟨rfl, rfl⟩) | (go_at_call 95; refine (msigned_any _ _ _ h ?_ ?_).mono ?_; omega; omega; rintro e w' ⟨rfl, rfl⟩) | (go_at_call 80; refine (cut_any _ _ _ h ?_ ?_).mono ?_; (first | omega | exact Opm.wlo_u8 _); (first | omega | exact Opm.whi_u8 _); rintro e w' ⟨rfl, rfl⟩))
  go_wp2
  go_ret
  exact ⟨ret_int (Opm.fin15_8 b x y h ⟨hx0, hx1⟩ ⟨hy0, hy1⟩), by repeat (first | exact Below.refl _ _ | refine Below.drew ?_ | refine Below.alloc ?_ (by first | exact Nat.le_refl _ | (simp; done) | (simp; omega)) _)⟩
theorem cl16 (b x y : Int) (sb : Nat) (w : World) (h : (b = 4 ∨ b = 8)) (hx : 0 ≤ x ∧ x < Wd.pw b) (hy : 0 ≤ y ∧ y < Wd.pw b) (hs : w.cell? ⟨sb, 0, none⟩ = some (.int .i64 b)) (hg : ErrT w) : Calls Tryz.prog 101 #[.int .u8 x, .int .u8 y, .pointer (some ⟨sb, 0, none⟩)] w fun e w' => e = .returned (.int .u8 (Wd.doOp 16 b x y)) ∧ Below w.heap.size w w' := by
  have hok := okBits h
  obtain ⟨hx0, hx1⟩ := hx
  obtain ⟨hy0, hy1⟩ := hy
  have p1 := (okBd h).1
  have p2 := (okBd h).2.1
  have hx2 : x < 256 := by omega
  have hy2 : y < 256 := by omega
  have hsl : sb < w.heap.size := World.block_lt_of_cell? w _ hs
  clear hg
  have p3 : 4 ≤ b := (okBd h).2.2.2.1
  have p4 : b ≤ 8 := (okBd h).2.2.2.2
  have k0 : 0 ≤ y % b := Int.emod_nonneg _ (by omega)
  have k1 : y % b < 8 := by have := Int.emod_lt_of_pos y (show 0 < b by omega); omega
  go_enter Tryz.func101, Tryz.ntmps101
  go_wp2_with (go_at_call 100; refine (shift_any _ _ _ h (by omega) (by omega)).mono ?_; rintro e w' ⟨rfl, rfl⟩)
  go_ret
  exact ⟨ret_int (Opm.fin16_8 b x y h ⟨hx0, hx1⟩ ⟨hy0, hy1⟩), (Below.refl _ _).alloc (Nat.le_refl _) _⟩
theorem cl17 (b x y : Int) (sb : Nat) (w : World) (h : (b = 4 ∨ b = 8)) (hx : 0 ≤ x ∧ x < Wd.pw b) (hy : 0 ≤ y ∧ y < Wd.pw b) (hs : w.cell? ⟨sb, 0, none⟩ = some (.int .i64 b)) (hg : ErrT w) : Calls Tryz.prog 102 #[.int .u8 x, .int .u8 y, .pointer (some ⟨sb, 0, none⟩)] w fun e w' => e = .returned (.int .u8 (Wd.doOp 17 b x y)) ∧ Below w.heap.size w w' := by
  have hok := okBits h
  obtain ⟨hx0, hx1⟩ := hx
  obtain ⟨hy0, hy1⟩ := hy
  have p1 := (okBd h).1
  have p2 := (okBd h).2.1
  have hx2 : x < 256 := by omega
  have hy2 : y < 256 := by omega
  have hsl : sb < w.heap.size := World.block_lt_of_cell? w _ hs
  clear hg
  have p3 : 4 ≤ b := (okBd h).2.2.2.1
  have p4 : b ≤ 8 := (okBd h).2.2.2.2
  have k0 : 0 ≤ y % b := Int.emod_nonneg _ (by omega)
  have k1 : y % b < 8 := by have := Int.emod_lt_of_pos y (show 0 < b by omega); omega
  go_enter Tryz.func102, Tryz.ntmps102
  go_wp2
  go_region_held3 (fun w' => w'.cell? ⟨sb, 0, none⟩ = some (.int .i64 b)) (first | (refine (Below.cell (B := w.heap.size) (w := w) (p := ⟨sb, 0, none⟩) ?_ hsl).trans hs; (repeat (first | exact Below.refl _ _ | refine Below.drew ?_ | refine Below.alloc ?_ (by first | exact Nat.le_refl _ | (simp; done) | (simp; omega)) _)); done) | (exact (hbel.cell (by simp; omega)).trans (by assumption)) | go_keep)
    (first | (go_at_call 100; refine (shift_any _ _ _ h ?_ ?_).mono ?_; omega; omega; rintro e w' ⟨rfl, rfl⟩) | (go_at_call 95; refine (msigned_any _ _ _ h ?_ ?_).mono ?_; omega; omega; rintro e w' ⟨rfl, rfl⟩) | (go_at_call 80; refine (cut_any _ _ _ h ?_ ?_).mono ?_; (first | omega | exact Opm.wlo_u8 _); (first | omega | exact Opm.whi_u8 _); rintro e w' ⟨rfl, rfl⟩))
  go_wp2
  go_ret
  exact ⟨ret_int (Opm.fin17_8 b x y h ⟨hx0, hx1⟩ ⟨hy0, hy1⟩), by repeat (first | exact Below.refl _ _ | refine Below.drew ?_ | refine Below.alloc ?_ (by first | exact Nat.le_refl _ | (simp; done) | (simp; omega)) _)⟩
end Go.Proofs.YtigodbilfjppbaaGreatDoor.Op8
