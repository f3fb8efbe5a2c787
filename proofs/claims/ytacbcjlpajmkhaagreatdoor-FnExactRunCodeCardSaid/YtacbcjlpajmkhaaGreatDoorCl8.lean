/-
  What the eighteen operations on words held in a uint8 return and do to memory, over the translated program: one contract each.
-/
import Derived.Test.YtacbcjlpajmkhaaGreatDoorOp8
import Derived.WalkLawsBesides
namespace Go.Proofs.YtacbcjlpajmkhaaGreatDoor.Op8
open Go.RowKit Go.Proofs.YtacbcjlpajmkhaaGreatDoor.Err Go.Proofs.YtacbcjlpajmkhaaGreatDoor.Wds
set_option linter.unusedVariables false

theorem cl0 (b x y : Int) (sb : Nat) (w : World) (h : (b = 4 ∨ b = 8)) (hx : 0 ≤ x ∧ x < Wd.pw b) (hy : 0 ≤ y ∧ y < Wd.pw b) (hs : w.cell? ⟨sb, 0, none⟩ = some (.int .i64 b)) (hg : ErrT w) : Calls Tryz.prog 110 #[.int .u8 x, .int .u8 y, .pointer (some ⟨sb, 0, none⟩)] w fun e w' => e = .returned (.int .u8 (Wd.doOp 0 b x y)) ∧ Below w.heap.size w w' := by
  have hok := okBits h
  obtain ⟨hx0, hx1⟩ := hx
  obtain ⟨hy0, hy1⟩ := hy
  have p1 := (okBd h).1
  have p2 := (okBd h).2.1
  have hx2 : x < 256 := by omega
  have hy2 : y < 256 := by omega
  have hsl : sb < w.heap.size := World.block_lt_of_cell? w _ hs
  clear hg
  have e1 := Opm.wrap_u8 (x + y)
  go_enter Tryz.func110, Tryz.ntmps110
  go_wp2_with fail
  refine (cut_any _ _ _ h (by omega) (by omega)).mono ?_
  rintro e w' ⟨rfl, rfl⟩
  go_wp2_with fail
  go_ret
  exact ⟨ret_int (Opm.fin0_8 b x y h ⟨hx0, hx1⟩ ⟨hy0, hy1⟩), (Below.refl _ _).alloc (Nat.le_refl _) _⟩
theorem cl1 (b x y : Int) (sb : Nat) (w : World) (h : (b = 4 ∨ b = 8)) (hx : 0 ≤ x ∧ x < Wd.pw b) (hy : 0 ≤ y ∧ y < Wd.pw b) (hs : w.cell? ⟨sb, 0, none⟩ = some (.int .i64 b)) (hg : ErrT w) : Calls Tryz.prog 112 #[.int .u8 x, .int .u8 y, .pointer (some ⟨sb, 0, none⟩)] w fun e w' => e = .returned (.int .u8 (Wd.doOp 1 b x y)) ∧ Below w.heap.size w w' := by
  have hok := okBits h
  obtain ⟨hx0, hx1⟩ := hx
  obtain ⟨hy0, hy1⟩ := hy
  have p1 := (okBd h).1
  have p2 := (okBd h).2.1
  have hx2 : x < 256 := by omega
  have hy2 : y < 256 := by omega
  have hsl : sb < w.heap.size := World.block_lt_of_cell? w _ hs
  clear hg
  have e1 := Opm.wrap_u8 (x - y)
  go_enter Tryz.func112, Tryz.ntmps112
  go_wp2_with fail
  refine (cut_any _ _ _ h (by omega) (by omega)).mono ?_
  rintro e w' ⟨rfl, rfl⟩
  go_wp2_with fail
  go_ret
  exact ⟨ret_int (Opm.fin1_8 b x y h ⟨hx0, hx1⟩ ⟨hy0, hy1⟩), (Below.refl _ _).alloc (Nat.le_refl _) _⟩
theorem cl2 (b x y : Int) (sb : Nat) (w : World) (h : (b = 4 ∨ b = 8)) (hx : 0 ≤ x ∧ x < Wd.pw b) (hy : 0 ≤ y ∧ y < Wd.pw b) (hs : w.cell? ⟨sb, 0, none⟩ = some (.int .i64 b)) (hg : ErrT w) : Calls Tryz.prog 113 #[.int .u8 x, .int .u8 y, .pointer (some ⟨sb, 0, none⟩)] w fun e w' => e = .returned (.int .u8 (Wd.doOp 2 b x y)) ∧ Below w.heap.size w w' := by
  have hok := okBits h
  obtain ⟨hx0, hx1⟩ := hx
  obtain ⟨hy0, hy1⟩ := hy
  have p1 := (okBd h).1
  have p2 := (okBd h).2.1
  have hx2 : x < 256 := by omega
  have hy2 : y < 256 := by omega
  have hsl : sb < w.heap.size := World.block_lt_of_cell? w _ hs
  clear hg
  have m0 : 0 ≤ x * y := Int.mul_nonneg hx0 hy0
  have e1 := Opm.wrap_u8 (x * y)
  go_enter Tryz.func113, Tryz.ntmps113
  go_wp2_with fail
  refine (cut_any _ _ _ h (by omega) (by omega)).mono ?_
  rintro e w' ⟨rfl, rfl⟩
  go_wp2_with fail
  go_ret
  exact ⟨ret_int (Opm.fin2_8 b x y h ⟨hx0, hx1⟩ ⟨hy0, hy1⟩), (Below.refl _ _).alloc (Nat.le_refl _) _⟩
theorem cl3 (b x y : Int) (w : World) (h : (b = 4 ∨ b = 8)) (hx : 0 ≤ x ∧ x < Wd.pw b) (hy : 0 ≤ y ∧ y < Wd.pw b) : Calls Tryz.prog 114 #[.int .u8 x, .int .u8 y] w fun e w' => e = .returned (.int .u8 (Wd.doOp 3 b x y)) ∧ Below w.heap.size w w' := by
  have hok := okBits h
  obtain ⟨hx0, hx1⟩ := hx
  obtain ⟨hy0, hy1⟩ := hy
  have p1 := (okBd h).1
  have p2 := (okBd h).2.1
  have hx2 : x < 256 := by omega
  have hy2 : y < 256 := by omega
  go_enter Tryz.func114, Tryz.ntmps114
  go_wp2
  go_ret
  exact ⟨ret_int (Opm.fin3_8 b x y h ⟨hx0, hx1⟩ ⟨hy0, hy1⟩), Below.refl _ _⟩
theorem cl4 (b x y : Int) (w : World) (h : (b = 4 ∨ b = 8)) (hx : 0 ≤ x ∧ x < Wd.pw b) (hy : 0 ≤ y ∧ y < Wd.pw b) : Calls Tryz.prog 115 #[.int .u8 x, .int .u8 y] w fun e w' => e = .returned (.int .u8 (Wd.doOp 4 b x y)) ∧ Below w.heap.size w w' := by
  have hok := okBits h
  obtain ⟨hx0, hx1⟩ := hx
  obtain ⟨hy0, hy1⟩ := hy
  have p1 := (okBd h).1
  have p2 := (okBd h).2.1
  have hx2 : x < 256 := by omega
  have hy2 : y < 256 := by omega
  go_enter Tryz.func115, Tryz.ntmps115
  go_wp2
  go_ret
  exact ⟨ret_int (Opm.fin4_8 b x y h ⟨hx0, hx1⟩ ⟨hy0, hy1⟩), Below.refl _ _⟩
theorem cl5 (b x y : Int) (w : World) (h : (b = 4 ∨ b = 8)) (hx : 0 ≤ x ∧ x < Wd.pw b) (hy : 0 ≤ y ∧ y < Wd.pw b) : Calls Tryz.prog 116 #[.int .u8 x, .int .u8 y] w fun e w' => e = .returned (.int .u8 (Wd.doOp 5 b x y)) ∧ Below w.heap.size w w' := by
  have hok := okBits h
  obtain ⟨hx0, hx1⟩ := hx
  obtain ⟨hy0, hy1⟩ := hy
  have p1 := (okBd h).1
  have p2 := (okBd h).2.1
  have hx2 : x < 256 := by omega
  have hy2 : y < 256 := by omega
  go_enter Tryz.func116, Tryz.ntmps116
  go_wp2
  go_ret
  exact ⟨ret_int (Opm.fin5_8 b x y h ⟨hx0, hx1⟩ ⟨hy0, hy1⟩), Below.refl _ _⟩
theorem cl14 (b x y : Int) (w : World) (h : (b = 4 ∨ b = 8)) (hx : 0 ≤ x ∧ x < Wd.pw b) (hy : 0 ≤ y ∧ y < Wd.pw b) : Calls Tryz.prog 129 #[.int .u8 x, .int .u8 y] w fun e w' => e = .returned (.int .u8 (Wd.doOp 14 b x y)) ∧ Below w.heap.size w w' := by
  have hok := okBits h
  obtain ⟨hx0, hx1⟩ := hx
  obtain ⟨hy0, hy1⟩ := hy
  have p1 := (okBd h).1
  have p2 := (okBd h).2.1
  have hx2 : x < 256 := by omega
  have hy2 : y < 256 := by omega
  go_enter Tryz.func129, Tryz.ntmps129
  go_wp2
  go_ret
  exact ⟨ret_int (Opm.fin14_8 b x y h ⟨hx0, hx1⟩ ⟨hy0, hy1⟩), Below.refl _ _⟩
theorem cl6 (b x y : Int) (w : World) (h : (b = 4 ∨ b = 8)) (hx : 0 ≤ x ∧ x < Wd.pw b) (hy : 0 ≤ y ∧ y < Wd.pw b) : Calls Tryz.prog 117 #[.int .u8 x, .int .u8 y] w fun e w' => e = .returned (.int .u8 (Wd.doOp 6 b x y)) ∧ Below w.heap.size w w' := by
  have hok := okBits h
  obtain ⟨hx0, hx1⟩ := hx
  obtain ⟨hy0, hy1⟩ := hy
  have p1 := (okBd h).1
  have p2 := (okBd h).2.1
  have hx2 : x < 256 := by omega
  have hy2 : y < 256 := by omega
  rcases (show x < y ∨ (x ≤ y ∧ y ≤ x) ∨ y < x from by omega) with hh | ⟨hh, hh'⟩ | hh
  all_goals
    go_enter Tryz.func117, Tryz.ntmps117
    go_wp2
    go_ret
    exact ⟨ret_int (by simp only [Wd.doOp, reduceIte, Int.reduceEq]; omega), Below.refl _ _⟩
theorem cl7 (b x y : Int) (w : World) (h : (b = 4 ∨ b = 8)) (hx : 0 ≤ x ∧ x < Wd.pw b) (hy : 0 ≤ y ∧ y < Wd.pw b) : Calls Tryz.prog 118 #[.int .u8 x, .int .u8 y] w fun e w' => e = .returned (.int .u8 (Wd.doOp 7 b x y)) ∧ Below w.heap.size w w' := by
  have hok := okBits h
  obtain ⟨hx0, hx1⟩ := hx
  obtain ⟨hy0, hy1⟩ := hy
  have p1 := (okBd h).1
  have p2 := (okBd h).2.1
  have hx2 : x < 256 := by omega
  have hy2 : y < 256 := by omega
  rcases (show x < y ∨ (x ≤ y ∧ y ≤ x) ∨ y < x from by omega) with hh | ⟨hh, hh'⟩ | hh
  all_goals
    go_enter Tryz.func118, Tryz.ntmps118
    go_wp2
    go_ret
    exact ⟨ret_int (by simp only [Wd.doOp, reduceIte, Int.reduceEq]; omega), Below.refl _ _⟩
theorem cl8 (b x y : Int) (sb : Nat) (w : World) (h : (b = 4 ∨ b = 8)) (hx : 0 ≤ x ∧ x < Wd.pw b) (hy : 0 ≤ y ∧ y < Wd.pw b) (hs : w.cell? ⟨sb, 0, none⟩ = some (.int .i64 b)) (hg : ErrT w) : Calls Tryz.prog 119 #[.int .u8 x, .int .u8 y, .pointer (some ⟨sb, 0, none⟩)] w fun e w' => e = .returned (.int .u8 (Wd.doOp 8 b x y)) ∧ Below w.heap.size w w' := by
  have hok := okBits h
  obtain ⟨hx0, hx1⟩ := hx
  obtain ⟨hy0, hy1⟩ := hy
  have p1 := (okBd h).1
  have p2 := (okBd h).2.1
  have hx2 : x < 256 := by omega
  have hy2 : y < 256 := by omega
  have hsl : sb < w.heap.size := World.block_lt_of_cell? w _ hs
  clear hg
  have f1 := Opm.fl_bd b x (okBits h) hx0 hx1
  have f2 := Opm.fl_bd b y (okBits h) hy0 hy1
  obtain ⟨f1a, f1b⟩ := f1
  obtain ⟨f2a, f2b⟩ := f2
  rcases (show Opm.fl b x < Opm.fl b y ∨ (Opm.fl b x ≤ Opm.fl b y ∧ Opm.fl b y ≤ Opm.fl b x) ∨ Opm.fl b y < Opm.fl b x from by omega) with hh | ⟨hh, hh'⟩ | hh
  · go_enter Tryz.func119, Tryz.ntmps119
    go_wp2
    go_region_held3 (fun w' => w'.cell? ⟨sb, 0, none⟩ = some (.int .i64 b)) (first | (refine (Below.cell (B := w.heap.size) (w := w) (p := ⟨sb, 0, none⟩) ?_ hsl).trans hs; (repeat (first | exact Below.refl _ _ | refine Below.drew ?_ | refine Below.alloc ?_ (by first | exact Nat.le_refl _ | (simp; done) | (simp; omega)) _)); done) | (exact (hbel.cell (by simp; omega)).trans (by assumption)) | go_keep)
      (first | (go_at_call 120; refine (flip_any _ _ _ h ?_ ?_).mono ?_; omega; omega; rintro e w' ⟨rfl, rfl⟩))
    go_wp2
    go_ret
    exact ⟨ret_int (Opm.fin8 b x y hok ⟨hx0, hx1⟩ ⟨hy0, hy1⟩ _ (by first | exact .inl ⟨rfl, by omega⟩ | exact .inr ⟨rfl, by omega⟩)), by repeat (first | exact Below.refl _ _ | refine Below.drew ?_ | refine Below.alloc ?_ (by first | exact Nat.le_refl _ | (simp; done) | (simp; omega)) _)⟩
  · go_enter Tryz.func119, Tryz.ntmps119
    go_wp2
    go_region_held3 (fun w' => w'.cell? ⟨sb, 0, none⟩ = some (.int .i64 b)) (first | (refine (Below.cell (B := w.heap.size) (w := w) (p := ⟨sb, 0, none⟩) ?_ hsl).trans hs; (repeat (first | exact Below.refl _ _ | refine Below.drew ?_ | refine Below.alloc ?_ (by first | exact Nat.le_refl _ | (simp; done) | (simp; omega)) _)); done) | (exact (hbel.cell (by simp; omega)).trans (by assumption)) | go_keep)
      (first | (go_at_call 120; refine (flip_any _ _ _ h ?_ ?_).mono ?_; omega; omega; rintro e w' ⟨rfl, rfl⟩))
    go_wp2
    go_ret
    exact ⟨ret_int (Opm.fin8 b x y hok ⟨hx0, hx1⟩ ⟨hy0, hy1⟩ _ (by first | exact .inl ⟨rfl, by omega⟩ | exact .inr ⟨rfl, by omega⟩)), by repeat (first | exact Below.refl _ _ | refine Below.drew ?_ | refine Below.alloc ?_ (by first | exact Nat.le_refl _ | (simp; done) | (simp; omega)) _)⟩
  · go_enter Tryz.func119, Tryz.ntmps119
    go_wp2
    go_region_held3 (fun w' => w'.cell? ⟨sb, 0, none⟩ = some (.int .i64 b)) (first | (refine (Below.cell (B := w.heap.size) (w := w) (p := ⟨sb, 0, none⟩) ?_ hsl).trans hs; (repeat (first | exact Below.refl _ _ | refine Below.drew ?_ | refine Below.alloc ?_ (by first | exact Nat.le_refl _ | (simp; done) | (simp; omega)) _)); done) | (exact (hbel.cell (by simp; omega)).trans (by assumption)) | go_keep)
      (first | (go_at_call 120; refine (flip_any _ _ _ h ?_ ?_).mono ?_; omega; omega; rintro e w' ⟨rfl, rfl⟩))
    go_wp2
    go_ret
    exact ⟨ret_int (Opm.fin8 b x y hok ⟨hx0, hx1⟩ ⟨hy0, hy1⟩ _ (by first | exact .inl ⟨rfl, by omega⟩ | exact .inr ⟨rfl, by omega⟩)), by repeat (first | exact Below.refl _ _ | refine Below.drew ?_ | refine Below.alloc ?_ (by first | exact Nat.le_refl _ | (simp; done) | (simp; omega)) _)⟩
theorem cl9 (b x y : Int) (sb : Nat) (w : World) (h : (b = 4 ∨ b = 8)) (hx : 0 ≤ x ∧ x < Wd.pw b) (hy : 0 ≤ y ∧ y < Wd.pw b) (hs : w.cell? ⟨sb, 0, none⟩ = some (.int .i64 b)) (hg : ErrT w) : Calls Tryz.prog 121 #[.int .u8 x, .int .u8 y, .pointer (some ⟨sb, 0, none⟩)] w fun e w' => e = .returned (.int .u8 (Wd.doOp 9 b x y)) ∧ Below w.heap.size w w' := by
  have hok := okBits h
  obtain ⟨hx0, hx1⟩ := hx
  obtain ⟨hy0, hy1⟩ := hy
  have p1 := (okBd h).1
  have p2 := (okBd h).2.1
  have hx2 : x < 256 := by omega
  have hy2 : y < 256 := by omega
  have hsl : sb < w.heap.size := World.block_lt_of_cell? w _ hs
  clear hg
  have f1 := Opm.fl_bd b x (okBits h) hx0 hx1
  have f2 := Opm.fl_bd b y (okBits h) hy0 hy1
  obtain ⟨f1a, f1b⟩ := f1
  obtain ⟨f2a, f2b⟩ := f2
  rcases (show Opm.fl b x < Opm.fl b y ∨ (Opm.fl b x ≤ Opm.fl b y ∧ Opm.fl b y ≤ Opm.fl b x) ∨ Opm.fl b y < Opm.fl b x from by omega) with hh | ⟨hh, hh'⟩ | hh
  · go_enter Tryz.func121, Tryz.ntmps121
    go_wp2
    go_region_held3 (fun w' => w'.cell? ⟨sb, 0, none⟩ = some (.int .i64 b)) (first | (refine (Below.cell (B := w.heap.size) (w := w) (p := ⟨sb, 0, none⟩) ?_ hsl).trans hs; (repeat (first | exact Below.refl _ _ | refine Below.drew ?_ | refine Below.alloc ?_ (by first | exact Nat.le_refl _ | (simp; done) | (simp; omega)) _)); done) | (exact (hbel.cell (by simp; omega)).trans (by assumption)) | go_keep)
      (first | (go_at_call 120; refine (flip_any _ _ _ h ?_ ?_).mono ?_; omega; omega; rintro e w' ⟨rfl, rfl⟩))
    go_wp2
    go_ret
    exact ⟨ret_int (Opm.fin9 b x y hok ⟨hx0, hx1⟩ ⟨hy0, hy1⟩ _ (by first | exact .inl ⟨rfl, by omega⟩ | exact .inr ⟨rfl, by omega⟩)), by repeat (first | exact Below.refl _ _ | refine Below.drew ?_ | refine Below.alloc ?_ (by first | exact Nat.le_refl _ | (simp; done) | (simp; omega)) _)⟩
  · go_enter Tryz.func121, Tryz.ntmps121
    go_wp2
    go_region_held3 (fun w' => w'.cell? ⟨sb, 0, none⟩ = some (.int .i64 b)) (first | (refine (Below.cell (B := w.heap.size) (w := w) (p := ⟨sb, 0, none⟩) ?_ hsl).trans hs; (repeat (first | exact Below.refl _ _ | refine Below.drew ?_ | refine Below.alloc ?_ (by first | exact Nat.le_refl _ | (simp; done) | (simp; omega)) _)); done) | (exact (hbel.cell (by simp; omega)).trans (by assumption)) | go_keep)
      (first | (go_at_call 120; refine (flip_any _ _ _ h ?_ ?_).mono ?_; omega; omega; rintro e w' ⟨rfl, rfl⟩))
    go_wp2
    go_ret
    exact ⟨ret_int (Opm.fin9 b x y hok ⟨hx0, hx1⟩ ⟨hy0, hy1⟩ _ (by first | exact .inl ⟨rfl, by omega⟩ | exact .inr ⟨rfl, by omega⟩)), by repeat (first | exact Below.refl _ _ | refine Below.drew ?_ | refine Below.alloc ?_ (by first | exact Nat.le_refl _ | (simp; done) | (simp; omega)) _)⟩
  · go_enter Tryz.func121, Tryz.ntmps121
    go_wp2
    go_region_held3 (fun w' => w'.cell? ⟨sb, 0, none⟩ = some (.int .i64 b)) (first | (refine (Below.cell (B := w.heap.size) (w := w) (p := ⟨sb, 0, none⟩) ?_ hsl).trans hs; (repeat (first | exact Below.refl _ _ | refine Below.drew ?_ | refine Below.alloc ?_ (by first | exact Nat.le_refl _ | (simp; done) | (simp; omega)) _)); done) | (exact (hbel.cell (by simp; omega)).trans (by assumption)) | go_keep)
      (first | (go_at_call 120; refine (flip_any _ _ _ h ?_ ?_).mono ?_; omega; omega; rintro e w' ⟨rfl, rfl⟩))
    go_wp2
    go_ret
    exact ⟨ret_int (Opm.fin9 b x y hok ⟨hx0, hx1⟩ ⟨hy0, hy1⟩ _ (by first | exact .inl ⟨rfl, by omega⟩ | exact .inr ⟨rfl, by omega⟩)), by repeat (first | exact Below.refl _ _ | refine Below.drew ?_ | refine Below.alloc ?_ (by first | exact Nat.le_refl _ | (simp; done) | (simp; omega)) _)⟩
theorem cl10 (b x y : Int) (sb : Nat) (w : World) (h : (b = 4 ∨ b = 8)) (hx : 0 ≤ x ∧ x < Wd.pw b) (hy : 0 ≤ y ∧ y < Wd.pw b) (hs : w.cell? ⟨sb, 0, none⟩ = some (.int .i64 b)) (hg : ErrT w) : Calls Tryz.prog 122 #[.int .u8 x, .int .u8 y, .pointer (some ⟨sb, 0, none⟩)] w fun e w' => e = .returned (.int .u8 (Wd.doOp 10 b x y)) ∧ Below w.heap.size w w' := by
  have hok := okBits h
  obtain ⟨hx0, hx1⟩ := hx
  obtain ⟨hy0, hy1⟩ := hy
  have p1 := (okBd h).1
  have p2 := (okBd h).2.1
  have hx2 : x < 256 := by omega
  have hy2 : y < 256 := by omega
  have hsl : sb < w.heap.size := World.block_lt_of_cell? w _ hs
  go_enter Tryz.func122, Tryz.ntmps122
  go_wp2_with (go_at_call 123; refine (saturateU_any _ _ _ h hg).mono ?_; rintro e w' ⟨rfl, hbel⟩)
  go_ret
  exact ⟨ret_int (fin10 b x y ⟨hx0, hx1⟩ ⟨hy0, hy1⟩), hbel⟩
theorem cl12 (b x y : Int) (sb : Nat) (w : World) (h : (b = 4 ∨ b = 8)) (hx : 0 ≤ x ∧ x < Wd.pw b) (hy : 0 ≤ y ∧ y < Wd.pw b) (hs : w.cell? ⟨sb, 0, none⟩ = some (.int .i64 b)) (hg : ErrT w) : Calls Tryz.prog 127 #[.int .u8 x, .int .u8 y, .pointer (some ⟨sb, 0, none⟩)] w fun e w' => e = .returned (.int .u8 (Wd.doOp 12 b x y)) ∧ Below w.heap.size w w' := by
  have hok := okBits h
  obtain ⟨hx0, hx1⟩ := hx
  obtain ⟨hy0, hy1⟩ := hy
  have p1 := (okBd h).1
  have p2 := (okBd h).2.1
  have hx2 : x < 256 := by omega
  have hy2 : y < 256 := by omega
  have hsl : sb < w.heap.size := World.block_lt_of_cell? w _ hs
  go_enter Tryz.func127, Tryz.ntmps127
  go_wp2_with (go_at_call 123; refine (saturateU_any _ _ _ h hg).mono ?_; rintro e w' ⟨rfl, hbel⟩)
  go_ret
  exact ⟨ret_int (fin12 b x y ⟨hx0, hx1⟩ ⟨hy0, hy1⟩), hbel⟩
theorem cl11 (b x y : Int) (sb : Nat) (w : World) (h : (b = 4 ∨ b = 8)) (hx : 0 ≤ x ∧ x < Wd.pw b) (hy : 0 ≤ y ∧ y < Wd.pw b) (hs : w.cell? ⟨sb, 0, none⟩ = some (.int .i64 b)) (hg : ErrT w) : Calls Tryz.prog 124 #[.int .u8 x, .int .u8 y, .pointer (some ⟨sb, 0, none⟩)] w fun e w' => e = .returned (.int .u8 (Wd.doOp 11 b x y)) ∧ Below w.heap.size w w' := by
  have hok := okBits h
  obtain ⟨hx0, hx1⟩ := hx
  obtain ⟨hy0, hy1⟩ := hy
  have p1 := (okBd h).1
  have p2 := (okBd h).2.1
  have hx2 : x < 256 := by omega
  have hy2 : y < 256 := by omega
  have hsl : sb < w.heap.size := World.block_lt_of_cell? w _ hs
  have s1 := Wd.sg_range (okBits h) ⟨hx0, hx1⟩
  have s2 := Wd.sg_range (okBits h) ⟨hy0, hy1⟩
  have e1 : IntKind.i64.wrap (Wd.sg b x + Wd.sg b y) = Wd.sg b x + Wd.sg b y := IntWalk.i64_in _ (by omega)
  obtain ⟨s1a, s1b, _, s1d, s1e⟩ := s1
  obtain ⟨s2a, s2b, _, s2d, s2e⟩ := s2
  have HG := Lib.hid hg; clear hg
  go_enter Tryz.func124, Tryz.ntmps124
  go_wp2
  go_region_held3 (fun w' => w'.cell? ⟨sb, 0, none⟩ = some (.int .i64 b)) (first | (refine (Below.cell (B := w.heap.size) (w := w) (p := ⟨sb, 0, none⟩) ?_ hsl).trans hs; (repeat (first | exact Below.refl _ _ | refine Below.drew ?_ | refine Below.alloc ?_ (by first | exact Nat.le_refl _ | (simp; done) | (simp; omega)) _)); done) | (exact (hbel.cell (by simp; omega)).trans (by assumption)) | go_keep)
    (first | (go_at_call 126; refine (msigned_any _ _ _ h ?_ ?_).mono ?_; omega; omega; rintro e w' ⟨rfl, rfl⟩) | (go_at_call 125; refine (saturateS_any _ _ _ h ?_).mono ?_; (exact HG.out.below (by repeat (first | exact Below.refl _ _ | refine Below.drew ?_ | refine Below.alloc ?_ (by first | exact Nat.le_refl _ | (simp; done) | (simp; omega)) _)) HG.out.lt); rintro e w' ⟨rfl, hbel⟩))
  go_wp2
  go_ret
  exact ⟨ret_int (fin11 b x y), (show Below w.heap.size w _ from by repeat (first | exact Below.refl _ _ | refine Below.drew ?_ | refine Below.alloc ?_ (by first | exact Nat.le_refl _ | (simp; done) | (simp; omega)) _)).trans (hbel.mono (by simp; omega))⟩
theorem cl13 (b x y : Int) (sb : Nat) (w : World) (h : (b = 4 ∨ b = 8)) (hx : 0 ≤ x ∧ x < Wd.pw b) (hy : 0 ≤ y ∧ y < Wd.pw b) (hs : w.cell? ⟨sb, 0, none⟩ = some (.int .i64 b)) (hg : ErrT w) : Calls Tryz.prog 128 #[.int .u8 x, .int .u8 y, .pointer (some ⟨sb, 0, none⟩)] w fun e w' => e = .returned (.int .u8 (Wd.doOp 13 b x y)) ∧ Below w.heap.size w w' := by
  have hok := okBits h
  obtain ⟨hx0, hx1⟩ := hx
  obtain ⟨hy0, hy1⟩ := hy
  have p1 := (okBd h).1
  have p2 := (okBd h).2.1
  have hx2 : x < 256 := by omega
  have hy2 : y < 256 := by omega
  have hsl : sb < w.heap.size := World.block_lt_of_cell? w _ hs
  have s1 := Wd.sg_range (okBits h) ⟨hx0, hx1⟩
  have s2 := Wd.sg_range (okBits h) ⟨hy0, hy1⟩
  have e1 : IntKind.i64.wrap (Wd.sg b x - Wd.sg b y) = Wd.sg b x - Wd.sg b y := IntWalk.i64_in _ (by omega)
  obtain ⟨s1a, s1b, _, s1d, s1e⟩ := s1
  obtain ⟨s2a, s2b, _, s2d, s2e⟩ := s2
  have HG := Lib.hid hg; clear hg
  go_enter Tryz.func128, Tryz.ntmps128
  go_wp2
  go_region_held3 (fun w' => w'.cell? ⟨sb, 0, none⟩ = some (.int .i64 b)) (first | (refine (Below.cell (B := w.heap.size) (w := w) (p := ⟨sb, 0, none⟩) ?_ hsl).trans hs; (repeat (first | exact Below.refl _ _ | refine Below.drew ?_ | refine Below.alloc ?_ (by first | exact Nat.le_refl _ | (simp; done) | (simp; omega)) _)); done) | (exact (hbel.cell (by simp; omega)).trans (by assumption)) | go_keep)
    (first | (go_at_call 126; refine (msigned_any _ _ _ h ?_ ?_).mono ?_; omega; omega; rintro e w' ⟨rfl, rfl⟩) | (go_at_call 125; refine (saturateS_any _ _ _ h ?_).mono ?_; (exact HG.out.below (by repeat (first | exact Below.refl _ _ | refine Below.drew ?_ | refine Below.alloc ?_ (by first | exact Nat.le_refl _ | (simp; done) | (simp; omega)) _)) HG.out.lt); rintro e w' ⟨rfl, hbel⟩))
  go_wp2
  go_ret
  exact ⟨ret_int (fin13 b x y), (show Below w.heap.size w _ from by repeat (first | exact Below.refl _ _ | refine Below.drew ?_ | refine Below.alloc ?_ (by first | exact Nat.le_refl _ | (simp; done) | (simp; omega)) _)).trans (hbel.mono (by simp; omega))⟩
theorem cl15 (b x y : Int) (sb : Nat) (w : World) (h : (b = 4 ∨ b = 8)) (hx : 0 ≤ x ∧ x < Wd.pw b) (hy : 0 ≤ y ∧ y < Wd.pw b) (hs : w.cell? ⟨sb, 0, none⟩ = some (.int .i64 b)) (hg : ErrT w) : Calls Tryz.prog 130 #[.int .u8 x, .int .u8 y, .pointer (some ⟨sb, 0, none⟩)] w fun e w' => e = .returned (.int .u8 (Wd.doOp 15 b x y)) ∧ Below w.heap.size w w' := by
  have hok := okBits h
  obtain ⟨hx0, hx1⟩ := hx
  obtain ⟨hy0, hy1⟩ := hy
  have p1 := (okBd h).1
  have p2 := (okBd h).2.1
  have hx2 : x < 256 := by omega
  have hy2 : y < 256 := by omega
  have hsl : sb < w.heap.size := World.block_lt_of_cell? w _ hs
  clear hg
  have p3 : 4 ≤ b := (okBd h).2.2.2.1
  have p4 : b ≤ 8 := (okBd h).2.2.2.2
  have k0 : 0 ≤ y % b := Int.emod_nonneg _ (by omega)
  have k1 : y % b < 8 := by have := Int.emod_lt_of_pos y (show 0 < b by omega); omega
  go_enter Tryz.func130, Tryz.ntmps130
  go_wp2
  go_region_held3 (fun w' => w'.cell? ⟨sb, 0, none⟩ = some (.int .i64 b)) (first | (refine (Below.cell (B := w.heap.size) (w := w) (p := ⟨sb, 0, none⟩) ?_ hsl).trans hs; (repeat (first | exact Below.refl _ _ | refine Below.drew ?_ | refine Below.alloc ?_ (by first | exact Nat.le_refl _ | (simp; done) | (simp; omega)) _)); done) | (exact (hbel.cell (by simp; omega)).trans (by assumption)) | go_keep)
    (first | (go_at_call 131; refine (shift_any _ _ _ h ?_ ?_).mono ?_; omega; omega; rintro e w' ⟨rfl, rfl⟩) | (go_at_call 126; refine (msigned_any _ _ _ h ?_ ?_).mono ?_; omega; omega; rintro e w' ⟨rfl, rfl⟩) | (go_at_call 111; refine (cut_any _ _ _ h ?_ ?_).mono ?_; (first | omega | exact Opm.wlo_u8 _); (first | omega | exact Opm.whi_u8 _); rintro e w' ⟨rfl, rfl⟩))
  go_wp2
  go_ret
  exact ⟨ret_int (Opm.fin15_8 b x y h ⟨hx0, hx1⟩ ⟨hy0, hy1⟩), by repeat (first | exact Below.refl _ _ | refine Below.drew ?_ | refine Below.alloc ?_ (by first | exact Nat.le_refl _ | (simp; done) | (simp; omega)) _)⟩
theorem cl16 (b x y : Int) (sb : Nat) (w : World) (h : (b = 4 ∨ b = 8)) (hx : 0 ≤ x ∧ x < Wd.pw b) (hy : 0 ≤ y ∧ y < Wd.pw b) (hs : w.cell? ⟨sb, 0, none⟩ = some (.int .i64 b)) (hg : ErrT w) : Calls Tryz.prog 132 #[.int .u8 x, .int .u8 y, .pointer (some ⟨sb, 0, none⟩)] w fun e w' => e = .returned (.int .u8 (Wd.doOp 16 b x y)) ∧ Below w.heap.size w w' := by
  have hok := okBits h
  obtain ⟨hx0, hx1⟩ := hx
  obtain ⟨hy0, hy1⟩ := hy
  have p1 := (okBd h).1
  have p2 := (okBd h).2.1
  have hx2 : x < 256 := by omega
  have hy2 : y < 256 := by omega
  have hsl : sb < w.heap.size := World.block_lt_of_cell? w _ hs
  clear hg
  have p3 : 4 ≤ b := (okBd h).2.2.2.1
  have p4 : b ≤ 8 := (okBd h).2.2.2.2
  have k0 : 0 ≤ y % b := Int.emod_nonneg _ (by omega)
  have k1 : y % b < 8 := by have := Int.emod_lt_of_pos y (show 0 < b by omega); omega
  go_enter Tryz.func132, Tryz.ntmps132
  go_wp2_with (go_at_call 131; refine (shift_any _ _ _ h (by omega) (by omega)).mono ?_; rintro e w' ⟨rfl, rfl⟩)
  go_ret
  exact ⟨ret_int (Opm.fin16_8 b x y h ⟨hx0, hx1⟩ ⟨hy0, hy1⟩), (Below.refl _ _).alloc (Nat.le_refl _) _⟩
theorem cl17 (b x y : Int) (sb : Nat) (w : World) (h : (b = 4 ∨ b = 8)) (hx : 0 ≤ x ∧ x < Wd.pw b) (hy : 0 ≤ y ∧ y < Wd.pw b) (hs : w.cell? ⟨sb, 0, none⟩ = some (.int .i64 b)) (hg : ErrT w) : Calls Tryz.prog 133 #[.int .u8 x, .int .u8 y, .pointer (some ⟨sb, 0, none⟩)] w fun e w' => e = .returned (.int .u8 (Wd.doOp 17 b x y)) ∧ Below w.heap.size w w' := by
  have hok := okBits h
  obtain ⟨hx0, hx1⟩ := hx
  obtain ⟨hy0, hy1⟩ := hy
  have p1 := (okBd h).1
  have p2 := (okBd h).2.1
  have hx2 : x < 256 := by omega
  have hy2 : y < 256 := by omega
  have hsl : sb < w.heap.size := World.block_lt_of_cell? w _ hs
  clear hg
  have p3 : 4 ≤ b := (okBd h).2.2.2.1
  have p4 : b ≤ 8 := (okBd h).2.2.2.2
  have k0 : 0 ≤ y % b := Int.emod_nonneg _ (by omega)
  have k1 : y % b < 8 := by have := Int.emod_lt_of_pos y (show 0 < b by omega); omega
  go_enter Tryz.func133, Tryz.ntmps133
  go_wp2
  go_region_held3 (fun w' => w'.cell? ⟨sb, 0, none⟩ = some (.int .i64 b)) (first | (refine (Below.cell (B := w.heap.size) (w := w) (p := ⟨sb, 0, none⟩) ?_ hsl).trans hs; (repeat (first | exact Below.refl _ _ | refine Below.drew ?_ | refine Below.alloc ?_ (by first | exact Nat.le_refl _ | (simp; done) | (simp; omega)) _)); done) | (exact (hbel.cell (by simp; omega)).trans (by assumption)) | go_keep)
    (first | (go_at_call 131; refine (shift_any _ _ _ h ?_ ?_).mono ?_; omega; omega; rintro e w' ⟨rfl, rfl⟩) | (go_at_call 126; refine (msigned_any _ _ _ h ?_ ?_).mono ?_; omega; omega; rintro e w' ⟨rfl, rfl⟩) | (go_at_call 111; refine (cut_any _ _ _ h ?_ ?_).mono ?_; (first | omega | exact Opm.wlo_u8 _); (first | omega | exact Opm.whi_u8 _); rintro e w' ⟨rfl, rfl⟩))
  go_wp2
  go_ret
  exact ⟨ret_int (Opm.fin17_8 b x y h ⟨hx0, hx1⟩ ⟨hy0, hy1⟩), by repeat (first | exact Below.refl _ _ | refine Below.drew ?_ | refine Below.alloc ?_ (by first | exact Nat.le_refl _ | (simp; done) | (simp; omega)) _)⟩
end Go.Proofs.YtacbcjlpajmkhaaGreatDoor.Op8
