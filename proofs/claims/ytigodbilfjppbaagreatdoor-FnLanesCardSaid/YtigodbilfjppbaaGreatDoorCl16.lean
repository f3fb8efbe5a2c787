/-
  What the eighteen operations on words held in a uint16 return and do to memory, over the translated program: one contract each.
-/
import Derived.Test.YtigodbilfjppbaaGreatDoorOp16
import Derived.WalkLawsBesides
namespace Go.Proofs.YtigodbilfjppbaaGreatDoor.Op16
open Go.RowKit Go.Proofs.YtigodbilfjppbaaGreatDoor.Err Go.Proofs.YtigodbilfjppbaaGreatDoor.Wds
set_option linter.unusedVariables false

theorem cl0 (b x y : Int) (sb : Nat) (w : World) (h : (16 ≤ b ∧ b ≤ 16)) (hx : 0 ≤ x ∧ x < Wd.pw b) (hy : 0 ≤ y ∧ y < Wd.pw b) (hs : w.cell? ⟨sb, 0, none⟩ = some (.int .i64 b)) (hg : ErrT w) : Calls Tryz.prog 55 #[.int .u16 x, .int .u16 y, .pointer (some ⟨sb, 0, none⟩)] w fun e w' => e = .returned (.int .u16 (Wd.doOp 0 b x y)) ∧ Below w.heap.size w w' := by
  have hok := okBits h
  obtain ⟨hx0, hx1⟩ := hx
  obtain ⟨hy0, hy1⟩ := hy
  have p1 := (okBd h).1
  have p2 := (okBd h).2.1
  have hx2 : x < 65536 := by omega
  have hy2 : y < 65536 := by omega
  have hsl : sb < w.heap.size := World.block_lt_of_cell? w _ hs
  clear hg
  have e1 := Opm.wrap_u16 (x + y)
  go_enter Tryz.func55, Tryz.ntmps55
  go_wp2_with fail
  refine (cut_any _ _ _ h (by omega) (by omega)).mono ?_
  rintro e w' ⟨rfl, rfl⟩
  go_wp2_with fail
  go_ret
  exact ⟨ret_int (Opm.fin0_16 b x y h ⟨hx0, hx1⟩ ⟨hy0, hy1⟩), (Below.refl _ _).alloc (Nat.le_refl _) _⟩
theorem cl1 (b x y : Int) (sb : Nat) (w : World) (h : (16 ≤ b ∧ b ≤ 16)) (hx : 0 ≤ x ∧ x < Wd.pw b) (hy : 0 ≤ y ∧ y < Wd.pw b) (hs : w.cell? ⟨sb, 0, none⟩ = some (.int .i64 b)) (hg : ErrT w) : Calls Tryz.prog 57 #[.int .u16 x, .int .u16 y, .pointer (some ⟨sb, 0, none⟩)] w fun e w' => e = .returned (.int .u16 (Wd.doOp 1 b x y)) ∧ Below w.heap.size w w' := by
  have hok := okBits h
  obtain ⟨hx0, hx1⟩ := hx
  obtain ⟨hy0, hy1⟩ := hy
  have p1 := (okBd h).1
  have p2 := (okBd h).2.1
  have hx2 : x < 65536 := by omega
  have hy2 : y < 65536 := by omega
  have hsl : sb < w.heap.size := World.block_lt_of_cell? w _ hs
  clear hg
  have e1 := Opm.wrap_u16 (x - y)
  go_enter Tryz.func57, Tryz.ntmps57
  go_wp2_with fail
  refine (cut_any _ _ _ h (by omega) (by omega)).mono ?_
  rintro e w' ⟨rfl, rfl⟩
  go_wp2_with fail
  go_ret
  exact ⟨ret_int (Opm.fin1_16 b x y h ⟨hx0, hx1⟩ ⟨hy0, hy1⟩), (Below.refl _ _).alloc (Nat.le_refl _) _⟩
theorem cl2 (b x y : Int) (sb : Nat) (w : World) (h : (16 ≤ b ∧ b ≤ 16)) (hx : 0 ≤ x ∧ x < Wd.pw b) (hy : 0 ≤ y ∧ y < Wd.pw b) (hs : w.cell? ⟨sb, 0, none⟩ = some (.int .i64 b)) (hg : ErrT w) : Calls Tryz.prog 58 #[.int .u16 x, .int .u16 y, .pointer (some ⟨sb, 0, none⟩)] w fun e w' => e = .returned (.int .u16 (Wd.doOp 2 b x y)) ∧ Below w.heap.size w w' := by
  have hok := okBits h
  obtain ⟨hx0, hx1⟩ := hx
  obtain ⟨hy0, hy1⟩ := hy
  have p1 := (okBd h).1
  have p2 := (okBd h).2.1
  have hx2 : x < 65536 := by omega
  have hy2 : y < 65536 := by omega
  have hsl : sb < w.heap.size := World.block_lt_of_cell? w _ hs
  clear hg
  have m0 : 0 ≤ x * y := Int.mul_nonneg hx0 hy0
  have e1 := Opm.wrap_u16 (x * y)
  go_enter Tryz.func58, Tryz.ntmps58
  go_wp2_with fail
  refine (cut_any _ _ _ h (by omega) (by omega)).mono ?_
  rintro e w' ⟨rfl, rfl⟩
  go_wp2_with fail
  go_ret
  exact ⟨ret_int (Opm.fin2_16 b x y h ⟨hx0, hx1⟩ ⟨hy0, hy1⟩), (Below.refl _ _).alloc (Nat.le_refl _) _⟩
theorem cl3 (b x y : Int) (w : World) (h : (16 ≤ b ∧ b ≤ 16)) (hx : 0 ≤ x ∧ x < Wd.pw b) (hy : 0 ≤ y ∧ y < Wd.pw b) : Calls Tryz.prog 59 #[.int .u16 x, .int .u16 y] w fun e w' => e = .returned (.int .u16 (Wd.doOp 3 b x y)) ∧ Below w.heap.size w w' := by
  have hok := okBits h
  obtain ⟨hx0, hx1⟩ := hx
  obtain ⟨hy0, hy1⟩ := hy
  have p1 := (okBd h).1
  have p2 := (okBd h).2.1
  have hx2 : x < 65536 := by omega
  have hy2 : y < 65536 := by omega
  go_enter Tryz.func59, Tryz.ntmps59
  go_wp2
  go_ret
  exact ⟨ret_int (Opm.fin3_16 b x y h ⟨hx0, hx1⟩ ⟨hy0, hy1⟩), Below.refl _ _⟩
theorem cl4 (b x y : Int) (w : World) (h : (16 ≤ b ∧ b ≤ 16)) (hx : 0 ≤ x ∧ x < Wd.pw b) (hy : 0 ≤ y ∧ y < Wd.pw b) : Calls Tryz.prog 60 #[.int .u16 x, .int .u16 y] w fun e w' => e = .returned (.int .u16 (Wd.doOp 4 b x y)) ∧ Below w.heap.size w w' := by
  have hok := okBits h
  obtain ⟨hx0, hx1⟩ := hx
  obtain ⟨hy0, hy1⟩ := hy
  have p1 := (okBd h).1
  have p2 := (okBd h).2.1
  have hx2 : x < 65536 := by omega
  have hy2 : y < 65536 := by omega
  go_enter Tryz.func60, Tryz.ntmps60
  go_wp2
  go_ret
  exact ⟨ret_int (Opm.fin4_16 b x y h ⟨hx0, hx1⟩ ⟨hy0, hy1⟩), Below.refl _ _⟩
theorem cl5 (b x y : Int) (w : World) (h : (16 ≤ b ∧ b ≤ 16)) (hx : 0 ≤ x ∧ x < Wd.pw b) (hy : 0 ≤ y ∧ y < Wd.pw b) : Calls Tryz.prog 61 #[.int .u16 x, .int .u16 y] w fun e w' => e = .returned (.int .u16 (Wd.doOp 5 b x y)) ∧ Below w.heap.size w w' := by
  have hok := okBits h
  obtain ⟨hx0, hx1⟩ := hx
  obtain ⟨hy0, hy1⟩ := hy
  have p1 := (okBd h).1
  have p2 := (okBd h).2.1
  have hx2 : x < 65536 := by omega
  have hy2 : y < 65536 := by omega
  go_enter Tryz.func61, Tryz.ntmps61
  go_wp2
  go_ret
  exact ⟨ret_int (Opm.fin5_16 b x y h ⟨hx0, hx1⟩ ⟨hy0, hy1⟩), Below.refl _ _⟩
theorem cl14 (b x y : Int) (w : World) (h : (16 ≤ b ∧ b ≤ 16)) (hx : 0 ≤ x ∧ x < Wd.pw b) (hy : 0 ≤ y ∧ y < Wd.pw b) : Calls Tryz.prog 74 #[.int .u16 x, .int .u16 y] w fun e w' => e = .returned (.int .u16 (Wd.doOp 14 b x y)) ∧ Below w.heap.size w w' := by
  have hok := okBits h
  obtain ⟨hx0, hx1⟩ := hx
  obtain ⟨hy0, hy1⟩ := hy
  have p1 := (okBd h).1
  have p2 := (okBd h).2.1
  have hx2 : x < 65536 := by omega
  have hy2 : y < 65536 := by omega
  go_enter Tryz.func74, Tryz.ntmps74
  go_wp2
  go_ret
  exact ⟨ret_int (Opm.fin14_16 b x y h ⟨hx0, hx1⟩ ⟨hy0, hy1⟩), Below.refl _ _⟩
theorem cl6 (b x y : Int) (w : World) (h : (16 ≤ b ∧ b ≤ 16)) (hx : 0 ≤ x ∧ x < Wd.pw b) (hy : 0 ≤ y ∧ y < Wd.pw b) : Calls Tryz.prog 62 #[.int .u16 x, .int .u16 y] w fun e w' => e = .returned (.int .u16 (Wd.doOp 6 b x y)) ∧ Below w.heap.size w w' := by
  have hok := okBits h
  obtain ⟨hx0, hx1⟩ := hx
  obtain ⟨hy0, hy1⟩ := hy
  have p1 := (okBd h).1
  have p2 := (okBd h).2.1
  have hx2 : x < 65536 := by omega
  have hy2 : y < 65536 := by omega
  rcases (show x < y ∨ (x ≤ y ∧ y ≤ x) ∨ y < x from by omega) with hh | ⟨hh, hh'⟩ | hh
  all_goals
    go_enter Tryz.func62, Tryz.ntmps62
    go_wp2
    go_ret
    exact ⟨ret_int (by simp only [Wd.doOp, reduceIte, Int.reduceEq]; omega), Below.refl _ _⟩
theorem cl7 (b x y : Int) (w : World) (h : (16 ≤ b ∧ b ≤ 16)) (hx : 0 ≤ x ∧ x < Wd.pw b) (hy : 0 ≤ y ∧ y < Wd.pw b) : Calls Tryz.prog 63 #[.int .u16 x, .int .u16 y] w fun e w' => e = .returned (.int .u16 (Wd.doOp 7 b x y)) ∧ Below w.heap.size w w' := by
  have hok := okBits h
  obtain ⟨hx0, hx1⟩ := hx
  obtain ⟨hy0, hy1⟩ := hy
  have p1 := (okBd h).1
  have p2 := (okBd h).2.1
  have hx2 : x < 65536 := by omega
  have hy2 : y < 65536 := by omega
  rcases (show x < y ∨ (x ≤ y ∧ y ≤ x) ∨ y < x from by omega) with hh | ⟨hh, hh'⟩ | hh
  all_goals
    go_enter Tryz.func63, Tryz.ntmps63
    go_wp2
    go_ret
    exact ⟨ret_int (by simp only [Wd.doOp, reduceIte, Int.reduceEq]; omega), Below.refl _ _⟩
theorem cl8 (b x y : Int) (sb : Nat) (w : World) (h : (16 ≤ b ∧ b ≤ 16)) (hx : 0 ≤ x ∧ x < Wd.pw b) (hy : 0 ≤ y ∧ y < Wd.pw b) (hs : w.cell? ⟨sb, 0, none⟩ = some (.int .i64 b)) (hg : ErrT w) : Calls Tryz.prog 64 #[.int .u16 x, .int .u16 y, .pointer (some ⟨sb, 0, none⟩)] w fun e w' => e = .returned (.int .u16 (Wd.doOp 8 b x y)) ∧ Below w.heap.size w w' := by
  have hok := okBits h
  obtain ⟨hx0, hx1⟩ := hx
  obtain ⟨hy0, hy1⟩ := hy
  have p1 := (okBd h).1
  have p2 := (okBd h).2.1
  have hx2 : x < 65536 := by omega
  have hy2 : y < 65536 := by omega
  have hsl : sb < w.heap.size := World.block_lt_of_cell? w _ hs
  clear hg
  have f1 := Opm.fl_bd b x (okBits h) hx0 hx1
  have f2 := Opm.fl_bd b y (okBits h) hy0 hy1
  obtain ⟨f1a, f1b⟩ := f1
  obtain ⟨f2a, f2b⟩ := f2
  rcases (show Opm.fl b x < Opm.fl b y ∨ (Opm.fl b x ≤ Opm.fl b y ∧ Opm.fl b y ≤ Opm.fl b x) ∨ Opm.fl b y < Opm.fl b x from by omega) with hh | ⟨hh, hh'⟩ | hh
  · go_enter Tryz.func64, Tryz.ntmps64
    go_wp2
    go_region_held3 (fun w' => w'.cell? ⟨sb, 0, none⟩ = some (.int .i64 b)) (first | (refine (Below.cell (B := w.heap.size) (w := w) (p := ⟨sb, 0, none⟩) ?_ hsl).trans hs; (repeat (first | exact Below.refl _ _ | refine Below.drew ?_ | refine Below.alloc ?_ (by first | exact Nat.le_refl _ | (simp; done) | (simp; omega)) _)); done) | (exact (hbel.cell (by simp; omega)).trans (by assumption)) | go_keep)
      (first | (go_at_call 65; refine (flip_any _ _ _ h ?_ ?_).mono ?_; omega; omega; rintro e w' ⟨rfl, rfl⟩))
    go_wp2
    go_ret
    exact ⟨ret_int (Opm.fin8 b x y hok ⟨hx0, hx1⟩ ⟨hy0, hy1⟩ _ (by first | exact .inl ⟨rfl, by omega⟩ | exact .inr ⟨rfl, by omega⟩)), by repeat (first | exact Below.refl _ _ | refine Below.drew ?_ | refine Below.alloc ?_ (by first | exact Nat.le_refl _ | (simp; done) | (simp; omega)) _)⟩
  · go_enter Tryz.func64, Tryz.ntmps64
    go_wp2
    go_region_held3 (fun w' => w'.cell? ⟨sb, 0, none⟩ = some (.int .i64 b)) (first | (refine (Below.cell (B := w.heap.size) (w := w) (p := ⟨sb, 0, none⟩) ?_ hsl).trans hs; (repeat (first | exact Below.refl _ _ | refine Below.drew ?_ | refine Below.alloc ?_ (by first | exact Nat.le_refl _ | (simp; done) | (simp; omega)) _)); done) | (exact (hbel.cell (by simp; omega)).trans (by assumption)) | go_keep)
      (first | (go_at_call 65; refine (flip_any _ _ _ h ?_ ?_).mono ?_; omega; omega; rintro e w' ⟨rfl, rfl⟩))
    go_wp2
    go_ret
    exact ⟨ret_int (Opm.fin8 b x y hok ⟨hx0, hx1⟩ ⟨hy0, hy1⟩ _ (by first | exact .inl ⟨rfl, by omega⟩ | exact .inr ⟨rfl, by omega⟩)), by repeat (first | exact Below.refl _ _ | refine Below.drew ?_ | refine Below.alloc ?_ (by first | exact Nat.le_refl _ | (simp; done) | (simp; omega)) _)⟩
  · go_enter Tryz.func64, Tryz.ntmps64
    go_wp2
    go_region_held3 (fun w' => w'.cell? ⟨sb, 0, none⟩ = some (.int .i64 b)) (first | (refine (Below.cell (B := w.heap.size) (w := w) (p := ⟨sb, 0, none⟩) ?_ hsl).trans hs; (repeat (first | exact Below.refl _ _ | refine Below.drew ?_ | refine Below.alloc ?_ (by first | exact Nat.le_refl _ | (simp; done) | (simp; omega)) _)); done) | (exact (hbel.cell (by simp; omega)).trans (by assumption)) | go_keep)
      (first | (go_at_call 65; refine (flip_any _ _ _ h ?_ ?_).mono ?_; omega; omega; rintro e w' ⟨rfl, rfl⟩))
    go_wp2
    go_ret
    exact ⟨ret_int (Opm.fin8 b x y hok ⟨hx0, hx1⟩ ⟨hy0, hy1⟩ _ (by first | exact .inl ⟨rfl, by omega⟩ | exact .inr ⟨rfl, by omega⟩)), by repeat (first | exact Below.refl _ _ | refine Below.drew ?_ | refine Below.alloc ?_ (by first | exact Nat.le_refl _ | (simp; done) | (simp; omega)) _)⟩
theorem cl9 (b x y : Int) (sb : Nat) (w : World) (h : (16 ≤ b ∧ b ≤ 16)) (hx : 0 ≤ x ∧ x < Wd.pw b) (hy : 0 ≤ y ∧ y < Wd.pw b) (hs : w.cell? ⟨sb, 0, none⟩ = some (.int .i64 b)) (hg : ErrT w) : Calls Tryz.prog 66 #[.int .u16 x, .int .u16 y, .pointer (some ⟨sb, 0, none⟩)] w fun e w' => e = .returned (.int .u16 (Wd.doOp 9 b x y)) ∧ Below w.heap.size w w' := by
  have hok := okBits h
  obtain ⟨hx0, hx1⟩ := hx
  obtain ⟨hy0, hy1⟩ := hy
  have p1 := (okBd h).1
  have p2 := (okBd h).2.1
  have hx2 : x < 65536 := by omega
  have hy2 : y < 65536 := by omega
  have hsl : sb < w.heap.size := World.block_lt_of_cell? w _ hs
  clear hg
  have f1 := Opm.fl_bd b x (okBits h) hx0 hx1
  have f2 := Opm.fl_bd b y (okBits h) hy0 hy1
  obtain ⟨f1a, f1b⟩ := f1
  obtain ⟨f2a, f2b⟩ := f2
  rcases (show Opm.fl b x < Opm.fl b y ∨ (Opm.fl b x ≤ Opm.fl b y ∧ Opm.fl b y ≤ Opm.fl b x) ∨ Opm.fl b y < Opm.fl b x from by omega) with hh | ⟨hh, hh'⟩ | hh
  · go_enter Tryz.func66, Tryz.ntmps66
    go_wp2
    go_region_held3 (fun w' => w'.cell? ⟨sb, 0, none⟩ = some (.int .i64 b)) (first | (refine (Below.cell (B := w.heap.size) (w := w) (p := ⟨sb, 0, none⟩) ?_ hsl).trans hs; (repeat (first | exact Below.refl _ _ | refine Below.drew ?_ | refine Below.alloc ?_ (by first | exact Nat.le_refl _ | (simp; done) | (simp; omega)) _)); done) | (exact (hbel.cell (by simp; omega)).trans (by assumption)) | go_keep)
      (first | (go_at_call 65; refine (flip_any _ _ _ h ?_ ?_).mono ?_; omega; omega; rintro e w' ⟨rfl, rfl⟩))
    go_wp2
    go_ret
    exact ⟨ret_int (Opm.fin9 b x y hok ⟨hx0, hx1⟩ ⟨hy0, hy1⟩ _ (by first | exact .inl ⟨rfl, by omega⟩ | exact .inr ⟨rfl, by omega⟩)), by repeat (first | exact Below.refl _ _ | refine Below.drew ?_ | refine Below.alloc ?_ (by first | exact Nat.le_refl _ | (simp; done) | (simp; omega)) _)⟩
  · go_enter Tryz.func66, Tryz.ntmps66
    go_wp2
    go_region_held3 (fun w' => w'.cell? ⟨sb, 0, none⟩ = some (.int .i64 b)) (first | (refine (Below.cell (B := w.heap.size) (w := w) (p := ⟨sb, 0, none⟩) ?_ hsl).trans hs; (repeat (first | exact Below.refl _ _ | refine Below.drew ?_ | refine Below.alloc ?_ (by first | exact Nat.le_refl _ | (simp; done) | (simp; omega)) _)); done) | (exact (hbel.cell (by simp; omega)).trans (by assumption)) | go_keep)
      (first | (go_at_call 65; refine (flip_any _ _ _ h ?_ ?_).mono ?_; omega; omega; rintro e w' ⟨rfl, rfl⟩))
    go_wp2
    go_ret
    exact ⟨ret_int (Opm.fin9 b x y hok ⟨hx0, hx1⟩ ⟨hy0, hy1⟩ _ (by first | exact .inl ⟨rfl, by omega⟩ | exact .inr ⟨rfl, by omega⟩)), by repeat (first | exact Below.refl _ _ | refine Below.drew ?_ | refine Below.alloc ?_ (by first | exact Nat.le_refl _ | (simp; done) | (simp; omega)) _)⟩
  · go_enter Tryz.func66, Tryz.ntmps66
    go_wp2
    go_region_held3 (fun w' => w'.cell? ⟨sb, 0, none⟩ = some (.int .i64 b)) (first | (refine (Below.cell (B := w.heap.size) (w := w) (p := ⟨sb, 0, none⟩) ?_ hsl).trans hs; (repeat (first | exact Below.refl _ _ | refine Below.drew ?_ | refine Below.alloc ?_ (by first | exact Nat.le_refl _ | (simp; done) | (simp; omega)) _)); done) | (exact (hbel.cell (by simp; omega)).trans (by assumption)) | go_keep)
      (first | (go_at_call 65; refine (flip_any _ _ _ h ?_ ?_).mono ?_; omega; omega; rintro e w' ⟨rfl, rfl⟩))
    go_wp2
    go_ret
    exact ⟨ret_int (Opm.fin9 b x y hok ⟨hx0, hx1⟩ ⟨hy0, hy1⟩ _ (by first | exact .inl ⟨rfl, by omega⟩ | exact .inr ⟨rfl, by omega⟩)), by repeat (first | exact Below.refl _ _ | refine Below.drew ?_ | refine Below.alloc ?_ (by first | exact Nat.le_refl _ | (simp; done) | (simp; omega)) _)⟩
theorem cl10 (b x y : Int) (sb : Nat) (w : World) (h : (16 ≤ b ∧ b ≤ 16)) (hx : 0 ≤ x ∧ x < Wd.pw b) (hy : 0 ≤ y ∧ y < Wd.pw b) (hs : w.cell? ⟨sb, 0, none⟩ = some (.int .i64 b)) (hg : ErrT w) : Calls Tryz.prog 67 #[.int .u16 x, .int .u16 y, .pointer (some ⟨sb, 0, none⟩)] w fun e w' => e = .returned (.int .u16 (Wd.doOp 10 b x y)) ∧ Below w.heap.size w w' := by
  have hok := okBits h
  obtain ⟨hx0, hx1⟩ := hx
  obtain ⟨hy0, hy1⟩ := hy
  have p1 := (okBd h).1
  have p2 := (okBd h).2.1
  have hx2 : x < 65536 := by omega
  have hy2 : y < 65536 := by omega
  have hsl : sb < w.heap.size := World.block_lt_of_cell? w _ hs
  go_enter Tryz.func67, Tryz.ntmps67
  go_wp2_with (go_at_call 68; refine (saturateU_any _ _ _ h hg).mono ?_; rintro e w' ⟨rfl, hbel⟩)
  go_ret
  exact ⟨ret_int (fin10 b x y ⟨hx0, hx1⟩ ⟨hy0, hy1⟩), hbel⟩
theorem cl12 (b x y : Int) (sb : Nat) (w : World) (h : (16 ≤ b ∧ b ≤ 16)) (hx : 0 ≤ x ∧ x < Wd.pw b) (hy : 0 ≤ y ∧ y < Wd.pw b) (hs : w.cell? ⟨sb, 0, none⟩ = some (.int .i64 b)) (hg : ErrT w) : Calls Tryz.prog 72 #[.int .u16 x, .int .u16 y, .pointer (some ⟨sb, 0, none⟩)] w fun e w' => e = .returned (.int .u16 (Wd.doOp 12 b x y)) ∧ Below w.heap.size w w' := by
  have hok := okBits h
  obtain ⟨hx0, hx1⟩ := hx
  obtain ⟨hy0, hy1⟩ := hy
  have p1 := (okBd h).1
  have p2 := (okBd h).2.1
  have hx2 : x < 65536 := by omega
  have hy2 : y < 65536 := by omega
  have hsl : sb < w.heap.size := World.block_lt_of_cell? w _ hs
  go_enter Tryz.func72, Tryz.ntmps72
  go_wp2_with (go_at_call 68; refine (saturateU_any _ _ _ h hg).mono ?_; rintro e w' ⟨rfl, hbel⟩)
  go_ret
  exact ⟨ret_int (fin12 b x y ⟨hx0, hx1⟩ ⟨hy0, hy1⟩), hbel⟩
theorem cl11 (b x y : Int) (sb : Nat) (w : World) (h : (16 ≤ b ∧ b ≤ 16)) (hx : 0 ≤ x ∧ x < Wd.pw b) (hy : 0 ≤ y ∧ y < Wd.pw b) (hs : w.cell? ⟨sb, 0, none⟩ = some (.int .i64 b)) (hg : ErrT w) : Calls Tryz.prog 69 #[.int .u16 x, .int .u16 y, .pointer (some ⟨sb, 0, none⟩)] w fun e w' => e = .returned (.int .u16 (Wd.doOp 11 b x y)) ∧ Below w.heap.size w w' := by
  have hok := okBits h
  obtain ⟨hx0, hx1⟩ := hx
  obtain ⟨hy0, hy1⟩ := hy
  have p1 := (okBd h).1
  have p2 := (okBd h).2.1
  have hx2 : x < 65536 := by omega
  have hy2 : y < 65536 := by omega
  have hsl : sb < w.heap.size := World.block_lt_of_cell? w _ hs
  have s1 := Wd.sg_range (okBits h) ⟨hx0, hx1⟩
  have s2 := Wd.sg_range (okBits h) ⟨hy0, hy1⟩
  have e1 : IntKind.i64.wrap (Wd.sg b x + Wd.sg b y) = Wd.sg b x + Wd.sg b y := IntWalk.i64_in _ (by omega)
  obtain ⟨s1a, s1b, _, s1d, s1e⟩ := s1
  obtain ⟨s2a, s2b, _, s2d, s2e⟩ := s2
  have HG := Lib.hid hg; clear hg
  go_enter Tryz.func69, Tryz.ntmps69
  go_wp2
  go_region_held3 (fun w' => w'.cell? ⟨sb, 0, none⟩ = some (.int .i64 b)) (first | (refine (Below.cell (B := w.heap.size) (w := w) (p := ⟨sb, 0, none⟩) ?_ hsl).trans hs; (repeat (first | exact Below.refl _ _ | refine Below.drew ?_ | refine Below.alloc ?_ (by first | exact Nat.le_refl _ | (simp; done) | (simp; omega)) _)); done) | (exact (hbel.cell (by simp; omega)).trans (by assumption)) | go_keep)
    (first | (go_at_call 71; refine (msigned_any _ _ _ h ?_ ?_).mono ?_; omega; omega; rintro e w' ⟨rfl, rfl⟩) | (go_at_call 70; refine (saturateS_any _ _ _ h ?_).mono ?_; (exact HG.out.below (by repeat (first | exact Below.refl _ _ | refine Below.drew ?_ | refine Below.alloc ?_ (by first | exact Nat.le_refl _ | (simp; done) | (simp; omega)) _)) HG.out.lt); rintro e w' ⟨rfl, hbel⟩))
  go_wp2
  go_ret
  exact ⟨ret_int (fin11 b x y), (show Below w.heap.size w _ from by repeat (first | exact Below.refl _ _ | refine Below.drew ?_ | refine Below.alloc ?_ (by first | exact Nat.le_refl _ | (simp; done) | (simp; omega)) _)).trans (hbel.mono (by simp; omega))⟩
theorem cl13 (b x y : Int) (sb : Nat) (w : World) (h : (16 ≤ b ∧ b ≤ 16)) (hx : 0 ≤ x ∧ x < Wd.pw b) (hy : 0 ≤ y ∧ y < Wd.pw b) (hs : w.cell? ⟨sb, 0, none⟩ = some (.int .i64 b)) (hg : ErrT w) : Calls Tryz.prog 73 #[.int .u16 x, .int .u16 y, .pointer (some ⟨sb, 0, none⟩)] w fun e w' => e = .returned (.int .u16 (Wd.doOp 13 b x y)) ∧ Below w.heap.size w w' := by
  have hok := okBits h
  obtain ⟨hx0, hx1⟩ := hx
  obtain ⟨hy0, hy1⟩ := hy
  have p1 := (okBd h).1
  have p2 := (okBd h).2.1
  have hx2 : x < 65536 := by omega
  have hy2 : y < 65536 := by omega
  have hsl : sb < w.heap.size := World.block_lt_of_cell? w _ hs
  have s1 := Wd.sg_range (okBits h) ⟨hx0, hx1⟩
  have s2 := Wd.sg_range (okBits h) ⟨hy0, hy1⟩
  have e1 : IntKind.i64.wrap (Wd.sg b x - Wd.sg b y) = Wd.sg b x - Wd.sg b y := IntWalk.i64_in _ (by omega)
  obtain ⟨s1a, s1b, _, s1d, s1e⟩ := s1
  obtain ⟨s2a, s2b, _, s2d, s2e⟩ := s2
  have HG := Lib.hid hg; clear hg
  go_enter Tryz.func73, Tryz.ntmps73
  go_wp2
  go_region_held3 (fun w' => w'.cell? ⟨sb, 0, none⟩ = some (.int .i64 b)) (first | (refine (Below.cell (B := w.heap.size) (w := w) (p := ⟨sb, 0, none⟩) ?_ hsl).trans hs; (repeat (first | exact Below.refl _ _ | refine Below.drew ?_ | refine Below.alloc ?_ (by first | exact Nat.le_refl _ | (simp; done) | (simp; omega)) _)); done) | (exact (hbel.cell (by simp; omega)).trans (by assumption)) | go_keep)
    (first | (go_at_call 71; refine (msigned_any _ _ _ h ?_ ?_).mono ?_; omega; omega; rintro e w' ⟨rfl, rfl⟩) | (go_at_call 70; refine (saturateS_any _ _ _ h ?_).mono ?_; (exact HG.out.below (by repeat (first | exact Below.refl _ _ | refine Below.drew ?_ | refine Below.alloc ?_ (by first | exact Nat.le_refl _ | (simp; done) | (simp; omega)) _)) HG.out.lt); rintro e w' ⟨rfl, hbel⟩))
  go_wp2
  go_ret
  exact ⟨ret_int (fin13 b x y), (show Below w.heap.size w _ from by repeat (first | exact Below.refl _ _ | refine Below.drew ?_ | refine Below.alloc ?_ (by first | exact Nat.le_refl _ | (simp; done) | (simp; omega)) _)).trans (hbel.mono (by simp; omega))⟩
theorem cl15 (b x y : Int) (sb : Nat) (w : World) (h : (16 ≤ b ∧ b ≤ 16)) (hx : 0 ≤ x ∧ x < Wd.pw b) (hy : 0 ≤ y ∧ y < Wd.pw b) (hs : w.cell? ⟨sb, 0, none⟩ = some (.int .i64 b)) (hg : ErrT w) : Calls Tryz.prog 75 #[.int .u16 x, .int .u16 y, .pointer (some ⟨sb, 0, none⟩)] w fun e w' => e = .returned (.int .u16 (Wd.doOp 15 b x y)) ∧ Below w.heap.size w w' := by
  have hok := okBits h
  obtain ⟨hx0, hx1⟩ := hx
  obtain ⟨hy0, hy1⟩ := hy
  have p1 := (okBd h).1
  have p2 := (okBd h).2.1
  have hx2 : x < 65536 := by omega
  have hy2 : y < 65536 := by omega
  have hsl : sb < w.heap.size := World.block_lt_of_cell? w _ hs
  clear hg
  have p3 : 4 ≤ b := (okBd h).2.2.2.1
  have p4 : b ≤ 16 := (okBd h).2.2.2.2
  have k0 : 0 ≤ y % b := Int.emod_nonneg _ (by omega)
  have k1 : y % b < 16 := by have := Int.emod_lt_of_pos y (show 0 < b by omega); omega
  go_enter Tryz.func75, Tryz.ntmps75
  go_wp2
  go_region_held3 (fun w' => w'.cell? ⟨sb, 0, none⟩ = some (.int .i64 b)) (first | (refine (Below.cell (B := w.heap.size) (w := w) (p := ⟨sb, 0, none⟩) ?_ hsl).trans hs; (repeat (first | exact Below.refl _ _ | refine Below.drew ?_ | refine Below.alloc ?_ (by first | exact Nat.le_refl _ | (simp; done) | (simp; omega)) _)); done) | (exact (hbel.cell (by simp; omega)).trans (by assumption)) | go_keep)
    (first | (go_at_call 76; refine (shift_any _ _ _ h ?_ ?_).mono ?_; omega; omega; rintro e w' ⟨rfl, rfl⟩) | (go_at_call 71; refine (msigned_any _ _ _ h ?_ ?_).mono ?_; omega; omega; rintro e w' ⟨rfl, rfl⟩) | (go_at_call 56; refine (cut_any _ _ _ h ?_ ?_).mono ?_; (first | omega | exact Opm.wlo_u16 _); (first | omega | exact Opm.whi_u16 _); rintro e w' ⟨rfl, rfl⟩))
  go_wp2
  go_ret
  exact ⟨ret_int (Opm.fin15_16 b x y h ⟨hx0, hx1⟩ ⟨hy0, hy1⟩), by repeat (first | exact Below.refl _ _ | refine Below.drew ?_ | refine Below.alloc ?_ (by first | exact Nat.le_refl _ | (simp; done) | (simp; omega)) _)⟩
theorem cl16 (b x y : Int) (sb : Nat) (w : World) (h : (16 ≤ b ∧ b ≤ 16)) (hx : 0 ≤ x ∧ x < Wd.pw b) (hy : 0 ≤ y ∧ y < Wd.pw b) (hs : w.cell? ⟨sb, 0, none⟩ = some (.int .i64 b)) (hg : ErrT w) : Calls Tryz.prog 77 #[.int .u16 x, .int .u16 y, .pointer (some ⟨sb, 0, none⟩)] w fun e w' => e = .returned (.int .u16 (Wd.doOp 16 b x y)) ∧ Below w.heap.size w w' := by
  have hok := okBits h
  obtain ⟨hx0, hx1⟩ := hx
  obtain ⟨hy0, hy1⟩ := hy
  have p1 := (okBd h).1
  have p2 := (okBd h).2.1
  have hx2 : x < 65536 := by omega
  have hy2 : y < 65536 := by omega
  have hsl : sb < w.heap.size := World.block_lt_of_cell? w _ hs
  clear hg
  have p3 : 4 ≤ b := (okBd h).2.2.2.1
  have p4 : b ≤ 16 := (okBd h).2.2.2.2
  have k0 : 0 ≤ y % b := Int.emod_nonneg _ (by omega)
  have k1 : y % b < 16 := by have := Int.emod_lt_of_pos y (show 0 < b by omega); omega
  go_enter Tryz.func77, Tryz.ntmps77
  go_wp2_with (go_at_call 76; refine (shift_any _ _ _ h (by omega) (by omega)).mono ?_; rintro e w' ⟨rfl, rfl⟩)
  go_ret
  exact ⟨ret_int (Opm.fin16_16 b x y h ⟨hx0, hx1⟩ ⟨hy0, hy1⟩), (Below.refl _ _).alloc (Nat.le_refl _) _⟩
theorem cl17 (b x y : Int) (sb : Nat) (w : World) (h : (16 ≤ b ∧ b ≤ 16)) (hx : 0 ≤ x ∧ x < Wd.pw b) (hy : 0 ≤ y ∧ y < Wd.pw b) (hs : w.cell? ⟨sb, 0, none⟩ = some (.int .i64 b)) (hg : ErrT w) : Calls Tryz.prog 78 #[.int .u16 x, .int .u16 y, .pointer (some ⟨sb, 0, none⟩)] w fun e w' => e = .returned (.int .u16 (Wd.doOp 17 b x y)) ∧ Below w.heap.size w w' := by
  have hok := okBits h
  obtain ⟨hx0, hx1⟩ := hx
  obtain ⟨hy0, hy1⟩ := hy
  have p1 := (okBd h).1
  have p2 := (okBd h).2.1
  have hx2 : x < 65536 := by omega
  have hy2 : y < 65536 := by omega
  have hsl : sb < w.heap.size := World.block_lt_of_cell? w _ hs
  clear hg
  have p3 : 4 ≤ b := (okBd h).2.2.2.1
  have p4 : b ≤ 16 := (okBd h).2.2.2.2
  have k0 : 0 ≤ y % b := Int.emod_nonneg _ (by omega)
  have k1 : y % b < 16 := by have := Int.emod_lt_of_pos y (show 0 < b by omega); omega
  go_enter Tryz.func78, Tryz.ntmps78
  go_wp2
  go_region_held3 (fun w' => w'.cell? ⟨sb, 0, none⟩ = some (.int .i64 b)) (first | (refine (Below.cell (B := w.heap.size) (w := w) (p := ⟨sb, 0, none⟩) ?_ hsl).trans hs; (repeat (first | exact Below.refl _ _ | refine Below.drew ?_ | refine Below.alloc ?_ (by first | exact Nat.le_refl _ | (simp; done) | (simp; omega)) _)); done) | (exact (hbel.cell (by simp; omega)).trans (by assumption)) | go_keep)
    (first | (go_at_call 76; refine (shift_any _ _ _ h ?_ ?_).mono ?_; omega; omega; rintro e w' ⟨rfl, rfl⟩) | (go_at_call 71; refine (msigned_any _ _ _ h ?_ ?_).mono ?_; omega; omega; rintro e w' ⟨rfl, rfl⟩) | (go_at_call 56; refine (cut_any _ _ _ h ?_ ?_).mono ?_; (first | omega | exact Opm.wlo_u16 _); (first | omega | exact Opm.whi_u16 _); rintro e w' ⟨rfl, rfl⟩))
  go_wp2
  go_ret
  exact ⟨ret_int (Opm.fin17_16 b x y h ⟨hx0, hx1⟩ ⟨hy0, hy1⟩), by repeat (first | exact Below.refl _ _ | refine Below.drew ?_ | refine Below.alloc ?_ (by first | exact Nat.le_refl _ | (simp; done) | (simp; omega)) _)⟩
end Go.Proofs.YtigodbilfjppbaaGreatDoor.Op16
