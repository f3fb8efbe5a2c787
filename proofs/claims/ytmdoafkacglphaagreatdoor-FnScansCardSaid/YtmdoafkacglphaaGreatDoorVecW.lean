/-
  The tests on vectors and masks, of the code and of the model: one contract each.
-/
import Derived.Test.YtmdoafkacglphaaGreatDoorLstW
import Derived.Test.YtmdoafkacglphaaGreatDoorScal
import Derived.Test.YtmdoafkacglphaaGreatDoorSpec
namespace Go.Proofs.YtmdoafkacglphaaGreatDoor.Wds
open Go.RowKit
set_option linter.unusedVariables false

/-- A Bool is returned; what was there stays as it was. -/
def RetB (c : Bool) (w : World) (e : Ending) (w' : World) : Prop := e = .returned (.bool c) ∧ Below w.heap.size w w'
theorem RetB.of {c : Bool} {w w' : World} {e : Ending} (he : e = .returned (.bool c)) (hb : Below w.heap.size w w') : RetB c w e w' := ⟨he, hb⟩

theorem isLanes_any (n : Int) (w : World) : Calls Tryz.prog 52 #[.int .i64 n] w fun e w' => e = .returned (.bool (Ln.lanes n)) ∧ w = w' := by
  unfold Ln.lanes
  go_enter Tryz.func52, Tryz.ntmps52
  go_wp2
  all_goals
    go_ret
    exact ⟨ret_bool (by simp_all), rfl⟩
theorem sLanes_any (n : Int) (w : World) : Calls Tryz.prog 129 #[.int .i64 n] w fun e w' => e = .returned (.bool (Ln.lanes n)) ∧ w = w' := by
  unfold Ln.lanes
  go_enter Tryz.func129, Tryz.ntmps129
  go_wp2
  all_goals
    go_ret
    exact ⟨ret_bool (by simp_all), rfl⟩
set_option maxHeartbeats 400000 in
theorem isVec_any (b : Int) (A : Option Addr) (n c : Nat) (zs : List Int) (B : Nat) (w : World) (hn : n ≤ 1048576) (h : Rd w B A n zs) :
    Calls Tryz.prog 30 #[.int .i64 b, .slice A n c] w (RetB (Ln.vec b zs) w) := by
  have H := Lib.hid h; clear h
  go_enter Tryz.func30, Tryz.ntmps30
  go_wp2
  go_loopw [9] (fun i wr => ∃ k : Nat, k ≤ n ∧ i = .int .i64 k ∧ ((zs.take k).all fun z => decide (Wd.IsWord b z)) = true ∧ Below w.heap.size w wr) (fun i _ => n - (intOf i).toNat)
  case atStart => exact ⟨0, Nat.zero_le _, rfl, by simp, Below.refl _ _⟩
  case round =>
    obtain ⟨k, hk, rfl, hall, hb⟩ := hrel
    have hln : zs.length = n := H.out.len
    by_cases hlt : k < n
    · obtain ⟨g, o, rfl, hg, hc⟩ := H.out.at_ hlt
      have hd := (hb.cell (p := ⟨g, o + k, none⟩) (World.block_lt_of_cell? w _ hc)).trans hc
      have hsn := Ln.all_snoc (fun z => decide (Wd.IsWord b z)) zs k (by omega)
      rw [hall, Bool.true_and] at hsn
      by_cases hw : Wd.IsWord b (zs.getD k 0)
      · rw [decide_eq_true hw] at hsn
        obtain ⟨z, hz⟩ : ∃ z, z = zs.getD k 0 := ⟨_, rfl⟩
        rw [← hz] at hd hw
        have HS := Lib.hid hsn
        have HW := Lib.hid hw
        have HB := Lib.hid hb; clear hz hc hb hsn hall hln hw
        go_wp2_with (go_at_call 53; refine (isWord_yes _ _ _ HW.out).mono ?_; rintro e w' ⟨rfl, rfl⟩)
        go_roundw
        case rel => exact ⟨k + 1, by omega, by go_num, HS.out, HB.out⟩
        case measure => simp [intOf]; omega
      · have hno : Ln.vec b zs = false := by
          unfold Ln.vec
          rw [Ln.all_not (k := k) (by omega) (decide_eq_false hw), Bool.and_false]
        obtain ⟨z, hz⟩ : ∃ z, z = zs.getD k 0 := ⟨_, rfl⟩
        rw [← hz] at hd hw
        have HS := Lib.hid hno
        have HW := Lib.hid hw
        have HB := Lib.hid hb; clear hz hc hb hsn hall hln hw hno
        go_wp2_with (go_at_call 53; refine (isWord_no _ _ _ HW.out).mono ?_; rintro e w' ⟨rfl, hbb⟩; have HBB := Lib.hid hbb; clear hbb)
        go_ret
        exact ⟨ret_bool HS.out.symm, HB.out.trans (HBB.out.mono HB.out.size)⟩
    · have e : Ln.vec b zs = Ln.lanes n := by
        unfold Ln.vec
        rw [Ln.all_end (by omega) hall, Bool.and_true, hln]
      have HE := Lib.hid e
      have HB := Lib.hid hb; clear e hb hall hln
      go_wp2_with (go_at_call 52; refine (isLanes_any _ _).mono ?_; rintro e w' ⟨rfl, rfl⟩)
      go_ret
      exact ⟨ret_bool HE.out.symm, HB.out⟩
set_option maxHeartbeats 400000 in
theorem sWords_any (b : Int) (A : Option Addr) (n c : Nat) (zs : List Int) (B : Nat) (w : World) (hn : n ≤ 1048576) (h : Rd w B A n zs) :
    Calls Tryz.prog 131 #[.int .i64 b, .slice A n c] w (RetB ((zs.all fun z => decide (Wd.IsWord b z)) && decide (Wd.IsBits b)) w) := by
  have H := Lib.hid h; clear h
  go_enter Tryz.func131, Tryz.ntmps131
  go_wp2
  go_loopw [5] (fun i wr => ∃ k : Nat, k ≤ n ∧ i = .int .i64 k ∧ ((zs.take k).all fun z => decide (Wd.IsWord b z)) = true ∧ Below w.heap.size w wr) (fun i _ => n - (intOf i).toNat)
  case atStart => exact ⟨0, Nat.zero_le _, rfl, by simp, Below.refl _ _⟩
  case round =>
    obtain ⟨k, hk, rfl, hall, hb⟩ := hrel
    have hln : zs.length = n := H.out.len
    by_cases hlt : k < n
    · obtain ⟨g, o, rfl, hg, hc⟩ := H.out.at_ hlt
      have hd := (hb.cell (p := ⟨g, o + k, none⟩) (World.block_lt_of_cell? w _ hc)).trans hc
      have hsn := Ln.all_snoc (fun z => decide (Wd.IsWord b z)) zs k (by omega)
      rw [hall, Bool.true_and] at hsn
      by_cases hw : Wd.IsWord b (zs.getD k 0)
      · rw [decide_eq_true hw] at hsn
        obtain ⟨z, hz⟩ : ∃ z, z = zs.getD k 0 := ⟨_, rfl⟩
        rw [← hz] at hd hw
        have HS := Lib.hid hsn
        have HW := Lib.hid hw
        have HB := Lib.hid hb; clear hz hc hb hsn hall hln hw
        go_wp2_with (go_at_call 139; refine (sword_yes _ _ _ HW.out).mono ?_; rintro e w' ⟨rfl, rfl⟩)
        go_roundw
        case rel => exact ⟨k + 1, by omega, by go_num, HS.out, HB.out⟩
        case measure => simp [intOf]; omega
      · have hno : (zs.all fun z => decide (Wd.IsWord b z)) = false := Ln.all_not (k := k) (by omega) (decide_eq_false hw)
        obtain ⟨z, hz⟩ : ∃ z, z = zs.getD k 0 := ⟨_, rfl⟩
        rw [← hz] at hd hw
        have HS := Lib.hid hno
        have HW := Lib.hid hw
        have HB := Lib.hid hb; clear hz hc hb hsn hall hln hw hno
        go_wp2_with (go_at_call 139; refine (sword_no _ _ _ HW.out).mono ?_; rintro e w' ⟨rfl, rfl⟩)
        go_ret
        exact ⟨ret_bool (by rw [HS.out]; rfl), HB.out⟩
    · have e := Ln.all_end (by omega) hall
      have HE := Lib.hid e
      have HB := Lib.hid hb; clear e hb hall hln
      go_wp2_with (go_at_call 140; refine (sbits_any _ _).mono ?_; rintro e w' ⟨rfl, rfl⟩)
      go_ret
      exact ⟨ret_bool (by rw [HE.out]; rfl), HB.out⟩
theorem vec_words (b : Int) (zs : List Int) (n : Nat) (hn : zs.length = n) : Ln.vec b zs = (Ln.lanes n && ((zs.all fun z => decide (Wd.IsWord b z)) && decide (Wd.IsBits b))) := by
  subst hn
  unfold Ln.vec
  cases hl : Ln.lanes zs.length
  · rfl
  · rw [Bool.true_and, Bool.true_and]
    cases ha : zs.all fun z => decide (Wd.IsWord b z)
    · rfl
    · rw [Bool.true_and]
      have : Ln.vec b zs = true := by unfold Ln.vec; rw [hl, ha]; rfl
      exact (decide_eq_true (Ln.vec_bits this)).symm
theorem sIs_any (b : Int) (A : Option Addr) (n c : Nat) (zs : List Int) (B : Nat) (w : World) (hn : n ≤ 1048576) (h : Rd w B A n zs) :
    Calls Tryz.prog 68 #[.int .i64 b, .slice A n c] w (RetB (Ln.vec b zs) w) := by
  have c2 := sWords_any b A n c zs B w hn h
  have c1 := sLanes_any n w
  rw [vec_words b zs n h.len]
  generalize Ln.lanes n = l1 at *
  generalize ((zs.all fun z => decide (Wd.IsWord b z)) && decide (Wd.IsBits b)) = l2 at *
  have C1 := Lib.hid c1
  have C2 := Lib.hid c2
  clear c1 c2 h
  cases l1
  · go_enter Tryz.func68, Tryz.ntmps68
    go_wp2_with (go_at_call 129; refine C1.out.mono ?_; rintro e w' ⟨rfl, rfl⟩)
    go_ret
    exact ⟨rfl, Below.refl _ _⟩
  · go_enter Tryz.func68, Tryz.ntmps68
    go_wp2_with (first | (go_at_call 129; refine C1.out.mono ?_; rintro e w' ⟨rfl, rfl⟩) | (go_at_call 131; refine C2.out.mono ?_; rintro e w' ⟨rfl, hb⟩))
    go_ret
    exact ⟨ret_bool (by simp), hb⟩
theorem areVec_any (b : Int) (A A' : Option Addr) (n n' c c' : Nat) (zs ys : List Int) (B B' : Nat) (w : World) (hn : n ≤ 1048576) (hn' : n' ≤ 1048576) (h : Rd w B A n zs) (h' : Rd w B' A' n' ys) :
    Calls Tryz.prog 47 #[.int .i64 b, .slice A n c, .slice A' n' c'] w (RetB (Ln.both b zs ys) w) := by
  have hl := h.len
  have hl' := h'.len
  have c1 := isVec_any b A n c zs B w hn h
  have c2 : ∀ w1, Below w.heap.size w w1 → Calls Tryz.prog 30 #[.int .i64 b, .slice A' n' c'] w1 (RetB (Ln.vec b ys) w1) := fun w1 hb => isVec_any b A' n' c' ys B' w1 hn' (h'.below hb)
  unfold Ln.both
  rw [hl, hl']
  generalize Ln.vec b zs = l1 at *
  generalize Ln.vec b ys = l2 at *
  have C1 := Lib.hid c1
  have C2 := Lib.hid c2
  clear c1 c2 h h' hl hl'
  by_cases he : n = n'
  · subst he
    have e1 : ((n : Int) == (n : Int)) = true := by simp
    cases l1
    · go_enter Tryz.func47, Tryz.ntmps47
      go_wp2_with (go_at_call 30; refine C1.out.mono ?_; rintro e w' ⟨rfl, hb⟩)
      go_ret
      exact ⟨rfl, hb⟩
    · cases l2
      all_goals
        go_enter Tryz.func47, Tryz.ntmps47
        go_wp2_with fail
        refine C1.out.mono ?_
        rintro e w' ⟨rfl, hb⟩
        have HB := Lib.hid hb; clear hb
        go_wp2_with fail
        refine (C2.out _ HB.out).mono ?_
        rintro e w'' ⟨rfl, hb2⟩
        have HB2 := Lib.hid hb2; clear hb2
        go_wp2_with fail
        go_ret
        exact ⟨ret_bool (by simp), HB.out.trans (HB2.out.mono HB.out.size)⟩
  · have e1 : ((n : Int) == (n' : Int)) = false := by simp; omega
    have e2 : (n == n') = false := by simp; omega
    rw [e2]
    clear e2
    go_enter Tryz.func47, Tryz.ntmps47
    go_wp2_with fail
    go_ret
    exact ⟨ret_bool (by simp), Below.refl _ _⟩
theorem sBoth_any (b : Int) (A A' : Option Addr) (n n' c c' : Nat) (zs ys : List Int) (B B' : Nat) (w : World) (hn : n ≤ 1048576) (hn' : n' ≤ 1048576) (h : Rd w B A n zs) (h' : Rd w B' A' n' ys) :
    Calls Tryz.prog 64 #[.int .i64 b, .slice A n c, .slice A' n' c'] w (RetB (Ln.both b zs ys) w) := by
  have hl := h.len
  have hl' := h'.len
  have c1 := sIs_any b A n c zs B w hn h
  have c2 : ∀ w1, Below w.heap.size w w1 → Calls Tryz.prog 68 #[.int .i64 b, .slice A' n' c'] w1 (RetB (Ln.vec b ys) w1) := fun w1 hb => sIs_any b A' n' c' ys B' w1 hn' (h'.below hb)
  unfold Ln.both
  rw [hl, hl']
  generalize Ln.vec b zs = l1 at *
  generalize Ln.vec b ys = l2 at *
  have C1 := Lib.hid c1
  have C2 := Lib.hid c2
  clear c1 c2 h h' hl hl'
  have key : ∀ e1 : Bool, e1 = ((n : Int) == (n' : Int)) → e1 = (n == n') := by
    intro e1 h1
    rw [h1, Bool.eq_iff_iff]
    simp
    omega
  obtain ⟨e1, he1⟩ : ∃ e1, e1 = ((n : Int) == (n' : Int)) := ⟨_, rfl⟩
  rw [← key e1 he1]
  have he2 := he1.symm
  clear he1 key
  cases l1
  · go_enter Tryz.func64, Tryz.ntmps64
    go_wp2_with (go_at_call 68; refine C1.out.mono ?_; rintro e w' ⟨rfl, hb⟩)
    go_ret
    exact ⟨rfl, hb⟩
  · cases l2
    · go_enter Tryz.func64, Tryz.ntmps64
      go_wp2_with fail
      refine C1.out.mono ?_
      rintro e w' ⟨rfl, hb⟩
      have HB := Lib.hid hb; clear hb
      go_wp2_with fail
      refine (C2.out _ HB.out).mono ?_
      rintro e w'' ⟨rfl, hb2⟩
      have HB2 := Lib.hid hb2; clear hb2
      go_wp2_with fail
      go_ret
      exact ⟨ret_bool (by simp), HB.out.trans (HB2.out.mono HB.out.size)⟩
    · cases e1
      all_goals
        go_enter Tryz.func64, Tryz.ntmps64
        go_wp2_with fail
        refine C1.out.mono ?_
        rintro e w' ⟨rfl, hb⟩
        have HB := Lib.hid hb; clear hb
        go_wp2_with fail
        refine (C2.out _ HB.out).mono ?_
        rintro e w'' ⟨rfl, hb2⟩
        have HB2 := Lib.hid hb2; clear hb2
        go_wp2_with fail
        go_ret
        exact ⟨ret_bool (by simp), HB.out.trans (HB2.out.mono HB.out.size)⟩
set_option maxHeartbeats 400000 in
theorem isMask_any (A : Option Addr) (n c : Nat) (zs : List Int) (B : Nat) (w : World) (hn : n ≤ 1048576) (h : Rd w B A n zs) :
    Calls Tryz.prog 55 #[.slice A n c] w (RetB (Ln.msk zs) w) := by
  have H := Lib.hid h; clear h
  go_enter Tryz.func55, Tryz.ntmps55
  go_wp2
  go_loopw [7] (fun i wr => ∃ k : Nat, k ≤ n ∧ i = .int .i64 k ∧ ((zs.take k).all fun z => z == 0 || z == 1) = true ∧ Below w.heap.size w wr) (fun i _ => n - (intOf i).toNat)
  case atStart => exact ⟨0, Nat.zero_le _, rfl, by simp, Below.refl _ _⟩
  case round =>
    obtain ⟨k, hk, rfl, hall, hb⟩ := hrel
    have hln : zs.length = n := H.out.len
    by_cases hlt : k < n
    · obtain ⟨g, o, rfl, hg, hc⟩ := H.out.at_ hlt
      have hd := (hb.cell (p := ⟨g, o + k, none⟩) (World.block_lt_of_cell? w _ hc)).trans hc
      have hsn := Ln.all_snoc (fun z => z == 0 || z == 1) zs k (by omega)
      rw [hall, Bool.true_and] at hsn
      by_cases hw : zs.getD k 0 = 0
      · rw [hw] at hsn hd
        have HS := Lib.hid hsn
        have HB := Lib.hid hb; clear hc hb hsn hall hln hw
        go_wp2
        go_roundw
        case rel => exact ⟨k + 1, by omega, by go_num, HS.out, HB.out⟩
        case measure => simp [intOf]; omega
      · by_cases hw1 : zs.getD k 0 = 1
        · rw [hw1] at hsn hd
          have HS := Lib.hid hsn
          have HB := Lib.hid hb; clear hc hb hsn hall hln hw hw1
          go_wp2
          go_roundw
          case rel => exact ⟨k + 1, by omega, by go_num, HS.out, HB.out⟩
          case measure => simp [intOf]; omega
        · have hno : Ln.msk zs = false := by
            unfold Ln.msk
            rw [Ln.all_not (p := fun z => z == 0 || z == 1) (k := k) (by omega) (by simp; exact ⟨by simpa [List.getD_eq_getElem?_getD] using hw, by simpa [List.getD_eq_getElem?_getD] using hw1⟩), Bool.and_false]
          have hb1 : (zs.getD k 0 != 0) = true := by rw [bne_iff_ne]; exact hw
          have hb2 : (zs.getD k 0 != 1) = true := by rw [bne_iff_ne]; exact hw1
          obtain ⟨z, hz⟩ : ∃ z, z = zs.getD k 0 := ⟨_, rfl⟩
          rw [← hz] at hd hb1 hb2
          have HS := Lib.hid hno
          have HB := Lib.hid hb; clear hz hc hb hsn hall hln hw hw1 hno
          go_wp2
          go_ret
          exact ⟨ret_bool HS.out.symm, HB.out⟩
    · have e : Ln.msk zs = Ln.lanes n := by
        unfold Ln.msk
        rw [Ln.all_end (by omega) hall, Bool.and_true, hln]
      have HE := Lib.hid e
      have HB := Lib.hid hb; clear e hb hall hln
      go_wp2_with (go_at_call 52; refine (isLanes_any _ _).mono ?_; rintro e w' ⟨rfl, rfl⟩)
      go_ret
      exact ⟨ret_bool HE.out.symm, HB.out⟩
theorem bit_in (z : Int) : decide (0 ≤ z ∧ z ≤ 1) = (z == 0 || z == 1) := by
  rw [Bool.eq_iff_iff]; simp; omega
set_option maxHeartbeats 400000 in
theorem sBitsL_any (A : Option Addr) (n c : Nat) (zs : List Int) (B : Nat) (w : World) (hn : n ≤ 1048576) (h : Rd w B A n zs) :
    Calls Tryz.prog 130 #[.slice A n c] w (RetB (zs.all fun z => z == 0 || z == 1) w) := by
  have H := Lib.hid h; clear h
  go_enter Tryz.func130, Tryz.ntmps130
  go_wp2
  go_loopw [3] (fun i wr => ∃ k : Nat, k ≤ n ∧ i = .int .i64 k ∧ ((zs.take k).all fun z => z == 0 || z == 1) = true ∧ Below w.heap.size w wr) (fun i _ => n - (intOf i).toNat)
  case atStart => exact ⟨0, Nat.zero_le _, rfl, by simp, Below.refl _ _⟩
  case round =>
    obtain ⟨k, hk, rfl, hall, hb⟩ := hrel
    have hln : zs.length = n := H.out.len
    by_cases hlt : k < n
    · obtain ⟨g, o, rfl, hg, hc⟩ := H.out.at_ hlt
      have hd := (hb.cell (p := ⟨g, o + k, none⟩) (World.block_lt_of_cell? w _ hc)).trans hc
      have hsn := Ln.all_snoc (fun z => z == 0 || z == 1) zs k (by omega)
      rw [hall, Bool.true_and] at hsn
      have hx := bit_in (zs.getD k 0)
      by_cases hw : (zs.getD k 0 == 0 || zs.getD k 0 == 1) = true
      · rw [hw] at hsn hx
        obtain ⟨z, hz⟩ : ∃ z, z = zs.getD k 0 := ⟨_, rfl⟩
        rw [← hz] at hd hx
        have HX := Lib.hid (of_decide_eq_true hx)
        have HS := Lib.hid hsn
        have HB := Lib.hid hb; clear hz hc hb hsn hall hln hw hx
        go_wp2_with (go_at_call 128; refine (in_yes _ _ _ _ HX.out).mono ?_; rintro e w' ⟨rfl, rfl⟩)
        go_roundw
        case rel => exact ⟨k + 1, by omega, by go_num, HS.out, HB.out⟩
        case measure => simp [intOf]; omega
      · have hw' : (zs.getD k 0 == 0 || zs.getD k 0 == 1) = false := by simpa using hw
        have hno : (zs.all fun z => z == 0 || z == 1) = false := Ln.all_not (p := fun z => z == 0 || z == 1) (k := k) (by omega) hw'
        rw [hw'] at hx
        obtain ⟨z, hz⟩ : ∃ z, z = zs.getD k 0 := ⟨_, rfl⟩
        rw [← hz] at hd hx
        have HX := Lib.hid (of_decide_eq_false hx)
        have HS := Lib.hid hno
        have HB := Lib.hid hb; clear hz hc hb hsn hall hln hw hw' hx hno
        go_wp2_with (go_at_call 128; refine (in_no _ _ _ _ HX.out).mono ?_; rintro e w' ⟨rfl, rfl⟩)
        go_ret
        exact ⟨ret_bool HS.out.symm, HB.out⟩
    · have e := Ln.all_end (by omega) hall
      have HE := Lib.hid e
      have HB := Lib.hid hb; clear e hb hall hln
      go_wp2
      go_ret
      exact ⟨ret_bool HE.out.symm, HB.out⟩
theorem sMask_any (A : Option Addr) (n c m : Nat) (zs : List Int) (B : Nat) (w : World) (hn : n ≤ 1048576) (hm : m ≤ 1048576) (h : Rd w B A n zs) :
    Calls Tryz.prog 66 #[.slice A n c, .int .i64 m] w (RetB (Ln.msk zs && zs.length == m) w) := by
  have hl := h.len
  have c2 := sBitsL_any A n c zs B w hn h
  by_cases he : n = m
  · subst he
    have c1 := sLanes_any n w
    have e0 : (Ln.msk zs && zs.length == n) = (Ln.lanes n && zs.all fun z => z == 0 || z == 1) := by
      unfold Ln.msk; rw [hl]; simp
    rw [e0]
    clear e0
    generalize Ln.lanes n = l1 at *
    generalize (zs.all fun z => z == 0 || z == 1) = l2 at *
    have C1 := Lib.hid c1
    have C2 := Lib.hid c2
    clear c1 c2 h hl
    have e1 : ((n : Int) == (n : Int)) = true := by simp
    cases l1
    · go_enter Tryz.func66, Tryz.ntmps66
      go_wp2_with (go_at_call 129; refine C1.out.mono ?_; rintro e w' ⟨rfl, rfl⟩)
      go_ret
      exact ⟨rfl, Below.refl _ _⟩
    · go_enter Tryz.func66, Tryz.ntmps66
      go_wp2_with (first | (go_at_call 129; refine C1.out.mono ?_; rintro e w' ⟨rfl, rfl⟩) | (go_at_call 130; refine C2.out.mono ?_; rintro e w' ⟨rfl, hb⟩))
      go_ret
      exact ⟨ret_bool (by simp), hb⟩
  · have e1 : ((n : Int) == (m : Int)) = false := by simp; omega
    have e2 : (Ln.msk zs && zs.length == m) = false := by simp; intro _; omega
    rw [e2]
    clear e2 h hl c2
    go_enter Tryz.func66, Tryz.ntmps66
    go_wp2_with fail
    go_ret
    exact ⟨rfl, Below.refl _ _⟩
theorem areMask_any (b : Int) (A A' : Option Addr) (n n' c c' : Nat) (ms zs : List Int) (B B' : Nat) (w : World) (hn : n ≤ 1048576) (hn' : n' ≤ 1048576) (h : Rd w B A n ms) (h' : Rd w B' A' n' zs) :
    Calls Tryz.prog 50 #[.int .i64 b, .slice A n c, .slice A' n' c'] w (RetB (Ln.masked b ms zs) w) := by
  have hl := h.len
  have hl' := h'.len
  have c1 := isMask_any A n c ms B w hn h
  have c2 : ∀ w1, Below w.heap.size w w1 → Calls Tryz.prog 30 #[.int .i64 b, .slice A' n' c'] w1 (RetB (Ln.vec b zs) w1) := fun w1 hb => isVec_any b A' n' c' zs B' w1 hn' (h'.below hb)
  unfold Ln.masked
  rw [hl, hl']
  generalize Ln.msk ms = l1 at *
  generalize Ln.vec b zs = l2 at *
  have C1 := Lib.hid c1
  have C2 := Lib.hid c2
  clear c1 c2 h h' hl hl'
  by_cases he : n = n'
  · subst he
    have e1 : ((n : Int) == (n : Int)) = true := by simp
    cases l1
    · go_enter Tryz.func50, Tryz.ntmps50
      go_wp2_with (go_at_call 55; refine C1.out.mono ?_; rintro e w' ⟨rfl, hb⟩)
      go_ret
      exact ⟨ret_bool (by simp), hb⟩
    · cases l2
      all_goals
        go_enter Tryz.func50, Tryz.ntmps50
        go_wp2_with fail
        refine C1.out.mono ?_
        rintro e w' ⟨rfl, hb⟩
        have HB := Lib.hid hb; clear hb
        go_wp2_with fail
        refine (C2.out _ HB.out).mono ?_
        rintro e w'' ⟨rfl, hb2⟩
        have HB2 := Lib.hid hb2; clear hb2
        go_wp2_with fail
        go_ret
        exact ⟨ret_bool (by simp), HB.out.trans (HB2.out.mono HB.out.size)⟩
  · have e1 : ((n : Int) == (n' : Int)) = false := by simp; omega
    have e2 : (n == n') = false := by simp; omega
    rw [e2]
    clear e2
    go_enter Tryz.func50, Tryz.ntmps50
    go_wp2_with fail
    go_ret
    exact ⟨ret_bool (by simp), Below.refl _ _⟩
theorem iIsVector_any (b : Int) (A : Option Addr) (n c : Nat) (zs : List Int) (B : Nat) (w : World) (hn : n ≤ 1048576) (h : Rd w B A n zs) :
    Calls Tryz.prog 30 #[.int .i64 b, .slice A n c] w (RetB (Ln.vec b zs) w) := isVec_any b A n c zs B w hn h
theorem iIsMask_any (A : Option Addr) (n c : Nat) (zs : List Int) (B : Nat) (w : World) (hn : n ≤ 1048576) (h : Rd w B A n zs) :
    Calls Tryz.prog 55 #[.slice A n c] w (RetB (Ln.msk zs) w) := isMask_any A n c zs B w hn h
end Go.Proofs.YtmdoafkacglphaaGreatDoor.Wds
