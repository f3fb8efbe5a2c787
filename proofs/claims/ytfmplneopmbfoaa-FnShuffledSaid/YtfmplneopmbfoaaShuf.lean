/-
  Lists of indices, shuffles, and what shuffles do: the code's and the model's functions; one contract each.
-/
import Derived.Test.YtfmplneopmbfoaaVecW
import Derived.Test.YtfmplneopmbfoaaCpy
import Derived.Test.YtfmplneopmbfoaaShM
namespace Go.Proofs.Ytfmplneopmbfoaa.Wds
open Go.RowKit
set_option linter.unusedVariables false

theorem aiC_any (m : Nat) (x : Int) (gb : Nat) (w : World) (hm : m ≤ 4194304) (hc : w.cell? ⟨gb, 0, none⟩ = some (.int .i64 m)) :
    Calls Try.prog 81 #[.int .i64 x, .pointer (some ⟨gb, 0, none⟩)] w fun e w' => e = .returned (.bool (!decide (0 ≤ x ∧ x < m))) ∧ w = w' := by
  by_cases h0 : x < 0
  · rw [decide_eq_false (by omega)]
    go_enter Try.func81, Try.ntmps81
    go_wp2
    go_ret
    exact ⟨ret_bool (by simp), rfl⟩
  · have h1 : 0 ≤ x := by omega
    by_cases h2 : x < m
    · rw [decide_eq_true (And.intro h1 h2)]
      have H2 := Lib.hid h2
      go_enter Try.func81, Try.ntmps81
      go_wp2
      go_ret
      exact ⟨ret_bool (by simp; exact H2.out), rfl⟩
    · rw [decide_eq_false (by omega)]
      have h3 : (m : Int) ≤ x := by omega
      go_enter Try.func81, Try.ntmps81
      go_wp2
      go_ret
      exact ⟨ret_bool (by simp), rfl⟩
/-- The first number that is no index. -/
def badI (m : Nat) (zs : List Int) (e : Ending) : Prop :=
  (e = .returned (.int .i64 (-1)) ∧ ∀ j, j < zs.length → 0 ≤ zs.getD j 0 ∧ zs.getD j 0 < m) ∨ ∃ k : Nat, k < zs.length ∧ e = .returned (.int .i64 (k : Int)) ∧ ¬ (0 ≤ zs.getD k 0 ∧ zs.getD k 0 < m)
set_option maxHeartbeats 1000000 in
theorem idxI_any (m : Nat) (gb : Nat) (A : Option Addr) (n c : Nat) (zs : List Int) (B : Nat) (w : World) (hm : m ≤ 4194304) (hn : n ≤ 1048576) (h : Rd w B A n zs) (hc : w.cell? ⟨gb, 0, none⟩ = some (.int .i64 m)) :
    Calls Try.prog 98 #[.slice A n c, .func (.func 81) #[] #[.pointer (some ⟨gb, 0, none⟩)]] w fun e w' => badI m zs e ∧ Below w.heap.size w w' := by
  have H := Lib.hid h; clear h
  have HC := Lib.hid hc
  have HG := Lib.hid (World.block_lt_of_cell? w _ hc)
  clear hc
  go_enter Try.func98, Try.ntmps98
  go_wp2
  go_loopw [5, 8] (fun _ i wr => ∃ k : Nat, k ≤ n ∧ i = .int .i64 k ∧ Hid (∀ j, j < k → 0 ≤ zs.getD j 0 ∧ zs.getD j 0 < m) ∧ Below w.heap.size w wr) (fun _ i _ => n - (intOf i).toNat)
  case atStart => exact ⟨0, Nat.zero_le _, rfl, Lib.hid (fun j hj => absurd hj (Nat.not_lt_zero _)), Below.refl _ _⟩
  case round =>
    rename World => wr
    obtain ⟨k, hk, rfl, HA, hb⟩ := hrel
    by_cases hlt : k < n
    · obtain ⟨g, o, rfl, hg, c0⟩ := (H.out.below hb).at_ hlt
      have HL := Lib.hid (show k < zs.length by rw [H.out.len]; exact hlt)
      obtain ⟨x, hx⟩ : ∃ x, x = zs.getD k 0 := ⟨_, rfl⟩
      rw [← hx] at c0
      have C := Lib.hid (aiC_any m x gb wr hm ((hb.cell (p := ⟨gb, 0, none⟩) HG.out).trans HC.out))
      have HX := Lib.hid hx
      have HB := Lib.hid hb; clear hb hx
      have i1 : (0 : Int) ≤ (k : Int) := by omega
      have i2 : (k : Int) < (n : Int) := by omega
      by_cases hw : 0 ≤ x ∧ x < m
      · rw [decide_eq_true hw] at C
        have HW := Lib.hid hw; clear hw
        go_wp2_with fail
        refine C.out.mono ?_
        rintro e w1 ⟨rfl, rfl⟩
        go_wp2
        go_roundw
        case rel =>
          refine ⟨k + 1, by omega, by go_num, Lib.hid (fun j hj => ?_), HB.out⟩
          rcases Nat.lt_or_ge j k with h | h
          · exact HA.out j h
          · obtain rfl : j = k := by omega
            rw [← HX.out]; exact HW.out
        case measure => simp [intOf]; omega
      · rw [decide_eq_false hw] at C
        have HW := Lib.hid hw; clear hw
        go_wp2_with fail
        refine C.out.mono ?_
        rintro e w1 ⟨rfl, rfl⟩
        go_wp2
        go_ret
        exact ⟨.inr ⟨k, HL.out, rfl, by rw [← HX.out]; exact HW.out⟩, HB.out⟩
    · have hkn : k = n := by omega
      have HB := Lib.hid hb; clear hb
      subst hkn
      go_wp2
      go_ret
      exact ⟨.inl ⟨rfl, fun j hj => HA.out j (by rw [H.out.len] at hj; exact hj)⟩, HB.out⟩
theorem contI_any (m : Nat) (gb : Nat) (A : Option Addr) (n c : Nat) (zs : List Int) (B : Nat) (w : World) (hm : m ≤ 4194304) (hn : n ≤ 1048576) (h : Rd w B A n zs) (hc : w.cell? ⟨gb, 0, none⟩ = some (.int .i64 m)) :
    Calls Try.prog 80 #[.slice A n c, .func (.func 81) #[] #[.pointer (some ⟨gb, 0, none⟩)]] w (RetB (!Ln.idxs m zs) w) := by
  have C := Lib.hid (idxI_any m gb A n c zs B w hm hn h hc)
  obtain ⟨r, hr⟩ : ∃ z, z = Ln.idxs m zs := ⟨_, rfl⟩
  rw [← hr]
  have HR := Lib.hid hr
  clear h hr hc
  go_enter Try.func80, Try.ntmps80
  go_wp2_with fail
  refine C.out.mono ?_
  rintro e w1 ⟨(⟨rfl, ha⟩ | ⟨k, hk, rfl, hf⟩), hb1⟩
  · have hall : Ln.idxs m zs = true := by
      unfold Ln.idxs
      rw [List.all_eq_true]
      intro x hx
      obtain ⟨j, hj, rfl⟩ := List.getElem_of_mem hx
      have := ha j hj
      rw [List.getD_eq_getElem?_getD, List.getElem?_eq_getElem hj] at this
      exact decide_eq_true this
    obtain rfl : r = true := by rw [HR.out]; exact hall
    have HB1 := Lib.hid hb1; clear hb1 ha hall
    go_wp2
    go_ret
    exact ⟨rfl, HB1.out⟩
  · obtain rfl : r = false := by rw [HR.out]; exact Ln.all_not (k := k) hk (decide_eq_false hf)
    have HB1 := Lib.hid hb1; clear hb1 hf
    have k0 : (0 : Int) ≤ (k : Int) := by omega
    go_wp2
    go_ret
    exact ⟨ret_bool (by simp; try omega), HB1.out⟩
theorem areI_any (m : Nat) (A : Option Addr) (n c : Nat) (zs : List Int) (B : Nat) (w : World) (hm : m ≤ 4194304) (hn : n ≤ 1048576) (h : Rd w B A n zs) :
    Calls Try.prog 51 #[.slice A n c, .int .i64 m] w (RetB (Ln.idxs m zs) w) := by
  have hb0 : Below w.heap.size w (w.alloc (.cells #[.int .i64 m] 3)) := (Below.refl _ _).alloc (Nat.le_refl _) _
  have hcell : (w.alloc (.cells #[.int .i64 m] 3)).cell? ⟨w.heap.size, 0, none⟩ = some (.int .i64 m) := cell_of_row _ _ 0 _ _ (0, 0) (heap_alloc_new w _)
  have C := Lib.hid (contI_any m w.heap.size A n c zs B _ hm hn (h.below hb0) hcell)
  have HB0 := Lib.hid hb0
  clear h hb0 hcell
  generalize Ln.idxs m zs = r at C ⊢
  have hmf : ∀ (fn : Fn) (first cap : Array Value) (w : World), (Instr.makeFunc fn first cap).run Try.prog w = .ok (.func fn first cap) w := fun _ _ _ _ => rfl
  go_enter Try.func51, Try.ntmps51
  go_wp2_with fail
  refine C.out.mono ?_
  rintro e w1 ⟨rfl, hb1⟩
  have HB1 := Lib.hid (HB0.out.trans (hb1.mono HB0.out.size)); clear hb1
  go_wp2
  go_ret
  exact ⟨ret_bool (by simp), HB1.out⟩
theorem iIsShuffle_any (A : Option Addr) (n c : Nat) (zs : List Int) (B : Nat) (w : World) (hn : n ≤ 1048576) (h : Rd w B A n zs) :
    Calls Try.prog 21 #[.slice A n c] w (RetB (Ln.shuf zs) w) := by
  have C := Lib.hid (areI_any n A n c zs B w (by omega) hn h)
  unfold Ln.shuf
  rw [h.len]
  clear h
  have CL := Lib.hid (isLanes_any (n : Int) w)
  generalize Ln.lanes (n : Int) = l at CL ⊢
  generalize Ln.idxs n zs = r at C ⊢
  cases l
  · go_enter Try.func21, Try.ntmps21
    go_wp2_with fail
    refine CL.out.mono ?_
    rintro e w1 ⟨rfl, rfl⟩
    go_wp2
    go_ret
    exact ⟨ret_bool (by simp), Below.refl _ _⟩
  · go_enter Try.func21, Try.ntmps21
    go_wp2_with fail
    refine CL.out.mono ?_
    rintro e w1 ⟨rfl, rfl⟩
    go_wp2_with fail
    refine C.out.mono ?_
    rintro e w2 ⟨rfl, hb2⟩
    have HB2 := Lib.hid hb2; clear hb2
    go_wp2
    go_ret
    exact ⟨ret_bool (by simp), HB2.out⟩
set_option maxHeartbeats 400000 in
theorem elems_any (A A' : Option Addr) (n m c c' : Nat) (zs is : List Int) (B B' : Nat) (w : World) (hn : n ≤ 4194304) (hm : m ≤ 1048576) (h : Rd w B A n zs) (h' : Rd w B' A' m is) (hi : Ln.idxs n is = true) :
    Calls Try.prog 47 #[.slice A n c, .slice A' m c'] w (RetL (Ln.pickL zs is) w) := by
  obtain ⟨i0, hi0, hz0, hz1, hz2⟩ := info_parts A_info64
  have HI := Lib.hid (fun k (hk : k < m) => Ln.idxs_at (k := k) hi (by rw [h'.len]; exact hk))
  have H := Lib.hid h; clear h hi
  have H' := Lib.hid h'; clear h'
  go_enter Try.func47, Try.ntmps47
  go_wp2_with (refine wpList_make_blk _ rfl _ _ _ rfl i0 Try.underlying25 hi0 hz0 hz1 hz2 _ _ _ _ m rfl rfl rfl rfl (by omega) ?_)
  go_loopw [13] (fun i wr => Fills (fun j => zs.getD (is.getD j 0).toNat 0) m w.heap.size w i wr) (fun i _ => m - (intOf i).toNat)
  case atStart =>
    exact ⟨0, Nat.zero_le _, rfl, by rw [Ln.fill_zero, ← clls_zero]; exact Blk.new _ _, (Below.refl _ _).alloc (Nat.le_refl _) _⟩
  case round =>
    obtain ⟨k, hk, rfl, hblk, hb⟩ := hrel
    by_cases hlt : k < m
    · obtain ⟨g', o', rfl, hg', hc'⟩ := (H'.out.below hb).at_ hlt
      obtain ⟨j0, j1⟩ := HI.out k hlt
      obtain ⟨j, hj⟩ : ∃ j, j = is.getD k 0 := ⟨_, rfl⟩
      rw [← hj] at hc' j0 j1
      obtain ⟨y, rfl⟩ := Int.eq_ofNat_of_zero_le j0
      obtain ⟨g, o, rfl, hg, hc⟩ := (H.out.below hb).at_ (k := y) (by omega)
      have hv0 := hblk.has hk hlt
      have hf := hblk.frozen k
      generalize (Ln.fill (fun j => zs.getD (is.getD j 0).toNat 0) m k).getD k 0 = old at hv0
      obtain ⟨z, hz⟩ : ∃ z, z = zs.getD y 0 := ⟨_, rfl⟩
      have HF := Lib.hid (Fills.step hlt (Nat.le_refl _) hb hblk z (by rw [← hj, Int.toNat_natCast]; exact hz))
      rw [← hz] at hc
      have hlt1 : (k : Int) < (m : Int) := by omega
      clear hz hj hblk hb j0
      go_wp2
      go_roundw
      case rel => exact HF.out
      case measure => simp [intOf]; omega
    · have hkn : k = m := by omega
      have HALL := Lib.hid (And.intro hblk (And.intro hb hkn)); clear hblk hb hkn
      go_wp2
      go_ret
      obtain ⟨hblk, hb, rfl⟩ := HALL.out
      rw [Ln.fill_all] at hblk
      have e : Ln.pickL zs is = Ln.tab (fun j => zs.getD (is.getD j 0).toNat 0) k := by unfold Ln.pickL; rw [H'.out.len]
      rw [e]
      exact ⟨_, k, k, rfl, Own.of_blk hblk (Ln.tab_len _ _) (Nat.le_refl _), hm, Nat.le_refl _, hb⟩
set_option maxHeartbeats 400000 in
theorem sShuf_any (A : Option Addr) (n c : Nat) (zs : List Int) (B : Nat) (w : World) (hn : n ≤ 1048576) (h : Rd w B A n zs) :
    Calls Try.prog 63 #[.slice A n c] w (RetB (Ln.shuf zs) w) := by
  have hl := h.len
  have H := Lib.hid h; clear h
  have HL := Lib.hid hl; clear hl
  go_enter Try.func63, Try.ntmps63
  go_wp2
  go_loopw [4] (fun i wr => ∃ k : Nat, k ≤ n ∧ i = .int .i64 k ∧ ((zs.take k).all fun z => decide (0 ≤ z ∧ z < n)) = true ∧ Below w.heap.size w wr) (fun i _ => n - (intOf i).toNat)
  case atStart => exact ⟨0, Nat.zero_le _, rfl, by simp, Below.refl _ _⟩
  case round =>
    obtain ⟨k, hk, rfl, hall, hb⟩ := hrel
    by_cases hlt : k < n
    · obtain ⟨g, o, rfl, hg, hd⟩ := (H.out.below hb).at_ hlt
      have hsn := Ln.all_snoc (fun z => decide (0 ≤ z ∧ z < n)) zs k (by rw [HL.out]; exact hlt)
      rw [hall, Bool.true_and] at hsn
      by_cases hw : 0 ≤ zs.getD k 0 ∧ zs.getD k 0 < n
      · rw [decide_eq_true hw] at hsn
        obtain ⟨z, hz⟩ : ∃ z, z = zs.getD k 0 := ⟨_, rfl⟩
        rw [← hz] at hd hw
        have HS := Lib.hid hsn
        have HW := Lib.hid (show 0 ≤ z ∧ z ≤ (n : Int) - 1 by omega)
        have HB := Lib.hid hb; clear hz hb hsn hall hw
        have n1 : 1 ≤ (n : Int) := by omega
        have n2 : (0 : Int) ≤ (n : Int) - 1 := by omega
        go_wp2_with (go_at_call 69; refine (in_yes _ _ _ _ HW.out).mono ?_; rintro e w' ⟨rfl, rfl⟩)
        go_roundw
        case rel => exact ⟨k + 1, by omega, by go_num, HS.out, HB.out⟩
        case measure => simp [intOf]; omega
      · have hno : Ln.shuf zs = false := by
          unfold Ln.shuf Ln.idxs
          rw [HL.out, Ln.all_not (p := fun z => decide (0 ≤ z ∧ z < (n : Int))) (k := k) (by rw [HL.out]; exact hlt) (decide_eq_false hw), Bool.and_false]
        obtain ⟨z, hz⟩ : ∃ z, z = zs.getD k 0 := ⟨_, rfl⟩
        rw [← hz] at hd hw
        have HS := Lib.hid hno
        have HW := Lib.hid (show ¬ (0 ≤ z ∧ z ≤ (n : Int) - 1) by omega)
        have HB := Lib.hid hb; clear hz hb hsn hall hw hno
        have n1 : 1 ≤ (n : Int) := by omega
        have n2 : (0 : Int) ≤ (n : Int) - 1 := by omega
        go_wp2_with (go_at_call 69; refine (in_no _ _ _ _ HW.out).mono ?_; rintro e w' ⟨rfl, rfl⟩)
        go_ret
        exact ⟨ret_bool HS.out.symm, HB.out⟩
    · have e : Ln.shuf zs = Ln.lanes n := by
        unfold Ln.shuf Ln.idxs
        rw [HL.out, Ln.all_end (by rw [HL.out]; omega) hall, Bool.and_true]
      have HE := Lib.hid e
      have HB := Lib.hid hb; clear e hb hall
      go_wp2_with (go_at_call 90; refine (sLanes_any _ _).mono ?_; rintro e w' ⟨rfl, rfl⟩)
      go_ret
      exact ⟨ret_bool HE.out.symm, HB.out⟩
set_option maxHeartbeats 400000 in
theorem sApply_any (A A' : Option Addr) (n m c c' : Nat) (zs is : List Int) (B B' : Nat) (w : World) (hn : n ≤ 4194304) (hm : m ≤ 1048576) (h : Rd w B A n zs) (h' : Rd w B' A' m is) (hi : Ln.idxs n is = true) :
    Calls Try.prog 65 #[.slice A' m c', .slice A n c] w (RetL (Ln.pickL zs is) w) := by
  obtain ⟨i0, hi0, hz0, hz1, hz2⟩ := info_parts A_info64
  have HI := Lib.hid (fun k (hk : k < m) => Ln.idxs_at (k := k) hi (by rw [h'.len]; exact hk))
  have H := Lib.hid h; clear h hi
  have H' := Lib.hid h'; clear h'
  go_enter Try.func65, Try.ntmps65
  go_wp2
  go_loopw [5, 6] (fun v i wr => Pushes (fun j => zs.getD (is.getD j 0).toNat 0) m w v i wr) (fun _ i _ => m - (intOf i).toNat)
  case atStart => exact Pushes.start _ _ _
  case round =>
    obtain ⟨k, hk, rfl, hown, hb⟩ := hrel
    by_cases hlt : k < m
    · obtain ⟨g', o', rfl, hg', hc'⟩ := (H'.out.below hb).at_ hlt
      obtain ⟨j0, j1⟩ := HI.out k hlt
      obtain ⟨j, hj⟩ : ∃ j, j = is.getD k 0 := ⟨_, rfl⟩
      rw [← hj] at hc' j0 j1
      obtain ⟨y, rfl⟩ := Int.eq_ofNat_of_zero_le j0
      obtain ⟨g, o, rfl, hg, hc⟩ := (H.out.below hb).at_ (k := y) (by omega)
      obtain ⟨z, hz⟩ : ∃ z, z = zs.getD y 0 := ⟨_, rfl⟩
      rw [← hz] at hc
      have HZ := Lib.hid (show z = (fun j => zs.getD (is.getD j 0).toNat 0) k by show z = zs.getD (is.getD k 0).toNat 0; rw [← hj, Int.toNat_natCast]; exact hz)
      have HO := Lib.hid hown
      have HB := Lib.hid hb
      have hsz := hb.size
      clear hz hj hown hb j0
      go_wp2_with (at_builtin; refine wpList_push _ rfl _ _ rfl i0 Try.underlying25 hi0 hz0 hz1 hz2 _ _ _ _ _ rfl HO.out rfl (by omega) hsz ?_; intro v' w3 hown1 hb1; have HO1 := Lib.hid hown1; have HBB := Lib.hid hb1; clear hown1 hb1)
      go_roundw
      case rel => exact Pushes.step hlt HB.out _ HZ.out HO1.out HBB.out
      case measure => simp [intOf]; omega
    · have hkn : k = m := by omega
      have HALL := Lib.hid (And.intro hown (And.intro hb hkn)); clear hown hb hkn
      go_wp2
      go_ret
      obtain ⟨hown, hb, rfl⟩ := HALL.out
      have e : Ln.pickL zs is = Ln.tab (fun j => zs.getD (is.getD j 0).toNat 0) k := by unfold Ln.pickL; rw [H'.out.len]
      rw [e]
      exact RetL.of_row hown hm hb
end Go.Proofs.Ytfmplneopmbfoaa.Wds
