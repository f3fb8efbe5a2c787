/-
  ReadList: what the code's function answers.
-/
import Derived.Test.YtancbcjeackmkaaDoorRl
import Derived.Test.YtancbcjeackmkaaDoorShelfS
namespace Go.Proofs.YtancbcjeackmkaaDoor.Wds
open Go.RowKit
set_option linter.unusedVariables false
/-- The library's tables and errors, and the cell of its greatest length. -/
def LibP (w : World) : Prop := TabP w ∧ ErrP "strconv.ErrSyntax" w ∧ ErrP "strconv.ErrRange" w ∧ ∃ m : Int, w.cell? ⟨4, 0, none⟩ = some (.int .i64 m)
theorem LibP.keep {w w' : World} (h : LibP w) (hb : Below w.heap.size w w') : LibP w' := by
  obtain ⟨h1, h2, h3, m, h4⟩ := h
  refine ⟨h1.keep hb, errP_below h2 ⟨_, (by kernel_rfl : Tryd.prog.globalNamed "strconv.ErrSyntax" = some 2)⟩ hb, errP_below h3 ⟨_, (by kernel_rfl : Tryd.prog.globalNamed "strconv.ErrRange" = some 3)⟩ hb, m, ?_⟩
  exact (hb.cell (World.block_lt_of_cell? w _ h4)).trans h4
theorem cellsOf_get {ps : List ByteArray} {N k : Nat} {x : ByteArray} (h : ps[k]? = some x) : (Lib.cellsOf ps N)[k]? = some (.string x) := by
  have hk : k < ps.length := by
    rcases Nat.lt_or_ge k ps.length with h' | h'
    · exact h'
    · rw [List.getElem?_eq_none h'] at h; cases h
  unfold Lib.cellsOf
  rw [List.getElem?_toArray, List.getElem?_append_left (by rw [List.length_map]; exact hk), List.getElem?_map, h]; rfl
theorem BlkT.far {w : World} {g : Nat} {cs : Array Value} (h : BlkT w g cs) {p : Addr} (hp : g ≠ p.block) (u : Value) : BlkT (w.setCell p u) g cs := (Below.heap_setCell w p u g hp).trans h
/-- What the library's split returns. -/
theorem splitN_any (s : ByteArray) (m : UInt8) (lim : Nat) (w : World) (hm : s.size ≤ 1048576) (hl : lim ≤ 1000000) (hL : LibP w) :
    Calls Tryd.prog 59 #[.string s, .string ⟨#[m]⟩, .int .i64 ((lim + 1 : Nat) : Int)] w fun e w' => ∃ (ps : List ByteArray) (c : Nat) (cs : Array Value), e = .returned (.slice (some ⟨w.heap.size, 0, none⟩) ps.length c) ∧
      BlkT w' w.heap.size cs ∧ (∀ (j : Nat) (x : ByteArray), ps[j]? = some x → cs[j]? = some (Value.string x)) ∧ Below w.heap.size w w' ∧ w.heap.size < w'.heap.size ∧
      (((Wd.cut m s.data.toList).length ≤ lim ∧ ps.map (·.data.toList) = Wd.cut m s.data.toList) ∨ (lim < (Wd.cut m s.data.toList).length ∧ ps.length = lim + 1)) := by
  obtain ⟨_, _, _, mm, h4⟩ := hL
  refine (Tryd.strings_SplitN s ⟨#[m]⟩ (lim + 1) mm w (by omega) h4 (Nat.le_refl 1) (by omega) (by omega)).mono ?_
  rintro e w' ⟨rfl, rfl⟩
  have hd := Lib.splitB_data ⟨#[m]⟩ 0 (min (lim + 1) (s.size + 1) - 1) s
  have hs : s.size = s.data.toList.length := by simp
  refine ⟨_, _, _, rfl, BlkT.new _ _, fun j x hx => cellsOf_get hx, (Below.refl _ _).alloc (Nat.le_refl _) _, ?_, ?_⟩
  · show w.heap.size < (w.heap.push _).size; simp
  · have hd' : (Lib.splitB ⟨#[m]⟩ 0 (min (lim + 1) (s.size + 1) - 1) s).map (·.data.toList) = Lib.splitK [m] 0 (min (lim + 1) (s.data.toList.length + 1) - 1) s.data.toList := by rw [hd, ← hs]
    by_cases hc : (Wd.cut m s.data.toList).length ≤ lim
    · exact .inl ⟨hc, by rw [hd', Wd.splitN_few hc]⟩
    · refine .inr ⟨by omega, ?_⟩
      have := congrArg List.length hd'
      rw [List.length_map, Wd.splitN_many (by omega)] at this
      exact this
/-- The code's loop: the row of numbers up to its round, the row of the parts as it was. -/
def NumI (f : Nat → Int) (ok : Nat → Prop) (n g gp : Nat) (cs : Array Value) (w : World) (i : Value) (wr : World) : Prop :=
  ∃ k : Nat, k ≤ n ∧ i = .int .i64 k ∧ Hid (Blk wr g (clls (Ln.fill f n k))) ∧ Hid (Below w.heap.size w wr) ∧ Hid (BlkT wr gp cs) ∧ Hid (∀ j, j < k → ok j)
def rdP (l : List UInt8) : List Int × Bool := if (Wd.cut 44 l).length ≤ 70 ∧ ∀ p ∈ Wd.cut 44 l, Wd.okP p then (Ln.tab (Wd.valP (Wd.cut 44 l)) (Wd.cut 44 l).length, true) else Ln.no
set_option maxRecDepth 100000 in
theorem parts_any (s : ByteArray) (w : World) (hm : s.size ≤ 1048576) (hLib : LibP w) :
    Calls Tryd.prog 39 #[.string s, .string ⟨#[44]⟩, .int .i64 70, .func (.func 12) #[] #[]] w (Ret1 (rdP s.data.toList).1 (rdP s.data.toList).2 w) := by
  have hlen : s.data.toList.length = s.size := by simp
  have HL := Lib.hid hlen
  have C := Lib.hid (splitN_any s 44 70 w hm (by omega) hLib)
  have HLib := Lib.hid hLib
  obtain ⟨i0, hi, hz0, hz1, hz2⟩ := info_parts A_info64
  clear hlen hLib
  go_enter Tryd.func39, Tryd.ntmps39
  go_wp2_with fail
  refine C.out.mono ?_
  rintro e w1 ⟨ps, c, cs, rfl, hblk, hcs, hbel, hlt1, hcase⟩
  have HBW := Lib.hid hbel
  have HBLK := Lib.hid hblk
  have HCS := Lib.hid hcs
  obtain ⟨n, hn⟩ : ∃ n, n = ps.length := ⟨_, rfl⟩
  have HN := Lib.hid hn
  rw [← hn]
  rw [← hn] at hcase
  obtain ⟨g0, hg0⟩ : ∃ g0, g0 = w.heap.size := ⟨_, rfl⟩
  have HG := Lib.hid hg0
  rw [← hg0] at HBLK hlt1 ⊢
  clear hbel hblk hcs hn hg0
  rcases hcase with ⟨hc70, hps⟩ | ⟨hc70, hn71⟩
  rotate_left
  · have l1 : (70 : Int) < n := by omega
    have HE := Lib.hid (show rdP s.data.toList = Ln.no by unfold rdP; rw [if_neg]; intro hh; have := hh.1; omega)
    clear hc70 hn71
    go_wp2
    go_ret2
    rw [HE.out]
    exact Ret1.no HBW.out
  have HPS := Lib.hid hps
  have HCL := Lib.hid (show (Wd.cut 44 s.data.toList).length = n by rw [← hps, List.length_map, HN.out])
  have h70 : n ≤ 70 := by have := HCL.out; omega
  have l1 : ¬ (70 : Int) < n := by omega
  clear hps hc70
  go_wp2_with (refine wpList_make_blk _ rfl _ _ _ rfl i0 Tryd.underlying27 hi hz0 hz1 hz2 _ _ _ _ n rfl rfl rfl rfl (by omega) ?_)
  go_loopw [30] (fun i wr => NumI (Wd.valP (Wd.cut 44 s.data.toList)) (fun j => Wd.okP ((Wd.cut 44 s.data.toList).getD j [])) n w1.heap.size g0 cs w i wr) (fun i _ => n - (intOf i).toNat)
  case atStart =>
    exact ⟨0, Nat.zero_le _, rfl, Lib.hid (by rw [Ln.fill_zero, ← clls_zero]; exact Blk.new _ _), Lib.hid (HBW.out.alloc HBW.out.size _), Lib.hid (HBLK.out.keep ((Below.refl _ _).alloc (Nat.le_refl _) _)), Lib.hid (fun j hj => by omega)⟩
  case round =>
    obtain ⟨k, hk, rfl, HO, HB, HK, HA⟩ := hrel
    by_cases hlt : k < n
    · obtain ⟨x, hx, hxe⟩ := part_at (ps := ps) (k := k) (by rw [← HN.out]; exact hlt)
      have hcell := (HK.out.cell k).trans (HCS.out k x hx)
      have hxs := part_small HPS.out hx
      rw [HL.out] at hxs
      rw [HPS.out] at hxe
      have hl := HLib.out.keep HB.out
      have c1 := iReadDecimal_any x wr (by omega) hl.1 hl.2.1 hl.2.2.1
      rw [← hxe] at c1
      clear hx hl
      cases hv : Wd.rdV ((Wd.cut 44 s.data.toList).getD k []) with
      | none =>
        rw [hv] at c1
        have C1 := Lib.hid c1; clear c1
        have HE := Lib.hid (show rdP s.data.toList = Ln.no by
          unfold rdP
          rw [if_neg]; intro hh; exact Wd.not_all (k := k) (by rw [HCL.out]; exact hlt) (by unfold Wd.okP; rw [hv]; decide) hh.2)
        clear hv hxe
        go_wp2_with (go_at_call 12; refine C1.out.mono ?_; rintro e w2 ⟨rfl, hb2⟩; unfold rdE; have HB2 := Lib.hid (HB.out.trans (hb2.mono HB.out.size)); clear hb2)
        go_ret2
        rw [HE.out]
        exact Ret1.no HB2.out
      | some z =>
        rw [hv] at c1
        have C1 := Lib.hid c1; clear c1
        have HZ := Lib.hid (show z = Wd.valP (Wd.cut 44 s.data.toList) k by unfold Wd.valP; rw [hv]; rfl)
        have HA2 := Lib.hid (show ∀ j, j < k + 1 → Wd.okP ((Wd.cut 44 s.data.toList).getD j []) by
          intro j hj
          rcases Nat.lt_or_ge j k with h | h
          · exact HA.out j h
          · obtain rfl : j = k := by omega
            unfold Wd.okP; rw [hv]; rfl)
        clear hv hxe
        go_wp2_with (go_at_call 12; refine C1.out.mono ?_; rintro e w2 ⟨rfl, hb2⟩; unfold rdE; have HB2 := Lib.hid (HB.out.trans (hb2.mono HB.out.size)); have HO2 := Lib.hid (HO.out.keep hb2); have HK2 := Lib.hid (HK.out.keep hb2); clear hb2; have hf := HO2.out.frozen k; obtain ⟨v0, hv0⟩ : ∃ v, w2.cell? ⟨w1.heap.size, k, none⟩ = some v := ⟨_, (HO2.out.cell k).trans (clls_get (by rw [Ln.fill_len _ n k hk]; exact hlt))⟩)
        have HO3 := Lib.hid (HO2.out.set_ k (.int .i64 z))
        have hgg := HG.out
        have hszw := HBW.out.size
        have HB3 := Lib.hid (HB2.out.setCell (p := ⟨w1.heap.size, k, none⟩) hszw (.int .i64 z))
        have HK3 := Lib.hid (HK2.out.far (p := ⟨w1.heap.size, k, none⟩) (by show g0 ≠ w1.heap.size; omega) (.int .i64 z))
        go_roundw
        case rel => exact ⟨k + 1, by omega, by go_num, Lib.hid (by have := HO3.out; rw [HZ.out, clls_set, Ln.fill_set _ n k hlt] at this; rw [HZ.out]; exact this), HB3, HK3, HA2⟩
        case measure => simp [intOf]; omega
    · have hkn : k = n := by omega
      have HE := Lib.hid (show rdP s.data.toList = (Ln.tab (Wd.valP (Wd.cut 44 s.data.toList)) n, true) by
        unfold rdP
        rw [if_pos ⟨by rw [HCL.out]; exact h70, Wd.all_of (n := n) (by rw [HCL.out]; exact Nat.le_refl _) (by rw [← hkn]; exact HA.out)⟩, HCL.out])
      subst hkn
      have hszw := HBW.out.size
      have HR := Lib.hid (Ret1.of_blk (w := w) (by have := HO.out; rw [Ln.fill_all] at this; exact this) (Ln.tab_len _ _) hszw (by omega) HB.out)
      go_wp2
      go_ret2
      rw [HE.out]
      exact HR.out
theorem iReadList_any (s : ByteArray) (w : World) (hm : s.size ≤ 1048576) (hLib : LibP w) :
    Calls Tryd.prog 18 #[.string s] w (Ret1 (Wd.rdL s.data.toList).1 (Wd.rdL s.data.toList).2 w) := by
  by_cases hnone : s.data.toList = [110, 111, 110, 101]
  · have hb : (s.toList == [110, 111, 110, 101]) = true := by rw [beq_iff_eq, ByteArray.toList_eq]; exact hnone
    have HE := Lib.hid (show Wd.rdL s.data.toList = ([], true) by unfold Wd.rdL; rw [if_pos hnone])
    clear hnone
    go_enter Tryd.func18, Tryd.ntmps18
    go_wp2
    go_ret2
    rw [HE.out]
    exact ⟨_, 0, 0, rfl, Own.nil _ _ _ _, Nat.zero_le _, (Below.refl _ _).alloc (Nat.le_refl _) _⟩
  have hb : (s.toList == [110, 111, 110, 101]) = false := by rw [beq_eq_false_iff_ne, ByteArray.toList_eq]; exact hnone
  have HR := Lib.hid (show Wd.rdL s.data.toList = rdP s.data.toList by unfold Wd.rdL rdP; rw [if_neg hnone])
  have C := Lib.hid (parts_any s w hm hLib)
  clear hnone hLib
  go_enter Tryd.func18, Tryd.ntmps18
  go_wp2_with fail
  refine C.out.mono ?_
  rintro e w1 ⟨A, n, c, rfl, ho, hn, hb1⟩
  have HOO := Lib.hid ho
  have HB := Lib.hid hb1
  clear ho hb1
  go_wp2
  go_ret2
  rw [HR.out]
  exact ⟨A, n, c, rfl, HOO.out, hn, HB.out⟩
theorem sReadList_any (s : ByteArray) (w : World) (hm : s.size ≤ 1048576) :
    Calls Tryd.prog 17 #[.string s] w (Ret1 (Wd.rdL s.data.toList).1 (Wd.rdL s.data.toList).2 w) := by
  have C := Lib.hid (numbers_any s w hm)
  go_enter Tryd.func17, Tryd.ntmps17
  go_wp2_with fail
  refine C.out.mono ?_
  rintro e w1 ⟨A, n, c, rfl, ho, hn, hb1⟩
  have HOO := Lib.hid ho
  have HB := Lib.hid hb1
  clear ho hb1
  go_wp2
  go_ret2
  exact ⟨A, n, c, rfl, HOO.out, hn, HB.out⟩
end Go.Proofs.YtancbcjeackmkaaDoor.Wds
