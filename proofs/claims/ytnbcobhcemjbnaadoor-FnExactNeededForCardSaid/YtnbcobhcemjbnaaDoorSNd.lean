/-
  NeededFor: the model's function: which cells are wanted as a row of truths. One contract.
-/
import Derived.Test.YtnbcobhcemjbnaaDoorNdM
import Derived.Test.YtnbcobhcemjbnaaDoorOuts
import Derived.Test.YtnbcobhcemjbnaaDoorVTask
import Derived.Test.YtnbcobhcemjbnaaDoorVCode
import Derived.Test.YtnbcobhcemjbnaaDoorBxM
import Derived.Test.YtnbcobhcemjbnaaDoorPush
import Derived.Deep.CutRange
namespace Go.Proofs.YtnbcobhcemjbnaaDoor.Wds
open Go.RowKit
set_option linter.unusedVariables false

/-- A set of cells as a row of truths. -/
def cllB (s : Nat) : Array Value := ((List.range 32).map fun j => Value.bool (s.testBit j)).toArray
theorem cllB_get {s j : Nat} (h : j < 32) : (cllB s)[j]? = some (.bool (s.testBit j)) := by
  rw [cllB, List.getElem?_toArray, List.getElem?_map, List.getElem?_range h]; rfl
theorem cllB_set (s j : Nat) (b : Bool) (t : Nat) (ht : ∀ k, k < 32 → t.testBit k = if k = j then b else s.testBit k) : (cllB s).setIfInBounds j (.bool b) = cllB t := by
  refine Array.ext_getElem? fun i => ?_
  have hs : (cllB s).size = 32 := by simp [cllB]
  have hs' : (cllB t).size = 32 := by simp [cllB]
  rw [Array.getElem?_setIfInBounds, hs]
  by_cases hi : i < 32
  · rw [cllB_get hi, cllB_get hi, ht i hi]
    by_cases e : j = i
    · subst e; rw [if_pos rfl, if_pos hi, if_pos rfl]
    · rw [if_neg e, if_neg (fun h => e h.symm)]
  · rw [Array.getElem?_eq_none (by omega), Array.getElem?_eq_none (by omega)]
    split
    · rw [if_neg (by omega)]
    · rfl
theorem cllB_true (s j : Nat) : (cllB s).setIfInBounds j (.bool true) = cllB (s ||| 2 ^ j) := cllB_set _ _ _ _ fun k _ => by
  rw [Nat.testBit_or, Sc.tb_pow]
  by_cases e : k = j
  · subst e; simp
  · rw [if_neg e, decide_eq_false (fun h => e h.symm), Bool.or_false]
theorem cllB_false (s j : Nat) : (cllB s).setIfInBounds j (.bool false) = cllB (Sc.diff s (2 ^ j)) := cllB_set _ _ _ _ fun k _ => by
  rw [Sc.tb_diff, Sc.tb_pow]
  by_cases e : k = j
  · subst e; simp
  · rw [if_neg e, decide_eq_false (fun h => e h.symm)]; simp
/-- A store into a row of truths leaves a list of numbers as it was. -/
theorem Own.farB {w : World} {lo hi n g i : Nat} {A : Option Addr} {zs : List Int} {cs : Array Value} (h : Own w lo hi A n zs) (hb : Bx w g 4 cs) (u : Value) : Own (w.setCell ⟨g, i, none⟩ u) lo hi A n zs :=
  ⟨h.1, fun hn => by
    obtain ⟨g', o, cs', e, h1, h2, hg, hc⟩ := h.2 hn
    refine ⟨g', o, cs', e, h1, h2, hg.far (p := ⟨g, i, none⟩) (fun e' => ?_) u, hc⟩
    change g' = g at e'
    subst e'
    have hb' : w.heap[g']? = some (.cells cs 4 (0, 0)) := hb
    have hg' : w.heap[g']? = some (.cells cs' 2 (0, 0)) := hg
    rw [hb'] at hg'
    injection hg' with hg'
    injection hg' with _ hg'
    exact absurd hg' (by decide)⟩
/-- What the model's loop holds: the statement's copy, the row of truths, the list. -/
structure NdW (w : World) (lo gW gX : Nat) (cX : Array Value) (s : Nat) (A2 : Option Addr) (n2 : Nat) (zs : List Int) (wr : World) : Prop where
  b : Bx wr gW 4 (cllB s)
  x : Bx wr gX 80 cX
  o : Own wr lo wr.heap.size A2 n2 zs
  h : Below lo w wr
theorem NdW.set {w : World} {lo gW gX : Nat} {cX : Array Value} {s : Nat} {A2 : Option Addr} {n2 : Nat} {zs : List Int} {wr : World} (h : NdW w lo gW gX cX s A2 n2 zs wr) (hne : gX ≠ gW) (hlo : lo ≤ gW) (j : Nat) (b : Bool) (t : Nat) (ht : (cllB s).setIfInBounds j (.bool b) = cllB t) :
    NdW w lo gW gX cX t A2 n2 zs (wr.setCell ⟨gW, j, none⟩ (.bool b)) :=
  ⟨by have := h.b.set_ j (.bool b); rw [ht] at this; exact this, h.x.far (p := ⟨gW, j, none⟩) hne _, by have := h.o.farB (i := j) h.b (.bool b); simpa [World.setCell] using this, h.h.setCell (p := ⟨gW, j, none⟩) hlo _⟩
theorem A_infoBool : (Tryd.prog.info? 4).map (fun i => (i.zero, i.size, i.bytes)) = some (some (.bool false), 1, 1) := by kernel_rfl
theorem run_make_b (W : World) : (Instr.makeSlice 78 (.int .i64 32) (.int .i64 32)).run Tryd.prog W = .ok (.slice (some ⟨W.heap.size, 0, none⟩) 32 32) (W.alloc (.cells (cllB 0) 4)) := by
  obtain ⟨i, hi, h3, h4, h5⟩ := info_parts A_infoBool
  have hrun := run_make (P := Tryd.prog) W 78 4 i (.bool false) Tryd.underlying78 hi h3 .i64 .i64 32 32 (by omega) (by omega) (by rw [h5]; omega) (by omega)
  have e : madeCells (Value.bool false).cells ((32 : Int).toNat * i.size) = cllB 0 := by
    rw [h4]
    apply Array.ext
    · simp [madeCells, cllB]
    · intro j hj1 hj2
      simp [madeCells, Value.cells, Nat.mod_one, cllB]
  rw [e] at hrun
  simpa using hrun
set_option maxRecDepth 100000 in
set_option maxHeartbeats 4000000 in
theorem sNeededFor_any (A : Option Addr) (n c : Nat) (ss : List Sc.St) (B : Nat) (A' : Option Addr) (m c' : Nat) (cs : List Int) (B' : Nat) (w : World) (hn : n ≤ 1048576) (hm : m ≤ 1048576) (h : RdS w B A n ss) (h' : Rd w B' A' m cs) :
    Calls Tryd.prog 17 #[.slice A n c, .slice A' m c'] w (Ret1 (Sc.neededFor ss cs).1 (Sc.neededFor ss cs).2 w) := by
  have C1 := Lib.hid (sIs3_any A n c ss B w hn h)
  have C2 := Lib.hid (fun (W : World) (hb : Below w.heap.size w W) => sRises_any A' m c' cs B' 31 W hm (h'.below hb))
  have hl := h.len
  have hl' := h'.len
  obtain ⟨v, hv⟩ : ∃ z, z = Sc.valid ss := ⟨_, rfl⟩
  obtain ⟨u, hu⟩ : ∃ z, z = Tk.ups 31 cs := ⟨_, rfl⟩
  unfold Sc.neededFor
  rw [← hv] at C1 ⊢
  rw [← hu] at C2 ⊢
  have H := Lib.hid h
  have H' := Lib.hid h'
  clear h h'
  cases v
  · clear hv hu
    go_enter Tryd.func17, Tryd.ntmps17
    go_wp2_with fail
    refine C1.out.mono ?_
    rintro e w1 ⟨rfl, hb⟩
    have HB := Lib.hid hb; clear hb
    go_wp2
    go_ret2
    exact Ret1.no HB.out
  cases u
  · clear hv hu
    go_enter Tryd.func17, Tryd.ntmps17
    go_wp2_with fail
    refine C1.out.mono ?_
    rintro e w1 ⟨rfl, hb⟩
    have HB := Lib.hid hb; clear hb
    go_wp2_with fail
    refine (C2.out _ HB.out).mono ?_
    rintro e w2 ⟨rfl, hb⟩
    have HB2 := Lib.hid (HB.out.trans (hb.mono HB.out.size)); clear hb
    go_wp2
    go_ret2
    exact Ret1.no HB2.out
  · have HV := Lib.hid hv.symm
    have HU := Lib.hid hu.symm
    clear hv hu
    have HL := Lib.hid hl
    have HL' := Lib.hid hl'
    have h16 : n ≤ 16 := by rw [← hl]; exact Sc.len_of_valid HV.out
    clear hl hl'
    have hmk := run_make_b
    go_enter Tryd.func17, Tryd.ntmps17
    go_wp2_with fail
    refine C1.out.mono ?_
    rintro e w1 ⟨rfl, hb⟩
    have HB1 := Lib.hid hb; clear hb
    go_wp2_with fail
    refine (C2.out _ HB1.out).mono ?_
    rintro e w2 ⟨rfl, hb⟩
    have HB2 := Lib.hid (HB1.out.trans (hb.mono HB1.out.size)); clear hb
    go_wp2_with fail
    clear hmk
    go_loopw [7] (fun i wr => ∃ k : Nat, k ≤ m ∧ i = .int .i64 k ∧ Bx wr w2.heap.size 4 (cllB (Sc.doneOf (cs.take k))) ∧ Below w.heap.size w wr) (fun i _ => m - (intOf i).toNat)
    case atStart => exact ⟨0, Nat.zero_le _, rfl, Bx.new _ _ _, HB2.out.alloc HB2.out.size _⟩
    case round =>
      rename World => wr
      obtain ⟨k, hk, rfl, hB, hb⟩ := hrel
      by_cases hlt : k < m
      · obtain ⟨g, o, rfl, _, hc⟩ := (H'.out.below hb).at_ hlt
        have hmem := Tk.ups_mem HU.out (cs.getD k 0) (by rw [List.getD_eq_getElem?_getD, List.getElem?_eq_getElem (by rw [HL'.out]; exact hlt)]; exact List.getElem_mem _)
        have HN := Lib.hid (show Sc.doneOf (cs.take (k + 1)) = Sc.doneOf (cs.take k) ||| Sc.bt (cs.getD k 0) by rw [Tk.take_snoc (by rw [HL'.out]; exact hlt), Sc.doneOf_snoc])
        obtain ⟨z, hz⟩ : ∃ z, z = cs.getD k 0 := ⟨_, rfl⟩
        rw [← hz] at hc hmem HN
        obtain ⟨q, rfl⟩ := Int.eq_ofNat_of_zero_le hmem.1
        have q32 : q < 32 := by omega
        have cq : wr.cell? ⟨w2.heap.size, q, none⟩ = some (.bool ((Sc.doneOf (cs.take k)).testBit q)) := by rw [hB.cell, cllB_get q32]
        have fq := hB.frozen q
        have HBl := Lib.hid hB
        have HB := Lib.hid hb
        have i1 : (0 : Int) ≤ (k : Int) := by omega
        have i2 : (k : Int) < (m : Int) := by omega
        have i3 : (0 : Int) ≤ (q : Int) := by omega
        have i4 : (q : Int) < 32 := by omega
        clear hB hb hz
        go_wp2
        go_roundw
        case rel =>
          refine ⟨k + 1, by omega, by go_num, ?_, HB.out.setCell (p := ⟨w2.heap.size, q, none⟩) HB2.out.size _⟩
          have := HBl.out.set_ q (.bool true)
          rw [cllB_true] at this
          rw [HN.out, Sc.bt, Int.toNat_natCast]
          exact this
        case measure => simp [intOf]; omega
      · have hkm : k = m := by omega
        subst hkm
        have hc0 : cs.take k = cs := List.take_of_length_le (by rw [HL'.out]; exact Nat.le_refl _)
        rw [hc0] at hB
        have HBl := Lib.hid hB
        have HB := Lib.hid hb
        clear hB hb hc0
        have u1 : IntKind.i64.wrap ((n : Int) - 1) = (n : Int) - 1 := IntWalk.i64_in _ (by omega)
        go_wp2
        obtain ⟨w3, hw3⟩ : ∃ x, x = wr := ⟨_, rfl⟩
        rw [← hw3] at HBl HB
        have HW3 := Lib.hid hw3
        go_loopw [8, 9] (fun o i wx => ∃ (q : Nat) (z : Int) (A2 : Option Addr) (n2 c2 : Nat), q ≤ n ∧ z = (n : Int) - 1 - q ∧ i = .int .i64 z ∧ o = .slice A2 n2 c2 ∧ Own wx w.heap.size wx.heap.size A2 n2 (Sc.memsI (Sc.nd ss (Sc.doneOf cs) q).2) ∧ Bx wx w2.heap.size 4 (cllB (Sc.nd ss (Sc.doneOf cs) q).1) ∧ Below w.heap.size w wx) (fun _ i _ => (intOf i + 1).toNat)
        case atStart => 
          refine ⟨0, (n : Int) - 1, _, _, _, Nat.zero_le _, by omega, by go_num, rfl, ?_, ?_, ?_⟩
          · rw [show Sc.memsI (Sc.nd ss (Sc.doneOf cs) 0).2 = [] by show Sc.memsI 0 = []; unfold Sc.memsI; rw [Sc.mems_zero]; rfl]
            exact Own.nil _ _ _ _
          · rw [← hw3]; exact HBl.out.alloc _
          · rw [← hw3]; exact HB.out.alloc HB.out.size _
        case round =>
          rename World => wx
          obtain ⟨q, z, A2, n2, c2, hq, hz, rfl, rfl, ho, hbl, hb⟩ := hrel
          by_cases hql : q < n
          · obtain ⟨j, rfl⟩ : ∃ j : Nat, z = (j : Int) := ⟨n - 1 - q, by omega⟩
            have hj : j = n - 1 - q := by omega
            have hjn : j < n := by omega
            have HN := Lib.hid (show Sc.nd ss (Sc.doneOf cs) (q + 1) = Sc.ndStep ss (Sc.nd ss (Sc.doneOf cs) q) j by rw [Sc.nd_succ, HL.out, ← hj])
            obtain ⟨g, o, rfl, _, c0, c1, c2', c3⟩ := (H.out.below hb).at_ hjn
            have okj := Sc.ok_cells (Sc.ok_of_valid HV.out (k := j) (by rw [HL.out]; exact hjn))
            have hlt := Sc.nd_lt HV.out (Sc.doneOf_ups HU.out) q (by rw [HL.out]; exact hq)
            obtain ⟨x, hx⟩ : ∃ x, x = Sc.nth ss j := ⟨_, rfl⟩
            rw [← hx] at c0 c1 c2' c3 okj
            obtain ⟨st, hst⟩ : ∃ st, st = Sc.nd ss (Sc.doneOf cs) q := ⟨_, rfl⟩
            rw [← hst] at HN ho hbl hlt
            have HX := Lib.hid hx
            obtain ⟨xo, xd, xa, xb⟩ := x
            simp only at c0 c1 c2' c3 okj
            obtain ⟨_, hd, ha, hbb⟩ := okj
            obtain ⟨d, rfl⟩ := Int.eq_ofNat_of_zero_le hd.1
            obtain ⟨a, rfl⟩ := Int.eq_ofNat_of_zero_le ha.1
            obtain ⟨b, rfl⟩ := Int.eq_ofNat_of_zero_le hbb.1
            have hbx := hbl.alloc (.cells #[.int .i64 xo, .int .i64 d, .int .i64 a, .int .i64 b] 80)
            have cd : wx.cell? ⟨w2.heap.size, d, none⟩ = some (.bool (st.1.testBit d)) := by rw [hbl.cell, cllB_get (by omega)]
            obtain ⟨t, ht⟩ : ∃ t, t = st.1.testBit d := ⟨_, rfl⟩
            rw [← ht] at cd
            have HS := Lib.hid (show Sc.ndStep ss st j = if t then (Sc.diff st.1 (2 ^ d) ||| (2 ^ a ||| 2 ^ b), st.2 ||| 2 ^ j) else st by
              unfold Sc.ndStep; rw [← HX.out]; simp only [Sc.bt, Int.toNat_natCast]; rw [ht])
            have hlw := hbl.lt
            have i1 : (0 : Int) ≤ (j : Int) := by omega
            have i2 : (j : Int) < (n : Int) := by omega
            have i3 : (d : Int) < 32 := by omega
            have i4 : (a : Int) < 32 := by omega
            have i5 : (b : Int) < 32 := by omega
            have i6 : (0 : Int) ≤ (d : Int) := by omega
            have i7 : (0 : Int) ≤ (a : Int) := by omega
            have i8 : (0 : Int) ≤ (b : Int) := by omega
            have hj16 : j < 16 := by omega
            have HZ := Lib.hid (And.intro hz hj)
            have HO := Lib.hid ho
            have HBX := Lib.hid hbl
            have HBB := Lib.hid hb
            clear hz hj hx hst ht ho hbl hb hd ha hbb hbx
            cases t
            · go_wp2
              go_roundw
              case rel =>
                refine ⟨q + 1, (j : Int) - 1, _, _, _, by omega, by have := HZ.out.1; omega, by go_num, rfl, ?_, ?_, HBB.out.alloc HBB.out.size _⟩
                · rw [HN.out, HS.out]
                  exact (HO.out.below ((Below.refl _ _).alloc (Nat.le_refl _) _)).more (Nat.le_refl _) (by simp)
                · rw [HN.out, HS.out]; exact HBX.out.alloc _
              case measure => simp [intOf]; try omega
            · have fd := (HBX.out.alloc (.cells #[.int .i64 xo, .int .i64 d, .int .i64 a, .int .i64 b] 80)).frozen d
              have cd2 : (wx.alloc (.cells #[.int .i64 xo, .int .i64 d, .int .i64 a, .int .i64 b] 80)).cell? ⟨w2.heap.size, d, none⟩ = some (.bool true) := by rw [(HBX.out.alloc _).cell, cllB_get (by omega)]; rw [HBX.out.cell, cllB_get (by omega)] at cd; exact cd
              go_upto_region 15 with (fail)
              have N0 : NdW w w.heap.size w2.heap.size wx.heap.size #[.int .i64 xo, .int .i64 d, .int .i64 a, .int .i64 b] st.1 A2 n2 (Sc.memsI st.2) (wx.alloc (.cells #[.int .i64 xo, .int .i64 d, .int .i64 a, .int .i64 b] 80)) :=
                ⟨HBX.out.alloc _, Bx.new _ _ _, (HO.out.below ((Below.refl _ _).alloc (Nat.le_refl _) _)).more (Nat.le_refl _) (by simp), HBB.out.alloc HBB.out.size _⟩
              have N1 := N0.set (show wx.heap.size ≠ w2.heap.size by omega) HB2.out.size d false _ (cllB_false _ _)
              rw [World.setCell_alloc_past _ _ _ _ hlw] at N1
              obtain ⟨y1, hy1⟩ : ∃ y, y = (wx.setCell ⟨w2.heap.size, d, none⟩ (.bool false)).alloc (.cells #[.int .i64 xo, .int .i64 d, .int .i64 a, .int .i64 b] 80) := ⟨_, rfl⟩
              rw [← hy1] at N1 ⊢
              have x2 : y1.cell? ⟨wx.heap.size, 2, none⟩ = some (.int .i64 a) := N1.x.cell 2
              have ca : y1.cell? ⟨w2.heap.size, a, none⟩ = some (.bool ((Sc.diff st.1 (2 ^ d)).testBit a)) := by rw [N1.b.cell, cllB_get (by omega)]
              have fa := N1.b.frozen a
              have NN1 := Lib.hid N1
              clear hy1 N0 N1 fd cd2 cd HO HBX HBB c0 c1 c2' c3
              go_upto_region 16 with (fail)
              have N2 := NN1.out.set (show wx.heap.size ≠ w2.heap.size by omega) HB2.out.size a true _ (cllB_true _ _)
              obtain ⟨y2, hy2⟩ : ∃ y, y = y1.setCell ⟨w2.heap.size, a, none⟩ (.bool true) := ⟨_, rfl⟩
              rw [← hy2] at N2 ⊢
              clear x2 ca fa
              have x3 : y2.cell? ⟨wx.heap.size, 3, none⟩ = some (.int .i64 b) := N2.x.cell 3
              have cb : y2.cell? ⟨w2.heap.size, b, none⟩ = some (.bool ((Sc.diff st.1 (2 ^ d) ||| 2 ^ a).testBit b)) := by rw [N2.b.cell, cllB_get (by omega)]
              have fb := N2.b.frozen b
              have NN2 := Lib.hid N2
              clear hy2 N2 NN1
              go_upto_region 17 with (fail)
              have N3 := NN2.out.set (show wx.heap.size ≠ w2.heap.size by omega) HB2.out.size b true _ (cllB_true _ _)
              obtain ⟨y3, hy3⟩ : ∃ y, y = y2.setCell ⟨w2.heap.size, b, none⟩ (.bool true) := ⟨_, rfl⟩
              rw [← hy3] at N3 ⊢
              have h32 := Sc.mems_len st.2
              have hlen := N3.o.len
              have CP := Lib.hid (sPut_any A2 n2 c2 (Sc.memsI st.2) _ (j : Int) y3 (by rw [← hlen, Sc.memsI, List.length_map]; omega) N3.o.rd)
              rw [Sc.put_memsI st.2 (by omega) (by omega)] at CP
              have NN3 := Lib.hid N3
              clear hy3 N3 NN2 x3 cb fb h32 hlen
              go_wp2_with fail
              refine CP.out.mono ?_
              rintro e w4 ⟨A4, n4, c4, rfl, ho4, _, _, hb4⟩
              have HO4 := Lib.hid ho4
              have HB4 := Lib.hid hb4
              clear ho4 hb4
              go_wp2
              go_roundw
              case rel =>
                refine ⟨q + 1, (j : Int) - 1, _, _, _, by omega, by have := HZ.out.1; omega, by go_num, rfl, ?_, ?_, NN3.out.h.trans (HB4.out.mono NN3.out.h.size)⟩
                · rw [HN.out, HS.out]
                  exact HO4.out.more NN3.out.h.size (Nat.le_refl _)
                · rw [HN.out, HS.out]
                  have := NN3.out.b.keep HB4.out
                  rw [Nat.or_assoc] at this
                  exact this
              case measure => simp [intOf]; try omega
          · have hqn : q = n := by omega
            subst hqn
            obtain rfl : z = -1 := by omega
            have HO := Lib.hid ho
            have HBB := Lib.hid hb
            have hlen := ho.len
            have h32 := Sc.mems_len (Sc.nd ss (Sc.doneOf cs) q).2
            have n32 : n2 ≤ 1048576 := by rw [← hlen, Sc.memsI, List.length_map]; omega
            clear ho hb hbl hz hlen h32
            go_wp2
            go_ret2
            refine ⟨A2, n2, c2, rfl, ?_, n32, HBB.out⟩
            rw [HL.out]
            exact HO.out
end Go.Proofs.YtnbcobhcemjbnaaDoor.Wds
