/-
  The laws' helpers over lists of tasks: a copy, the test of equality, the size; one contract each.
-/
import Derived.Test.YtfmplneopmbfoaaLstT
import Derived.Test.YtfmplneopmbfoaaLstRW
import Derived.Handy
namespace Go.Proofs.Ytfmplneopmbfoaa.Wds
open Go.RowKit
set_option linter.unusedVariables false

/-- A task by value. -/
def tkV (p l : Int) (R : Option Addr) (m c : Nat) : Value := .agg #[.int .i64 p, .int .i64 l, .slice R m c]
/-- A copy of a task is returned: its row is new. -/
def CopiedT1 (p l : Int) (m : Nat) (zs : List Int) (w : World) (e : Ending) (w' : World) : Prop :=
  ∃ g, e = .returned (.agg #[.int .i64 p, .int .i64 l, .slice (some ⟨g, 0, none⟩) m m]) ∧ Own w' w.heap.size w'.heap.size (some ⟨g, 0, none⟩) m zs ∧ Below w.heap.size w w'
theorem three_new (w : World) (x y z : Value) (t : TypeId) : (w.alloc (.cells #[x, y, z] t)).cell? ⟨w.heap.size, 0, none⟩ = some x ∧ (w.alloc (.cells #[x, y, z] t)).cell? ⟨w.heap.size, 1, none⟩ = some y ∧ (w.alloc (.cells #[x, y, z] t)).cell? ⟨w.heap.size, 2, none⟩ = some z :=
  ⟨cell_of_row _ _ _ _ t (0, 0) (heap_alloc_new w _), cell_of_row _ _ _ _ t (0, 0) (heap_alloc_new w _), cell_of_row _ _ _ _ t (0, 0) (heap_alloc_new w _)⟩
/-- What a size leaves of a bound. -/
theorem szT1_any (p l : Int) (R : Option Addr) (m c : Nat) (w : World) (left : Int) (h0 : 0 ≤ left) (h1 : left ≤ 1048576) (hb : m ≤ 9223372036854775807) :
    Calls Try.prog 71 #[.agg #[.int .i64 p, .int .i64 l, .slice R m c], .int .i64 left] w fun e w' => e = .returned (.int .i64 (if (m : Int) ≤ left then left - m else -1)) ∧ Below w.heap.size w w' := by
  have hb0 : Below w.heap.size w (w.alloc (.cells #[.int .i64 p, .int .i64 l, .slice R m c] 79)) := (Below.refl _ _).alloc (Nat.le_refl _) _
  have HB0 := Lib.hid hb0; clear hb0
  by_cases hn : (m : Int) ≤ left
  · rw [if_pos hn]
    have e1 : ¬ (left - (m : Int) < 0) := by omega
    go_enter Try.func71, Try.ntmps71
    go_wp2_with fail
    refine (szS_in _ _ _ _ _ hn h1).mono ?_
    rintro e w' ⟨rfl, rfl⟩
    go_wp2
    go_ret
    exact ⟨rfl, HB0.out⟩
  · rw [if_neg hn]
    go_enter Try.func71, Try.ntmps71
    go_wp2_with fail
    refine (szS_out _ _ _ _ _ (by omega) h0 hb).mono ?_
    rintro e w' ⟨rfl, rfl⟩
    go_wp2
    go_ret
    exact ⟨rfl, HB0.out⟩
set_option maxHeartbeats 400000 in
theorem szT_any (A : Option Addr) (n c : Nat) (ts : List Tk.T) (B : Nat) (w : World) (left : Int) (h0 : 0 ≤ left) (h1 : left ≤ 1048576) (hb : n ≤ 9223372036854775807) (hbr : ∀ k, k < n → (Tk.nth ts k).ns.length ≤ 9223372036854775807) (h : RdT w B A n ts) :
    Calls Try.prog 37 #[.slice A n c, .int .i64 left] w fun e w' => e = .returned (.int .i64 (leftR left (Tk.nss ts))) ∧ Below w.heap.size w w' := by
  have hl := h.len
  have HR := Lib.hid hbr
  have HL := Lib.hid (show (Tk.nss ts).length = n by rw [Tk.nss_len]; exact hl)
  have H := Lib.hid h; clear h hbr hl
  obtain ⟨zss, hz⟩ : ∃ z, z = Tk.nss ts := ⟨_, rfl⟩
  have HZ := Lib.hid hz
  rw [← hz]
  clear hz
  by_cases hn : (n : Int) ≤ left
  · have e1 : ¬ (left - (n : Int) < 0) := by omega
    go_enter Try.func37, Try.ntmps37
    go_wp2
    go_loopw [1, 5] (fun kv i wr => ∃ k : Nat, k ≤ n ∧ i = .int .i64 k ∧ kv = .int .i64 (left - n - Ln.sumL (zss.take k)) ∧ ((Ln.sumL (zss.take k) : Nat) : Int) ≤ left - n ∧ Below w.heap.size w wr) (fun _ i _ => n - (intOf i).toNat)
    case atStart => exact ⟨0, Nat.zero_le _, rfl, by simp [Ln.sumL_nil], by simp [Ln.sumL_nil]; omega, Below.refl _ _⟩
    case round =>
      obtain ⟨k, hk, rfl, rfl, hsum, hbw⟩ := hrel
      have HBW := Lib.hid hbw
      by_cases hlt : k < n
      · obtain ⟨g, o, R, m, cm, rfl, hg, hc, _, hr⟩ := (H.out.below hbw).at_ hlt
        have hm := hr.len
        have hs := Ln.sumL_take zss k (by rw [HZ.out, HL.out]; exact hlt)
        have hbm := HR.out k hlt
        rw [HZ.out, Tk.nss_getD, ← HZ.out, hm] at hs
        rw [hm] at hbm
        obtain ⟨s, es⟩ : ∃ s, s = Ln.sumL (zss.take k) := ⟨_, rfl⟩
        rw [← es] at hs hsum ⊢
        have HS := Lib.hid hs
        have HM := Lib.hid hm
        have HE := Lib.hid es
        clear hs hm hr es hbw
        obtain ⟨v, hv⟩ : ∃ v : Int, v = left - n - s := ⟨_, rfl⟩
        have v0 : 0 ≤ v := by omega
        have v1 : v ≤ 1048576 := by omega
        rw [← hv]
        have HV := Lib.hid hv; clear hv
        obtain ⟨c0, c1, c2⟩ := hc
        simp only at c0 c1 c2
        obtain ⟨tp, htp⟩ : ∃ x, x = (Tk.nth ts k).p := ⟨_, rfl⟩
        obtain ⟨tl, htl⟩ : ∃ x, x = (Tk.nth ts k).l := ⟨_, rfl⟩
        rw [← htp] at c0
        rw [← htl] at c1
        clear htp htl
        have q0 := BelBy.cell c0
        have q1 := BelBy.cell c1
        have q2 := BelBy.cell c2
        have i1 : (0 : Int) ≤ (k : Int) := by omega
        have i2 : (k : Int) < (n : Int) := by omega
        have CS := Lib.hid (fun W => szT1_any tp tl R m cm W v v0 v1 hbm)
        by_cases hle : (m : Int) ≤ v
        · rw [if_pos hle] at CS
          have e2 : ¬ (v - (m : Int) < 0) := by omega
          have e3 : 0 ≤ v - (m : Int) := by omega
          clear q0 q1 q2
          go_wp2_with fail
          refine (CS.out _).mono ?_
          rintro e w1 ⟨rfl, hb1⟩
          have HB1 := Lib.hid (HBW.out.trans (hb1.mono HBW.out.size)); clear hb1
          go_wp2
          go_roundw
          case rel => exact ⟨k + 1, by omega, by go_num, by rw [HS.out, HV.out]; congr 1; omega, by rw [HS.out]; have := HV.out; omega, HB1.out⟩
          case measure => simp [intOf]; omega
        · rw [if_neg hle] at CS
          clear q0 q1 q2
          go_wp2_with fail
          refine (CS.out _).mono ?_
          rintro e w1 ⟨rfl, hb1⟩
          have HB1 := Lib.hid (HBW.out.trans (hb1.mono HBW.out.size)); clear hb1
          go_wp2
          go_ret
          refine ⟨ret_i (leftR_out ?_).symm, HB1.out⟩
          have h1 := Ln.sumL_le zss (k + 1)
          rw [HS.out] at h1
          have h2 := HV.out
          have h3 := HL.out
          rw [← HZ.out] at h3
          unfold Ln.totL
          omega
      · have hkn : k = n := by omega
        have HS := Lib.hid (And.intro hsum hkn); clear hsum hkn hbw
        go_wp2
        go_ret
        obtain ⟨h1, rfl⟩ := HS.out
        have h3 := HL.out
        rw [← HZ.out] at h3
        rw [show zss.take k = zss by rw [← h3, List.take_length]] at h1 ⊢
        refine ⟨ret_i ?_, HBW.out⟩
        rw [leftR_in (by unfold Ln.totL; omega)]
        unfold Ln.totL
        omega
  · have e1 : (left - (n : Int) < 0) := by omega
    go_enter Try.func37, Try.ntmps37
    go_wp2
    go_ret
    exact ⟨ret_i (leftR_out (by unfold Ln.totL; have := HL.out; rw [← HZ.out] at this; omega)).symm, Below.refl _ _⟩
theorem BlkT.alloc {w : World} {g : Nat} {cs : Array Value} (h : BlkT w g cs) (o : Obj) : BlkT (w.alloc o) g cs := (Below.heap_alloc w o g h.lt).trans h
theorem BlkT.far {w : World} {g : Nat} {cs : Array Value} (h : BlkT w g cs) {p : Addr} (hp : g ≠ p.block) (u : Value) : BlkT (w.setCell p u) g cs := (Below.heap_setCell w p u g hp).trans h
set_option maxHeartbeats 400000 in
theorem toTk_any (p l : Int) (R : Option Addr) (m c : Nat) (zs : List Int) (B : Nat) (w : World) (hm : m ≤ 1048576) (h : Rd w B R m zs) :
    Calls Try.prog 74 #[.agg #[.int .i64 p, .int .i64 l, .slice R m c]] w (CopiedT1 p l m zs w) := by
  have H := Lib.hid h; clear h
  have k1 := (BlkT.new (w.alloc (.cells #[.int .i64 p, .int .i64 l, .slice R m c] 79)) #[.int .i64 0, .int .i64 0, .slice none 0 0]).alloc (.cells #[.int .i64 p, .int .i64 l, .slice none 0 0] 65)
  have k2 := BlkT.new ((w.alloc (.cells #[.int .i64 p, .int .i64 l, .slice R m c] 79)).alloc (.cells #[.int .i64 0, .int .i64 0, .slice none 0 0] 65)) #[.int .i64 p, .int .i64 l, .slice none 0 0]
  have hb0 : Below w.heap.size w (((w.alloc (.cells #[.int .i64 p, .int .i64 l, .slice R m c] 79)).alloc (.cells #[.int .i64 0, .int .i64 0, .slice none 0 0] 65)).alloc (.cells #[.int .i64 p, .int .i64 l, .slice none 0 0] 65)) :=
    (((Below.refl _ _).alloc (Nat.le_refl _) _).alloc (by simp) _).alloc (by simp; omega) _
  rw [size_alloc] at k1
  rw [size_alloc, size_alloc] at k2
  have K1 := Lib.hid k1
  have K2 := Lib.hid k2
  have HB0 := Lib.hid hb0
  clear k1 k2 hb0
  go_enter Try.func74, Try.ntmps74
  go_wp2_with fail
  refine (toS_any R m c zs B _ hm (H.out.below HB0.out)).mono ?_
  rintro e w1 ⟨g1, rfl, ho, hb1⟩
  have k1 := K1.out.keep hb1
  have k2 := K2.out.keep hb1
  have t0 := k2.cell 0
  have t1 := k2.cell 1
  have t2 := k2.cell 2
  have f2 := k2.frozen 2
  have r0 := k1.cell 0
  have r1 := k1.cell 1
  have r2 := k1.cell 2
  have g0 := k1.frozen 0
  have g1' := k1.frozen 1
  have g2 := k1.frozen 2
  have HB1 := Lib.hid (HB0.out.trans (hb1.mono HB0.out.size))
  have HO := Lib.hid ho
  have HK1 := Lib.hid k1
  have HK2 := Lib.hid k2
  clear k1 k2 hb1 ho
  go_wp2
  have kf := (((HK1.out.far (p := ⟨w.heap.size + 1 + 1, 2, none⟩) (show w.heap.size + 1 ≠ w.heap.size + 1 + 1 by omega) (.slice (some ⟨g1, 0, none⟩) m m)).set_ 0 (.int .i64 p)).set_ 1 (.int .i64 l)).set_ 2 (.slice (some ⟨g1, 0, none⟩) m m)
  have hbf := (((HB1.out.setCell (p := ⟨w.heap.size + 1 + 1, 2, none⟩) (by show w.heap.size ≤ w.heap.size + 1 + 1; omega) (.slice (some ⟨g1, 0, none⟩) m m)).setCell (p := ⟨w.heap.size + 1, 0, none⟩) (by show w.heap.size ≤ w.heap.size + 1; omega) (.int .i64 p)).setCell (p := ⟨w.heap.size + 1, 1, none⟩) (by show w.heap.size ≤ w.heap.size + 1; omega) (.int .i64 l)).setCell (p := ⟨w.heap.size + 1, 2, none⟩) (by show w.heap.size ≤ w.heap.size + 1; omega) (.slice (some ⟨g1, 0, none⟩) m m)
  have hch := ((((Ch.refl (w.heap.size + 1) (w.heap.size + 3) w1).set_ (p := ⟨w.heap.size + 1 + 1, 2, none⟩) (by show w.heap.size + 1 ≤ w.heap.size + 1 + 1; omega) (by show w.heap.size + 1 + 1 < w.heap.size + 3; omega) (.slice (some ⟨g1, 0, none⟩) m m)).set_ (p := ⟨w.heap.size + 1, 0, none⟩) (by show w.heap.size + 1 ≤ w.heap.size + 1; omega) (by show w.heap.size + 1 < w.heap.size + 3; omega) (.int .i64 p)).set_ (p := ⟨w.heap.size + 1, 1, none⟩) (by show w.heap.size + 1 ≤ w.heap.size + 1; omega) (by show w.heap.size + 1 < w.heap.size + 3; omega) (.int .i64 l)).set_ (p := ⟨w.heap.size + 1, 2, none⟩) (by show w.heap.size + 1 ≤ w.heap.size + 1; omega) (by show w.heap.size + 1 < w.heap.size + 3; omega) (.slice (some ⟨g1, 0, none⟩) m m)
  have hof := (HO.out.ch hch (.inr (by simp))).more (lo' := w.heap.size) (hi' := w1.heap.size) (by simp; omega) (Nat.le_refl _)
  have hsz := hch.size
  clear hch HO HB1 HK1 HK2
  obtain ⟨wf, hwf⟩ : ∃ wf, wf = ((((w1.setCell ⟨w.heap.size + 1 + 1, 2, none⟩ (.slice (some ⟨g1, 0, none⟩) m m)).setCell ⟨w.heap.size + 1, 0, none⟩ (.int .i64 p)).setCell ⟨w.heap.size + 1, 1, none⟩ (.int .i64 l)).setCell ⟨w.heap.size + 1, 2, none⟩ (.slice (some ⟨g1, 0, none⟩) m m)) := ⟨_, rfl⟩
  rw [← hwf] at kf hbf hof hsz ⊢
  clear hwf
  have z0 : wf.cell? ⟨w.heap.size + 1, 0, none⟩ = some (.int .i64 p) := by rw [kf.cell]; rfl
  have z1 : wf.cell? ⟨w.heap.size + 1, 1, none⟩ = some (.int .i64 l) := by rw [kf.cell]; rfl
  have z2 : wf.cell? ⟨w.heap.size + 1, 2, none⟩ = some (.slice (some ⟨g1, 0, none⟩) m m) := by rw [kf.cell]; rfl
  refine bodyPost_ret (v := .agg #[.int .i64 p, .int .i64 l, .slice (some ⟨g1, 0, none⟩) m m]) ?_ rfl ⟨g1, rfl, hof.more (Nat.le_refl _) hsz, hbf⟩
  simp [results, Try.results74, go_sem, z0, z1, z2]
/-- A copy of tasks is returned: new rows of their own. -/
def CopiedT (n : Nat) (ts : List Tk.T) (w : World) (e : Ending) (w' : World) : Prop :=
  ∃ g, e = .returned (.slice (some ⟨g, 0, none⟩) n n) ∧ OwnT w' w.heap.size w'.heap.size (some ⟨g, 0, none⟩) n ts ∧ Below w.heap.size w w'
/-- make([]impl.Task, n): one new block of n empty tasks. -/
theorem wpList_make_tk {P : Program} (w : World) {ops : Array Oper} {rest : List Oper} {o : Oper} {a : Act} {Q : Exit → Act → World → Prop}
    (hg : o.guard = none) (l c : Operand) (t : TypeId) (hop : o.op = Op.makeSlice t l c)
    (i : TypeInfo) (h1 : P.underlying t = some (.slice 65)) (h2 : P.info? 65 = some i) (h3 : i.zero = some (.agg #[.int .i64 0, .int .i64 0, .slice none 0 0])) (h4 : i.size = 3) (h5 : i.bytes = 40)
    (kl kc : IntKind) (L C : Int) (n : Nat) (hl : a.eval l = .int kl L) (hc : a.eval c = .int kc C) (hL : L = (n : Int)) (hC : C = (n : Int)) (b2 : n ≤ 1099511627776)
    (hK : wpList P ops Q rest (a.put o.dst (.slice (some ⟨w.heap.size, 0, none⟩) n n)) (w.alloc (.cells (zeroT n) 65))) :
    wpList P ops Q (o :: rest) a w := by
  refine wpList_plain hg fun K hK' => ?_
  subst hL
  subst hC
  have hrun := run_make (P := P) w t 65 i (.agg #[.int .i64 0, .int .i64 0, .slice none 0 0]) h1 h2 h3 kl kc (n : Int) (n : Int) (by omega) (by omega) (by rw [h5]; omega) (by omega)
  have e : madeCells (Value.agg #[.int .i64 0, .int .i64 0, .slice none 0 0]).cells ((n : Int).toNat * i.size) = zeroT n := by
    rw [h4]
    refine Array.ext_getElem? fun j => ?_
    by_cases hj : j < n * 3
    · have hr : (Array.range ((n : Int).toNat * 3))[j]? = some j := by rw [Array.getElem?_eq_getElem (by simp; omega)]; simp
      have hr' : (Array.range (n * 3))[j]? = some j := by rw [Array.getElem?_eq_getElem (by simp; omega)]; simp
      simp only [madeCells, zeroT, Array.getElem?_map, hr, hr', Option.map_some]
      have : j % 3 = 0 ∨ j % 3 = 1 ∨ j % 3 = 2 := by omega
      rcases this with h | h | h <;> simp [Value.cells, h]
    · rw [Array.getElem?_eq_none (by simp [madeCells]; omega), Array.getElem?_eq_none (by simp [zeroT]; omega)]
  rw [e] at hrun
  unfold Oper.wp
  simp [execOp, hop, hl, hc, hrun, Result.andThen]
  exact hK' _ _ hK
theorem A_infoT : (Try.prog.info? 65).map (fun i => (i.zero, i.size, i.bytes)) = some (some (.agg #[.int .i64 0, .int .i64 0, .slice none 0 0]), 3, 40) := by kernel_rfl
set_option maxHeartbeats 400000 in
theorem toTS_any (A : Option Addr) (n c : Nat) (ts : List Tk.T) (B : Nat) (w : World) (hn : Ln.totL (Tk.nss ts) ≤ 1048576) (h : RdT w B A n ts) :
    Calls Try.prog 39 #[.slice A n c] w (CopiedT n ts w) := by
  obtain ⟨i0, hi, hz0, hz1, hz2⟩ := info_parts A_infoT
  have hl := h.len
  have hnn : n ≤ 1048576 := by unfold Ln.totL at hn; rw [Tk.nss_len] at hn; omega
  have HT := Lib.hid hn
  have HL := Lib.hid hl
  have H := Lib.hid h; clear h hn hl
  go_enter Try.func39, Try.ntmps39
  go_wp2_with (refine wpList_make_tk _ rfl _ _ _ rfl i0 Try.underlying35 hi hz0 hz1 hz2 _ _ _ _ n rfl rfl rfl rfl (by omega) ?_)
  go_loopw [4] (fun i wr => ∃ k : Nat, k ≤ n ∧ i = .int .i64 k ∧ OwnT wr w.heap.size wr.heap.size (some ⟨w.heap.size, 0, none⟩) n (Tk.fill ts k) ∧ Below w.heap.size w wr) (fun i _ => n - (intOf i).toNat)
  case atStart =>
    refine ⟨0, Nat.zero_le _, rfl, ?_, (Below.refl _ _).alloc (Nat.le_refl _) _⟩
    rw [Tk.fill_zero, HL.out, size_alloc]
    exact OwnT.new w n
  case round =>
    obtain ⟨k, hk, rfl, hown, hb⟩ := hrel
    by_cases hlt : k < n
    · obtain ⟨g, o, R, m, cm, rfl, hg, hc, hmc, hr⟩ := (H.out.below hb).at_ hlt
      have hm : m ≤ 1048576 := by
        have h1 := Ln.row_le (Tk.nss ts) k (by rw [Tk.nss_len, HL.out]; exact hlt)
        have h2 := hr.len
        have h3 := HT.out
        rw [Tk.nss_getD] at h1
        unfold Ln.totL at h3
        omega
      obtain ⟨tk, htk⟩ : ∃ x, x = Tk.nth ts k := ⟨_, rfl⟩
      rw [← htk] at hc hr
      have HTK := Lib.hid htk
      obtain ⟨tp, tl, tz⟩ := tk
      obtain ⟨q0, q1, q2⟩ := hc
      simp only at q0 q1 q2 hr
      have HR := Lib.hid hr
      have HO := Lib.hid hown
      have HB := Lib.hid hb
      clear hr hown hb hmc htk
      go_wp2_with fail
      refine (toTk_any tp tl R m cm tz B wr hm HR.out).mono ?_
      rintro e w1 ⟨g1, rfl, ho, hb1⟩
      obtain ⟨⟨v0, v1, v2, v3, v4, p0, p1, p2⟩, hf, hlo, hhi⟩ := (HO.out.below hb1).place hlt
      simp only [Nat.zero_add] at p0 p1 p2
      have f0 := hf (k * 3)
      have f1 := hf (k * 3 + 1)
      have f2 := hf (k * 3 + 2)
      have hst := (HO.out.below hb1).store (s := ⟨tp, tl, tz⟩) hlt ho (Nat.le_refl m) hb1.size (Nat.le_refl _) (Nat.le_refl _)
      rw [Nat.zero_add, HTK.out, Tk.fill_set ts k (by rw [HL.out]; exact hlt), ← HTK.out] at hst
      have HST := Lib.hid hst
      have HB1 := Lib.hid ((((HB.out.trans (hb1.mono HB.out.size)).setCell (p := ⟨w.heap.size, k * 3, none⟩) (Nat.le_refl _) (.int .i64 tp)).setCell (p := ⟨w.heap.size, k * 3 + 1, none⟩) (Nat.le_refl _) (.int .i64 tl)).setCell (p := ⟨w.heap.size, k * 3 + 2, none⟩) (Nat.le_refl _) (.slice (some ⟨g1, 0, none⟩) m m))
      clear ho hb1 hf hst
      go_wp2
      go_roundw
      case rel =>
        refine ⟨k + 1, by omega, by go_num, ?_, HB1.out⟩
        have := HST.out
        rw [size_set, size_set, size_set]
        exact this
      case measure => simp [intOf]; omega
    · have hkn : k = n := by omega
      have HALL := Lib.hid (And.intro hown (And.intro hb hkn)); clear hown hb hkn
      go_wp2
      go_ret
      obtain ⟨hown, hb, rfl⟩ := HALL.out
      rw [show Tk.fill ts k = ts by rw [← HL.out]; exact Tk.fill_all ts] at hown
      exact ⟨_, rfl, hown, hb⟩
set_option maxHeartbeats 400000 in
theorem eqTk_same (p l : Int) (R R' : Option Addr) (m c c' : Nat) (zs : List Int) (B B' : Nat) (w : World) (hm : m ≤ 1048576) (h : Rd w B R m zs) (h' : Rd w B' R' m zs) :
    Calls Try.prog 75 #[.agg #[.int .i64 p, .int .i64 l, .slice R m c], .agg #[.int .i64 p, .int .i64 l, .slice R' m c']] w fun e w' => e = .returned (.bool true) ∧ Below w.heap.size w w' := by
  have H := Lib.hid h; clear h
  have H' := Lib.hid h'; clear h'
  have HB0 := Lib.hid (show Below w.heap.size w ((w.alloc (.cells #[.int .i64 p, .int .i64 l, .slice R m c] 65)).alloc (.cells #[.int .i64 p, .int .i64 l, .slice R' m c'] 65)) from ((Below.refl _ _).alloc (Nat.le_refl _) _).alloc (by simp) _)
  go_enter Try.func75, Try.ntmps75
  go_wp2_with fail
  refine (eqS_same R R' m c c' zs B B' _ hm (H.out.below HB0.out) (H'.out.below HB0.out)).mono ?_
  rintro e w1 ⟨rfl, hb⟩
  have HB1 := Lib.hid (HB0.out.trans (hb.mono HB0.out.size)); clear hb
  go_wp2
  go_ret
  exact ⟨rfl, HB1.out⟩
set_option maxHeartbeats 400000 in
theorem eqTS_same (A A' : Option Addr) (n c c' : Nat) (ts : List Tk.T) (B B' : Nat) (w : World) (hn : Ln.totL (Tk.nss ts) ≤ 1048576) (h : RdT w B A n ts) (h' : RdT w B' A' n ts) :
    Calls Try.prog 40 #[.slice A n c, .slice A' n c'] w fun e w' => e = .returned (.bool true) ∧ Below w.heap.size w w' := by
  have hl := h.len
  have hnn : n ≤ 1048576 := by unfold Ln.totL at hn; rw [Tk.nss_len] at hn; omega
  have HT := Lib.hid hn
  have HL := Lib.hid hl
  have H := Lib.hid h; clear h
  have H' := Lib.hid h'; clear h' hn hl
  go_enter Try.func40, Try.ntmps40
  go_wp2
  go_loopw [5] (fun i wr => ∃ k : Nat, k ≤ n ∧ i = .int .i64 k ∧ Below w.heap.size w wr) (fun i _ => n - (intOf i).toNat)
  case atStart => exact ⟨0, Nat.zero_le _, rfl, Below.refl _ _⟩
  case round =>
    obtain ⟨k, hk, rfl, hb⟩ := hrel
    by_cases hlt : k < n
    · obtain ⟨g, o, R, m, cm, rfl, hg, hc, _, hr⟩ := (H.out.below hb).at_ hlt
      obtain ⟨g', o', R', m', cm', rfl, hg', hc', _, hr'⟩ := (H'.out.below hb).at_ hlt
      obtain rfl : m' = m := hr'.len.symm.trans hr.len
      have hm : m' ≤ 1048576 := by
        have h1 := Ln.row_le (Tk.nss ts) k (by rw [Tk.nss_len, HL.out]; exact hlt)
        have h2 := hr.len
        have h3 := HT.out
        rw [Tk.nss_getD] at h1
        unfold Ln.totL at h3
        omega
      obtain ⟨tk, htk⟩ : ∃ x, x = Tk.nth ts k := ⟨_, rfl⟩
      rw [← htk] at hc hc' hr hr'
      clear htk
      obtain ⟨tp, tl, tz⟩ := tk
      obtain ⟨c0, c1, c2⟩ := hc
      obtain ⟨d0, d1, d2⟩ := hc'
      simp only at c0 c1 c2 d0 d1 d2 hr hr'
      have q0 := BelBy.cell c0
      have q1 := BelBy.cell c1
      have q2 := BelBy.cell c2
      have r0 := BelBy.cell d0
      have r1 := BelBy.cell d1
      have r2 := BelBy.cell d2
      have HE := Lib.hid (fun (p : BelBy wr) => calls_bel (eqTk_same tp tl R R' m' cm cm' tz B B' p.W hm (hr.below p.h) (hr'.below p.h)))
      have HB := Lib.hid hb; clear hb c0 c1 c2 d0 d1 d2 hr hr'
      have i1 : (0 : Int) ≤ (k : Int) := by omega
      have i2 : (k : Int) < (n : Int) := by omega
      go_wp2
      refine wp_region_quiet_bel (by kernel_rfl) (by kernel_rfl) ?_
      repeat (quiet_step (first | (go_at_call 75; exact HE.out _)))
      refine wpQuiet_nil ?_
      rintro _ ⟨⟨wq, hwq⟩, rfl⟩
      go_wp2
      go_roundw
      case rel => exact ⟨k + 1, by omega, by go_num, HB.out.trans (hwq.mono HB.out.size)⟩
      case measure => simp [intOf]; omega
    · have hkn : k = n := by omega
      have HB := Lib.hid hb; clear hb hkn
      go_wp2
      go_ret
      exact ⟨rfl, HB.out⟩
end Go.Proofs.Ytfmplneopmbfoaa.Wds
