/-
  The laws' helpers over lists of lists of numbers: a copy, the test of equality, the size, marks; one contract each.
-/
import Derived.Test.YtigodbilfjppbaaLstR
import Derived.Test.YtigodbilfjppbaaBelBy
namespace Go.Proofs.Ytigodbilfjppbaa.Wds
open Go.RowKit
set_option linter.unusedVariables false

theorem A_infoR : (Try.prog.info? 26).map (fun i => (i.zero, i.size, i.bytes)) = some (some (.slice none 0 0), 1, 24) := by kernel_rfl
/-- make([][]int64, n): one new block of n slices without numbers. -/
theorem wpList_make_rows {P : Program} (w : World) {ops : Array Oper} {rest : List Oper} {o : Oper} {a : Act} {Q : Exit → Act → World → Prop}
    (hg : o.guard = none) (l c : Operand) (t : TypeId) (hop : o.op = Op.makeSlice t l c)
    (i : TypeInfo) (h1 : P.underlying t = some (.slice 26)) (h2 : P.info? 26 = some i) (h3 : i.zero = some (.slice none 0 0)) (h4 : i.size = 1) (h5 : i.bytes = 24)
    (kl kc : IntKind) (L C : Int) (n : Nat) (hl : a.eval l = .int kl L) (hc : a.eval c = .int kc C) (hL : L = (n : Int)) (hC : C = (n : Int)) (b2 : n ≤ 1099511627776)
    (hK : wpList P ops Q rest (a.put o.dst (.slice (some ⟨w.heap.size, 0, none⟩) n n)) (w.alloc (.cells (Array.replicate n (Value.slice none 0 0)) 26))) :
    wpList P ops Q (o :: rest) a w := by
  refine wpList_plain hg fun K hK' => ?_
  subst hL
  subst hC
  have hrun := run_make (P := P) w t 26 i (.slice none 0 0) h1 h2 h3 kl kc (n : Int) (n : Int) (by omega) (by omega) (by rw [h5]; omega) (by omega)
  have e : madeCells (Value.slice none 0 0).cells ((n : Int).toNat * i.size) = Array.replicate n (Value.slice none 0 0) := by
    rw [h4]
    apply Array.ext
    · simp [madeCells]
    · intro j hj1 hj2
      simp [madeCells, Value.cells, Nat.mod_one]
  rw [e] at hrun
  unfold Oper.wp
  simp [execOp, hop, hl, hc, hrun, Result.andThen]
  exact hK' _ _ hK
/-- Rows without numbers, new. -/
theorem OwnR.new (w : World) (n : Nat) : OwnR (w.alloc (.cells (Array.replicate n (Value.slice none 0 0)) 26)) w.heap.size (w.heap.size + 1) (some ⟨w.heap.size, 0, none⟩) n (List.replicate n []) := by
  refine ⟨by simp, fun hn => ⟨w.heap.size, 0, _, fun _ => none, fun _ => 0, fun _ => 0, rfl, Nat.le_refl _, by omega, BlkR.new _ _, fun j hj => by simp [hj], ⟨fun j hj => ?_, fun _ _ => Nat.le_refl _, fun _ _ _ _ _ h _ => by omega⟩⟩⟩
  have e : (List.replicate n ([] : List Int)).getD j [] = [] := by simp [List.getD_eq_getElem?_getD, hj]
  rw [e]
  exact Own.nil _ _ _ _
theorem size_alloc (w : World) (o : Obj) : (w.alloc o).heap.size = w.heap.size + 1 := by show (w.heap.push _).size = _; simp
theorem size_set (w : World) (p : Addr) (v : Value) : (w.setCell p v).heap.size = w.heap.size := by simp [World.setCell]
/-- The place of a row, known to be there and not frozen. -/
theorem OwnR.place {w : World} {lo hi n k g o : Nat} {zss : List (List Int)} (h : OwnR w lo hi (some ⟨g, o, none⟩) n zss) (hk : k < n) : (∃ v, w.cell? ⟨g, o + k, none⟩ = some v) ∧ w.frozen? ⟨g, o + k, none⟩ = false ∧ lo ≤ g ∧ g < hi := by
  obtain ⟨g', o', cs, R, M, C, e, h1, h2, hg, hc, _⟩ := h.2 (by omega)
  injection e with e
  injection e with e1 e2
  subst e1; subst e2
  exact ⟨⟨_, (hg.cell _).trans (hc k hk)⟩, hg.frozen _, h1, h2⟩
/-- A copy of rows is returned: new rows of their own. -/
def CopiedR (n : Nat) (zss : List (List Int)) (w : World) (e : Ending) (w' : World) : Prop :=
  ∃ g, e = .returned (.slice (some ⟨g, 0, none⟩) n n) ∧ OwnR w' w.heap.size w'.heap.size (some ⟨g, 0, none⟩) n zss ∧ Below w.heap.size w w'
/-- The relation of a loop that fills rows one after another. -/
def FillsR (zss : List (List Int)) (n g : Nat) (w : World) (i : Value) (wr : World) : Prop :=
  ∃ k : Nat, k ≤ n ∧ i = .int .i64 k ∧ OwnR wr w.heap.size wr.heap.size (some ⟨g, 0, none⟩) n (Ln.fillR zss k) ∧ Below w.heap.size w wr
theorem FillsR.start {w w1 : World} {zss : List (List Int)} {n : Nat} (hn : zss.length = n) (hb : Below w.heap.size w w1) : FillsR zss n w1.heap.size w (.int .i64 0) (w1.alloc (.cells (Array.replicate n (Value.slice none 0 0)) 26)) := by
  refine ⟨0, Nat.zero_le _, rfl, ?_, hb.alloc hb.size _⟩
  rw [Ln.fillR_zero, hn, size_alloc]
  exact (OwnR.new w1 n).more hb.size (Nat.le_refl _)
theorem FillsR.step {w wr w1 : World} {zss : List (List Int)} {n g k m c lo2 hi2 : Nat} {R : Option Addr} (hn : zss.length = n) (hk : k < n) (hown : OwnR wr w.heap.size wr.heap.size (some ⟨g, 0, none⟩) n (Ln.fillR zss k)) (hb : Below w.heap.size w wr)
    (hb1 : Below wr.heap.size wr w1) (hr : Own w1 lo2 hi2 R m (zss.getD k [])) (hlo : wr.heap.size ≤ lo2) (hhi : hi2 ≤ w1.heap.size) (hmc : m ≤ c) : FillsR zss n g w (.int .i64 (k + 1 : Nat)) (w1.setCell ⟨g, k, none⟩ (.slice R m c)) := by
  refine ⟨k + 1, by omega, rfl, ?_, ?_⟩
  · have h1 := (hown.below hb1).store (k := k) hk hr hmc hb1.size hlo hhi
    rw [Nat.zero_add, Ln.fillR_set zss k (by omega)] at h1
    rw [size_set]
    exact h1
  · have hg := (hown.place hk).2.2.1
    exact (hb.trans (hb1.mono hb.size)).setCell (p := ⟨g, k, none⟩) hg _
set_option maxHeartbeats 400000 in
theorem eqR_same (A A' : Option Addr) (n c c' : Nat) (zss : List (List Int)) (B B' : Nat) (w : World) (hn : Ln.totL zss ≤ 1048576) (h : RdR w B A n zss) (h' : RdR w B' A' n zss) :
    Calls Try.prog 36 #[.slice A n c, .slice A' n c'] w fun e w' => e = .returned (.bool true) ∧ Below w.heap.size w w' := by
  have hl := h.len
  have hnn : n ≤ 1048576 := by unfold Ln.totL at hn; omega
  have HT := Lib.hid hn
  have HL := Lib.hid hl
  have H := Lib.hid h; clear h
  have H' := Lib.hid h'; clear h' hn hl
  go_enter Try.func36, Try.ntmps36
  go_wp2
  go_loopw [5] (fun i wr => ∃ k : Nat, k ≤ n ∧ i = .int .i64 k ∧ Below w.heap.size w wr) (fun i _ => n - (intOf i).toNat)
  case atStart => exact ⟨0, Nat.zero_le _, rfl, Below.refl _ _⟩
  case round =>
    obtain ⟨k, hk, rfl, hb⟩ := hrel
    by_cases hlt : k < n
    · obtain ⟨g, o, R, m, cm, rfl, hg, hc, _, hr⟩ := (H.out.below hb).at_ hlt
      obtain ⟨g', o', R', m', cm', rfl, hg', hc', _, hr'⟩ := (H'.out.below hb).at_ hlt
      obtain rfl : m' = m := hr'.len.symm.trans hr.len
      have hm : m' ≤ 1048576 := by
        have h1 := Ln.row_le zss k (by rw [HL.out]; exact hlt)
        have h2 := hr.len
        have h3 := HT.out
        unfold Ln.totL at h3
        omega
      have q := BelBy.cell hc
      have q' := BelBy.cell hc'
      have HE := Lib.hid (fun (p : BelBy wr) => calls_bel (eqS_same R R' m' cm cm' _ B B' p.W hm (hr.below p.h) (hr'.below p.h)))
      have HB := Lib.hid hb; clear hb hc hc' hr hr'
      have i1 : (0 : Int) ≤ (k : Int) := by omega
      have i2 : (k : Int) < (n : Int) := by omega
      go_wp2
      refine wp_region_quiet_bel (by kernel_rfl) (by kernel_rfl) ?_
      repeat (quiet_step (first | (go_at_call 17; exact HE.out _)))
      refine wpQuiet_nil ?_
      rintro _ ⟨⟨wq, hwq⟩, rfl⟩
      go_wp2
      go_roundw
      case rel => exact ⟨k + 1, by omega, by go_num, HB.out.trans (hwq.mono HB.out.size)⟩
      case measure => simp [intOf]; omega
    · have hkn : k = n := by omega
      have HB := Lib.hid hb; clear hb hkn
      go_wp2
      go_ret
      exact ⟨rfl, HB.out⟩
/-- What a size leaves of a bound, or -1. -/
def leftR (left : Int) (zss : List (List Int)) : Int := if (Ln.totL zss : Int) ≤ left then left - Ln.totL zss else -1
theorem leftR_in {left : Int} {zss : List (List Int)} (h : (Ln.totL zss : Int) ≤ left) : leftR left zss = left - Ln.totL zss := if_pos h
theorem leftR_out {left : Int} {zss : List (List Int)} (h : ¬ (Ln.totL zss : Int) ≤ left) : leftR left zss = -1 := if_neg h
def MarkedR (k0 : Int) (A : Option Addr) (n lo hi : Nat) (zss : List (List Int)) (w : World) (e : Ending) (w' : World) : Prop :=
  e = .returned (.int .i64 (k0 + Ln.sumL zss)) ∧ OwnR w' lo hi A n (Ln.marksR k0 zss) ∧ Ch lo hi w w'
set_option maxHeartbeats 400000 in
theorem markR_any (A : Option Addr) (n c : Nat) (zss : List (List Int)) (lo hi : Nat) (k0 : Int) (w : World) (hn : Ln.totL zss ≤ 1048576) (hk0 : 0 ≤ k0) (hk1 : k0 ≤ 50000000) (h : OwnR w lo hi A n zss) :
    Calls Try.prog 37 #[.slice A n c, .int .i64 k0] w (MarkedR k0 A n lo hi zss w) := by
  have hl := h.len
  have hnn : n ≤ 1048576 := by unfold Ln.totL at hn; omega
  have HT := Lib.hid hn
  have HL := Lib.hid hl
  have H := Lib.hid h; clear h hn hl
  go_enter Try.func37, Try.ntmps37
  go_wp2
  go_loopw [1, 5] (fun kv i wr => ∃ k : Nat, k ≤ n ∧ i = .int .i64 k ∧ kv = .int .i64 (k0 + Ln.sumL (zss.take k)) ∧ OwnR wr lo hi A n (Ln.mixR k0 zss k) ∧ Ch lo hi w wr) (fun _ i _ => n - (intOf i).toNat)
  case atStart => exact ⟨0, Nat.zero_le _, rfl, by simp [Ln.sumL_nil], by rw [Ln.mixR_zero]; exact H.out, Ch.refl _ _ _⟩
  case round =>
    obtain ⟨k, hk, rfl, rfl, hown, hch⟩ := hrel
    by_cases hlt : k < n
    · obtain ⟨g, o, R, m, cm, l, u, rfl, hc, _, hr, hlu, hset⟩ := hown.row hlt
      rw [Ln.mixR_at k0 zss k (by rw [HL.out]; exact hlt)] at hr
      have hm := hr.len
      have hs := Ln.sumL_take zss k (by rw [HL.out]; exact hlt)
      have h1 := Ln.row_le zss k (by rw [HL.out]; exact hlt)
      have h3 := HT.out
      unfold Ln.totL at h3
      have hm1 : m ≤ 1048576 := by omega
      have HSET := Lib.hid (fun w' (h1 : Own w' l u R m (marks (k0 + Ln.sumL (zss.take k)) m)) h2 h3 => hset w' _ h1 h2 h3)
      obtain ⟨v, hv⟩ : ∃ v : Int, v = k0 + Ln.sumL (zss.take k) := ⟨_, rfl⟩
      have v0 : 0 ≤ v := by omega
      have v1 : v ≤ 100000000 := by omega
      rw [← hv] at HSET ⊢
      have HV := Lib.hid hv
      have HS := Lib.hid hs
      have HM := Lib.hid hm
      have HR := Lib.hid hr
      have HC := Lib.hid hch
      clear hv hs hm hr hch hown hset h1 h3
      go_wp2_with fail
      refine (markS_any R m cm _ l u v wr hm1 v0 v1 HR.out).mono ?_
      rintro e w1 ⟨rfl, ho, hc1, hap⟩
      have HO := Lib.hid (HSET.out w1 ho hc1 hap)
      have HC1 := Lib.hid (HC.out.trans (hc1.wide hlu))
      clear ho hc1 hap
      go_wp2
      go_roundw
      case rel =>
        refine ⟨k + 1, by omega, by go_num, by rw [HS.out, HV.out, HM.out]; congr 1; omega, ?_, HC1.out⟩
        have := HO.out
        have e := Ln.mixR_set k0 zss k (by rw [HL.out]; exact hlt)
        rw [← HV.out, HM.out] at e
        rw [show marks v m = Ln.marksL v m from rfl, e] at this
        exact this
      case measure => simp [intOf]; omega
    · have hkn : k = n := by omega
      have HALL := Lib.hid (And.intro hown (And.intro hch hkn)); clear hown hch hkn
      go_wp2
      go_ret
      obtain ⟨hown, hch, rfl⟩ := HALL.out
      have e := Ln.mixR_all k0 zss
      rw [HL.out] at e
      rw [e] at hown
      rw [show zss.take k = zss by rw [← HL.out, List.take_length]]
      exact ⟨rfl, hown, hch⟩
set_option maxHeartbeats 400000 in
theorem heldR_any (A : Option Addr) (n c : Nat) (zss : List (List Int)) (B : Nat) (k0 : Int) (w : World) (hn : Ln.totL zss ≤ 1048576) (hk0 : 0 ≤ k0) (hk1 : k0 ≤ 50000000) (h : RdR w B A n (Ln.marksR k0 zss)) :
    Calls Try.prog 38 #[.slice A n c, .int .i64 k0] w fun e w' => e = .returned (.int .i64 (k0 + Ln.sumL zss)) ∧ Below w.heap.size w w' := by
  have hl := h.len
  rw [Ln.marksR_len] at hl
  have hnn : n ≤ 1048576 := by unfold Ln.totL at hn; omega
  have HT := Lib.hid hn
  have HL := Lib.hid hl
  have H := Lib.hid h; clear h hn hl
  go_enter Try.func38, Try.ntmps38
  go_wp2
  go_loopw [1, 5] (fun kv i wr => ∃ k : Nat, k ≤ n ∧ i = .int .i64 k ∧ kv = .int .i64 (k0 + Ln.sumL (zss.take k)) ∧ Below w.heap.size w wr) (fun _ i _ => n - (intOf i).toNat)
  case atStart => exact ⟨0, Nat.zero_le _, rfl, by simp [Ln.sumL_nil], Below.refl _ _⟩
  case round =>
    obtain ⟨k, hk, rfl, rfl, hb⟩ := hrel
    by_cases hlt : k < n
    · obtain ⟨g, o, R, m, cm, rfl, hg, hc, _, hr⟩ := (H.out.below hb).at_ hlt
      rw [Ln.marksR_at k0 zss k (by rw [HL.out]; exact hlt)] at hr
      have hm := hr.len
      rw [show (Ln.marksL (k0 + Ln.sumL (zss.take k)) (zss.getD k []).length).length = (zss.getD k []).length from Ln.tab_len _ _] at hm
      have hs := Ln.sumL_take zss k (by rw [HL.out]; exact hlt)
      have h1 := Ln.row_le zss k (by rw [HL.out]; exact hlt)
      have h3 := HT.out
      unfold Ln.totL at h3
      have hm1 : m ≤ 1048576 := by omega
      obtain ⟨v, hv⟩ : ∃ v : Int, v = k0 + Ln.sumL (zss.take k) := ⟨_, rfl⟩
      have v0 : 0 ≤ v := by omega
      have v1 : v ≤ 100000000 := by omega
      rw [hm] at hr hs
      rw [← hv] at hr ⊢
      have HV := Lib.hid hv
      have HS := Lib.hid hs
      have HR := Lib.hid hr
      have HB := Lib.hid hb
      clear hv hs hm hr hb h1 h3
      have v2 : ¬ (v + (m : Int) < 0) := by omega
      have v3 : 0 ≤ v + (m : Int) := by omega
      have v4 : v + (m : Int) ≤ 200000000 := by omega
      go_wp2_with fail
      refine (heldS_any R m cm B v wr hm1 v0 v1 HR.out).mono ?_
      rintro e w1 ⟨rfl, hb1⟩
      have HB1 := Lib.hid (HB.out.trans (hb1.mono HB.out.size)); clear hb1
      go_wp2
      go_roundw
      case rel => exact ⟨k + 1, by omega, by go_num, by rw [HS.out, HV.out]; congr 1; omega, HB1.out⟩
      case measure => simp [intOf]; omega
    · have hkn : k = n := by omega
      have HALL := Lib.hid (And.intro hb hkn); clear hb hkn
      go_wp2
      go_ret
      obtain ⟨hb, rfl⟩ := HALL.out
      rw [show zss.take k = zss by rw [← HL.out, List.take_length]]
      exact ⟨rfl, hb⟩
end Go.Proofs.Ytigodbilfjppbaa.Wds
