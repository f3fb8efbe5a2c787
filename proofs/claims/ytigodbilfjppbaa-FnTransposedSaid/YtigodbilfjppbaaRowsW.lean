/-
  Rows that are as many vectors as each has lanes: the code's and the model's test.
-/
import Derived.Test.YtigodbilfjppbaaVecW
import Derived.Test.YtigodbilfjppbaaCpy
import Derived.Test.YtigodbilfjppbaaLstRW
import Derived.Test.YtigodbilfjppbaaTrM
namespace Go.Proofs.Ytigodbilfjppbaa.Wds
open Go.RowKit
set_option linter.unusedVariables false

/-- The first row that a test does not accept. -/
def BadR (p : List Int → Bool) (zss : List (List Int)) (w : World) (e : Ending) (w' : World) : Prop :=
  ((e = .returned (.int .i64 (-1)) ∧ ∀ j, j < zss.length → p (zss.getD j []) = true) ∨ ∃ k : Nat, k < zss.length ∧ e = .returned (.int .i64 (k : Int)) ∧ p (zss.getD k []) = false) ∧ Below w.heap.size w w'
theorem allR_of {p : List Int → Bool} {zss : List (List Int)} (h : ∀ j, j < zss.length → p (zss.getD j []) = true) : zss.all p = true := by
  rw [List.all_eq_true]
  intro x hx
  obtain ⟨j, hj, rfl⟩ := List.getElem_of_mem hx
  have := h j hj
  rwa [List.getD_eq_getElem?_getD, List.getElem?_eq_getElem hj] at this
theorem allR_not {p : List Int → Bool} {zss : List (List Int)} {k : Nat} (hk : k < zss.length) (h : p (zss.getD k []) = false) : zss.all p = false := by
  rw [List.getD_eq_getElem?_getD, List.getElem?_eq_getElem hk] at h
  exact Bool.eq_false_iff.2 fun hh => by
    have := (List.all_eq_true.1 hh) _ (List.getElem_mem hk)
    simp at h
    rw [h] at this; cases this
set_option maxHeartbeats 1000000 in
theorem idxRows_any (p : List Int → Bool) (gr gb : Nat) (A : Option Addr) (n c0 : Nat) (zss : List (List Int)) (B : Nat) (w : World) (hn : Ln.totL zss ≤ 1048576) (h : RdR w B A n zss) (hC : ∀ (W : World) (R : Option Addr) (m c : Nat) (z : List Int), Below w.heap.size w W → m ≤ 1048576 → Rd W B R m z → Calls Try.prog 43 #[.slice R m c, .pointer (some ⟨gr, 0, none⟩), .pointer (some ⟨gb, 0, none⟩)] W (RetB (!p z) W)) :
    Calls Try.prog 55 #[.slice A n c0, .func (.func 43) #[] #[.pointer (some ⟨gr, 0, none⟩), .pointer (some ⟨gb, 0, none⟩)]] w (BadR p zss w) := by
  have hl := h.len
  have hnn : n ≤ 1048576 := by unfold Ln.totL at hn; omega
  have HT := Lib.hid hn
  have HL := Lib.hid hl
  have HCC := Lib.hid hC
  have H := Lib.hid h; clear h hn hl hC
  go_enter Try.func55, Try.ntmps55
  go_wp2
  go_loopw [5, 8] (fun _ i wr => ∃ k : Nat, k ≤ n ∧ i = .int .i64 k ∧ Hid (∀ j, j < k → p (zss.getD j []) = true) ∧ Below w.heap.size w wr) (fun _ i _ => n - (intOf i).toNat)
  case atStart => exact ⟨0, Nat.zero_le _, rfl, Lib.hid (fun j hj => absurd hj (Nat.not_lt_zero _)), Below.refl _ _⟩
  case round =>
    rename World => wr
    obtain ⟨k, hk, rfl, HA, hb⟩ := hrel
    by_cases hlt : k < n
    · obtain ⟨g, o, R, m, cm, rfl, hg, hc, _, hr⟩ := (H.out.below hb).at_ hlt
      have hm : m ≤ 1048576 := by
        have h1 := Ln.row_le zss k (by rw [HL.out]; exact hlt)
        have h2 := hr.len
        have h3 := HT.out
        unfold Ln.totL at h3
        omega
      have HLK := Lib.hid (show k < zss.length by rw [HL.out]; exact hlt)
      have C := Lib.hid (HCC.out wr R m cm (zss.getD k []) hb hm hr)
      obtain ⟨v, hv⟩ : ∃ v, v = p (zss.getD k []) := ⟨_, rfl⟩
      rw [← hv] at C
      have HV := Lib.hid hv
      have HB := Lib.hid hb; clear hb hr hv
      have i1 : (0 : Int) ≤ (k : Int) := by omega
      have i2 : (k : Int) < (n : Int) := by omega
      cases v
      · go_wp2_with fail
        refine C.out.mono ?_
        rintro e w1 ⟨rfl, hb1⟩
        have HB1 := Lib.hid (HB.out.trans (hb1.mono HB.out.size)); clear hb1
        go_wp2
        go_ret
        exact ⟨.inr ⟨k, HLK.out, rfl, HV.out.symm⟩, HB1.out⟩
      · go_wp2_with fail
        refine C.out.mono ?_
        rintro e w1 ⟨rfl, hb1⟩
        have HB1 := Lib.hid (HB.out.trans (hb1.mono HB.out.size)); clear hb1
        go_wp2
        go_roundw
        case rel =>
          refine ⟨k + 1, by omega, by go_num, Lib.hid (fun j hj => ?_), HB1.out⟩
          rcases Nat.lt_or_ge j k with h | h
          · exact HA.out j h
          · obtain rfl : j = k := by omega
            exact HV.out.symm
        case measure => simp [intOf]; omega
    · have hkn : k = n := by omega
      have HB := Lib.hid hb; clear hb
      subst hkn
      go_wp2
      go_ret
      exact ⟨.inl ⟨rfl, fun j hj => HA.out j (by rw [HL.out] at hj; exact hj)⟩, HB.out⟩
theorem contRows_any (p : List Int → Bool) (gr gb : Nat) (A : Option Addr) (n c0 : Nat) (zss : List (List Int)) (B : Nat) (w : World) (hn : Ln.totL zss ≤ 1048576) (h : RdR w B A n zss) (hC : ∀ (W : World) (R : Option Addr) (m c : Nat) (z : List Int), Below w.heap.size w W → m ≤ 1048576 → Rd W B R m z → Calls Try.prog 43 #[.slice R m c, .pointer (some ⟨gr, 0, none⟩), .pointer (some ⟨gb, 0, none⟩)] W (RetB (!p z) W)) :
    Calls Try.prog 42 #[.slice A n c0, .func (.func 43) #[] #[.pointer (some ⟨gr, 0, none⟩), .pointer (some ⟨gb, 0, none⟩)]] w (RetB (!zss.all p) w) := by
  have CC := Lib.hid (idxRows_any p gr gb A n c0 zss B w hn h hC)
  obtain ⟨r, hr⟩ : ∃ z, z = zss.all p := ⟨_, rfl⟩
  rw [← hr]
  have HR := Lib.hid hr
  clear h hr hC hn
  go_enter Try.func42, Try.ntmps42
  go_wp2_with fail
  refine CC.out.mono ?_
  rintro e w1 ⟨(⟨rfl, ha⟩ | ⟨k, hk, rfl, hf⟩), hb1⟩
  · obtain rfl : r = true := by rw [HR.out]; exact allR_of ha
    have HB1 := Lib.hid hb1; clear hb1 ha
    go_wp2
    go_ret
    exact ⟨rfl, HB1.out⟩
  · obtain rfl : r = false := by rw [HR.out]; exact allR_not hk hf
    have HB1 := Lib.hid hb1; clear hb1 hf
    have k0 : (0 : Int) ≤ (k : Int) := by omega
    go_wp2
    go_ret
    exact ⟨ret_bool (by simp; try omega), HB1.out⟩
theorem rowsC_any (b : Int) (gr gb : Nat) (AR : Option Addr) (n c0 : Nat) (R : Option Addr) (m c : Nat) (z : List Int) (B : Nat) (w : World) (hm : m ≤ 1048576) (h : Rd w B R m z)
    (hr : w.cell? ⟨gr, 0, none⟩ = some (.slice AR n c0)) (hb : w.cell? ⟨gb, 0, none⟩ = some (.int .i64 b)) :
    Calls Try.prog 43 #[.slice R m c, .pointer (some ⟨gr, 0, none⟩), .pointer (some ⟨gb, 0, none⟩)] w (RetB (!Ln.rowOk b n z) w) := by
  have k1 := isVec_any b R m c z B w hm h
  unfold Ln.rowOk
  rw [h.len]
  obtain ⟨v, hv⟩ : ∃ v, v = Ln.vec b z := ⟨_, rfl⟩
  rw [← hv] at k1 ⊢
  have C1 := Lib.hid k1
  clear k1 hv h
  by_cases he : m = n
  · subst he
    have e0 : (m == m) = true := by simp
    have e1 : ((m : Int) == (m : Int)) = true := by simp
    have e2 : ((m : Int) != (m : Int)) = false := by simp
    rw [e0, Bool.true_and]
    clear e0
    cases v
    all_goals
      go_enter Try.func43, Try.ntmps43
      go_wp2_with fail
      refine C1.out.mono ?_
      rintro e w1 ⟨rfl, hb⟩
      have HB := Lib.hid hb; clear hb
      go_wp2_with fail
      go_ret
      exact ⟨ret_bool (by simp), HB.out⟩
  · have e0 : (m == n) = false := by simpa using he
    rw [e0, Bool.false_and]
    have e1 : ((m : Int) == (n : Int)) = false := by simp; omega
    have e2 : ((m : Int) != (n : Int)) = true := by simp; omega
    clear e0
    go_enter Try.func43, Try.ntmps43
    go_wp2_with fail
    go_ret
    exact ⟨ret_bool (by simp), Below.refl _ _⟩
set_option maxHeartbeats 400000 in
theorem areRows_any (b : Int) (A : Option Addr) (n c0 : Nat) (zss : List (List Int)) (B : Nat) (w : World) (hn : Ln.totL zss ≤ 1048576) (h : RdR w B A n zss) :
    Calls Try.prog 24 #[.int .i64 b, .slice A n c0] w (RetB (Ln.rowsOk b zss) w) := by
  have hl := h.len
  have hb1 : Below w.heap.size w (w.alloc (.cells #[.int .i64 b] 2)) := (Below.refl _ _).alloc (Nat.le_refl _) _
  have hb2 : Below w.heap.size w ((w.alloc (.cells #[.int .i64 b] 2)).alloc (.cells #[.slice A n c0] 25)) := hb1.alloc hb1.size _
  have c1 : ((w.alloc (.cells #[.int .i64 b] 2)).alloc (.cells #[.slice A n c0] 25)).cell? ⟨w.heap.size, 0, none⟩ = some (.int .i64 b) :=
    ((Blk.new w #[.int .i64 b]).alloc _).cell 0
  have c2 : ((w.alloc (.cells #[.int .i64 b] 2)).alloc (.cells #[.slice A n c0] 25)).cell? ⟨w.heap.size + 1, 0, none⟩ = some (.slice A n c0) := by
    have := cell_of_row ((w.alloc (.cells #[.int .i64 b] 2)).alloc (.cells #[.slice A n c0] 25)) (w.alloc (.cells #[.int .i64 b] 2)).heap.size 0 _ _ (0, 0) (heap_alloc_new _ _)
    rw [size_alloc] at this
    exact this
  have k1 := contRows_any (Ln.rowOk b n) (w.heap.size + 1) w.heap.size A n c0 zss B _ hn (h.below hb2) (fun W R m c z hbb hm hr => rowsC_any b (w.heap.size + 1) w.heap.size A n c0 R m c z B W hm hr ((hbb.cell (p := ⟨w.heap.size + 1, 0, none⟩) (World.block_lt_of_cell? _ _ c2)).trans c2) ((hbb.cell (p := ⟨w.heap.size, 0, none⟩) (World.block_lt_of_cell? _ _ c1)).trans c1))
  unfold Ln.rowsOk
  rw [hl]
  have C1 := Lib.hid k1
  have HB2 := Lib.hid hb2
  have C2 := c2
  clear k1 hb1 hb2 hn h hl
  have hmf : ∀ (fn : Fn) (first cap : Array Value) (w : World), (Instr.makeFunc fn first cap).run Try.prog w = .ok (.func fn first cap) w := fun _ _ _ _ => rfl
  generalize zss.all (Ln.rowOk b n) = r at C1 ⊢
  by_cases h0 : 0 < n
  · have e1 : decide ((0 : Int) < (n : Int)) = true := decide_eq_true (by omega)
    rw [decide_eq_true h0, Bool.true_and]
    go_enter Try.func24, Try.ntmps24
    go_wp2_with fail
    refine C1.out.mono ?_
    rintro e w1 ⟨rfl, hb⟩
    have HB := Lib.hid (HB2.out.trans (hb.mono HB2.out.size)); clear hb
    go_wp2_with fail
    go_ret
    exact ⟨ret_bool (by simp), HB.out⟩
  · have e1 : decide ((0 : Int) < (n : Int)) = false := decide_eq_false (by omega)
    rw [decide_eq_false h0, Bool.false_and]
    go_enter Try.func24, Try.ntmps24
    go_wp2_with fail
    go_ret
    exact ⟨ret_bool (by simp), HB2.out⟩
end Go.Proofs.Ytigodbilfjppbaa.Wds
