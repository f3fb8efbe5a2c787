/-
  IsOrder: what can come next, and whether a list is an order: the code's and the model's, one contract each.
-/
import Derived.Test.YtbaiaahdjkjjoaaGraph
import Derived.Test.YtbaiaahdjkjjoaaFollow
import Derived.Test.YtbaiaahdjkjjoaaHasM
import Derived.Test.YtbaiaahdjkjjoaaGOrd
namespace Go.Proofs.Ytbaiaahdjkjjoaa.Wds
open Go.RowKit
set_option linter.unusedVariables false

theorem nextOk_range {c : List Sc.St} {pre : List Int} {j : Int} (h : Sc.nextOk c pre j = true) : 0 ≤ j ∧ j < c.length := by
  simp only [Sc.nextOk, Bool.and_eq_true, decide_eq_true_eq] at h; exact h.1.1
theorem next_eq {ss : List Sc.St} {pre : List Int} {j : Int} {n : Nat} (hl : ss.length = n) (hj : 0 ≤ j ∧ j < (n : Int)) (hp : ∀ x ∈ pre, 0 ≤ x) : Sc.nextOk ss pre j = Tk.nextU (graph ss n) (Sc.doneOf pre) j.toNat := by
  rw [← Sc.next_bits (c := ss) (pre := pre) (j := j) (by rw [hl]; exact hj) hp]
  have e1 : (Sc.doneOf pre ||| Sc.bt j == Sc.doneOf pre) = (Sc.doneOf pre).testBit j.toNat := by
    rw [Bool.eq_iff_iff, beq_iff_eq, Sc.bt, Sc.or_pow_eq]
  rw [e1, Tk.nextU, graph_at (by omega)]
theorem gr_lt {ss : List Sc.St} {n : Nat} (hn : n ≤ 16) : ∀ i, i < n → (graph ss n).getD i 0 < 4294967296 := fun i hi => by
  rw [graph_at hi]; exact Sc.setOf_lt32 _ (by omega)
theorem isNext_any (g n : Nat) (ss : List Sc.St) (pre : List Int) (j : Int) (w : World) (hl : ss.length = n) (hn : n ≤ 16) (hb : BlkU w g (cllU (graph ss n))) (hp : ∀ x ∈ pre, 0 ≤ x ∧ x ≤ 31) (hj : 0 ≤ j ∧ j < (n : Int)) :
    Calls Try.prog 32 #[.slice (some ⟨g, 0, none⟩) n n, .int .u32 ((Sc.doneOf pre : Nat) : Int), .int .i64 j] w (RetB (Sc.nextOk ss pre j) w) := by
  rw [next_eq hl hj fun x hx => (hp x hx).1]
  obtain ⟨k, rfl⟩ := Int.eq_ofNat_of_zero_le hj.1
  rw [Int.toNat_natCast]
  exact isNextU_any g n (graph ss n) _ k w (graph_len ss n) hn (gr_lt hn) (Sc.doneOf_lt fun x hx => (hp x hx).2) (by omega) hb
theorem ord_bad {c : List Sc.St} {o : List Int} {k : Nat} (hk : k < o.length) (h : Sc.nextOk c (o.take k) (o.getD k 0) = false) : Sc.isOrd c o = false := by
  have : ((List.range o.length).all fun k => Sc.nextOk c (o.take k) (o.getD k 0)) = false := by
    rw [List.all_eq_false]
    exact ⟨k, List.mem_range.2 hk, by rw [h]; simp⟩
  rw [Sc.isOrd, this, Bool.and_false]
theorem ord_all {c : List Sc.St} {o : List Int} (hl : o.length = c.length) (h : ∀ k, k < o.length → Sc.nextOk c (o.take k) (o.getD k 0) = true) : Sc.isOrd c o = true := by
  have : ((List.range o.length).all fun k => Sc.nextOk c (o.take k) (o.getD k 0)) = true := by
    rw [List.all_eq_true]
    intro k hk
    exact h k (List.mem_range.1 hk)
  rw [Sc.isOrd, this, hl]; simp
theorem ord_at {c : List Sc.St} {o : List Int} (h : Sc.isOrd c o = true) : o.length = c.length ∧ ∀ k, k < o.length → Sc.nextOk c (o.take k) (o.getD k 0) = true := by
  rw [Sc.isOrd, Bool.and_eq_true, beq_iff_eq, List.all_eq_true] at h
  exact ⟨h.1, fun k hk => h.2 k (List.mem_range.2 hk)⟩
theorem mem_take {o : List Int} {k : Nat} {x : Int} (h : x ∈ o.take k) : ∃ i, i < k ∧ i < o.length ∧ x = o.getD i 0 := by
  obtain ⟨i, hi, he⟩ := List.getElem_of_mem h
  rw [List.length_take] at hi
  refine ⟨i, by omega, by omega, ?_⟩
  rw [List.getElem_take] at he
  rw [List.getD_eq_getElem?_getD, List.getElem?_eq_getElem (by omega)]; exact he.symm
theorem take_snoc {o : List Int} {k : Nat} (h : k < o.length) : o.take (k + 1) = o.take k ++ [o.getD k 0] := by
  rw [List.take_succ_eq_append_getElem h, List.getD_eq_getElem?_getD, List.getElem?_eq_getElem h]; rfl
/-- A list is an order by the sets just where it is one by the statements. -/
theorem ord_eq {ss : List Sc.St} {n : Nat} (hl : ss.length = n) (zs : List Int) : Tk.ordU (graph ss n) zs = Sc.isOrd ss zs := by
  have hg := graph_len ss n
  rw [Bool.eq_iff_iff]
  constructor
  · intro h
    have hz := Tk.ordU_length h
    refine ord_all (by omega) fun k hk => ?_
    have hk' := Tk.ordU_at h hk
    have hr := Tk.okU_range hk'
    rw [hg] at hr
    rw [next_eq hl hr fun x hx => by
      obtain ⟨i, _, hi, rfl⟩ := mem_take hx
      exact (Tk.okU_range (Tk.ordU_at h hi)).1]
    rw [Tk.okU, Bool.and_eq_true] at hk'
    exact hk'.2
  · intro h
    obtain ⟨h1, h2⟩ := ord_at h
    refine Tk.ordU_all (by omega) fun k hk => ?_
    have hk' := h2 k hk
    have hr := nextOk_range hk'
    rw [hl] at hr
    rw [next_eq hl hr fun x hx => by
      obtain ⟨i, _, hi, rfl⟩ := mem_take hx
      exact (nextOk_range (h2 i hi)).1] at hk'
    rw [Tk.okU, hg, decide_eq_true hr, Bool.true_and]
    exact hk'
set_option maxHeartbeats 1000000 in
theorem iIsOrder_any (A : Option Addr) (n c : Nat) (ss : List Sc.St) (B : Nat) (A' : Option Addr) (n' c' : Nat) (zs : List Int) (B' : Nat) (w : World) (hn : n ≤ 1048576) (hc : n ≤ c) (hn' : n' ≤ 1048576) (hc' : n' ≤ c') (h : RdS w B A n ss) (h' : Rd w B' A' n' zs) :
    Calls Try.prog 12 #[.slice A n c, .slice A' n' c'] w (RetB (Sc.isOrder ss zs) w) := by
  have hl := h.len
  obtain ⟨v, hv⟩ : ∃ v, v = Sc.valid ss := ⟨_, rfl⟩
  have CV := Lib.hid (iValidCode_any A n c ss B w hn h)
  rw [← hv] at CV
  unfold Sc.isOrder
  rw [← hv]
  cases v
  · clear hl hv h h'
    go_enter Try.func12, Try.ntmps12
    go_wp2_with fail
    refine CV.out.mono ?_
    rintro e w1 ⟨rfl, hb⟩
    have HB := Lib.hid hb; clear hb
    go_wp2
    go_ret
    exact ⟨ret_bool (by simp), HB.out⟩
  · have h16 := Sc.len_of_valid hv.symm
    rw [hl] at h16
    rw [Bool.true_and, ← ord_eq hl]
    obtain ⟨r, hr⟩ : ∃ r, r = Tk.ordU (graph ss n) zs := ⟨_, rfl⟩
    rw [← hr]
    have HR := Lib.hid hr
    have HV := Lib.hid hv.symm
    have H := Lib.hid h
    have H' := Lib.hid h'
    have HL := Lib.hid hl
    have HZ := Lib.hid (graph_len ss n)
    clear hl hv h h' hr
    go_enter Try.func12, Try.ntmps12
    go_wp2_with fail
    refine CV.out.mono ?_
    rintro e w1 ⟨rfl, hb⟩
    have HB1 := Lib.hid hb
    have H1 := Lib.hid (H.out.below hb)
    have H1' := Lib.hid (H'.out.below hb); clear hb
    go_wp2_with fail
    refine (graphOf_any A n c ss B w1 H1.out HV.out hc).mono ?_
    rintro e w2 ⟨g, rfl, hg, hbu, hb⟩
    have CO := Lib.hid (isOrderU_any g n (graph ss n) A' n' c' zs B' w2 HZ.out h16 (gr_lt h16) hn' hbu (H1'.out.below hb))
    have HB2 := Lib.hid (HB1.out.trans (hb.mono HB1.out.size))
    rw [← HR.out] at CO
    clear hbu hb hg
    go_wp2_with fail
    refine CO.out.mono ?_
    rintro e w3 ⟨rfl, hb⟩
    have HB3 := Lib.hid (HB2.out.trans (hb.mono HB2.out.size)); clear hb
    cases r
    · go_wp2
      go_ret
      exact ⟨ret_bool (by simp), HB3.out⟩
    · go_wp2
      go_ret
      exact ⟨ret_bool (by simp), HB3.out⟩
end Go.Proofs.Ytbaiaahdjkjjoaa.Wds
