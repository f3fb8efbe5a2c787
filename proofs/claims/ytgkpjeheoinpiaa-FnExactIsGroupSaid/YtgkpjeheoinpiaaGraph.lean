/-
  The graph of code: for each statement the set of those that it must follow; and what can come next. One contract each.
-/
import Derived.Test.YtgkpjeheoinpiaaSets
import Derived.Test.YtgkpjeheoinpiaaBlkU
import Derived.Test.YtgkpjeheoinpiaaRetS
namespace Go.Proofs.Ytgkpjeheoinpiaa.Wds
open Go.RowKit
set_option linter.unusedVariables false

/-- The graph as it grows: the statements below k are done, of k the first i. -/
def gr (ss : List Sc.St) (n k i : Nat) : List Nat := (List.range n).map fun j => if j < k then Sc.need ss j else if j = k then Sc.setOf (fun x => Sc.must (Sc.nth ss x) (Sc.nth ss j)) i else 0
theorem gr_len (ss : List Sc.St) (n k i : Nat) : (gr ss n k i).length = n := by simp [gr]
theorem gr_at {ss : List Sc.St} {n k i j : Nat} (h : j < n) : (gr ss n k i).getD j 0 = if j < k then Sc.need ss j else if j = k then Sc.setOf (fun x => Sc.must (Sc.nth ss x) (Sc.nth ss j)) i else 0 := by
  rw [gr, List.getD_eq_getElem?_getD, List.getElem?_map, List.getElem?_range h]; rfl
theorem gr_zero (ss : List Sc.St) (n : Nat) : gr ss n 0 0 = List.replicate n 0 := by
  refine List.ext_getElem (by simp [gr]) fun j h1 h2 => ?_
  simp [gr, Sc.setOf]
theorem gr_next (ss : List Sc.St) (n k : Nat) : gr ss n k k = gr ss n (k + 1) 0 := by
  unfold gr
  refine List.map_congr_left fun j _ => ?_
  by_cases h1 : j < k
  · rw [if_pos h1, if_pos (by omega)]
  · by_cases h2 : j = k
    · subst h2; rw [if_neg h1, if_pos rfl, if_pos (by omega)]; rfl
    · rw [if_neg h1, if_neg h2, if_neg (by omega)]
      split <;> simp [Sc.setOf]
theorem gr_set (ss : List Sc.St) (n k i : Nat) (h : k < n) (v : Nat) (hv : v = Sc.setOf (fun x => Sc.must (Sc.nth ss x) (Sc.nth ss k)) (i + 1)) : (gr ss n k i).set k v = gr ss n k (i + 1) := by
  refine List.ext_getElem (by simp [gr]) fun j h1 h2 => ?_
  rw [List.getElem_set]
  by_cases e : k = j
  · subst e; rw [if_pos rfl, hv]; simp [gr]
  · rw [if_neg e]; simp [gr, show ¬ j = k from fun h => e h.symm]
theorem gr_same (ss : List Sc.St) (n k i : Nat) (hf : Sc.must (Sc.nth ss i) (Sc.nth ss k) = false) : gr ss n k (i + 1) = gr ss n k i := by
  unfold gr
  refine List.map_congr_left fun j _ => ?_
  by_cases h1 : j < k
  · rw [if_pos h1, if_pos h1]
  · by_cases h2 : j = k
    · subst h2; rw [if_neg h1, if_pos rfl, if_neg h1, if_pos rfl, Sc.setOf, hf]; simp
    · rw [if_neg h1, if_neg h2, if_neg h1, if_neg h2]
/-- The graph of n statements: n sets. -/
def graph (ss : List Sc.St) (n : Nat) : List Nat := (List.range n).map (Sc.need ss)
theorem graph_len (ss : List Sc.St) (n : Nat) : (graph ss n).length = n := by simp [graph]
theorem graph_at {ss : List Sc.St} {n j : Nat} (h : j < n) : (graph ss n).getD j 0 = Sc.need ss j := by
  rw [graph, List.getD_eq_getElem?_getD, List.getElem?_map, List.getElem?_range h]; rfl
theorem gr_all (ss : List Sc.St) (n : Nat) : gr ss n n 0 = graph ss n := by
  unfold gr graph
  refine List.map_congr_left fun j hj => ?_
  rw [if_pos (List.mem_range.1 hj)]
/-- A graph is returned: its row is new. -/
def RetG (ss : List Sc.St) (n : Nat) (w : World) (e : Ending) (w' : World) : Prop :=
  ∃ g, e = .returned (.slice (some ⟨g, 0, none⟩) n n) ∧ w.heap.size ≤ g ∧ BlkU w' g (cllU (graph ss n)) ∧ Below w.heap.size w w'
set_option maxRecDepth 100000 in
set_option maxHeartbeats 600000 in
theorem graphOf_any (A : Option Addr) (n c : Nat) (ss : List Sc.St) (B : Nat) (w : World) (h : RdS w B A n ss) (hv : Sc.valid ss = true) (hnc : n ≤ c) :
    Calls Try.prog 27 #[.slice A n c] w (RetG ss n w) := by
  obtain ⟨i0, hi, hz0, hz1, hz2⟩ := info_parts A_infoU
  have hn16 : n ≤ 16 := by have := Sc.len_of_valid hv; rw [h.len] at this; exact this
  have HV := Lib.hid (fun k (hk : k < n) => Sc.ok_of_valid hv (k := k) (by rw [h.len]; exact hk))
  have H := Lib.hid h; clear h hv
  go_enter Try.func27, Try.ntmps27
  go_wp2_with (refine wpList_make_u _ rfl _ _ _ rfl i0 Try.underlying43 hi hz0 hz1 hz2 _ _ _ _ n rfl rfl rfl rfl (by omega) ?_)
  go_loopw [13] (fun i wr => ∃ k : Nat, k ≤ n ∧ i = .int .i64 k ∧ BlkU wr w.heap.size (cllU (gr ss n k 0)) ∧ Below w.heap.size w wr) (fun i _ => n - (intOf i).toNat)
  case atStart =>
    exact ⟨0, Nat.zero_le _, rfl, by rw [gr_zero]; exact BlkU.new _ _, (Below.refl _ _).alloc (Nat.le_refl _) _⟩
  case round =>
    rename World => wo
    obtain ⟨k, hk, rfl, hblk, hb⟩ := hrel
    by_cases hlt : k < n
    · obtain ⟨g, o, rfl, hg, c0, c1, c2, c3⟩ := (H.out.below hb).at_ hlt
      obtain ⟨y, hy⟩ : ∃ x, x = Sc.nth ss k := ⟨_, rfl⟩
      rw [← hy] at c0 c1 c2 c3
      have oky := HV.out k hlt
      rw [← hy] at oky
      obtain ⟨p', d', a', b'⟩ := y
      simp only at c0 c1 c2 c3
      have HY := Lib.hid hy; clear hy
      have HBK := Lib.hid hblk
      have HB := Lib.hid hb
      clear hblk hb
      have i1 : (0 : Int) ≤ (k : Int) := by omega
      have i2 : (k : Int) < (n : Int) := by omega
      have i3 : k ≤ c := by omega
      go_wp2
      go_loopw [22] (fun i wr => ∃ x : Nat, x ≤ k ∧ i = .int .i64 x ∧ BlkU wr w.heap.size (cllU (gr ss n k x)) ∧ BlkS wr wo.heap.size #[.int .i64 p', .int .i64 d', .int .i64 a', .int .i64 b'] ∧ Below w.heap.size w wr) (fun i _ => k - (intOf i).toNat)
      case atStart =>
        exact ⟨0, Nat.zero_le _, rfl, HBK.out.alloc _, BlkS.new _ _, HB.out.alloc HB.out.size _⟩
      case round =>
        rename World => wi
        obtain ⟨x, hx, rfl, hblk, hbs, hb⟩ := hrel
        by_cases hlx : x < k
        · obtain ⟨g', o', e', hg', q0, q1, q2, q3⟩ := (H.out.below hb).at_ (k := x) (by omega)
          injection e' with e'; injection e' with e1 e2; subst e1; subst e2
          obtain ⟨z, hz⟩ : ∃ z, z = Sc.nth ss x := ⟨_, rfl⟩
          rw [← hz] at q0 q1 q2 q3
          have okx := HV.out x (by omega)
          rw [← hz] at okx
          obtain ⟨p, d, a, b⟩ := z
          simp only at q0 q1 q2 q3
          have HZ := Lib.hid hz; clear hz
          obtain ⟨m, hm⟩ : ∃ z, z = Sc.must ⟨p, d, a, b⟩ ⟨p', d', a', b'⟩ := ⟨_, rfl⟩
          have CM := Lib.hid (fun W => iMust_any p d a b p' d' a' b' W okx oky)
          rw [← hm] at CM
          rw [HZ.out, HY.out] at hm
          have HM := Lib.hid hm; clear hm okx
          have HU := Lib.hid hblk
          have s0 := hbs.cell 0
          have s1 := hbs.cell 1
          have s2 := hbs.cell 2
          have s3 := hbs.cell 3
          have hlw := hbs.lt
          have HS2 := Lib.hid (hbs.alloc (.cells #[.int .i64 p, .int .i64 d, .int .i64 a, .int .i64 b] 40))
          have HU2 := Lib.hid (hblk.alloc (.cells #[.int .i64 p, .int .i64 d, .int .i64 a, .int .i64 b] 40))
          have HB2 := Lib.hid (hb.alloc hb.size (.cells #[.int .i64 p, .int .i64 d, .int .i64 a, .int .i64 b] 40))
          clear hbs hblk hb
          have j1 : (0 : Int) ≤ (x : Int) := by omega
          have j2 : (x : Int) < (k : Int) := by omega
          have hset : Sc.setOf (fun z => Sc.must (Sc.nth ss z) (Sc.nth ss k)) x < 4294967296 := Sc.setOf_lt32 _ (by omega)
          obtain ⟨sv, hsv⟩ : ∃ z, z = Sc.setOf (fun z => Sc.must (Sc.nth ss z) (Sc.nth ss k)) x := ⟨_, rfl⟩
          rw [← hsv] at hset
          have HSV := Lib.hid hsv; clear hsv
          have C3 := Lib.hid (fun W => withN_any sv x W hset (by omega))
          go_wp2_with fail
          refine (CM.out _).mono ?_
          rintro e w3 ⟨rfl, hb3⟩
          have hu3 := HU2.out.keep hb3
          have n0 : w3.cell? ⟨w.heap.size, k, none⟩ = some (.int .u32 (sv : Int)) := by
            rw [hu3.cell, cllU_get (by rw [gr_len]; exact hlt), gr_at hlt, if_neg (by omega), if_pos rfl, ← HSV.out]
          have n1 := hu3.frozen k
          have HS3 := Lib.hid (HS2.out.keep hb3)
          have HB3 := Lib.hid (HB2.out.trans (hb3.mono HB2.out.size))
          have HU3 := Lib.hid hu3
          clear hb3 hu3
          cases m
          · go_wp2
            go_roundw
            case rel => exact ⟨x + 1, by omega, by go_num, by rw [gr_same _ _ _ _ HM.out.symm]; exact HU3.out, HS3.out, HB3.out⟩
            case measure => simp [intOf]; omega
          · go_wp2_with fail
            refine (C3.out _).mono ?_
            rintro e w4 ⟨rfl, rfl⟩
            go_wp2
            go_roundw
            case rel =>
              refine ⟨x + 1, by omega, by go_num, ?_, HS3.out.far (p := ⟨w.heap.size, k, none⟩) ?_ _, HB3.out.setCell (p := ⟨w.heap.size, k, none⟩) (Nat.le_refl _) _⟩
              · have := HU3.out.set_ k (.int .u32 ((sv ||| 2 ^ x : Nat) : Int))
                rw [cllU_set, gr_set ss n k x hlt _ (by rw [Sc.setOf, ← HSV.out, ← HM.out, if_pos rfl])] at this
                exact this
              · have := HB.out.size; have := HBK.out.lt; show wo.heap.size ≠ w.heap.size; omega
            case measure => simp [intOf]; omega
        · have hxk : x = k := by omega
          subst hxk
          rw [gr_next] at hblk
          have HU2 := Lib.hid hblk
          have HB2 := Lib.hid hb
          clear hblk hb hbs
          go_wp2
          go_roundw
          case rel => exact ⟨x + 1, by omega, by go_num, HU2.out, HB2.out⟩
          case measure => simp [intOf]; omega
    · have hkn : k = n := by omega
      subst hkn
      rw [gr_all] at hblk
      have HU2 := Lib.hid hblk
      have HB2 := Lib.hid hb
      clear hblk hb
      go_wp2
      go_ret
      exact ⟨_, rfl, Nat.le_refl _, HU2.out, HB2.out⟩
end Go.Proofs.Ytgkpjeheoinpiaa.Wds
