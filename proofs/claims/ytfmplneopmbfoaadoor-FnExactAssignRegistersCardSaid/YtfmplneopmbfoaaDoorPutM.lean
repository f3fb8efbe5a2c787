/-
  A number put to its place among rising ones: the model's function. One contract.
-/
import Derived.Test.YtfmplneopmbfoaaDoorScM
import Derived.Test.YtfmplneopmbfoaaDoorPush
import Derived.Test.YtfmplneopmbfoaaDoorBelBy
namespace Go.Proofs.YtfmplneopmbfoaaDoor.Wds
open Go.RowKit
set_option linter.unusedVariables false

/-- A number put among others, element by element: the list so far, and whether it has been put. -/
def putStep (n : Int) (st : List Int × Bool) (x : Int) : List Int × Bool :=
  if st.2 then (st.1 ++ [x], true) else if n ≤ x then ((if n < x then st.1 ++ [n] else st.1) ++ [x], true) else (st.1 ++ [x], false)
def putFin (n : Int) (st : List Int × Bool) : List Int := if st.2 then st.1 else st.1 ++ [n]
theorem putFold_done (n : Int) : ∀ (zs out : List Int), zs.foldl (putStep n) (out, true) = (out ++ zs, true) := by
  intro zs
  induction zs with
  | nil => intro out; simp
  | cons x r ih => intro out; rw [List.foldl_cons, putStep, if_pos rfl, ih]; simp
theorem putFold (n : Int) : ∀ (zs out : List Int), putFin n (zs.foldl (putStep n) (out, false)) = out ++ Sc.put zs n := by
  intro zs
  induction zs with
  | nil => intro out; rfl
  | cons x r ih =>
    intro out
    rw [List.foldl_cons, putStep, if_neg (by simp), Sc.put]
    by_cases h : n ≤ x
    · by_cases e : n < x
      · rw [if_pos h, if_pos e, putFold_done, if_neg (show ¬ x < n by omega), if_neg (show ¬ x = n by omega)]; simp [putFin]
      · rw [if_pos h, if_neg e, putFold_done, if_neg (show ¬ x < n by omega), if_pos (show x = n by omega)]; simp [putFin]
    · rw [if_neg h, if_pos (by omega), ih]; simp
def putAt (zs : List Int) (n : Int) (k : Nat) : List Int × Bool := (zs.take k).foldl (putStep n) ([], false)
theorem putAt_succ {zs : List Int} {n : Int} {k : Nat} (h : k < zs.length) : putAt zs n (k + 1) = putStep n (putAt zs n k) (zs.getD k 0) := by
  rw [putAt, List.take_succ_eq_append_getElem h, List.foldl_append, List.getD_eq_getElem?_getD, List.getElem?_eq_getElem h]; rfl
theorem putAt_all {zs : List Int} {n : Int} {k : Nat} (h : zs.length = k) : putFin n (putAt zs n k) = Sc.put zs n := by
  rw [putAt, List.take_of_length_le (by omega), putFold]; simp
theorem putStep_len (n : Int) (st : List Int × Bool) (x : Int) : (putStep n st x).1.length ≤ st.1.length + 2 := by
  unfold putStep
  split
  · simp
  · split
    · split <;> simp
    · simp
theorem putAt_len (zs : List Int) (n : Int) : ∀ k, k ≤ zs.length → (putAt zs n k).1.length ≤ 2 * k := by
  intro k
  induction k with
  | zero => intro _; simp [putAt]
  | succ k ih =>
    intro h
    rw [putAt_succ (by omega)]
    have := putStep_len n (putAt zs n k) (zs.getD k 0)
    have := ih (by omega)
    omega
theorem put_len (zs : List Int) (n : Int) : (Sc.put zs n).length ≤ zs.length + 1 := by
  induction zs with
  | nil => simp [Sc.put]
  | cons x r ih =>
    rw [Sc.put]
    split
    · simp; omega
    · split <;> simp
set_option maxRecDepth 100000 in
set_option maxHeartbeats 2000000 in
theorem sPut_any (A : Option Addr) (n c : Nat) (zs : List Int) (B : Nat) (x : Int) (w : World) (hn : n ≤ 1000) (h : Rd w B A n zs) :
    Calls Tryd.prog 44 #[.slice A n c, .int .i64 x] w (RetL (Sc.put zs x) w) := by
  obtain ⟨i0, hi, hz0, hz1, hz2⟩ := info_parts A_info64
  have H := Lib.hid h; clear h
  go_enter Tryd.func44, Tryd.ntmps44
  go_wp2
  go_loopw [5, 6, 7] (fun v b i wr => ∃ k : Nat, k ≤ n ∧ i = .int .i64 k ∧ b = .bool (putAt zs x k).2 ∧ wr.ownsRow w.heap.size 2 1 v (putAt zs x k).1.length ((putAt zs x k).1.map (Value.int .i64)) ∧ Below w.heap.size w wr) (fun _ _ i _ => n - (intOf i).toNat)
  case atStart => exact ⟨0, Nat.zero_le _, rfl, rfl, World.ownsRow_made w #[] 0 (Nat.le_refl _) (by decide) rfl, (Below.refl _ _).alloc (Nat.le_refl _) _⟩
  case round =>
    obtain ⟨k, hk, rfl, rfl, hown, hb⟩ := hrel
    have hpl := putAt_len zs x k (by rw [H.out.len]; exact hk)
    by_cases hlt : k < n
    · obtain ⟨g, o, rfl, hg, hc0⟩ := H.out.at_ hlt
      have hgw := World.block_lt_of_cell? w _ hc0
      have hc := (hb.cell (p := ⟨g, o + k, none⟩) hgw).trans hc0
      have hps := putAt_succ (n := x) (zs := zs) (k := k) (by rw [H.out.len]; exact hlt)
      obtain ⟨z, hz⟩ : ∃ z, z = zs.getD k 0 := ⟨_, rfl⟩
      rw [← hz] at hc hps
      have HPS := Lib.hid hps
      obtain ⟨st, hst⟩ : ∃ st, st = putAt zs x k := ⟨_, rfl⟩
      rw [← hst] at HPS hown hpl ⊢
      obtain ⟨out, dn⟩ := st
      simp only at hown hpl ⊢
      have HB := Lib.hid hb
      have hsz := hb.size
      have i1 : (0 : Int) ≤ (k : Int) := by omega
      have i2 : (k : Int) < (n : Int) := by omega
      obtain ⟨Av, cv, rfl, _, _⟩ := own_form hown
      clear hps hst hz hb hc0
      cases dn
      · by_cases e : x ≤ z
        · have d1 : decide (x ≤ z) = true := decide_eq_true e
          by_cases e2 : x < z
          · have d2 : decide (x < z) = true := decide_eq_true e2
            have hst2 : putStep x (out, false) z = ((out ++ [x]) ++ [z], true) := by rw [putStep, if_neg (by simp), if_pos e, if_pos e2]
            have HS2 := Lib.hid hst2; clear hst2
            go_wp2_with (first | (at_builtin; refine wpList_push _ rfl _ _ rfl i0 Tryd.underlying29 hi hz0 hz1 hz2 _ _ _ _ _ rfl hown rfl (by first | omega | (simp; omega)) hsz ?_; intro v1 w1 hown1 hb1; have HB1 := Lib.hid (HB.out.trans hb1); have hs1 := HB1.out.size; have hc1 := (hb1.cell (p := ⟨g, o + k, none⟩) hgw).trans hc; obtain ⟨Av1, cv1, rfl, _, _⟩ := own_form hown1; clear hb1 hown) | (at_builtin; refine wpList_push _ rfl _ _ rfl i0 Tryd.underlying29 hi hz0 hz1 hz2 _ _ _ _ _ rfl hown1 rfl (by first | omega | (simp; omega)) hs1 ?_; intro v2 w2 hown2 hb2))
            have HB2 := Lib.hid (HB1.out.trans hb2)
            have HO2 := Lib.hid hown2
            clear hb2 hown2
            go_wp2
            go_roundw
            case rel =>
              refine ⟨k + 1, by omega, by go_num, by rw [HPS.out, HS2.out], ?_, HB2.out⟩
              rw [HPS.out, HS2.out, List.length_append, List.length_append]
              exact HO2.out
            case measure => simp [intOf]; omega
          · have d2 : decide (x < z) = false := decide_eq_false e2
            have hst2 : putStep x (out, false) z = (out ++ [z], true) := by rw [putStep, if_neg (by simp), if_pos e, if_neg e2]
            have HS2 := Lib.hid hst2; clear hst2
            go_wp2_with (at_builtin; refine wpList_push _ rfl _ _ rfl i0 Tryd.underlying29 hi hz0 hz1 hz2 _ _ _ _ _ rfl hown rfl (by first | omega | (simp; omega)) hsz ?_; intro v1 w1 hown1 hb1)
            have HB1 := Lib.hid (HB.out.trans hb1)
            have HO1 := Lib.hid hown1
            clear hb1 hown1
            go_wp2
            go_roundw
            case rel =>
              refine ⟨k + 1, by omega, by go_num, by rw [HPS.out, HS2.out], ?_, HB1.out⟩
              rw [HPS.out, HS2.out, List.length_append]
              exact HO1.out
            case measure => simp [intOf]; omega
        · have d1 : decide (x ≤ z) = false := decide_eq_false e
          have hst2 : putStep x (out, false) z = (out ++ [z], false) := by rw [putStep, if_neg (by simp), if_neg e]
          have HS2 := Lib.hid hst2; clear hst2
          go_wp2_with (at_builtin; refine wpList_push _ rfl _ _ rfl i0 Tryd.underlying29 hi hz0 hz1 hz2 _ _ _ _ _ rfl hown rfl (by first | omega | (simp; omega)) hsz ?_; intro v1 w1 hown1 hb1)
          have HB1 := Lib.hid (HB.out.trans hb1)
          have HO1 := Lib.hid hown1
          clear hb1 hown1
          go_wp2
          go_roundw
          case rel =>
            refine ⟨k + 1, by omega, by go_num, by rw [HPS.out, HS2.out], ?_, HB1.out⟩
            rw [HPS.out, HS2.out, List.length_append]
            exact HO1.out
          case measure => simp [intOf]; omega
      · have hst2 : putStep x (out, true) z = (out ++ [z], true) := by rw [putStep, if_pos rfl]
        have HS2 := Lib.hid hst2; clear hst2
        go_wp2_with (at_builtin; refine wpList_push _ rfl _ _ rfl i0 Tryd.underlying29 hi hz0 hz1 hz2 _ _ _ _ _ rfl hown rfl (by first | omega | (simp; omega)) hsz ?_; intro v1 w1 hown1 hb1)
        have HB1 := Lib.hid (HB.out.trans hb1)
        have HO1 := Lib.hid hown1
        clear hb1 hown1
        go_wp2
        go_roundw
        case rel =>
          refine ⟨k + 1, by omega, by go_num, by rw [HPS.out, HS2.out], ?_, HB1.out⟩
          rw [HPS.out, HS2.out, List.length_append]
          exact HO1.out
        case measure => simp [intOf]; omega
    · have hkn : k = n := by omega
      subst hkn
      have hall := putAt_all (n := x) (zs := zs) (k := k) H.out.len
      have hlen := put_len zs x
      rw [H.out.len] at hlen
      have HALL := Lib.hid hall
      have HLEN := Lib.hid hlen
      obtain ⟨st, hst⟩ : ∃ st, st = putAt zs x k := ⟨_, rfl⟩
      rw [← hst] at HALL hown hpl ⊢
      obtain ⟨out, dn⟩ := st
      simp only at hown hpl ⊢
      have HB := Lib.hid hb
      have hsz := hb.size
      obtain ⟨Av, cv, rfl, hcc, hoo⟩ := own_form hown
      clear hst hb hall hlen
      cases dn
      · go_wp2_with (at_builtin; refine wpList_push _ rfl _ _ rfl i0 Tryd.underlying29 hi hz0 hz1 hz2 _ _ _ _ _ rfl hown rfl (by first | omega | (simp; omega)) hsz ?_; intro v1 w1 hown1 hb1)
        have HB1 := Lib.hid (HB.out.trans hb1)
        have HO1 := Lib.hid hown1
        clear hb1 hown1
        go_wp2
        go_ret
        have e2 : out ++ [x] = Sc.put zs x := HALL.out
        obtain ⟨A1, c1, e1, hc1, ho1⟩ := own_form HO1.out
        subst e1
        rw [e2] at ho1
        exact ⟨A1, _, c1, rfl, ho1, by omega, hc1, HB1.out⟩
      · go_wp2
        go_ret
        have e2 : out = Sc.put zs x := HALL.out
        rw [← e2]
        exact ⟨Av, out.length, cv, rfl, hoo, by omega, hcc, HB.out⟩
end Go.Proofs.YtfmplneopmbfoaaDoor.Wds
