/-
  Orders of tasks: the model's function, and whether a list is one: one contract each.
-/
import Derived.Test.YtfmplneopmbfoaaVTask2
import Derived.Test.YtfmplneopmbfoaaGOrd
import Derived.Test.YtfmplneopmbfoaaHasM
import Derived.Test.YtfmplneopmbfoaaPush
namespace Go.Proofs.Ytfmplneopmbfoaa.Wds
open Go.RowKit
set_option linter.unusedVariables false

theorem rowT_below {w w' : World} {B : Nat} {e : TypeId} {s : Nat} {v : Value} {n : Nat} {xs : List Value} (h : w.ownsRow B e s v n xs) (hb : Below w.heap.size w w') : w'.ownsRow B e s v n xs := by
  refine ⟨h.1, ?_⟩
  rcases h.2 with h0 | ⟨g, cap, cur, hv, hg, hh, h4⟩
  · exact .inl h0
  · exact .inr ⟨g, cap, cur, hv, hg, (hb.block g (lt_of_block hh)).trans hh, h4⟩
theorem okL_range {ts : List Tk.T} {zs : List Int} {k : Nat} (h : Tk.okL ts zs k = true) : 0 ≤ zs.getD k 0 ∧ zs.getD k 0 < ts.length := by
  rw [Tk.okL, Bool.and_eq_true] at h; exact of_decide_eq_true h.1
/-- The place k of a list is as the sets have it just where it is as the lists have it. -/
theorem okL_U {ts : List Tk.T} (hv : Tk.valid ts = true) {zs : List Int} {k : Nat} (h : ∀ j, j < k → Tk.okL ts zs j = true) : Tk.okU (Tk.needs ts) zs k = Tk.okL ts zs k :=
  Tk.okU_needs hv fun x hx => by
    obtain ⟨i, hi, _, rfl⟩ := Tk.mem_take hx
    exact (okL_range (h i hi)).1
theorem okU_of_L {ts : List Tk.T} (hv : Tk.valid ts = true) {zs : List Int} {n : Nat} (h : ∀ j, j < n → Tk.okL ts zs j = true) : ∀ j, j < n → Tk.okU (Tk.needs ts) zs j = true := fun j hj => by
  rw [okL_U hv fun i hi => h i (by omega)]; exact h j hj
theorem all_of {l : List Int} {p : Int → Bool} (h : ∀ i, i < l.length → p (l.getD i 0) = true) : l.all p = true := by
  rw [List.all_eq_true]
  intro x hx
  obtain ⟨j, hj, rfl⟩ := List.getElem_of_mem hx
  have := h j hj
  rwa [List.getD_eq_getElem?_getD, List.getElem?_eq_getElem hj] at this
theorem all_not {l : List Int} {p : Int → Bool} {i : Nat} (hi : i < l.length) (h : p (l.getD i 0) = false) : l.all p = false := by
  rw [List.all_eq_false]
  refine ⟨l[i], List.getElem_mem hi, ?_⟩
  rw [List.getD_eq_getElem?_getD, List.getElem?_eq_getElem hi] at h
  rw [show p l[i] = false from h]; simp
set_option maxRecDepth 100000 in
set_option maxHeartbeats 4000000 in
theorem sOrderT_any (A : Option Addr) (n c : Nat) (ts : List Tk.T) (B : Nat) (A' : Option Addr) (n' c' : Nat) (zs : List Int) (B' : Nat) (w : World) (hn : Ln.totL (Tk.nss ts) ≤ 1048576) (hv : Tk.valid ts = true) (hn' : n' ≤ 1048576) (h : RdT w B A n ts) (h' : Rd w B' A' n' zs) :
    Calls Try.prog 89 #[.slice A n c, .slice A' n' c'] w (RetB (Tk.ordU (Tk.needs ts) zs) w) := by
  obtain ⟨i0, hi, hz0, hz1, hz2⟩ := info_parts A_info64
  have hl := h.len
  have hl' := h'.len
  have h8 : n ≤ 8 := by rw [← hl]; exact Tk.len_of_valid hv
  have HT := Lib.hid hn
  have HV := Lib.hid hv
  have H := Lib.hid h
  have H' := Lib.hid h'
  obtain ⟨r, hr⟩ : ∃ r, r = Tk.ordU (Tk.needs ts) zs := ⟨_, rfl⟩
  rw [← hr]
  have HR := Lib.hid hr
  have HL := Lib.hid hl
  have HL' := Lib.hid hl'
  have u1 : IntKind.i64.wrap ((n : Int) - 1) = (n : Int) - 1 := IntWalk.i64_in _ (by omega)
  clear hr hl hl' h h' hv hn
  go_enter Try.func89, Try.ntmps89
  go_wp2
  go_loopw [5, 6] (fun v i wr => ∃ k : Nat, k ≤ n' ∧ i = .int .i64 k ∧ wr.ownsRow w.heap.size 2 1 v k ((zs.take k).map (Value.int .i64)) ∧ Hid (∀ j, j < k → Tk.okL ts zs j = true) ∧ Below w.heap.size w wr) (fun _ i _ => n' - (intOf i).toNat)
  case atStart => exact ⟨0, Nat.zero_le _, rfl, World.ownsRow_made w #[] 0 (Nat.le_refl _) (by decide) rfl, Lib.hid (fun j hj => absurd hj (Nat.not_lt_zero _)), (Below.refl _ _).alloc (Nat.le_refl _) _⟩
  case round =>
    rename World => wo
    obtain ⟨k, hk, rfl, hown, HA, hb⟩ := hrel
    obtain ⟨Av, cv, rfl, hcv, hoo⟩ := own_form hown
    by_cases hlt : k < n'
    · obtain ⟨g', o', rfl, hg', hc1⟩ := (H'.out.below hb).at_ hlt
      obtain ⟨j, hj⟩ : ∃ j, j = zs.getD k 0 := ⟨_, rfl⟩
      have HOK := Lib.hid (show Tk.okL ts zs k = (decide (0 ≤ j ∧ j < n) && (!(zs.take k).contains j && (Tk.nth ts j.toNat).ns.all fun x => (zs.take k).contains x)) by rw [Tk.okL, HL.out, hj])
      have HBAD := Lib.hid (fun (e : Tk.okL ts zs k = false) => (show r = false by
        rw [HR.out]; exact Tk.ordU_bad (by rw [HL'.out]; exact hlt) (by rw [okL_U HV.out HA.out]; exact e)))
      rw [← hj] at hc1
      have HJ := Lib.hid hj; clear hj
      have HOW := Lib.hid hown
      have HOO := Lib.hid hoo
      have HB := Lib.hid hb
      have HT1 := Lib.hid (H.out.below hb)
      clear hown hoo hb
      have i1 : (0 : Int) ≤ (k : Int) := by omega
      have i2 : (k : Int) < (n' : Int) := by omega
      by_cases hj1 : 0 ≤ j ∧ j ≤ (n : Int) - 1
      rotate_left
      · obtain rfl : r = false := HBAD.out (by rw [HOK.out, decide_eq_false (by omega)]; rfl)
        have CI := Lib.hid (fun W => inB_any j 0 ((n : Int) - 1) W)
        rw [decide_eq_false hj1] at CI
        go_wp2_with fail
        refine (CI.out _).mono ?_
        rintro e w' ⟨rfl, rfl⟩
        go_wp2
        go_ret
        exact ⟨rfl, HB.out⟩
      · have CI := Lib.hid (fun W => inB_any j 0 ((n : Int) - 1) W)
        rw [decide_eq_true hj1] at CI
        obtain ⟨b, hbb⟩ : ∃ b, b = (zs.take k).contains j := ⟨_, rfl⟩
        have CH := Lib.hid (sHas_any Av k cv (zs.take k) wo.heap.size j wo (by omega) HOO.out.rd)
        rw [← hbb] at CH
        have HBB := Lib.hid hbb; clear hbb
        cases b
        rotate_left
        · obtain rfl : r = false := HBAD.out (by rw [HOK.out, ← HBB.out]; simp)
          go_wp2_with fail
          refine (CI.out _).mono ?_
          rintro e w' ⟨rfl, rfl⟩
          go_wp2_with fail
          refine CH.out.mono ?_
          rintro e w1 ⟨rfl, hb1⟩
          have HB1 := Lib.hid (HB.out.trans (hb1.mono HB.out.size)); clear hb1
          go_wp2
          go_ret
          exact ⟨rfl, HB1.out⟩
        · go_wp2_with fail
          refine (CI.out _).mono ?_
          rintro e w' ⟨rfl, rfl⟩
          go_wp2_with fail
          refine CH.out.mono ?_
          rintro e w1 ⟨rfl, hb1⟩
          have HB1 := Lib.hid (HB.out.trans (hb1.mono HB.out.size))
          have HOW1 := Lib.hid (rowT_below HOW.out hb1)
          clear hb1
          obtain ⟨y, rfl⟩ := Int.eq_ofNat_of_zero_le hj1.1
          have hy : y < n := by omega
          have HOK2 := Lib.hid (show Tk.okL ts zs k = ((Tk.nth ts y).ns.all fun x => (zs.take k).contains x) by
            rw [HOK.out, decide_eq_true (by omega), ← HBB.out, Int.toNat_natCast]; rfl)
          obtain ⟨m, hm⟩ : ∃ m, m = (Tk.nth ts y).ns.length := ⟨_, rfl⟩
          have hmb : m ≤ 1048576 := by
            have h1 := Ln.row_le (Tk.nss ts) y (by rw [Tk.nss_len, HL.out]; exact hy)
            have h3 := HT.out
            rw [Tk.nss_getD] at h1
            unfold Ln.totL at h3
            omega
          have HM := Lib.hid hm; clear hm
          have y1 : (0 : Int) ≤ (y : Int) := by omega
          have y2 : (y : Int) < (n : Int) := by omega
          clear hj1
          go_wp2
          go_loopw [8] (fun i wr => ∃ x : Nat, x ≤ m ∧ i = .int .i64 x ∧ Hid (∀ i : Nat, i < x → (zs.take k).contains ((Tk.nth ts y).ns.getD i 0) = true) ∧ wr.ownsRow w.heap.size 2 1 (.slice Av k cv) k ((zs.take k).map (Value.int .i64)) ∧ Below w.heap.size w wr) (fun i _ => m - (intOf i).toNat)
          case atStart => exact ⟨0, Nat.zero_le _, rfl, Lib.hid (fun j hj => absurd hj (Nat.not_lt_zero _)), HOW1.out, HB1.out⟩
          case round =>
            rename World => wi
            obtain ⟨x, hx, rfl, HAI, hown, hb⟩ := hrel
            obtain ⟨A2, c2, e2, hcv2, hoo⟩ := own_form hown
            injection e2 with e2 _ e3; subst e2; subst e3
            obtain ⟨g, o, R, mm, cm, rfl, hg, hc, hmc, hrr⟩ := (H.out.below hb).at_ (k := y) hy
            have hmm : mm = m := by rw [HM.out]; exact hrr.len.symm
            subst hmm
            obtain ⟨c0, c1, c2⟩ := hc
            simp only at c0 c1 c2
            by_cases hlx : x < mm
            · obtain ⟨gr, orr, rfl, hgr, hcr⟩ := hrr.at_ hlx
              obtain ⟨z, hz⟩ : ∃ z, z = (Tk.nth ts y).ns.getD x 0 := ⟨_, rfl⟩
              rw [← hz] at hcr
              obtain ⟨f, hf⟩ : ∃ f, f = (zs.take k).contains z := ⟨_, rfl⟩
              have CF := Lib.hid (sHas_any Av k cv (zs.take k) wi.heap.size z wi (by omega) hoo.rd)
              rw [← hf] at CF
              have HF := Lib.hid hf
              have HZ := Lib.hid hz
              have HOWI := Lib.hid hown
              have HBI := Lib.hid hb
              clear hf hz hown hb hoo hrr
              have j1 : (0 : Int) ≤ (x : Int) := by omega
              have j2 : (x : Int) < (mm : Int) := by omega
              cases f
              · obtain rfl : r = false := HBAD.out (by rw [HOK2.out]; exact all_not (i := x) (by rw [← HM.out]; exact hlx) (by rw [← HZ.out]; exact HF.out.symm))
                go_wp2_with fail
                refine CF.out.mono ?_
                rintro e w2 ⟨rfl, hb2⟩
                have HB2 := Lib.hid (HBI.out.trans (hb2.mono HBI.out.size)); clear hb2
                go_wp2
                go_ret
                exact ⟨rfl, HB2.out⟩
              · go_wp2_with fail
                refine CF.out.mono ?_
                rintro e w2 ⟨rfl, hb2⟩
                have HB2 := Lib.hid (HBI.out.trans (hb2.mono HBI.out.size))
                have HOW2 := Lib.hid (rowT_below HOWI.out hb2)
                clear hb2
                go_wp2
                go_roundw
                case rel =>
                  refine ⟨x + 1, by omega, by go_num, Lib.hid (fun i hi => ?_), HOW2.out, HB2.out⟩
                  rcases Nat.lt_or_ge i x with h | h
                  · exact HAI.out i h
                  · obtain rfl : i = x := by omega
                    rw [← HZ.out]; exact HF.out.symm
                case measure => simp [intOf]; omega
            · have hxm : x = mm := by omega
              have hok : Tk.okL ts zs k = true := by
                rw [HOK2.out]
                exact all_of fun i hi => HAI.out i (by rw [← HM.out] at hi; omega)
              have HOK3 := Lib.hid hok
              have HSN := Lib.hid (show zs.take (k + 1) = zs.take k ++ [((y : Nat) : Int)] by rw [Tk.take_snoc (by rw [HL'.out]; exact hlt), ← HJ.out])
              have HBI := Lib.hid hb
              have hsz := hb.size
              clear hb hok hoo hrr
              go_wp2_with (at_builtin; refine wpList_push _ rfl _ _ rfl i0 Try.underlying25 hi hz0 hz1 hz2 _ _ _ _ _ rfl hown rfl (by omega) hsz ?_; intro v1 w3 hown1 hb1)
              rw [← HSN.out] at hown1
              have HO1 := Lib.hid hown1
              have HB3 := Lib.hid (HBI.out.trans hb1)
              clear hown1 hb1
              go_wp2
              go_roundw
              case rel =>
                refine ⟨k + 1, by omega, by go_num, HO1.out, Lib.hid (fun i hi => ?_), HB3.out⟩
                rcases Nat.lt_or_ge i k with h | h
                · exact HA.out i h
                · obtain rfl : i = k := by omega
                  exact HOK3.out
              case measure => simp [intOf]; omega
    · have hkn : k = n' := by omega
      subst hkn
      have hall := okU_of_L HV.out HA.out
      have hfin : r = decide (k = n) := by
        rw [HR.out]
        by_cases e : k = n
        · rw [decide_eq_true e]
          exact Tk.ordU_all (by rw [HL'.out, Tk.needs_len, HL.out]; exact e) fun i hi => hall i (by rw [HL'.out] at hi; exact hi)
        · rw [decide_eq_false e]
          exact Tk.ordU_len (by rw [HL'.out, Tk.needs_len, HL.out]; exact e)
      have HB := Lib.hid hb; clear hb hown hoo hall
      by_cases e : k = n
      · rw [decide_eq_true e] at hfin
        subst hfin
        have e1 : ((k : Int) == (n : Int)) = true := by simp; omega
        clear e
        go_wp2
        go_ret
        exact ⟨ret_bool (by simp), HB.out⟩
      · rw [decide_eq_false e] at hfin
        subst hfin
        have e1 : ((k : Int) == (n : Int)) = false := by simp; omega
        clear e
        go_wp2
        go_ret
        exact ⟨ret_bool (by simp), HB.out⟩
theorem needs_lt {ts : List Tk.T} (hv : Tk.valid ts = true) {n : Nat} (hl : ts.length = n) : ∀ i, i < n → (Tk.needs ts).getD i 0 < 4294967296 := fun i hi => by
  rw [Tk.needs_at (by omega)]; exact Tk.need_lt hv (by omega)
theorem iIsTaskOrder_any (A : Option Addr) (n c : Nat) (ts : List Tk.T) (B : Nat) (A' : Option Addr) (n' c' : Nat) (zs : List Int) (B' : Nat) (w : World) (hn : Ln.totL (Tk.nss ts) ≤ 1048576) (hn' : n' ≤ 1048576) (h : RdT w B A n ts) (h' : Rd w B' A' n' zs) :
    Calls Try.prog 27 #[.slice A n c, .slice A' n' c'] w (RetB (Tk.isOrder ts zs) w) := by
  have CN := Lib.hid (needsOf_any A n c ts B w hn h)
  have hl := h.len
  have H' := Lib.hid h'
  clear h h'
  unfold Tk.isOrder
  obtain ⟨q, hq⟩ : ∃ q, q = Tk.ordU (Tk.needs ts) zs := ⟨_, rfl⟩
  rw [← hq]
  have HQ := Lib.hid hq
  have HL := Lib.hid hl
  clear hq hl
  go_enter Try.func27, Try.ntmps27
  go_wp2_with fail
  refine CN.out.mono ?_
  rintro e w1 (⟨hv, g, rfl, hg, hbu, hb⟩ | ⟨hv, rfl, hb⟩)
  · have h8 : n ≤ 8 := by rw [← HL.out]; exact Tk.len_of_valid hv
    have CO := Lib.hid (isOrderU_any g n (Tk.needs ts) A' n' c' zs B' w1 (by rw [Tk.needs_len, HL.out]) (by omega) (needs_lt hv HL.out) hn' hbu (H'.out.below hb))
    rw [← HQ.out] at CO
    have HB := Lib.hid hb
    have HV := Lib.hid hv
    clear hb hv hbu hg
    go_wp2_with fail
    refine CO.out.mono ?_
    rintro e w2 ⟨rfl, hb2⟩
    have HB2 := Lib.hid (HB.out.trans (hb2.mono HB.out.size)); clear hb2
    go_wp2
    go_ret
    exact ⟨ret_bool (by rw [HV.out]; simp), HB2.out⟩
  · have HB := Lib.hid hb
    have HV := Lib.hid hv
    clear hb hv
    go_wp2
    go_ret
    exact ⟨ret_bool (by rw [HV.out]; simp), HB.out⟩
end Go.Proofs.Ytfmplneopmbfoaa.Wds
