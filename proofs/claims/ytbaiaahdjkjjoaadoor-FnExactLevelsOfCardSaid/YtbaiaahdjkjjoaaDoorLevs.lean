/-
  LevelsOf: the code's and the model's, one contract each.
-/
import Derived.Test.YtbaiaahdjkjjoaaDoorOuts
import Derived.Test.YtbaiaahdjkjjoaaDoorGraph
namespace Go.Proofs.YtbaiaahdjkjjoaaDoor.Wds
open Go.RowKit
set_option linter.unusedVariables false

/-- The level of one statement. -/
def lev (c : List Sc.St) (k : Nat) : Int := Sc.lvAt c (Sc.levs c k) k k
theorem levs_at (c : List Sc.St) : ∀ j k, k < j → (Sc.levs c j).getD k 0 = lev c k := by
  intro j
  induction j with
  | zero => intro k h; omega
  | succ j ih =>
    intro k h
    rw [Sc.levs, List.getD_eq_getElem?_getD]
    by_cases e : k < j
    · rw [List.getElem?_append_left (by rw [Sc.levs_len]; exact e), ← List.getD_eq_getElem?_getD, ih k e]
    · obtain rfl : k = j := by omega
      rw [List.getElem?_append_right (by rw [Sc.levs_len]; omega), Sc.levs_len, Nat.sub_self]; rfl
theorem lvAt_bd (c : List Sc.St) (ls : List Int) (j : Nat) (h : ∀ i, i < j → 0 ≤ ls.getD i 0 ∧ ls.getD i 0 ≤ i) : ∀ n, n ≤ j → 0 ≤ Sc.lvAt c ls j n ∧ Sc.lvAt c ls j n ≤ n := by
  intro n
  induction n with
  | zero => intro _; simp [Sc.lvAt]
  | succ n ih =>
    intro hn
    have h1 := ih (by omega)
    have h2 := h n (by omega)
    rw [Sc.lvAt_succ]
    split <;> omega
theorem lev_bd (c : List Sc.St) : ∀ k, 0 ≤ lev c k ∧ lev c k ≤ k := by
  intro k
  induction k using Nat.strongRecOn with
  | _ k ih =>
    exact lvAt_bd c (Sc.levs c k) k (fun i hi => by rw [levs_at c k i hi]; exact ih i hi) k (Nat.le_refl _)
theorem levs_map (c : List Sc.St) (n : Nat) : Sc.levs c n = (List.range n).map (lev c) := by
  refine List.ext_getElem (by simp [Sc.levs_len]) fun j h1 h2 => ?_
  have h3 := levs_at c n j (by rw [Sc.levs_len] at h1; exact h1)
  rw [List.getD_eq_getElem?_getD, List.getElem?_eq_getElem h1] at h3
  simpa using h3
/-- The levels as they grow: those below k are done, that of k is v so far. -/
def lvl (c : List Sc.St) (n k : Nat) (v : Int) : List Int := (List.range n).map fun j => if j < k then lev c j else if j = k then v else 0
theorem lvl_len (c : List Sc.St) (n k : Nat) (v : Int) : (lvl c n k v).length = n := by simp [lvl]
theorem lvl_at {c : List Sc.St} {n k j : Nat} {v : Int} (h : j < n) : (lvl c n k v).getD j 0 = if j < k then lev c j else if j = k then v else 0 := by
  rw [lvl, List.getD_eq_getElem?_getD, List.getElem?_map, List.getElem?_range h]; rfl
theorem lvl_zero (c : List Sc.St) (n : Nat) : lvl c n 0 0 = List.replicate n 0 := by
  refine List.ext_getElem (by simp [lvl]) fun j h1 h2 => ?_
  simp [lvl]
theorem lvl_next (c : List Sc.St) (n k : Nat) : lvl c n k (lev c k) = lvl c n (k + 1) 0 := by
  unfold lvl
  refine List.map_congr_left fun j _ => ?_
  by_cases h1 : j < k
  · rw [if_pos h1, if_pos (by omega)]
  · by_cases h2 : j = k
    · subst h2; rw [if_neg h1, if_pos rfl, if_pos (by omega)]
    · rw [if_neg h1, if_neg h2, if_neg (by omega)]
      split <;> rfl
theorem lvl_set (c : List Sc.St) (n k : Nat) (v u : Int) : (lvl c n k v).set k u = lvl c n k u := by
  refine List.ext_getElem (by simp [lvl]) fun j h1 h2 => ?_
  rw [List.getElem_set]
  by_cases e : k = j
  · subst e; rw [if_pos rfl]; simp [lvl]
  · rw [if_neg e]; simp [lvl, show ¬ j = k from fun h => e h.symm]
theorem lvl_all (c : List Sc.St) (n : Nat) : lvl c n n 0 = Sc.levs c n := by
  rw [levs_map]
  unfold lvl
  refine List.map_congr_left fun j hj => ?_
  rw [if_pos (List.mem_range.1 hj)]
/-- The level of k behind the first q of those that it must follow. -/
def fv (c : List Sc.St) (k q : Nat) : Int := ((Sc.mems (Sc.need c k)).take q).foldl (fun m i => max m ((Sc.levs c k).getD i 0 + 1)) 0
theorem mem_need {c : List Sc.St} {k i : Nat} (h : i ∈ Sc.mems (Sc.need c k)) : i < k := by
  simp only [Sc.mems, List.mem_filter, Sc.need, Sc.tb_setOf] at h
  have := h.2
  simp at this
  exact this.1
theorem fv_succ {c : List Sc.St} {k q : Nat} (h : q < (Sc.mems (Sc.need c k)).length) : fv c k (q + 1) = max (fv c k q) (lev c ((Sc.mems (Sc.need c k)).getD q 0) + 1) ∧ (Sc.mems (Sc.need c k)).getD q 0 < k := by
  have hm : (Sc.mems (Sc.need c k)).getD q 0 = (Sc.mems (Sc.need c k))[q] := by rw [List.getD_eq_getElem?_getD, List.getElem?_eq_getElem h]; rfl
  have hl := mem_need (c := c) (k := k) (i := (Sc.mems (Sc.need c k))[q]) (List.getElem_mem h)
  rw [hm]
  refine ⟨?_, hl⟩
  rw [fv, List.take_succ_eq_append_getElem h, List.foldl_append, ← levs_at c k _ hl]; rfl
theorem fv_all {c : List Sc.St} {k q : Nat} (hk : k ≤ 32) (h : (Sc.mems (Sc.need c k)).length = q) : fv c k q = lev c k := by
  rw [fv, List.take_of_length_le (by omega), lev, Sc.lvAt_mems c _ hk]
theorem fv_bd {c : List Sc.St} {k : Nat} : ∀ q, q ≤ (Sc.mems (Sc.need c k)).length → 0 ≤ fv c k q ∧ fv c k q ≤ k := by
  intro q
  induction q with
  | zero => intro _; simp [fv]
  | succ q ih =>
    intro h
    have h1 := ih (by omega)
    obtain ⟨h2, h3⟩ := fv_succ (c := c) (k := k) (q := q) (by omega)
    have h4 := lev_bd c ((Sc.mems (Sc.need c k)).getD q 0)
    rw [h2]; omega
theorem memsI_getD {s q : Nat} (h : q < (Sc.mems s).length) : (Sc.memsI s).getD q 0 = ((Sc.mems s).getD q 0 : Nat) := by
  rw [Sc.memsI, List.getD_eq_getElem?_getD, List.getElem?_map, List.getD_eq_getElem?_getD, List.getElem?_eq_getElem h]; rfl
def levels2 (ss : List Sc.St) : List Int × Bool := if Sc.valid ss then (Sc.levels ss, true) else ([], false)
set_option maxRecDepth 100000 in
set_option maxHeartbeats 2000000 in
theorem iLevelsOf_any (A : Option Addr) (n c : Nat) (ss : List Sc.St) (B : Nat) (w : World) (hn : n ≤ 1048576) (hc : n ≤ c) (h : RdS w B A n ss) (hT : TabT w) :
    Calls Tryd.prog 9 #[.slice A n c] w (Ret1 (levels2 ss).1 (levels2 ss).2 w) := by
  obtain ⟨i0, hi, hz0, hz1, hz2⟩ := info_parts A_info64
  have CV := Lib.hid (iValidCode_any A n c ss B w hn h)
  have hl := h.len
  have H := Lib.hid h
  have HT := Lib.hid hT
  clear h hT
  unfold levels2
  obtain ⟨v, hv⟩ : ∃ v, v = Sc.valid ss := ⟨_, rfl⟩
  rw [← hv] at CV ⊢
  cases v
  · rw [if_neg (by simp)]
    clear hv hl
    go_enter Tryd.func9, Tryd.ntmps9
    go_wp2_with fail
    refine CV.out.mono ?_
    rintro e w1 ⟨rfl, hb⟩
    have HB := Lib.hid hb; clear hb
    go_wp2
    go_ret2
    exact Ret1.none_ HB.out
  · rw [if_pos rfl]
    have h16 := Sc.len_of_valid hv.symm
    rw [hl] at h16
    have HV := Lib.hid hv.symm
    have HL := Lib.hid hl
    clear hv hl
    go_enter Tryd.func9, Tryd.ntmps9
    go_wp2_with fail
    refine CV.out.mono ?_
    rintro e w1 ⟨rfl, hb⟩
    have HB1 := Lib.hid hb; clear hb
    go_wp2_with (refine wpList_make_blk _ rfl _ _ _ rfl i0 Tryd.underlying24 hi hz0 hz1 hz2 _ _ _ _ n rfl rfl rfl rfl (by omega) ?_)
    have hb1a := Lib.hid (HB1.out.alloc HB1.out.size (.cells (Array.replicate n (Value.int .i64 0)) 2))
    refine (graphOf_any A n c ss B _ (H.out.below hb1a.out) HV.out hc).mono ?_
    rintro e w2 ⟨gg, rfl, hgg, hbu, hb⟩
    have HLV := Lib.hid (show Blk w2 w1.heap.size (clls (lvl ss n 0 0)) from by rw [lvl_zero, ← clls_zero]; exact (Blk.new w1 _).keep hb)
    have HB2 := Lib.hid (hb1a.out.trans (hb.mono hb1a.out.size))
    have HU := Lib.hid hbu
    have hgne : w1.heap.size < gg := by have : (w1.alloc (.cells (Array.replicate n (Value.int .i64 0)) 2)).heap.size = w1.heap.size + 1 := by simp
                                        omega
    clear hbu hb hgg
    go_wp2
    go_loopw [18] (fun i wr => ∃ k : Nat, k ≤ n ∧ i = .int .i64 k ∧ Blk wr w1.heap.size (clls (lvl ss n k 0)) ∧ BlkU wr gg (cllU (graph ss n)) ∧ Below w.heap.size w wr) (fun i _ => n - (intOf i).toNat)
    case atStart => exact ⟨0, Nat.zero_le _, rfl, HLV.out, HU.out, HB2.out⟩
    case round =>
      rename World => wo
      obtain ⟨k, hk, rfl, hblk, hbu, hb⟩ := hrel
      by_cases hlt : k < n
      · have n0 : wo.cell? ⟨gg, k, none⟩ = some (.int .u32 ((Sc.need ss k : Nat) : Int)) := by
          rw [hbu.cell, cllU_get (by rw [graph_len]; exact hlt), graph_at hlt]
        have hnl : Sc.need ss k < 4294967296 := Sc.setOf_lt32 _ (by omega)
        have CM := Lib.hid (members_any (Sc.need ss k) wo hnl (HT.out.below hb HT.out.lt))
        obtain ⟨s, hs⟩ : ∃ s, s = Sc.need ss k := ⟨_, rfl⟩
        rw [← hs] at n0 CM
        have HS := Lib.hid hs
        have HBL := Lib.hid hblk
        have HBU := Lib.hid hbu
        have HB := Lib.hid hb
        have i1 : (0 : Int) ≤ (k : Int) := by omega
        have i2 : (k : Int) < (n : Int) := by omega
        clear hs hblk hbu hb hnl
        go_wp2_with fail
        refine CM.out.mono ?_
        rintro e w3 ⟨Am, m, cm, rfl, ho, hm, hmc, hb3⟩
        have HO := Lib.hid ho.rd
        have hml : (Sc.mems (Sc.need ss k)).length = m := by have := ho.len; rw [Sc.memsI, List.length_map, HS.out] at this; exact this
        have HML := Lib.hid hml
        have HBL3 := Lib.hid (show Blk w3 w1.heap.size (clls (lvl ss n k (fv ss k 0))) from by rw [show fv ss k 0 = 0 by simp [fv]]; exact HBL.out.keep hb3)
        have HBU3 := Lib.hid (HBU.out.keep hb3)
        have HB3 := Lib.hid (HB.out.trans (hb3.mono HB.out.size))
        have HG := Lib.hid (show w1.heap.size < wo.heap.size from HBL.out.lt)
        have HG2 := Lib.hid (show gg < wo.heap.size from HBU.out.lt)
        obtain ⟨Bm, hbm⟩ : ∃ b, Own w3 wo.heap.size b Am m (Sc.memsI s) := ⟨_, ho⟩
        have HM3 := Lib.hid hbm
        clear ho hb3 hml hbm
        go_wp2
        go_loopw [26] (fun i wr => ∃ q : Nat, q ≤ m ∧ i = .int .i64 q ∧ Blk wr w1.heap.size (clls (lvl ss n k (fv ss k q))) ∧ BlkU wr gg (cllU (graph ss n)) ∧ Own wr wo.heap.size Bm Am m (Sc.memsI s) ∧ Below w.heap.size w wr) (fun i _ => m - (intOf i).toNat)
        case atStart => exact ⟨0, Nat.zero_le _, rfl, HBL3.out, HBU3.out, HM3.out, HB3.out⟩
        case round =>
          rename World => wi
          obtain ⟨q, hq, rfl, hblk, hbu, hom, hb⟩ := hrel
          by_cases hlq : q < m
          · obtain ⟨gm, om, rfl, hgm, hc1⟩ := hom.rd.at_ hlq
            rw [memsI_getD (by rw [HS.out, HML.out]; exact hlq)] at hc1
            obtain ⟨hfs, hik⟩ := fv_succ (c := ss) (k := k) (q := q) (by rw [HML.out]; exact hlq)
            rw [HS.out] at hc1
            obtain ⟨i, hi⟩ : ∃ i, i = (Sc.mems (Sc.need ss k)).getD q 0 := ⟨_, rfl⟩
            rw [← hi] at hc1 hfs hik
            have hlb := lev_bd ss i
            have hfb := fv_bd (c := ss) (k := k) q (by rw [HML.out]; exact hq)
            have v0 := (hblk.cell k).trans (clls_get (by rw [lvl_len]; exact hlt))
            rw [lvl_at hlt, if_neg (by omega), if_pos rfl] at v0
            have v1 := (hblk.cell i).trans (clls_get (by rw [lvl_len]; omega))
            rw [lvl_at (by omega), if_pos hik] at v1
            have f0 := hblk.frozen k
            obtain ⟨a, ha⟩ : ∃ a, a = fv ss k q := ⟨_, rfl⟩
            obtain ⟨b, hbb⟩ : ∃ b, b = lev ss i := ⟨_, rfl⟩
            rw [← ha] at hfs hfb v0
            rw [← hbb] at hfs hlb v1
            obtain ⟨r, hr⟩ : ∃ r, r = max a (b + 1) := ⟨_, rfl⟩
            rw [← hr] at hfs
            have HF := Lib.hid hfs
            have HNB := Lib.hid (show Blk (wi.setCell ⟨w1.heap.size, k, none⟩ (.int .i64 r)) w1.heap.size (clls (lvl ss n k (fv ss k (q + 1)))) from by
              have := hblk.set_ k (.int .i64 r)
              rw [clls_set, lvl_set] at this
              rw [hfs]; exact this)
            have HNU := Lib.hid (hbu.far (p := ⟨w1.heap.size, k, none⟩) (show gg ≠ w1.heap.size by omega) (.int .i64 r))
            have HNM := Lib.hid (hom.ch ((Ch.refl w1.heap.size (w1.heap.size + 1) wi).set_ (p := ⟨w1.heap.size, k, none⟩) (Nat.le_refl _) (Nat.lt_succ_self _) (.int .i64 r)) (.inr (by have := HG.out; omega)))
            have HNW := Lib.hid (hb.setCell (p := ⟨w1.heap.size, k, none⟩) (by have := HB1.out.size; exact this) (.int .i64 r))
            have j1 : (0 : Int) ≤ (i : Int) := by omega
            have j2 : (i : Int) < (n : Int) := by omega
            have j3 : (q : Int) < (m : Int) := by omega
            have HR := Lib.hid hr
            clear hfs hblk hbu hom hb hi ha hbb hr
            go_wp2
            go_region
            all_goals go_wp2
            go_roundw
            case rel =>
              have e : (if a < b + 1 then b + 1 else a) = r := by rw [HR.out]; split <;> omega
              rw [e]
              exact ⟨q + 1, by omega, by go_num, HNB.out.drew, HNU.out, HNM.out.below ((Below.refl _ _).drew), HNW.out.drew⟩
            case measure => simp [intOf]; omega
          · have hqm : q = m := by omega
            have hblk2 : Blk wi w1.heap.size (clls (lvl ss n (k + 1) 0)) := by
              rw [← lvl_next, ← fv_all (c := ss) (k := k) (q := q) (by omega) (by rw [HML.out, hqm])]; exact hblk
            have HNB := Lib.hid hblk2
            have HNU := Lib.hid hbu
            have HNW := Lib.hid hb
            have j3 : ¬ (q : Int) < (m : Int) := by omega
            clear hblk hblk2 hbu hom hb
            go_wp2
            go_roundw
            case rel => exact ⟨k + 1, by omega, by go_num, HNB.out, HNU.out, HNW.out⟩
            case measure => simp [intOf]; omega
      · have hkn : k = n := by omega
        subst hkn
        rw [lvl_all] at hblk
        have hlvs : Sc.levels ss = Sc.levs ss k := by rw [Sc.levels, HL.out]
        have HLS := Lib.hid hlvs
        have HNB := Lib.hid hblk
        have HNW := Lib.hid hb
        clear hblk hbu hb hlvs
        go_wp2
        go_ret2
        rw [HLS.out]
        exact Ret1.of_blk HNB.out (Sc.levs_len ss k) HB1.out.size hn HNW.out
theorem row_below {w w' : World} {B : Nat} {e : TypeId} {s : Nat} {v : Value} {n : Nat} {xs : List Value} (h : w.ownsRow B e s v n xs) (hb : Below w.heap.size w w') : w'.ownsRow B e s v n xs := by
  refine ⟨h.1, ?_⟩
  rcases h.2 with h0 | ⟨g, cap, cur, hv, hg, hh, h4⟩
  · exact .inl h0
  · exact .inr ⟨g, cap, cur, hv, hg, (hb.block g (lt_of_block hh)).trans hh, h4⟩
theorem sMax_any (a b : Int) (w : World) : Calls Tryd.prog 33 #[.int .i64 a, .int .i64 b] w fun e w' => e = .returned (.int .i64 (max a b)) ∧ w = w' := by
  by_cases h : b < a
  · have d : decide (b < a) = true := decide_eq_true h
    go_enter Tryd.func33, Tryd.ntmps33
    go_wp2
    go_ret
    exact ⟨ret_int (by omega), rfl⟩
  · have d : decide (b < a) = false := decide_eq_false h
    go_enter Tryd.func33, Tryd.ntmps33
    go_wp2
    go_ret
    exact ⟨ret_int (by omega), rfl⟩
set_option maxRecDepth 100000 in
set_option maxHeartbeats 2000000 in
theorem sLevs3_any (A : Option Addr) (n c : Nat) (ss : List Sc.St) (B : Nat) (w : World) (h : RdS w B A n ss) (hn : n ≤ 16) :
    Calls Tryd.prog 20 #[.slice A n c] w (RetL (Sc.levels ss) w) := by
  obtain ⟨i0, hi, hz0, hz1, hz2⟩ := info_parts A_info64
  have HL := Lib.hid h.len
  have H := Lib.hid h
  clear h
  go_enter Tryd.func20, Tryd.ntmps20
  go_wp2
  go_loopw [3, 4] (fun v i wr => ∃ k : Nat, k ≤ n ∧ i = .int .i64 k ∧ wr.ownsRow w.heap.size 2 1 v k ((Sc.levs ss k).map (Value.int .i64)) ∧ Below w.heap.size w wr) (fun _ i _ => n - (intOf i).toNat)
  case atStart => exact ⟨0, Nat.zero_le _, rfl, World.ownsRow_made w #[] 0 (Nat.le_refl _) (by decide) rfl, (Below.refl _ _).alloc (Nat.le_refl _) _⟩
  case round =>
    rename World => wo
    obtain ⟨k, hk, rfl, hown, hb⟩ := hrel
    obtain ⟨Av, cv, rfl, hcv, hoo⟩ := own_form hown
    by_cases hlt : k < n
    · have i1 : (0 : Int) ≤ (k : Int) := by omega
      have i2 : (k : Int) < (n : Int) := by omega
      have HOWN := Lib.hid hown
      have HB := Lib.hid hb
      clear hown hb hoo
      go_wp2
      go_loopw [5, 6] (fun l i wr => ∃ x : Nat, x ≤ k ∧ i = .int .i64 x ∧ l = .int .i64 (Sc.lvAt ss (Sc.levs ss k) k x) ∧ wr.ownsRow w.heap.size 2 1 (.slice Av k cv) k ((Sc.levs ss k).map (Value.int .i64)) ∧ Below w.heap.size w wr) (fun _ i _ => k - (intOf i).toNat)
      case atStart => exact ⟨0, Nat.zero_le _, rfl, rfl, HOWN.out, HB.out⟩
      case round =>
        rename World => wi
        obtain ⟨x, hx, rfl, rfl, hown, hb⟩ := hrel
        obtain ⟨A2, c2, e2, hcv2, hoo⟩ := own_form hown
        injection e2 with e2 _ e3; subst e2; subst e3
        have hbd := lvAt_bd ss (Sc.levs ss k) k (fun i hi => by rw [levs_at ss k i hi]; exact lev_bd ss i) x hx
        by_cases hlx : x < k
        · obtain ⟨g, o, rfl, hg, hqx⟩ := (H.out.below hb).at_ (k := x) (by omega)
          obtain ⟨g2, o2, e', hg2, hqy⟩ := (H.out.below hb).at_ (k := k) (by omega)
          injection e' with e'; injection e' with e1 e2; subst e1; subst e2
          obtain ⟨gv, ov, rfl, hgv, hcv1⟩ := hoo.rd.at_ hlx
          rw [levs_at ss k x hlx] at hcv1
          have hlb := lev_bd ss x
          have hsucc := Sc.lvAt_succ ss (Sc.levs ss k) k x
          rw [levs_at ss k x hlx] at hsucc
          obtain ⟨t, ht⟩ : ∃ t, t = lev ss x := ⟨_, rfl⟩
          rw [← ht] at hcv1 hlb hsucc
          obtain ⟨l, hl⟩ : ∃ l, l = Sc.lvAt ss (Sc.levs ss k) k x := ⟨_, rfl⟩
          rw [← hl] at hbd hsucc ⊢
          obtain ⟨q, hq⟩ : ∃ q, q = Sc.nth ss x := ⟨_, rfl⟩
          obtain ⟨u, hu⟩ : ∃ q, q = Sc.nth ss k := ⟨_, rfl⟩
          rw [← hq] at hqx hsucc
          rw [← hu] at hqy hsucc
          obtain ⟨p, d, a, b⟩ := q
          obtain ⟨p', d', a', b'⟩ := u
          obtain ⟨m, hm⟩ : ∃ z, z = Sc.must ⟨p, d, a, b⟩ ⟨p', d', a', b'⟩ := ⟨_, rfl⟩
          rw [← hm] at hsucc
          have CM := Lib.hid (fun (z : BelowBy wi) => calls_below (p := z) (sMust_any g (o + x * 4) g (o + k * 4) p d a b p' d' a' b' z.W
            (hqx.cells fun i hs => z.h.cell hs) (hqy.cells fun i hs => z.h.cell hs)))
          rw [← hm] at CM
          have HSU := Lib.hid hsucc
          have HOW := Lib.hid hown
          have HBI := Lib.hid hb
          have HCV := Lib.hid hcv1
          have HGV := Lib.hid (World.block_lt_of_cell? wi _ hcv1)
          have j1 : (0 : Int) ≤ (x : Int) := by omega
          have j2 : (x : Int) < (k : Int) := by omega
          have j3 : (x : Int) < (n : Int) := by omega
          clear hsucc hown hb hoo hqx hqy hq hu hm ht hl hcv1
          go_wp2
          refine wp_region_quiet_below (by kernel_rfl) (by kernel_rfl) ?_
          repeat (quiet_step (first | (go_at_call 32; exact CM.out _)))
          refine wpQuiet_nil ?_
          rintro w2 ⟨⟨_, hw2⟩, rfl⟩
          have hc2 := (hw2.cell (p := ⟨gv, ov + x, none⟩) HGV.out).trans HCV.out
          have HOW2 := Lib.hid (row_below HOW.out hw2)
          have HB2 := Lib.hid (HBI.out.trans (hw2.mono HBI.out.size))
          clear hw2
          cases m
          · go_wp2
            go_roundw
            case rel => exact ⟨x + 1, by omega, by go_num, by rw [HSU.out]; rfl, HOW2.out, HB2.out⟩
            case measure => simp [intOf]; omega
          · go_wp2_with (go_at_call 33; refine (sMax_any _ _ _).mono ?_; rintro e w3 ⟨rfl, rfl⟩)
            go_roundw
            case rel => exact ⟨x + 1, by omega, by go_num, by rw [HSU.out]; rfl, HOW2.out, HB2.out⟩
            case measure => simp [intOf]; omega
        · have hxk : x = k := by omega
          subst hxk
          have hs2 : Sc.levs ss x ++ [Sc.lvAt ss (Sc.levs ss x) x x] = Sc.levs ss (x + 1) := rfl
          have HS2 := Lib.hid hs2
          obtain ⟨l, hl⟩ : ∃ l, l = Sc.lvAt ss (Sc.levs ss x) x x := ⟨_, rfl⟩
          rw [← hl] at HS2 hbd ⊢
          have HB2 := Lib.hid hb
          have hsz := hb.size
          clear hs2 hl hb hoo
          go_wp2_with (at_builtin; refine wpList_push _ rfl _ _ rfl i0 Tryd.underlying24 hi hz0 hz1 hz2 _ _ _ _ _ rfl hown rfl (by omega) hsz ?_; intro v1 w3 hown1 hb1)
          rw [HS2.out] at hown1
          have HO1 := Lib.hid hown1
          have HB3 := Lib.hid (HB2.out.trans hb1)
          clear hown1 hb1
          go_wp2
          go_roundw
          case rel => exact ⟨x + 1, by omega, by go_num, HO1.out, HB3.out⟩
          case measure => simp [intOf]; omega
    · have hkn : k = n := by omega
      subst hkn
      have hlvs : Sc.levels ss = Sc.levs ss k := by rw [Sc.levels, HL.out]
      have HLS := Lib.hid hlvs
      have HO := Lib.hid hoo
      have HB2 := Lib.hid hb
      clear hown hb hoo hlvs
      go_wp2
      go_ret
      rw [HLS.out]
      exact ⟨Av, k, cv, rfl, HO.out, by omega, hcv, HB2.out⟩
theorem sLevelsOf_any (A : Option Addr) (n c : Nat) (ss : List Sc.St) (B : Nat) (w : World) (hn : n ≤ 1048576) (hc : n ≤ c) (h : RdS w B A n ss) :
    Calls Tryd.prog 7 #[.slice A n c] w (Ret1 (levels2 ss).1 (levels2 ss).2 w) := by
  have CV := Lib.hid (sIs3_any A n c ss B w hn h)
  have CO := Lib.hid (fun (W : World) (hb : Below w.heap.size w W) (hv : Sc.valid ss = true) => sLevs3_any A n c ss B W (h.below hb) (by have := Sc.len_of_valid hv; rw [h.len] at this; exact this))
  clear h
  unfold levels2
  obtain ⟨v, hv⟩ : ∃ v, v = Sc.valid ss := ⟨_, rfl⟩
  rw [← hv] at CV ⊢
  have HV := Lib.hid hv
  clear hv
  cases v
  · rw [if_neg (by simp)]
    go_enter Tryd.func7, Tryd.ntmps7
    go_wp2_with fail
    refine CV.out.mono ?_
    rintro e w1 ⟨rfl, hb⟩
    have HB := Lib.hid hb; clear hb
    go_wp2
    go_ret2
    exact Ret1.none_ HB.out
  · rw [if_pos rfl]
    go_enter Tryd.func7, Tryd.ntmps7
    go_wp2_with fail
    refine CV.out.mono ?_
    rintro e w1 ⟨rfl, hb⟩
    have HB := Lib.hid hb; clear hb
    go_wp2_with fail
    refine (CO.out _ HB.out HV.out.symm).mono ?_
    rintro e w2 ⟨Am, m, cm, rfl, ho, hm, hmc, hb2⟩
    have HO := Lib.hid ho
    have HB2 := Lib.hid hb2; clear ho hb2
    go_wp2
    go_ret2
    exact ⟨Am, m, cm, rfl, HO.out.more HB.out.size (Nat.le_refl _), hm, HB.out.trans (HB2.out.mono HB.out.size)⟩
end Go.Proofs.YtbaiaahdjkjjoaaDoor.Wds
