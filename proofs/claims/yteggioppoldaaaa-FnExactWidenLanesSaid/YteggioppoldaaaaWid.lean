/-
  Wider words: the code's and the model's function; one contract each.
-/
import Derived.Test.YteggioppoldaaaaWea
namespace Go.Proofs.Yteggioppoldaaaa.Wds
open Go.RowKit
set_option linter.unusedVariables false

theorem bits2 {b : Int} (hb : Wd.IsBits b) (h16 : b ≠ 16) : Wd.IsBits (2 * b) := by
  unfold Wd.IsBits at hb ⊢; omega
set_option maxHeartbeats 800000 in
theorem sWidL_any (b : Int) (s : Bool) (A : Option Addr) (n c : Nat) (zs : List Int) (B : Nat) (w0 w : World) (hn : n ≤ 1048576) (hb2 : Wd.IsBits (2 * b)) (hw : ∀ k, k < n → Wd.IsWord b (zs.getD k 0)) (h : Rd w0 B A n zs) (hbw : Below w0.heap.size w0 w) :
    Calls Try.prog 31 #[.int .i64 b, .slice A n c, .bool s] w (CopyAt (Ln.tab (fun i => Ln.wide b s (zs.getD i 0)) n) w0 w) := by
  obtain ⟨i0, hi, hz0, hz1, hz2⟩ := info_parts A_info64
  have H := Lib.hid (h.below hbw)
  have HBW := Lib.hid hbw
  have HW := Lib.hid hw
  have HB2 := Lib.hid hb2
  have hbd : 2 * b ≤ 16 ∧ 4 ≤ 2 * b := by unfold Wd.IsBits at hb2; omega
  obtain ⟨q1, q2⟩ := hbd
  clear h hbw hw hb2
  go_enter Try.func31, Try.ntmps31
  go_wp2
  go_loopw [7, 8] (fun v i wr => Pushes (fun i => Ln.wide b s (zs.getD i 0)) n w v i wr) (fun _ i _ => n - (intOf i).toNat)
  case atStart => exact Pushes.start _ _ _
  case round =>
    obtain ⟨k, hk, rfl, hown, hb⟩ := hrel
    have HO := Lib.hid hown
    have HB := Lib.hid hb; clear hown hb
    by_cases hlt : k < n
    · obtain ⟨g, o, rfl, hg, hc⟩ := H.out.at_ hlt
      have hd := (HB.out.cell (p := ⟨g, o + k, none⟩) (World.block_lt_of_cell? w _ hc)).trans hc
      have HWK := Lib.hid (HW.out k hlt)
      obtain ⟨x, hx⟩ : ∃ z, z = zs.getD k 0 := ⟨_, rfl⟩
      rw [← hx] at hd HWK
      have HX := Lib.hid hx
      clear hx hc
      cases s
      · go_wp2_with (at_builtin; refine wpList_push _ rfl _ _ rfl i0 Try.underlying25 hi hz0 hz1 hz2 _ _ _ _ _ rfl HO.out rfl (by omega) HB.out.size ?_; intro v' w1 hown1 hb1; have HO1 := Lib.hid hown1; have HB1 := Lib.hid hb1; clear hown1 hb1)
        go_roundw
        case rel => exact Pushes.step hlt HB.out _ (by rw [HX.out]; rfl) HO1.out HB1.out
        case measure => simp [intOf]; omega
      · go_wp2_with fail
        refine (ssigned_any _ _ _ HWK.out).mono ?_
        rintro e w1 ⟨rfl, rfl⟩
        go_wp2_with fail
        refine (swrap_any _ _ _ HB2.out).mono ?_
        rintro e w1 ⟨rfl, rfl⟩
        go_wp2_with (at_builtin; refine wpList_push _ rfl _ _ rfl i0 Try.underlying25 hi hz0 hz1 hz2 _ _ _ _ _ rfl HO.out rfl (by omega) HB.out.size ?_; intro v' w1 hown1 hb1; have HO1 := Lib.hid hown1; have HB1 := Lib.hid hb1; clear hown1 hb1)
        go_roundw
        case rel => exact Pushes.step hlt HB.out _ (by rw [HX.out]; rfl) HO1.out HB1.out
        case measure => simp [intOf]; omega
    · have hkn : k = n := by omega
      have HK := Lib.hid hkn; clear hkn
      go_wp2
      go_ret
      have := HK.out
      subst this
      obtain ⟨A', c', rfl, _, ho⟩ := own_form HO.out
      exact ⟨A', k, c', rfl, ho, hn, HB.out, HBW.out.trans (HB.out.mono HBW.out.size)⟩
set_option maxHeartbeats 1000000 in
theorem sWid_yes (b : Int) (s : Bool) (A : Option Addr) (n m c : Nat) (zs : List Int) (B : Nat) (w : World) (hn : n ≤ 1048576) (hc : n ≤ c) (hm : n = 2 * m) (hm2 : 2 ≤ m) (h16 : b ≠ 16) (h : Rd w B A n zs) (hv : Ln.vec b zs = true) :
    Calls Try.prog 20 #[.int .i64 b, .slice A n c, .bool s] w (Ret2 (Ln.tab (fun i => Ln.wide b s (zs.getD i 0)) m) (Ln.tab (fun i => Ln.wide b s (zs.getD (m + i) 0)) m) true w) := by
  have k1 := sIs_any b A n c zs B w hn h
  rw [hv] at k1
  have hb2 := bits2 (Ln.vec_bits hv) h16
  have hl := h.len
  have hb16 : (b == 16) = false := by rw [beq_eq_false_iff_ne]; exact h16
  obtain ⟨g, o, rfl, _, _⟩ := h.at_ (k := 0) (by omega)
  have ra := h.cut 0 m (by omega)
  have rb := h.cut m m (by omega)
  rw [List.drop_zero, Nat.add_zero] at ra
  rw [List.take_of_length_le (by simp; omega)] at rb
  have wa : ∀ k, k < m → Wd.IsWord b ((zs.take m).getD k 0) := fun k hk => by
    have := Ln.vec_word hv (k := k) (by omega)
    rw [List.getD_eq_getElem?_getD, List.getElem?_take_of_lt hk, ← List.getD_eq_getElem?_getD]
    exact this
  have wb : ∀ k, k < m → Wd.IsWord b ((zs.drop m).getD k 0) := fun k hk => by
    have := Ln.vec_word hv (k := m + k) (by omega)
    rw [List.getD_eq_getElem?_getD, List.getElem?_drop, ← List.getD_eq_getElem?_getD]
    exact this
  have ea : Ln.tab (fun i => Ln.wide b s ((zs.take m).getD i 0)) m = Ln.tab (fun i => Ln.wide b s (zs.getD i 0)) m := Ln.tab_congr fun i hi => by
    rw [List.getD_eq_getElem?_getD, List.getElem?_take_of_lt hi, ← List.getD_eq_getElem?_getD]
  have eb : Ln.tab (fun i => Ln.wide b s ((zs.drop m).getD i 0)) m = Ln.tab (fun i => Ln.wide b s (zs.getD (m + i) 0)) m := Ln.tab_congr fun i hi => by
    rw [List.getD_eq_getElem?_getD, List.getElem?_drop, ← List.getD_eq_getElem?_getD]
  have ca := fun (w1 : World) (hw1 : Below w.heap.size w w1) (W : World) hb => sWidL_any b s _ m c _ B w1 W (by omega) hb2 wa (ra.below hw1) hb
  have cb := fun (w1 : World) (hw1 : Below w.heap.size w w1) (W : World) hb => sWidL_any b s _ m (c - m) _ B w1 W (by omega) hb2 wb (rb.below hw1) hb
  rw [ea] at ca
  rw [eb] at cb
  have C1 := Lib.hid k1
  have CA := Lib.hid ca
  have CB := Lib.hid cb
  have q1 : ((n : Int)) / 2 = (m : Int) := by omega
  have q2 : (4 : Int) ≤ (n : Int) := by omega
  have q3 : (m : Int) ≤ (c : Int) := by omega
  have q4 : (m : Int) ≤ (n : Int) := by omega
  have q5 : m < c := by omega
  have q6 : (n : Int) ≤ (c : Int) := by omega
  have HNM := Lib.hid (show n - m = m by omega)
  have hm0 : 0 < m := by omega
  clear k1 ca cb ra rb wa wb ea eb h hv hl hb2 h16 hm hm2
  go_enter Try.func20, Try.ntmps20
  go_wp2_with fail
  refine C1.out.mono ?_
  rintro e w1 ⟨rfl, hb⟩
  have HB1 := Lib.hid hb; clear hb
  have HCa := Lib.hid (CA.out _ HB1.out)
  have HCb := Lib.hid (CB.out _ HB1.out)
  have HS0 := Lib.hid (Below.refl w1.heap.size w1)
  have hnm := HNM.out
  go_wp2
  go_region_with (first
    | (go_at_call 31; (with_reducible refine (HCa.out _ ?_).mono ?_); (first | exact HS0.out.drew | exact hbb.out.drew | exact hbb.out); rintro e wa ⟨Aa, na, ca, rfl, hoa, hna, hla, hba⟩; have hoa := Lib.hid hoa; have hla := Lib.hid hla; have hba := Lib.hid hba)
    | (go_at_call 31; (with_reducible refine (HCb.out _ ?_).mono ?_); (first | exact HS0.out.drew | exact hba.out.drew | exact hba.out); rintro e wb ⟨Ab, nb, cb, rfl, hob, hnb, hlb, hbb⟩; have hob := Lib.hid hob; have hlb := Lib.hid hlb; have hbb := Lib.hid hbb))
  all_goals go_wp2
  all_goals go_ret3
  all_goals
    have pa : 0 < na := by have := hoa.out.len; rw [Ln.tab_len] at this; omega
    have pb : 0 < nb := by have := hob.out.len; rw [Ln.tab_len] at this; omega
    first
      | exact Ret2.mk_ (hoa.out.below hlb.out) hob.out (.inl (Nat.le_refl _)) HB1.out.size (Nat.le_trans HB1.out.size hla.out.size) hlb.out.size (Nat.le_refl _) hna hnb pa pb (HB1.out.trans (hbb.out.mono HB1.out.size))
      | exact Ret2.mk_ hoa.out (hob.out.below hla.out) (.inr (Nat.le_refl _)) (Nat.le_trans HB1.out.size hlb.out.size) HB1.out.size (Nat.le_refl _) hla.out.size hna hnb pa pb (HB1.out.trans (hba.out.mono HB1.out.size))
theorem widen_half {b : Int} {zs : List Int} (h : Ln.canWiden b zs = true) : Ln.vec b zs = true ∧ b ≠ 16 ∧ ∃ m, zs.length = 2 * m ∧ 2 ≤ m ∧ zs.length / 2 = m := by
  unfold Ln.canWiden at h
  simp only [Bool.and_eq_true, Bool.not_eq_true', beq_eq_false_iff_ne, decide_eq_false_iff_not] at h
  obtain ⟨hv, h16, h4⟩ := h
  have := Ln.vec_len hv
  exact ⟨hv, h16, zs.length / 2, by omega, by omega, rfl⟩
theorem sWidenLanes_any (b : Int) (A : Option Addr) (n c : Nat) (zs : List Int) (B : Nat) (s : Bool) (w : World) (hn : n ≤ 1048576) (hc : n ≤ c) (h : Rd w B A n zs) :
    Calls Try.prog 20 #[.int .i64 b, .slice A n c, .bool s] w (Ret2 (Ln.widen b zs s).1 (Ln.widen b zs s).2.1 (Ln.widen b zs s).2.2 w) := by
  unfold Ln.widen
  have hl := h.len
  by_cases hw : Ln.canWiden b zs = true
  · obtain ⟨hv, h16, m, h2, hm2, hh⟩ := widen_half hw
    rw [hw, hh]
    exact sWid_yes b s A n m c zs B w hn hc (by omega) hm2 h16 h hv
  · have hw' : Ln.canWiden b zs = false := by simpa using hw
    rw [hw']
    have k1 := sIs_any b A n c zs B w hn h
    by_cases hv : Ln.vec b zs = true
    · rw [hv] at k1
      have hcase : b = 16 ∨ (b ≠ 16 ∧ (n : Int) < 4) := by
        by_cases h16 : b = 16
        · exact .inl h16
        · right
          refine ⟨h16, ?_⟩
          unfold Ln.canWiden at hw
          simp [hv, h16] at hw
          omega
      have C1 := Lib.hid k1
      clear k1 h hw hw' hv hl
      rcases hcase with h16 | ⟨h16, h4⟩
      · subst h16
        go_enter Try.func20, Try.ntmps20
        go_wp2_with fail
        refine C1.out.mono ?_
        rintro e w1 ⟨rfl, hb⟩
        have HB := Lib.hid hb; clear hb
        go_wp2_with fail
        go_ret3
        exact Ret2.no HB.out
      · have e16 : (b == 16) = false := by rw [beq_eq_false_iff_ne]; exact h16
        clear h16
        go_enter Try.func20, Try.ntmps20
        go_wp2_with fail
        refine C1.out.mono ?_
        rintro e w1 ⟨rfl, hb⟩
        have HB := Lib.hid hb; clear hb
        go_wp2_with fail
        go_ret3
        exact Ret2.no HB.out
    · have hv' : Ln.vec b zs = false := by simpa using hv
      rw [hv'] at k1
      have C1 := Lib.hid k1
      clear k1 h hw hw' hv hv' hl
      go_enter Try.func20, Try.ntmps20
      go_wp2_with fail
      refine C1.out.mono ?_
      rintro e w1 ⟨rfl, hb⟩
      have HB := Lib.hid hb; clear hb
      go_wp2_with fail
      go_ret3
      exact Ret2.no HB.out
theorem iext_any (b x : Int) (w : World) (hx : Wd.IsWord b x) (hb2 : Wd.IsBits (2 * b)) : Calls Try.prog 34 #[.int .i64 b, .int .i64 x] w fun e w' => e = .returned (.int .i64 (Ln.wide b true x)) ∧ w = w' := by
  have HX := Lib.hid hx
  have HB := Lib.hid hb2
  have hbd : 2 * b ≤ 16 ∧ 4 ≤ 2 * b := by unfold Wd.IsBits at hb2; omega
  obtain ⟨q1, q2⟩ := hbd
  clear hx hb2
  go_enter Try.func34, Try.ntmps34
  go_wp2_with fail
  refine (signed_any _ _ _ HX.out).mono ?_
  rintro e w1 ⟨rfl, rfl⟩
  go_wp2_with fail
  refine (wrap_any _ _ _ HB.out).mono ?_
  rintro e w1 ⟨rfl, rfl⟩
  go_wp2_with fail
  go_ret
  exact ⟨rfl, rfl⟩
theorem wid_end {w wf w4 : World} {g o n m lo hi : Nat} {zs xs ys : List Int} (ho : Own wf lo hi (some ⟨g, o, none⟩) n zs) (hm : n = 2 * m) (hm1 : m ≤ 1048576) (ea : zs.take m = xs) (eb : zs.drop m = ys) (hlo : w.heap.size ≤ lo) (hhi : hi ≤ wf.heap.size) (hb : Below w.heap.size w wf) (hb4 : Below wf.heap.size wf w4) :
    Ret2 xs ys true w (.returned (.tuple #[.slice (some ⟨g, o, none⟩) m m, .slice (some ⟨g, o + m, none⟩) m m, .bool true])) w4 := by
  have oa := ho.cut 0 m (by omega)
  have ob := ho.cut m m (by omega)
  have hl := ho.len
  rw [List.drop_zero, ea, Nat.add_zero] at oa
  rw [List.take_of_length_le (by simp; omega), eb] at ob
  have s4 := hb4.size
  refine ⟨_, m, m, _, m, m, rfl, (oa.below hb4).more hlo (by omega), (ob.below hb4).more hlo (by omega), ?_, hm1, hm1, hb.trans (hb4.mono hb.size)⟩
  intro g o g' o' e e'
  injection e with e
  injection e with e1 e2
  injection e' with e'
  injection e' with e3 e4
  subst e2; subst e4
  exact .inr (.inl (by omega))
set_option maxHeartbeats 1000000 in
theorem iWid_yes (b : Int) (s : Bool) (A : Option Addr) (n m c : Nat) (zs : List Int) (B : Nat) (w : World) (hn : n ≤ 1048576) (hm : n = 2 * m) (hm2 : 2 ≤ m) (h16 : b ≠ 16) (h : Rd w B A n zs) (hv : Ln.vec b zs = true) :
    Calls Try.prog 21 #[.int .i64 b, .slice A n c, .bool s] w (Ret2 (Ln.tab (fun i => Ln.wide b s (zs.getD i 0)) m) (Ln.tab (fun i => Ln.wide b s (zs.getD (m + i) 0)) m) true w) := by
  have k1 := isVec_any b A n c zs B w hn h
  rw [hv] at k1
  have hb2 := bits2 (Ln.vec_bits hv) h16
  have hl := h.len
  have hb16 : (b == 16) = false := by rw [beq_eq_false_iff_ne]; exact h16
  obtain ⟨g, o, rfl, _, _⟩ := h.at_ (k := 0) (by omega)
  have q2 : (4 : Int) ≤ (n : Int) := by omega
  have C1 := Lib.hid k1
  have H := Lib.hid h
  have HV := Lib.hid hv
  have HB2 := Lib.hid hb2
  have HL := Lib.hid hl
  have HM := Lib.hid (And.intro hm hm2)
  clear k1 h hv hb2 hl h16 hm hm2
  cases s
  · have ea : (zs).take m = Ln.tab (fun i => Ln.wide b false (zs.getD i 0)) m := by
      have := cut_tab zs 0 m (by have := HL.out; have := HM.out.1; omega)
      rw [List.drop_zero] at this
      rw [this]
      exact Ln.tab_congr fun i _ => by rw [Nat.zero_add]; rfl
    have eb : (zs).drop m = Ln.tab (fun i => Ln.wide b false (zs.getD (m + i) 0)) m := by
      have := cut_tab zs m m (by have := HL.out; have := HM.out.1; omega)
      rw [List.take_of_length_le (by simp; have := HL.out; have := HM.out.1; omega)] at this
      rw [this]
      rfl
    have EA := Lib.hid ea
    have EB := Lib.hid eb
    clear ea eb
    go_enter Try.func21, Try.ntmps21
    go_wp2_with fail
    refine C1.out.mono ?_
    rintro e w1 ⟨rfl, hb⟩
    have HB1 := Lib.hid hb; clear hb
    go_wp2_with fail
    refine (clone_any _ _ _ zs B _ hn (H.out.below HB1.out)).mono ?_
    rintro e w3 ⟨A3, n3, c3, rfl, ho, _, hc3, hb⟩
    obtain rfl : n = n3 := HL.out.symm.trans ho.len
    obtain ⟨g3, o3, rfl, _, _⟩ := ho.rd.at_ (k := 0) (by omega)
    have HO3 := Lib.hid (ho.more HB1.out.size (Nat.le_refl _))
    have HB3 := Lib.hid (HB1.out.trans (hb.mono HB1.out.size)); clear ho hb
    go_wp2_with fail
    refine (halves_any g3 o3 n m c3 _ (by have := HM.out.2; omega) HM.out.1 (by have := HM.out.1; omega) hc3).mono ?_
    rintro e w4 ⟨rfl, hb4⟩
    have HB4 := Lib.hid hb4; clear hb4
    go_wp2_with fail
    go_ret3
    exact wid_end HO3.out HM.out.1 (by have := HM.out.1; omega) EA.out EB.out (Nat.le_refl _) (Nat.le_refl _) HB3.out HB4.out
  · have ea : (Ln.tab (fun i => Ln.wide b true (zs.getD i 0)) n).take m = Ln.tab (fun i => Ln.wide b true (zs.getD i 0)) m := Ln.tab_take _ _ _ (by have := HM.out.1; omega)
    have eb : (Ln.tab (fun i => Ln.wide b true (zs.getD i 0)) n).drop m = Ln.tab (fun i => Ln.wide b true (zs.getD (m + i) 0)) m := by
      rw [Ln.tab_drop, show n - m = m by have := HM.out.1; omega]
    have EA := Lib.hid ea
    have EB := Lib.hid eb
    clear ea eb
    go_enter Try.func21, Try.ntmps21
    go_wp2_with fail
    refine C1.out.mono ?_
    rintro e w1 ⟨rfl, hb⟩
    have HB1 := Lib.hid hb; clear hb
    go_wp2_with fail
    refine (clone_any _ _ _ zs B _ hn (H.out.below HB1.out)).mono ?_
    rintro e w3 ⟨A3, n3, c3, rfl, ho, _, hc3, hb⟩
    obtain rfl : n = n3 := HL.out.symm.trans ho.len
    obtain ⟨g3, o3, rfl, _, _⟩ := ho.rd.at_ (k := 0) (by omega)
    have HO3 := Lib.hid (ho.more HB1.out.size (Nat.le_refl _))
    have HB3 := Lib.hid (HB1.out.trans (hb.mono HB1.out.size)); clear ho hb
    have HNC := Lib.hid hc3
    go_wp2_with fail
    go_loopw [32] (fun i wr => ∃ k : Nat, k ≤ n ∧ i = .int .i64 k ∧ Own wr w.heap.size w3.heap.size (some ⟨g3, o3, none⟩) n (Ln.over (fun i => Ln.wide b true (zs.getD i 0)) zs k) ∧ w3.heap.size ≤ wr.heap.size ∧ Below w.heap.size w wr) (fun i _ => n - (intOf i).toNat)
    case atStart => exact ⟨0, Nat.zero_le _, rfl, by rw [Ln.over_zero]; exact HO3.out, Nat.le_refl _, HB3.out⟩
    case round =>
      obtain ⟨k, hk, rfl, hown, hsz, hb⟩ := hrel
      have HO := Lib.hid hown
      have HB := Lib.hid hb; clear hown hb
      by_cases hlt : k < n
      · obtain ⟨g', o', e', _, hc⟩ := H.out.at_ hlt
        injection e' with e'
        injection e' with e1 e2
        subst e1; subst e2
        obtain ⟨hf, hlo, _, v0, hv0⟩ := frozen_of HO.out hlt rfl
        have hd := (HB.out.cell (p := ⟨g, o + k, none⟩) (World.block_lt_of_cell? w _ hc)).trans hc
        have hly : k < zs.length := by rw [HL.out]; exact hlt
        have HWK := Lib.hid (Ln.vec_word HV.out hly)
        obtain ⟨x, hx⟩ : ∃ z, z = zs.getD k 0 := ⟨_, rfl⟩
        rw [← hx] at hd HWK
        obtain ⟨y, hy⟩ : ∃ y, y = Ln.wide b true x := ⟨_, rfl⟩
        have HST := Lib.hid (HO.out.store hlt y)
        have HBS := Lib.hid (HB.out.setCell (p := ⟨g3, o3 + k, none⟩) hlo (.int .i64 y))
        have HS := Lib.hid (Ln.over_set (fun i => Ln.wide b true (zs.getD i 0)) zs k hly)
        have HX := Lib.hid (And.intro hx hy)
        have CE := Lib.hid (show ∀ W, Calls Try.prog 34 #[.int .i64 b, .int .i64 x] W fun e w' => e = .returned (.int .i64 y) ∧ W = w' from fun W => by rw [hy]; exact iext_any b x W HWK.out HB2.out)
        have HSZ := Lib.hid hsz
        clear hx hy hc hly hsz
        go_wp2_with fail
        refine (CE.out _).mono ?_
        rintro e w5 ⟨rfl, rfl⟩
        go_wp2_with fail
        go_roundw
        case rel =>
          refine ⟨k + 1, by omega, by go_num, ?_, by simpa [World.setCell] using HSZ.out, HBS.out⟩
          obtain ⟨a, c⟩ := HX.out
          have hs := HS.out
          rw [← hs]
          show Own _ _ _ _ _ ((Ln.over _ zs k).set k (Ln.wide b true (zs.getD k 0)))
          rw [← a, ← c]
          exact HST.out
        case measure => simp [intOf]; omega
      · have hkn : k = n := by omega
        have HK := Lib.hid hkn
        have HSZ := Lib.hid hsz
        clear hkn hsz
        have hc3 := HNC.out
        go_wp2_with fail
        refine (halves_any g3 o3 n m c3 _ (by have := HM.out.2; omega) HM.out.1 (by have := HM.out.1; omega) hc3).mono ?_
        rintro e w4 ⟨rfl, hb4⟩
        have HB4 := Lib.hid hb4; clear hb4
        go_wp2_with fail
        go_ret3
        have hkk := HK.out
        subst hkk
        have ho := HO.out
        have e := Ln.over_all (fun i => Ln.wide b true (zs.getD i 0)) zs
        rw [HL.out] at e
        rw [e] at ho
        exact wid_end ho HM.out.1 (by have := HM.out.1; omega) EA.out EB.out (Nat.le_refl _) HSZ.out HB.out HB4.out
theorem iWidenLanes_any (b : Int) (A : Option Addr) (n c : Nat) (zs : List Int) (B : Nat) (s : Bool) (w : World) (hn : n ≤ 1048576) (hc : n ≤ c) (h : Rd w B A n zs) :
    Calls Try.prog 21 #[.int .i64 b, .slice A n c, .bool s] w (Ret2 (Ln.widen b zs s).1 (Ln.widen b zs s).2.1 (Ln.widen b zs s).2.2 w) := by
  unfold Ln.widen
  have hl := h.len
  by_cases hw : Ln.canWiden b zs = true
  · obtain ⟨hv, h16, m, h2, hm2, hh⟩ := widen_half hw
    rw [hw, hh]
    exact iWid_yes b s A n m c zs B w hn (by omega) hm2 h16 h hv
  · have hw' : Ln.canWiden b zs = false := by simpa using hw
    rw [hw']
    have k1 := isVec_any b A n c zs B w hn h
    by_cases h16 : b = 16
    · subst h16
      clear k1 h hw hw' hl
      go_enter Try.func21, Try.ntmps21
      go_wp2_with fail
      go_ret3
      exact Ret2.no (Below.refl _ _)
    · have e16 : (b == 16) = false := by rw [beq_eq_false_iff_ne]; exact h16
      by_cases h4 : (n : Int) < 4
      · clear k1 h hw hw' hl h16
        go_enter Try.func21, Try.ntmps21
        go_wp2_with fail
        go_ret3
        exact Ret2.no (Below.refl _ _)
      · have hv' : Ln.vec b zs = false := by
          unfold Ln.canWiden at hw'
          have h4' : ¬ ((zs.length : Int) < 4) := by omega
          simpa [e16, h4'] using hw'
        rw [hv'] at k1
        have h4' : (4 : Int) ≤ (n : Int) := by omega
        have C1 := Lib.hid k1
        clear k1 h hw hw' hl h16 hv' h4
        go_enter Try.func21, Try.ntmps21
        go_wp2_with fail
        refine C1.out.mono ?_
        rintro e w1 ⟨rfl, hb⟩
        have HB := Lib.hid hb; clear hb
        go_wp2_with fail
        go_ret3
        exact Ret2.no HB.out
end Go.Proofs.Yteggioppoldaaaa.Wds
