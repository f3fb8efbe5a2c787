/-
  The laws' helpers over states: a copy, the test of equality, the size; one contract each.
-/
import Derived.Test.YtkdgnadidmagdaaSte
import Derived.Test.YtkdgnadidmagdaaOpenR
import Derived.Deep.RegionHeld3
namespace Go.Proofs.Ytkdgnadidmagdaa.Wds
open Go.RowKit
set_option linter.unusedVariables false

theorem new3 (w : World) (x y z : Value) (t : TypeId) : At3 (w.alloc (.cells #[x, y, z] t)) w.heap.size x y z := by
  have h := fun i => cell_of_row _ _ i _ _ (0, 0) (heap_alloc_new w (.cells #[x, y, z] t))
  exact ⟨(h 0).trans rfl, (h 1).trans rfl, (h 2).trans rfl⟩
theorem new3' (w : World) (g : Nat) (hg : w.heap.size = g) (x y z : Value) (t : TypeId) : At3 (w.alloc (.cells #[x, y, z] t)) g x y z := by subst hg; exact new3 w x y z t
theorem new2' (w : World) (x y : Int) (t : TypeId) : McAt (w.alloc (.cells #[.int .i64 x, .int .i64 y] t)) w.heap.size x y := new2 w _ _ t
theorem frozen_new (w : World) (cs : Array Value) (t : TypeId) (i : Nat) : (w.alloc (.cells cs t)).frozen? ⟨w.heap.size, i, none⟩ = false := by
  unfold World.frozen?
  rw [heap_alloc_new]
  simp
theorem frozen_new' (w : World) (g : Nat) (hg : w.heap.size = g) (cs : Array Value) (t : TypeId) (i : Nat) : (w.alloc (.cells cs t)).frozen? ⟨g, i, none⟩ = false := by subst hg; exact frozen_new w cs t i
/-- A state that reads so is returned. -/
def RetSt (V M : List (List Int)) (Y : List Int) (w : World) (e : Ending) (w' : World) : Prop :=
  ∃ A c A' c' A'' c'', e = .returned (.agg #[.slice A V.length c, .slice A' M.length c', .slice A'' Y.length c'']) ∧ RdR w' w'.heap.size A V.length V ∧ RdR w' w'.heap.size A' M.length M ∧ Rd w' w'.heap.size A'' Y.length Y ∧ Below w.heap.size w w'
theorem RdR.far {w : World} {lo hi n : Nat} {A : Option Addr} {zss : List (List Int)} (h : OwnR w lo hi A n zss) {p : Addr} (hp : p.block < lo) (v : Value) : OwnR (w.setCell p v) lo hi A n zss :=
  h.ch (lo' := p.block) (hi' := p.block + 1) ((Ch.refl _ _ w).set_ (Nat.le_refl _) (by omega) v) (.inr (by omega))
theorem Own.far1 {w : World} {lo hi n : Nat} {A : Option Addr} {zs : List Int} (h : Own w lo hi A n zs) {p : Addr} (hp : p.block < lo) (v : Value) : Own (w.setCell p v) lo hi A n zs :=
  h.ch (lo' := p.block) (hi' := p.block + 1) ((Ch.refl _ _ w).set_ (Nat.le_refl _) (by omega) v) (.inr (by omega))
theorem At3.set_far {w : World} {g : Nat} {x y z : Value} (h : At3 w g x y z) {p : Addr} (hp : p.block ≠ g) (v : Value) : At3 (w.setCell p v) g x y z :=
  ⟨(World.cell?_setCell_other _ _ _ _ (fun e => hp (by rw [e]))).trans h.1, (World.cell?_setCell_other _ _ _ _ (fun e => hp (by rw [e]))).trans h.2.1, (World.cell?_setCell_other _ _ _ _ (fun e => hp (by rw [e]))).trans h.2.2⟩
theorem At3.set0 {w : World} {g : Nat} {x y z : Value} (h : At3 w g x y z) (v : Value) : At3 (w.setCell ⟨g, 0, none⟩ v) g v y z :=
  ⟨World.cell?_setCell_same _ _ _ h.1, (World.cell?_setCell_other _ _ _ _ (by simp)).trans h.2.1, (World.cell?_setCell_other _ _ _ _ (by simp)).trans h.2.2⟩
theorem At3.set1 {w : World} {g : Nat} {x y z : Value} (h : At3 w g x y z) (v : Value) : At3 (w.setCell ⟨g, 1, none⟩ v) g x v z :=
  ⟨(World.cell?_setCell_other _ _ _ _ (by simp)).trans h.1, World.cell?_setCell_same _ _ _ h.2.1, (World.cell?_setCell_other _ _ _ _ (by simp)).trans h.2.2⟩
theorem At3.set2 {w : World} {g : Nat} {x y z : Value} (h : At3 w g x y z) (v : Value) : At3 (w.setCell ⟨g, 2, none⟩ v) g x y v :=
  ⟨(World.cell?_setCell_other _ _ _ _ (by simp)).trans h.1, (World.cell?_setCell_other _ _ _ _ (by simp)).trans h.2.1, World.cell?_setCell_same _ _ _ h.2.2⟩
theorem frozen_set (w : World) (p : Addr) (v : Value) (q : Addr) : (w.setCell p v).frozen? q = w.frozen? q := by
  simp
set_option maxHeartbeats 1000000 in
theorem toState_any (A : Option Addr) (n c : Nat) (V : List (List Int)) (A' : Option Addr) (n' c' : Nat) (M : List (List Int)) (A'' : Option Addr) (n'' c'' : Nat) (Y : List Int) (B B' B'' : Nat) (w : World)
    (tV : Ln.totL V ≤ 1048576) (tM : Ln.totL M ≤ 1048576) (tY : n'' ≤ 1048576) (hV : RdR w B A n V) (hM : RdR w B' A' n' M) (hY : Rd w B'' A'' n'' Y) :
    Calls Try.prog 15 #[.agg #[.slice A n c, .slice A' n' c', .slice A'' n'' c'']] w (RetSt V M Y w) := by
  have HB0 : Hid (Below w.heap.size w (((w.alloc (.cells #[.slice A n c, .slice A' n' c', .slice A'' n'' c''] 31)).alloc (.cells #[.slice none 0 0, .slice none 0 0, .slice none 0 0] 34)).alloc (.cells #[.slice none 0 0, .slice none 0 0, .slice none 0 0] 34))) := (((Below.refl _ _).alloc (Nat.le_refl _) _).alloc (by simp) _).alloc (by simp; omega) _
  have HX0 : Hid (At3 (((w.alloc (.cells #[.slice A n c, .slice A' n' c', .slice A'' n'' c''] 31)).alloc (.cells #[.slice none 0 0, .slice none 0 0, .slice none 0 0] 34)).alloc (.cells #[.slice none 0 0, .slice none 0 0, .slice none 0 0] 34)) w.heap.size (.slice A n c) (.slice A' n' c') (.slice A'' n'' c'')) := ((new3 w _ _ _ _).below ((Below.refl _ _).alloc (Nat.le_refl _) _)).below ((Below.refl _ _).alloc (Nat.le_refl _) _)
  have HO0 : Hid (At3 (((w.alloc (.cells #[.slice A n c, .slice A' n' c', .slice A'' n'' c''] 31)).alloc (.cells #[.slice none 0 0, .slice none 0 0, .slice none 0 0] 34)).alloc (.cells #[.slice none 0 0, .slice none 0 0, .slice none 0 0] 34)) (w.heap.size + 2) (.slice none 0 0) (.slice none 0 0) (.slice none 0 0)) := new3' _ _ (by simp) _ _ _ _
  have HR0 : Hid (At3 (((w.alloc (.cells #[.slice A n c, .slice A' n' c', .slice A'' n'' c''] 31)).alloc (.cells #[.slice none 0 0, .slice none 0 0, .slice none 0 0] 34)).alloc (.cells #[.slice none 0 0, .slice none 0 0, .slice none 0 0] 34)) (w.heap.size + 1) (.slice none 0 0) (.slice none 0 0) (.slice none 0 0)) := (new3' _ _ (by simp) _ _ _ _).below ((Below.refl _ _).alloc (Nat.le_refl _) _)
  have HG0 : Hid (∀ i, (((w.alloc (.cells #[.slice A n c, .slice A' n' c', .slice A'' n'' c''] 31)).alloc (.cells #[.slice none 0 0, .slice none 0 0, .slice none 0 0] 34)).alloc (.cells #[.slice none 0 0, .slice none 0 0, .slice none 0 0] 34)).frozen? ⟨w.heap.size + 1, i, none⟩ = false) := fun i => (((Below.refl _ _).alloc (Nat.le_refl _) _).frozen (p := ⟨w.heap.size + 1, i, none⟩) (by simp)).trans (frozen_new' _ _ (by simp) _ _ i)
  have HZ0 := Lib.hid (show (((w.alloc (.cells #[.slice A n c, .slice A' n' c', .slice A'' n'' c''] 31)).alloc (.cells #[.slice none 0 0, .slice none 0 0, .slice none 0 0] 34)).alloc (.cells #[.slice none 0 0, .slice none 0 0, .slice none 0 0] 34)).heap.size = w.heap.size + 3 by simp)
  have HF0 : Hid (∀ i, (((w.alloc (.cells #[.slice A n c, .slice A' n' c', .slice A'' n'' c''] 31)).alloc (.cells #[.slice none 0 0, .slice none 0 0, .slice none 0 0] 34)).alloc (.cells #[.slice none 0 0, .slice none 0 0, .slice none 0 0] 34)).frozen? ⟨w.heap.size + 2, i, none⟩ = false) := fun i => frozen_new' _ _ (by simp) _ _ _
  have HV := Lib.hid hV
  have HM := Lib.hid hM
  have HY := Lib.hid hY
  clear hV hM hY
  go_enter Try.func15, Try.ntmps15
  go_wp2_with fail
  refine (toR_any A n c V B _ tV (HV.out.below HB0.out)).mono ?_
  rintro e w1 ⟨g1, rfl, ho, hb⟩
  have HX1 := Lib.hid (HX0.out.below hb)
  have HO1 := Lib.hid (HO0.out.below hb)
  have HF1 : Hid (∀ i, w1.frozen? ⟨w.heap.size + 2, i, none⟩ = false) := fun i => (hb.frozen (p := ⟨w.heap.size + 2, i, none⟩) (by rw [HZ0.out]; show w.heap.size + 2 < _; omega)).trans (HF0.out i)
  have z1 : w.heap.size + 2 < w1.heap.size := by have := hb.size; have := HZ0.out; omega
  have HS1 := Lib.hid (show w.heap.size + 3 ≤ w1.heap.size by omega)
  have HB1 := Lib.hid (HB0.out.trans (hb.mono HB0.out.size))
  have HV1 := Lib.hid (ho.more (show w.heap.size + 3 ≤ _ by rw [HZ0.out]; exact Nat.le_refl _) (Nat.le_refl _))
  have HR1 := Lib.hid (HR0.out.below hb)
  have HG1 : Hid (∀ i, w1.frozen? ⟨w.heap.size + 1, i, none⟩ = false) := fun i => (hb.frozen (p := ⟨w.heap.size + 1, i, none⟩) (by rw [HZ0.out]; show w.heap.size + 1 < _; omega)).trans (HG0.out i)
  clear HR0 HG0
  have x1 := HX1.out.2.1
  have o0 := HO1.out.1
  have f0 := HF1.out 0
  clear ho hb HX0 HO0 HF0
  have HX1s := Lib.hid (HX1.out.set_far (p := ⟨w.heap.size + 1 + 1, 0, none⟩) (by show w.heap.size + 1 + 1 ≠ _; omega) (.slice (some ⟨g1, 0, none⟩) n n))
  have HO1s := Lib.hid (HO1.out.set0 (.slice (some ⟨g1, 0, none⟩) n n))
  have HB1s := Lib.hid (HB1.out.setCell (p := ⟨w.heap.size + 1 + 1, 0, none⟩) (by show _ ≤ w.heap.size + 1 + 1; omega) (.slice (some ⟨g1, 0, none⟩) n n))
  have HV1s := Lib.hid (RdR.far HV1.out (p := ⟨w.heap.size + 1 + 1, 0, none⟩) (by show w.heap.size + 1 + 1 < _; omega) (.slice (some ⟨g1, 0, none⟩) n n))
  have HR1s := Lib.hid (HR1.out.set_far (p := ⟨w.heap.size + 1 + 1, 0, none⟩) (by show w.heap.size + 1 + 1 ≠ _; omega) (.slice (some ⟨g1, 0, none⟩) n n))
  clear HR1
  have HZ1s := Lib.hid (show (w1.setCell ⟨w.heap.size + 1 + 1, 0, none⟩ (.slice (some ⟨g1, 0, none⟩) n n)).heap.size = w1.heap.size from size_set _ _ _)
  go_wp2_with fail
  clear x1 o0 f0 HX1 HO1 HB1 HV1
  refine (toR_any A' n' c' M B' _ tM (HM.out.below HB1s.out)).mono ?_
  rintro e w2 ⟨g2, rfl, ho, hb⟩
  have HX2 := Lib.hid (HX1s.out.below hb)
  have HO2 := Lib.hid (HO1s.out.below hb)
  have HF2 : Hid (∀ i, w2.frozen? ⟨w.heap.size + 2, i, none⟩ = false) := fun i => (hb.frozen (p := ⟨w.heap.size + 2, i, none⟩) (by rw [HZ1s.out]; exact z1)).trans ((frozen_set _ _ _ _).trans (HF1.out i))
  have z2 : w.heap.size + 2 < w2.heap.size := by have := hb.size; rw [HZ1s.out] at this; omega
  have HZ12 := Lib.hid (show w1.heap.size ≤ w2.heap.size by have := hb.size; rw [HZ1s.out] at this; exact this)
  have HS2 := Lib.hid (show w.heap.size + 3 ≤ w2.heap.size by omega)
  have HB2 := Lib.hid (HB1s.out.trans (hb.mono HB1s.out.size))
  have HV2 := Lib.hid (HV1s.out.below hb)
  have HM2 := Lib.hid (ho.more (show w.heap.size + 3 ≤ _ by rw [HZ1s.out]; exact HS1.out) (Nat.le_refl _))
  have HR2 := Lib.hid (HR1s.out.below hb)
  have HG2 : Hid (∀ i, w2.frozen? ⟨w.heap.size + 1, i, none⟩ = false) := fun i => (hb.frozen (p := ⟨w.heap.size + 1, i, none⟩) (by rw [HZ1s.out]; show w.heap.size + 1 < _; omega)).trans ((frozen_set _ _ _ _).trans (HG1.out i))
  clear HR1s HG1
  have x1 := HX2.out.2.2
  have o0 := HO2.out.2.1
  have f0 := HF2.out 1
  clear ho hb HX1s HO1s HB1s HV1s HF1 HZ1s
  have HX2s := Lib.hid (HX2.out.set_far (p := ⟨w.heap.size + 1 + 1, 1, none⟩) (by show w.heap.size + 1 + 1 ≠ _; omega) (.slice (some ⟨g2, 0, none⟩) n' n'))
  have HO2s := Lib.hid (HO2.out.set1 (.slice (some ⟨g2, 0, none⟩) n' n'))
  have HB2s := Lib.hid (HB2.out.setCell (p := ⟨w.heap.size + 1 + 1, 1, none⟩) (by show _ ≤ w.heap.size + 1 + 1; omega) (.slice (some ⟨g2, 0, none⟩) n' n'))
  have HV2s := Lib.hid (RdR.far HV2.out (p := ⟨w.heap.size + 1 + 1, 1, none⟩) (by show w.heap.size + 1 + 1 < _; omega) (.slice (some ⟨g2, 0, none⟩) n' n'))
  have HM2s := Lib.hid (RdR.far HM2.out (p := ⟨w.heap.size + 1 + 1, 1, none⟩) (by show w.heap.size + 1 + 1 < _; omega) (.slice (some ⟨g2, 0, none⟩) n' n'))
  have HR2s := Lib.hid (HR2.out.set_far (p := ⟨w.heap.size + 1 + 1, 1, none⟩) (by show w.heap.size + 1 + 1 ≠ _; omega) (.slice (some ⟨g2, 0, none⟩) n' n'))
  clear HR2
  have HZ2s := Lib.hid (show (w2.setCell ⟨w.heap.size + 1 + 1, 1, none⟩ (.slice (some ⟨g2, 0, none⟩) n' n')).heap.size = w2.heap.size from size_set _ _ _)
  go_wp2_with fail
  clear x1 o0 f0 HX2 HO2 HB2 HV2 HM2
  refine (toS_any A'' n'' c'' Y B'' _ tY (HY.out.below HB2s.out)).mono ?_
  rintro e w3 ⟨g3, rfl, ho, hb⟩
  have HO3 := Lib.hid (HO2s.out.below hb)
  have HF3 : Hid (∀ i, w3.frozen? ⟨w.heap.size + 2, i, none⟩ = false) := fun i => (hb.frozen (p := ⟨w.heap.size + 2, i, none⟩) (by rw [HZ2s.out]; exact z2)).trans ((frozen_set _ _ _ _).trans (HF2.out i))
  have z3 : w.heap.size + 2 < w3.heap.size := by have := hb.size; rw [HZ2s.out] at this; omega
  have HB3 := Lib.hid (HB2s.out.trans (hb.mono HB2s.out.size))
  have HMZ := Lib.hid (show w2.heap.size ≤ w3.heap.size by have := hb.size; rw [HZ2s.out] at this; exact this)
  have HVZ := Lib.hid (Nat.le_trans HZ12.out HMZ.out)
  have HV3 := Lib.hid (HV2s.out.below hb)
  have HM3 := Lib.hid (HM2s.out.below hb)
  have HY3 := Lib.hid (ho.more (show w.heap.size + 3 ≤ _ by rw [HZ2s.out]; exact HS2.out) (Nat.le_refl _))
  have HR3 := Lib.hid (HR2s.out.below hb)
  have HG3 : Hid (∀ i, w3.frozen? ⟨w.heap.size + 1, i, none⟩ = false) := fun i => (hb.frozen (p := ⟨w.heap.size + 1, i, none⟩) (by rw [HZ2s.out]; show w.heap.size + 1 < _; omega)).trans ((frozen_set _ _ _ _).trans (HG2.out i))
  obtain ⟨r0, r1, r2⟩ := HR3.out
  have k0 := HG3.out 0
  have k1 := HG3.out 1
  have k2 := HG3.out 2
  clear HR2s HG2
  obtain ⟨o0, o1, o2⟩ := HO3.out
  have f0 := HF3.out 2
  clear ho hb HX2s HO2s HB2s HV2s HF2 HZ2s HM2s
  go_wp2
  have HT := Lib.hid ((((HR3.out.set_far (p := ⟨w.heap.size + 1 + 1, 2, none⟩) (by show w.heap.size + 1 + 1 ≠ _; omega) (.slice (some ⟨g3, 0, none⟩) n'' n'')).set0 (.slice (some ⟨g1, 0, none⟩) n n)).set1 (.slice (some ⟨g2, 0, none⟩) n' n')).set2 (.slice (some ⟨g3, 0, none⟩) n'' n''))
  clear r0 r1 r2 k0 k1 k2 o0 o1 o2 f0
  refine bodyPost_ret (v := .agg #[.slice (some ⟨g1, 0, none⟩) n n, .slice (some ⟨g2, 0, none⟩) n' n', .slice (some ⟨g3, 0, none⟩) n'' n'']) (by
    obtain ⟨t0, t1, t2⟩ := HT.out
    generalize ((((w3.setCell ⟨w.heap.size + 1 + 1, 2, none⟩ (.slice (some ⟨g3, 0, none⟩) n'' n'')).setCell ⟨w.heap.size + 1, 0, none⟩ (.slice (some ⟨g1, 0, none⟩) n n)).setCell ⟨w.heap.size + 1, 1, none⟩ (.slice (some ⟨g2, 0, none⟩) n' n')).setCell ⟨w.heap.size + 1, 2, none⟩ (.slice (some ⟨g3, 0, none⟩) n'' n'')) = t at t0 t1 t2 ⊢
    simp [results, Try.results15, go_sem, t0, t1, t2]) rfl ?_
  obtain rfl := HV3.out.len
  obtain rfl := HM3.out.len
  obtain rfl := HY3.out.len
  have hz : ∀ (p1 p2 p3 p4 : Addr) (u1 u2 u3 u4 : Value), ((((w3.setCell p1 u1).setCell p2 u2).setCell p3 u3).setCell p4 u4).heap.size = w3.heap.size := fun _ _ _ _ _ _ _ _ => by rw [size_set, size_set, size_set, size_set]
  refine ⟨_, _, _, _, _, _, rfl, ?_, ?_, ?_, ?_⟩
  · rw [hz]
    exact (RdR.far (RdR.far (RdR.far (RdR.far (HV3.out.more (Nat.le_refl _) HVZ.out) (by show w.heap.size + 1 + 1 < _; omega) _) (by show w.heap.size + 1 < _; omega) _) (by show w.heap.size + 1 < _; omega) _) (by show w.heap.size + 1 < _; omega) _).rd
  · rw [hz]
    exact (RdR.far (RdR.far (RdR.far (RdR.far (HM3.out.more (Nat.le_refl _) HMZ.out) (by show w.heap.size + 1 + 1 < _; omega) _) (by show w.heap.size + 1 < _; omega) _) (by show w.heap.size + 1 < _; omega) _) (by show w.heap.size + 1 < _; omega) _).rd
  · rw [hz]
    exact (Own.far1 (Own.far1 (Own.far1 (Own.far1 HY3.out (by show w.heap.size + 1 + 1 < _; omega) _) (by show w.heap.size + 1 < _; omega) _) (by show w.heap.size + 1 < _; omega) _) (by show w.heap.size + 1 < _; omega) _).rd
  · exact (((HB3.out.setCell (by show _ ≤ w.heap.size + 1 + 1; omega) _).setCell (by show _ ≤ w.heap.size + 1; omega) _).setCell (by show _ ≤ w.heap.size + 1; omega) _).setCell (by show _ ≤ w.heap.size + 1; omega) _
set_option maxHeartbeats 1000000 in
/-- Two states that read alike are equal. -/
theorem eqState_same (A : Option Addr) (n c : Nat) (V : List (List Int)) (A' : Option Addr) (n' c' : Nat) (M : List (List Int)) (A'' : Option Addr) (n'' c'' : Nat) (Y : List Int) (D : Option Addr) (d : Nat) (D' : Option Addr) (d' : Nat) (D'' : Option Addr) (d'' : Nat) (B B' B'' C C' C'' : Nat) (w : World)
    (tV : Ln.totL V ≤ 1048576) (tM : Ln.totL M ≤ 1048576) (tY : n'' ≤ 1048576) (hV : RdR w B A n V) (hM : RdR w B' A' n' M) (hY : Rd w B'' A'' n'' Y) (hV2 : RdR w C D n V) (hM2 : RdR w C' D' n' M) (hY2 : Rd w C'' D'' n'' Y) :
    Calls Try.prog 17 #[.agg #[.slice A n c, .slice A' n' c', .slice A'' n'' c''], .agg #[.slice D n d, .slice D' n' d', .slice D'' n'' d'']] w fun e w' => e = .returned (.bool true) ∧ Below w.heap.size w w' := by
  have HB0 : Hid (Below w.heap.size w ((w.alloc (.cells #[.slice A n c, .slice A' n' c', .slice A'' n'' c''] 34)).alloc (.cells #[.slice D n d, .slice D' n' d', .slice D'' n'' d''] 34))) := ((Below.refl _ _).alloc (Nat.le_refl _) _).alloc (by simp) _
  have HX0 : Hid (At3 ((w.alloc (.cells #[.slice A n c, .slice A' n' c', .slice A'' n'' c''] 34)).alloc (.cells #[.slice D n d, .slice D' n' d', .slice D'' n'' d''] 34)) w.heap.size (.slice A n c) (.slice A' n' c') (.slice A'' n'' c'')) := (new3 w _ _ _ _).below ((Below.refl _ _).alloc (Nat.le_refl _) _)
  have HO0 : Hid (At3 ((w.alloc (.cells #[.slice A n c, .slice A' n' c', .slice A'' n'' c''] 34)).alloc (.cells #[.slice D n d, .slice D' n' d', .slice D'' n'' d''] 34)) (w.heap.size + 1) (.slice D n d) (.slice D' n' d') (.slice D'' n'' d'')) := new3' _ _ (by simp) _ _ _ _
  have H := Lib.hid (And.intro hV (And.intro hM (And.intro hY (And.intro hV2 (And.intro hM2 hY2)))))
  clear hV hM hY hV2 hM2 hY2
  go_enter Try.func17, Try.ntmps17
  go_wp2_with fail
  refine (eqR_same A D n c d V B C _ tV (H.out.1.below HB0.out) (H.out.2.2.2.1.below HB0.out)).mono ?_
  rintro e w1 ⟨rfl, hb⟩
  have HX1 := Lib.hid (HX0.out.below hb)
  have HO1 := Lib.hid (HO0.out.below hb)
  have HB1 := Lib.hid (HB0.out.trans (hb.mono HB0.out.size))
  have x1 := HX1.out.2.1
  have o1 := HO1.out.2.1
  clear hb HX0 HO0
  go_wp2_with fail
  clear x1 o1
  refine (eqR_same A' D' n' c' d' M B' C' _ tM (H.out.2.1.below HB1.out) (H.out.2.2.2.2.1.below HB1.out)).mono ?_
  rintro e w2 ⟨rfl, hb⟩
  have HB2 := Lib.hid (HB1.out.trans (hb.mono HB1.out.size))
  have x1 := (HX1.out.below hb).2.2
  have o1 := (HO1.out.below hb).2.2
  clear hb HX1 HO1
  go_wp2_with fail
  clear x1 o1
  refine (eqS_same A'' D'' n'' c'' d'' Y B'' C'' _ tY (H.out.2.2.1.below HB2.out) (H.out.2.2.2.2.2.below HB2.out)).mono ?_
  rintro e w3 ⟨rfl, hb⟩
  have HB3 := Lib.hid (HB2.out.trans (hb.mono HB2.out.size))
  clear hb
  go_wp2
  go_ret
  exact ⟨rfl, HB3.out⟩
/-- How much a state holds. -/
def totS (V M : List (List Int)) (Y : List Int) : Nat := Ln.totL V + Ln.totL M + Y.length
set_option maxHeartbeats 1000000 in
theorem szState_any (A : Option Addr) (n c : Nat) (V : List (List Int)) (A' : Option Addr) (n' c' : Nat) (M : List (List Int)) (A'' : Option Addr) (n'' c'' : Nat) (Y : List Int) (w : World)
    (hV : IsRows w A n c V) (hM : IsRows w A' n' c' M) (hb : n'' ≤ 9223372036854775807) (hY : Y.length = n'') :
    Calls Try.prog 13 #[.agg #[.slice A n c, .slice A' n' c', .slice A'' n'' c''], .int .i64 1048576] w fun e w' => e = .returned (.int .i64 (if totS V M Y ≤ 1048576 then (1048576 - totS V M Y : Int) else -1)) ∧ Below w.heap.size w w' := by
  have HB0 : Hid (Below w.heap.size w (w.alloc (.cells #[.slice A n c, .slice A' n' c', .slice A'' n'' c''] 31))) := (Below.refl _ _).alloc (Nat.le_refl _) _
  have HX0 : Hid (At3 (w.alloc (.cells #[.slice A n c, .slice A' n' c', .slice A'' n'' c''] 31)) w.heap.size (.slice A n c) (.slice A' n' c') (.slice A'' n'' c'')) := new3 w _ _ _ _
  have C1 := Lib.hid (szR_any A n c V w.heap.size _ 1048576 (by omega) (by omega) hV.2.1 hV.2.2 (hV.1.below HB0.out))
  have C2 := Lib.hid (fun (W : World) (left : Int) (h0 : 0 ≤ left) (h1 : left ≤ 1048576) (hb : Below w.heap.size w W) => szR_any A' n' c' M w.heap.size W left h0 h1 hM.2.1 hM.2.2 (hM.1.below hb))
  have HN := Lib.hid hb
  obtain ⟨tot, htot⟩ : ∃ t, t = totS V M Y := ⟨_, rfl⟩
  have HTOT := Lib.hid (show tot = Ln.totL V + Ln.totL M + n'' by rw [htot, ← hY]; rfl)
  rw [← htot]
  obtain ⟨a, ha⟩ : ∃ t, t = Ln.totL V := ⟨_, rfl⟩
  obtain ⟨b, hb2⟩ : ∃ t, t = Ln.totL M := ⟨_, rfl⟩
  unfold leftR at C1 C2
  rw [← ha] at C1 HTOT
  rw [← hb2] at C2 HTOT
  clear ha hb2 hV hM htot hY hb
  have H1 := HTOT.out
  by_cases k1 : (a : Int) ≤ 1048576
  rotate_left
  · rw [if_neg k1] at C1
    rw [if_neg (by omega)]
    go_enter Try.func13, Try.ntmps13
    go_wp2_with fail
    refine C1.out.mono ?_
    rintro e w1 ⟨rfl, hb⟩
    have HB1 := Lib.hid (HB0.out.trans (hb.mono HB0.out.size))
    clear hb
    go_wp2
    go_ret
    exact ⟨rfl, HB1.out⟩
  rw [if_pos k1] at C1
  by_cases k2 : (b : Int) ≤ 1048576 - (a : Int)
  rotate_left
  · rw [if_neg (by omega)]
    clear H1
    go_enter Try.func13, Try.ntmps13
    go_wp2_with fail
    refine C1.out.mono ?_
    rintro e w1 ⟨rfl, hb⟩
    have HB1 := Lib.hid (HB0.out.trans (hb.mono HB0.out.size))
    have C2' := C2.out w1 (1048576 - (a : Int)) (by omega) (by omega) HB1.out
    rw [if_neg (by omega)] at C2'
    have C2'' := Lib.hid C2'
    have x1 := (HX0.out.below hb).2.1
    have e1 : ¬ (1048576 - (a : Int) < 0) := by omega
    clear hb C2'
    go_wp2_with fail
    refine C2''.out.mono ?_
    rintro e w2 ⟨rfl, hb⟩
    have HB2 := Lib.hid (HB1.out.trans (hb.mono HB1.out.size))
    clear hb
    go_wp2
    go_ret
    exact ⟨rfl, HB2.out⟩
  by_cases k3 : (n'' : Int) ≤ 1048576 - (a : Int) - (b : Int)
  · rw [if_pos (by omega)]
    have HE := Lib.hid (show (1048576 - (a : Int) - (b : Int) - (n'' : Int)) = (1048576 - (tot : Int)) by omega)
    clear H1
    go_enter Try.func13, Try.ntmps13
    go_wp2_with fail
    refine C1.out.mono ?_
    rintro e w1 ⟨rfl, hb⟩
    have HB1 := Lib.hid (HB0.out.trans (hb.mono HB0.out.size))
    have C2' := C2.out w1 (1048576 - (a : Int)) (by omega) (by omega) HB1.out
    rw [if_pos (by omega)] at C2'
    have C2'' := Lib.hid C2'
    have HX1 := Lib.hid (HX0.out.below hb)
    have x1 := HX1.out.2.1
    have e1 : ¬ (1048576 - (a : Int) < 0) := by omega
    clear hb C2' HX0
    go_wp2_with fail
    clear x1 e1
    refine C2''.out.mono ?_
    rintro e w2 ⟨rfl, hb⟩
    have HB2 := Lib.hid (HB1.out.trans (hb.mono HB1.out.size))
    have x1 := (HX1.out.below hb).2.2
    have e1 : ¬ (1048576 - (a : Int) - (b : Int) < 0) := by omega
    have e2 : ¬ (1048576 - (a : Int) - (b : Int) - (n'' : Int) < 0) := by omega
    clear hb HX1
    go_wp2_with (go_at_call 43; refine (szS_in _ _ _ _ _ k3 (by omega)).mono ?_; rintro e w' ⟨rfl, rfl⟩)
    go_ret
    exact ⟨ret_i HE.out, HB2.out⟩
  · rw [if_neg (by omega)]
    clear H1
    go_enter Try.func13, Try.ntmps13
    go_wp2_with fail
    refine C1.out.mono ?_
    rintro e w1 ⟨rfl, hb⟩
    have HB1 := Lib.hid (HB0.out.trans (hb.mono HB0.out.size))
    have C2' := C2.out w1 (1048576 - (a : Int)) (by omega) (by omega) HB1.out
    rw [if_pos (by omega)] at C2'
    have C2'' := Lib.hid C2'
    have HX1 := Lib.hid (HX0.out.below hb)
    have x1 := HX1.out.2.1
    have e1 : ¬ (1048576 - (a : Int) < 0) := by omega
    clear hb C2' HX0
    go_wp2_with fail
    clear x1 e1
    refine C2''.out.mono ?_
    rintro e w2 ⟨rfl, hb⟩
    have HB2 := Lib.hid (HB1.out.trans (hb.mono HB1.out.size))
    have x1 := (HX1.out.below hb).2.2
    have e1 : ¬ (1048576 - (a : Int) - (b : Int) < 0) := by omega
    clear hb HX1
    go_wp2_with (go_at_call 43; refine (szS_out _ _ _ _ _ (by omega) (by omega) HN.out).mono ?_; rintro e w' ⟨rfl, rfl⟩)
    go_ret
    exact ⟨rfl, HB2.out⟩
end Go.Proofs.Ytkdgnadidmagdaa.Wds
