/-
  Whether a state is one of a machine: the code's function and the model's.
-/
import Derived.Test.YtkdgnadidmagdaaSte2
namespace Go.Proofs.Ytkdgnadidmagdaa.Wds
open Go.RowKit
set_option linter.unusedVariables false

set_option maxHeartbeats 1000000 in
theorem sValidS_any (l b : Int) (A : Option Addr) (n c : Nat) (V : List (List Int)) (A' : Option Addr) (n' c' : Nat) (M : List (List Int)) (A'' : Option Addr) (n'' c'' : Nat) (Y : List Int) (B B' B'' : Nat) (w : World)
    (tV : Ln.totL V ≤ 1048576) (tM : Ln.totL M ≤ 1048576) (tY : n'' ≤ 1048576) (hV : RdR w B A n V) (hM : RdR w B' A' n' M) (hY : Rd w B'' A'' n'' Y) :
    Calls Try.prog 14 #[.agg #[.int .i64 l, .int .i64 b], .agg #[.slice A n c, .slice A' n' c', .slice A'' n'' c'']] w (RetB (Mc.vS l b V M Y) w) := by
  have HB0 : Hid (Below w.heap.size w ((w.alloc (.cells #[.int .i64 l, .int .i64 b] 25)).alloc (.cells #[.slice A n c, .slice A' n' c', .slice A'' n'' c''] 34))) := ((Below.refl _ _).alloc (Nat.le_refl _) _).alloc (by simp) _
  have HM0 : Hid (McAt ((w.alloc (.cells #[.int .i64 l, .int .i64 b] 25)).alloc (.cells #[.slice A n c, .slice A' n' c', .slice A'' n'' c''] 34)) w.heap.size l b) := (new2' w l b _).below ((Below.refl _ _).alloc (Nat.le_refl _) _)
  have HS0 : Hid (At3 ((w.alloc (.cells #[.int .i64 l, .int .i64 b] 25)).alloc (.cells #[.slice A n c, .slice A' n' c', .slice A'' n'' c''] 34)) (w.heap.size + 1) (.slice A n c) (.slice A' n' c') (.slice A'' n'' c'')) := new3' _ _ (by simp) _ _ _ _
  have C1 := Lib.hid (sMachine_any l b w.heap.size 0 ((w.alloc (.cells #[.int .i64 l, .int .i64 b] 25)).alloc (.cells #[.slice A n c, .slice A' n' c', .slice A'' n'' c''] 34)) HM0.out.1 HM0.out.2)
  by_cases hm : Mc.mok l b = true
  · have C2 := Lib.hid (sState_any l b w.heap.size (w.heap.size + 1) A n c V A' n' c' M A'' n'' c'' Y B B' B'' ((w.alloc (.cells #[.int .i64 l, .int .i64 b] 25)).alloc (.cells #[.slice A n c, .slice A' n' c', .slice A'' n'' c''] 34)) hm HM0.out HS0.out tV tM tY (hV.below HB0.out) (hM.below HB0.out) (hY.below HB0.out))
    unfold Mc.vS
    rw [hm] at C1 ⊢
    generalize Mc.sOk l b V M Y = r at C2 ⊢
    clear hV hM hY HM0 HS0
    go_enter Try.func14, Try.ntmps14
    go_wp2_with fail
    refine C1.out.mono ?_
    rintro e w1 ⟨rfl, rfl⟩
    go_wp2_with fail
    refine C2.out.mono ?_
    rintro e w2 ⟨rfl, hb⟩
    have HB2 := Lib.hid (HB0.out.trans (hb.mono HB0.out.size))
    clear hb
    go_wp2
    go_ret
    exact ⟨ret_bool (by simp), HB2.out⟩
  · have hm' : Mc.mok l b = false := by simpa using hm
    unfold Mc.vS
    rw [hm'] at C1 ⊢
    clear hV hM hY HM0 HS0 hm hm'
    go_enter Try.func14, Try.ntmps14
    go_wp2_with fail
    refine C1.out.mono ?_
    rintro e w1 ⟨rfl, rfl⟩
    go_wp2
    go_ret
    exact ⟨ret_bool (by simp), HB0.out⟩
set_option maxHeartbeats 1000000 in
theorem iValidS_any (l b : Int) (A : Option Addr) (n c : Nat) (V : List (List Int)) (A' : Option Addr) (n' c' : Nat) (M : List (List Int)) (A'' : Option Addr) (n'' c'' : Nat) (Y : List Int) (B B' B'' : Nat) (w : World)
    (tV : Ln.totL V ≤ 1048576) (tM : Ln.totL M ≤ 1048576) (tY : n'' ≤ 1048576) (hV : RdR w B A n V) (hM : RdR w B' A' n' M) (hY : Rd w B'' A'' n'' Y) :
    Calls Try.prog 16 #[.agg #[.int .i64 l, .int .i64 b], .agg #[.slice A n c, .slice A' n' c', .slice A'' n'' c'']] w (RetB (Mc.vS l b V M Y) w) := by
  have HB0 : Hid (Below w.heap.size w ((w.alloc (.cells #[.int .i64 l, .int .i64 b] 25)).alloc (.cells #[.slice A n c, .slice A' n' c', .slice A'' n'' c''] 34))) := ((Below.refl _ _).alloc (Nat.le_refl _) _).alloc (by simp) _
  have HM0 : Hid (McAt ((w.alloc (.cells #[.int .i64 l, .int .i64 b] 25)).alloc (.cells #[.slice A n c, .slice A' n' c', .slice A'' n'' c''] 34)) w.heap.size l b) := (new2' w l b _).below ((Below.refl _ _).alloc (Nat.le_refl _) _)
  have HS0 : Hid (At3 ((w.alloc (.cells #[.int .i64 l, .int .i64 b] 25)).alloc (.cells #[.slice A n c, .slice A' n' c', .slice A'' n'' c''] 34)) (w.heap.size + 1) (.slice A n c) (.slice A' n' c') (.slice A'' n'' c'')) := new3' _ _ (by simp) _ _ _ _
  have C1 := Lib.hid (iValidM_any l b ((w.alloc (.cells #[.int .i64 l, .int .i64 b] 25)).alloc (.cells #[.slice A n c, .slice A' n' c', .slice A'' n'' c''] 34)))
  have hmf : ∀ (fn : Fn) (first cap : Array Value) (w : World), (Instr.makeFunc fn first cap).run Try.prog w = .ok (.func fn first cap) w := fun _ _ _ _ => rfl
  by_cases hm : Mc.mok l b = true
  rotate_left
  · have hm' : Mc.mok l b = false := by simpa using hm
    unfold Mc.vS
    rw [hm'] at C1 ⊢
    clear hV hM hY HM0 HS0 hm hm'
    go_enter Try.func16, Try.ntmps16
    go_wp2_with fail
    refine C1.out.mono ?_
    rintro e w1 ⟨rfl, hb⟩
    have HB1 := Lib.hid (HB0.out.trans (hb.mono HB0.out.size))
    clear hb
    go_wp2
    go_ret
    exact ⟨ret_bool (by simp), HB1.out⟩
  have CM := Lib.hid (fun (W : World) (hb : Below w.heap.size w W) => isMem_any l b A'' n'' c'' Y B'' W tY (hY.below hb))
  have CV := Lib.hid (fun (W : World) (hb : Below w.heap.size w W) => allV_any l b A n c 8 V B W hm tV (by omega) (hV.below hb))
  have CK := Lib.hid (fun (W : World) (hb : Below w.heap.size w W) => allK_any l b A' n' c' 4 M B' W hm tM (by omega) (hM.below hb))
  unfold Mc.vS Mc.sOk
  rw [hm] at C1 ⊢
  generalize Mc.memOk b Y = r1 at CM ⊢
  generalize (decide (V.length = 8) && V.all (Mc.vecR l b)) = r2 at CV ⊢
  generalize (decide (M.length = 4) && M.all (Mc.mskR l)) = r3 at CK ⊢
  clear hV hM hY hm
  have HMS := Lib.hid (And.intro HM0.out HS0.out)
  clear HM0 HS0
  cases r1
  · go_enter Try.func16, Try.ntmps16
    go_wp2_with fail
    refine C1.out.mono ?_
    rintro e w1 ⟨rfl, hb⟩
    have HB1 := Lib.hid (HB0.out.trans (hb.mono HB0.out.size))
    have HM1 := Lib.hid (And.intro (HMS.out.1.below hb) (HMS.out.2.below hb))
    have m0 := HM1.out.1.1
    have m1 := HM1.out.1.2
    have s0 := HM1.out.2.1
    have s1 := HM1.out.2.2.1
    have s2 := HM1.out.2.2.2
    clear hb
    go_wp2_with fail
    refine (CM.out _ HB1.out).mono ?_
    rintro e w2 ⟨rfl, hb⟩
    have HB2 := Lib.hid (HB1.out.trans (hb.mono HB1.out.size))
    clear hb
    go_wp2
    go_ret
    exact ⟨ret_bool (by simp), HB2.out⟩
  cases r2
  · go_enter Try.func16, Try.ntmps16
    go_wp2_with fail
    refine C1.out.mono ?_
    rintro e w1 ⟨rfl, hb⟩
    have HB1 := Lib.hid (HB0.out.trans (hb.mono HB0.out.size))
    have HM1 := Lib.hid (And.intro (HMS.out.1.below hb) (HMS.out.2.below hb))
    have m0 := HM1.out.1.1
    have m1 := HM1.out.1.2
    have s0 := HM1.out.2.1
    have s1 := HM1.out.2.2.1
    have s2 := HM1.out.2.2.2
    clear hb
    go_wp2_with fail
    refine (CM.out _ HB1.out).mono ?_
    rintro e w2 ⟨rfl, hb⟩
    have HB2 := Lib.hid (HB1.out.trans (hb.mono HB1.out.size))
    have HM2 := Lib.hid (And.intro (HM1.out.1.below hb) (HM1.out.2.below hb))
    clear m0 m1 s0 s1 s2
    have m0 := HM2.out.1.1
    have m1 := HM2.out.1.2
    have s0 := HM2.out.2.1
    have s1 := HM2.out.2.2.1
    have s2 := HM2.out.2.2.2
    clear hb
    go_wp2_with fail
    refine (CV.out _ HB2.out).mono ?_
    rintro e w3 ⟨rfl, hb⟩
    have HB3 := Lib.hid (HB2.out.trans (hb.mono HB2.out.size))
    clear hb
    go_wp2
    go_ret
    exact ⟨ret_bool (by simp), HB3.out⟩
  · go_enter Try.func16, Try.ntmps16
    go_wp2_with fail
    refine C1.out.mono ?_
    rintro e w1 ⟨rfl, hb⟩
    have HB1 := Lib.hid (HB0.out.trans (hb.mono HB0.out.size))
    have HM1 := Lib.hid (And.intro (HMS.out.1.below hb) (HMS.out.2.below hb))
    have m0 := HM1.out.1.1
    have m1 := HM1.out.1.2
    have s0 := HM1.out.2.1
    have s1 := HM1.out.2.2.1
    have s2 := HM1.out.2.2.2
    clear hb
    go_wp2_with fail
    refine (CM.out _ HB1.out).mono ?_
    rintro e w2 ⟨rfl, hb⟩
    have HB2 := Lib.hid (HB1.out.trans (hb.mono HB1.out.size))
    have HM2 := Lib.hid (And.intro (HM1.out.1.below hb) (HM1.out.2.below hb))
    clear m0 m1 s0 s1 s2
    have m0 := HM2.out.1.1
    have m1 := HM2.out.1.2
    have s0 := HM2.out.2.1
    have s1 := HM2.out.2.2.1
    have s2 := HM2.out.2.2.2
    clear hb
    go_wp2_with fail
    refine (CV.out _ HB2.out).mono ?_
    rintro e w3 ⟨rfl, hb⟩
    have HB3 := Lib.hid (HB2.out.trans (hb.mono HB2.out.size))
    have HM3 := Lib.hid (And.intro (HM2.out.1.below hb) (HM2.out.2.below hb))
    clear m0 m1 s0 s1 s2
    have m0 := HM3.out.1.1
    have m1 := HM3.out.1.2
    have s0 := HM3.out.2.1
    have s1 := HM3.out.2.2.1
    have s2 := HM3.out.2.2.2
    clear hb
    go_wp2_with fail
    refine (CK.out _ HB3.out).mono ?_
    rintro e w4 ⟨rfl, hb⟩
    have HB4 := Lib.hid (HB3.out.trans (hb.mono HB3.out.size))
    clear hb
    go_wp2
    go_ret
    exact ⟨ret_bool (by simp), HB4.out⟩
end Go.Proofs.Ytkdgnadidmagdaa.Wds
