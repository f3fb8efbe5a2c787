/-
  Sets of small numbers as bits of an unsigned number of 32 bits: the operations of the code on them, and whether one statement must follow another one: one contract each.
-/
import Derived.Test.YtgkpjeheoinpiaaU32
import Derived.Test.YtgkpjeheoinpiaaStW
import Derived.Test.YtgkpjeheoinpiaaBits
import Derived.Test.YtgkpjeheoinpiaaWords
import Derived.Test.YtgkpjeheoinpiaaVCode
namespace Go.Proofs.Ytgkpjeheoinpiaa.Wds
open Go.RowKit
set_option linter.unusedVariables false

theorem reads_any (p d a b : Int) (w : World) (ha : 0 ≤ a ∧ a ≤ 31) (hb : 0 ≤ b ∧ b ≤ 31) :
    Calls Try.prog 50 #[.agg #[.int .i64 p, .int .i64 d, .int .i64 a, .int .i64 b]] w fun e w' => e = .returned (.int .u32 ((Sc.bt a ||| Sc.bt b : Nat) : Int)) ∧ Below w.heap.size w w' := by
  obtain ⟨u, hu⟩ : ∃ u, u = Sc.bt a := ⟨_, rfl⟩
  obtain ⟨v, hv⟩ : ∃ v, v = Sc.bt a ||| Sc.bt b := ⟨_, rfl⟩
  have C1 := Lib.hid (fun W => with0_below a W ha.1 ha.2)
  have C2 := Lib.hid (fun W => with_below u b W (by rw [hu]; exact Sc.bt_lt ha.2) hb.1 hb.2)
  rw [← hu] at C1
  rw [hu, ← hv, ← hu] at C2
  rw [← hv]
  clear hu hv
  have HB0 := Lib.hid ((Below.refl w.heap.size w).alloc (Nat.le_refl _) (.cells #[.int .i64 p, .int .i64 d, .int .i64 a, .int .i64 b] 40))
  have hk := BlkS.new w #[.int .i64 p, .int .i64 d, .int .i64 a, .int .i64 b]
  have q2 : ∀ x : BelowBy (w.alloc (.cells #[.int .i64 p, .int .i64 d, .int .i64 a, .int .i64 b] 40)), x.W.cell? ⟨w.heap.size, 2, none⟩ = some (.int .i64 a) := BelowBy.cell (hk.cell 2)
  have q3 : ∀ x : BelowBy (w.alloc (.cells #[.int .i64 p, .int .i64 d, .int .i64 a, .int .i64 b] 40)), x.W.cell? ⟨w.heap.size, 3, none⟩ = some (.int .i64 b) := BelowBy.cell (hk.cell 3)
  clear hk
  go_enter Try.func50, Try.ntmps50
  go_wp2
  refine wp_region_quiet_below (by kernel_rfl) (by kernel_rfl) ?_
  iterate 3 (quiet_step (first | (go_at_call 29; exact calls_below (C1.out _))))
  iterate 4 (quiet_step (first | (go_at_call 29; exact calls_below (C2.out _))))
  refine wpQuiet_nil ?_
  rintro _ ⟨⟨wq, hwq⟩, rfl⟩
  go_wp2
  go_ret
  exact ⟨rfl, HB0.out.trans (hwq.mono HB0.out.size)⟩
theorem writes_any (p d a b : Int) (w : World) (hd : 0 ≤ d ∧ d ≤ 31) :
    Calls Try.prog 51 #[.agg #[.int .i64 p, .int .i64 d, .int .i64 a, .int .i64 b]] w fun e w' => e = .returned (.int .u32 ((Sc.bt d : Nat) : Int)) ∧ Below w.heap.size w w' := by
  obtain ⟨u, hu⟩ : ∃ u, u = Sc.bt d := ⟨_, rfl⟩
  have C1 := Lib.hid (fun W => with0_any d W hd.1 hd.2)
  rw [← hu] at C1
  rw [← hu]
  clear hu
  have HB0 := Lib.hid ((Below.refl w.heap.size w).alloc (Nat.le_refl _) (.cells #[.int .i64 p, .int .i64 d, .int .i64 a, .int .i64 b] 40))
  go_enter Try.func51, Try.ntmps51
  go_wp2_with fail
  refine (C1.out _).mono ?_
  rintro e w1 ⟨rfl, rfl⟩
  go_wp2
  go_ret
  exact ⟨rfl, HB0.out⟩
set_option maxHeartbeats 1000000 in
/-- Whether y, which stands behind x, must follow it. -/
theorem iMust_any (p d a b p' d' a' b' : Int) (w : World) (hx : Sc.ok ⟨p, d, a, b⟩ = true) (hy : Sc.ok ⟨p', d', a', b'⟩ = true) :
    Calls Try.prog 43 #[.agg #[.int .i64 p', .int .i64 d', .int .i64 a', .int .i64 b'], .agg #[.int .i64 p, .int .i64 d, .int .i64 a, .int .i64 b]] w
      fun e w' => e = .returned (.bool (Sc.must ⟨p, d, a, b⟩ ⟨p', d', a', b'⟩)) ∧ Below w.heap.size w w' := by
  obtain ⟨_, hd, ha, hb⟩ := Sc.ok_cells hx
  obtain ⟨_, hd', ha', hb'⟩ := Sc.ok_cells hy
  simp only at hd ha hb hd' ha' hb'
  have hm := Sc.must_bits hx hy
  simp only at hm
  clear hx hy
  obtain ⟨rx, hrx⟩ : ∃ z, z = Sc.bt a ||| Sc.bt b := ⟨_, rfl⟩
  obtain ⟨ry, hry⟩ : ∃ z, z = Sc.bt a' ||| Sc.bt b' := ⟨_, rfl⟩
  obtain ⟨wx, hwx⟩ : ∃ z, z = Sc.bt d := ⟨_, rfl⟩
  obtain ⟨wy, hwy⟩ : ∃ z, z = Sc.bt d' := ⟨_, rfl⟩
  have lrx : rx < 4294967296 := by rw [hrx]; exact Sc.or_lt (Sc.bt_lt ha.2) (Sc.bt_lt hb.2)
  have lry : ry < 4294967296 := by rw [hry]; exact Sc.or_lt (Sc.bt_lt ha'.2) (Sc.bt_lt hb'.2)
  have lwx : wx < 4294967296 := by rw [hwx]; exact Sc.bt_lt hd.2
  have lwy : wy < 4294967296 := by rw [hwy]; exact Sc.bt_lt hd'.2
  have CRX := Lib.hid (fun W => reads_any p d a b W ha hb)
  have CRY := Lib.hid (fun W => reads_any p' d' a' b' W ha' hb')
  have CWX := Lib.hid (fun W => writes_any p d a b W hd)
  have CWY := Lib.hid (fun W => writes_any p' d' a' b' W hd')
  rw [← hrx] at CRX hm
  rw [← hry] at CRY hm
  rw [← hwx] at CWX hm
  rw [← hwy] at CWY hm
  clear hrx hry hwx hwy ha hb hd ha' hb' hd'
  obtain ⟨us, hus⟩ : ∃ z, z = ry ||| wy := ⟨_, rfl⟩
  have lus : us < 4294967296 := by rw [hus]; exact Sc.or_lt lry lwy
  have b1 : bits .or .u32 (ry : Int) (wy : Int) = (us : Int) := by rw [hus]; exact u32_or ry wy lry lwy
  rw [← hus] at hm
  obtain ⟨m1, hm1⟩ : ∃ z, z = wx &&& us := ⟨_, rfl⟩
  have b2 : bits .and .u32 (wx : Int) (us : Int) = (m1 : Int) := by rw [hm1]; exact u32_and wx us lwx lus
  obtain ⟨m2, hm2⟩ : ∃ z, z = wy &&& rx := ⟨_, rfl⟩
  have b3 : bits .and .u32 (wy : Int) (rx : Int) = (m2 : Int) := by rw [hm2]; exact u32_and wy rx lwy lrx
  rw [← hm1, ← hm2] at hm
  clear hus hm1 hm2
  rw [← hm]
  clear hm
  obtain ⟨w0, hw0⟩ : ∃ z, z = (w.alloc (.cells #[.int .i64 p', .int .i64 d', .int .i64 a', .int .i64 b'] 40)).alloc (.cells #[.int .i64 p, .int .i64 d, .int .i64 a, .int .i64 b] 40) := ⟨_, rfl⟩
  have hk' := (BlkS.new w #[.int .i64 p', .int .i64 d', .int .i64 a', .int .i64 b']).alloc (.cells #[.int .i64 p, .int .i64 d, .int .i64 a, .int .i64 b] 40)
  have hk := BlkS.new (w.alloc (.cells #[.int .i64 p', .int .i64 d', .int .i64 a', .int .i64 b'] 40)) #[.int .i64 p, .int .i64 d, .int .i64 a, .int .i64 b]
  have HB0 := Lib.hid (show Below w.heap.size w w0 from by rw [hw0]; exact ((Below.refl _ _).alloc (Nat.le_refl _) _).alloc (by simp) _)
  rw [← hw0] at hk hk'
  have hz : (w.alloc (.cells #[.int .i64 p', .int .i64 d', .int .i64 a', .int .i64 b'] 40)).heap.size = w.heap.size + 1 := by simp
  rw [hz] at hk
  clear hz
  have s0 := BelowBy.cell (hk'.cell 0)
  have s1 := BelowBy.cell (hk'.cell 1)
  have s2 := BelowBy.cell (hk'.cell 2)
  have s3 := BelowBy.cell (hk'.cell 3)
  have HK := Lib.hid hk
  have HK' := Lib.hid hk'
  clear hk hk'
  go_enter Try.func43, Try.ntmps43
  go_wp2
  rw [← hw0]
  have HW0 := Lib.hid hw0; clear hw0
  refine wp_region_quiet_below (by kernel_rfl) (by kernel_rfl) ?_
  repeat (quiet_step (first | (go_at_call 50; exact calls_below (CRY.out _)) | (go_at_call 51; exact calls_below (CWY.out _))))
  refine wpQuiet_nil ?_
  rintro _ ⟨⟨w1, hw1⟩, rfl⟩
  clear s0 s1 s2 s3
  have hk1 := HK.out.keep hw1
  have hk1' := HK'.out.keep hw1
  have HB1 := Lib.hid (HB0.out.trans (hw1.mono HB0.out.size))
  clear hw1
  have s0 := BelowBy.cell (hk1'.cell 0)
  have s1 := BelowBy.cell (hk1'.cell 1)
  have s2 := BelowBy.cell (hk1'.cell 2)
  have s3 := BelowBy.cell (hk1'.cell 3)
  have t0 := BelowBy.cell (hk1.cell 0)
  have t1 := BelowBy.cell (hk1.cell 1)
  have t2 := BelowBy.cell (hk1.cell 2)
  have t3 := BelowBy.cell (hk1.cell 3)
  clear hk1 hk1'
  by_cases e1 : m1 = 0
  · subst e1
    have b2' : bits .and .u32 (wx : Int) (us : Int) = 0 := b2
    clear b2
    by_cases e2 : m2 = 0
    · subst e2
      have b3' : bits .and .u32 (wy : Int) (rx : Int) = 0 := b3
      clear b3
      go_wp2
      refine wp_region_quiet_below (by kernel_rfl) (by kernel_rfl) ?_
      iterate 6 (quiet_step (first | (go_at_call 51; exact calls_below (CWX.out _))))
      repeat (quiet_step (first | (go_at_call 51; exact calls_below (CWY.out _)) | (go_at_call 50; exact calls_below (CRX.out _))))
      refine wpQuiet_nil ?_
      rintro _ ⟨⟨w2, hw2⟩, rfl⟩
      go_wp2
      go_ret
      exact ⟨ret_bool (by simp), HB1.out.trans (hw2.mono HB1.out.size)⟩
    · have e2' : ((m2 : Int) == 0) = false := by simp; omega
      have e2'' : ¬ ((m2 : Int) = 0) := by omega
      go_wp2
      refine wp_region_quiet_below (by kernel_rfl) (by kernel_rfl) ?_
      iterate 6 (quiet_step (first | (go_at_call 51; exact calls_below (CWX.out _))))
      repeat (quiet_step (first | (go_at_call 51; exact calls_below (CWY.out _)) | (go_at_call 50; exact calls_below (CRX.out _))))
      refine wpQuiet_nil ?_
      rintro _ ⟨⟨w2, hw2⟩, rfl⟩
      go_wp2
      go_ret
      exact ⟨ret_bool (by rw [show (m2 == 0) = false by simp [e2]]; simp [bne, e2']), HB1.out.trans (hw2.mono HB1.out.size)⟩
  · have e1' : ((m1 : Int) == 0) = false := by simp; omega
    have e1'' : ¬ ((m1 : Int) = 0) := by omega
    go_wp2
    refine wp_region_quiet_below (by kernel_rfl) (by kernel_rfl) ?_
    repeat (quiet_step (first | (go_at_call 51; exact calls_below (CWX.out _))))
    refine wpQuiet_nil ?_
    rintro _ ⟨⟨w2, hw2⟩, rfl⟩
    go_wp2
    go_ret
    exact ⟨ret_bool (by simp [e1]), HB1.out.trans (hw2.mono HB1.out.size)⟩
set_option maxHeartbeats 1000000 in
set_option maxRecDepth 100000 in
/-- Whether y, which stands behind x, must follow it: the model. -/
theorem sMust_any (g o g' o' : Nat) (p d a b p' d' a' b' : Int) (w : World) (hx : At4 (fun i => w.cell? ⟨g, i, none⟩) o ⟨p, d, a, b⟩) (hy : At4 (fun i => w.cell? ⟨g', i, none⟩) o' ⟨p', d', a', b'⟩) :
    Calls Try.prog 22 #[.pointer (some ⟨g, o, none⟩), .pointer (some ⟨g', o', none⟩)] w
      fun e w' => e = .returned (.bool (Sc.must ⟨p, d, a, b⟩ ⟨p', d', a', b'⟩)) ∧ Below w.heap.size w w' := by
  obtain ⟨x0, x1, x2, x3⟩ := hx
  obtain ⟨y0, y1, y2, y3⟩ := hy
  simp only at x0 x1 x2 x3 y0 y1 y2 y3
  have hm : Sc.must ⟨p, d, a, b⟩ ⟨p', d', a', b'⟩ = (d == a' || d == b' || d == d' || d' == a || d' == b) := rfl
  rw [hm]
  clear hm
  by_cases e0 : d = a'
  · have c0 : (d == a') = true := beq_iff_eq.2 e0
    have d0 : decide (d = a') = true := decide_eq_true e0
    clear e0
    go_enter Try.func22, Try.ntmps22
    go_wp2
    go_quiet (fail)
    go_wp2
    go_ret
    exact ⟨ret_bool (by simp [c0]), below_drewN (Below.refl _ _) _⟩
  · have c0 : (d == a') = false := beq_eq_false_iff_ne.2 e0
    have d0 : decide (d = a') = false := decide_eq_false e0
    clear e0
    by_cases e1 : d = b'
    · have c1 : (d == b') = true := beq_iff_eq.2 e1
      have d1 : decide (d = b') = true := decide_eq_true e1
      clear e1
      go_enter Try.func22, Try.ntmps22
      go_wp2
      go_quiet (fail)
      go_wp2
      go_ret
      exact ⟨ret_bool (by simp [c0, c1]), below_drewN (Below.refl _ _) _⟩
    · have c1 : (d == b') = false := beq_eq_false_iff_ne.2 e1
      have d1 : decide (d = b') = false := decide_eq_false e1
      clear e1
      by_cases e2 : d = d'
      · have c2 : (d == d') = true := beq_iff_eq.2 e2
        have d2 : decide (d = d') = true := decide_eq_true e2
        clear e2
        go_enter Try.func22, Try.ntmps22
        go_wp2
        go_quiet (fail)
        go_wp2
        go_ret
        exact ⟨ret_bool (by simp [c0, c1, c2]), below_drewN (Below.refl _ _) _⟩
      · have c2 : (d == d') = false := beq_eq_false_iff_ne.2 e2
        have d2 : decide (d = d') = false := decide_eq_false e2
        clear e2
        by_cases e3 : d' = a
        · have c3 : (d' == a) = true := beq_iff_eq.2 e3
          have d3 : decide (d' = a) = true := decide_eq_true e3
          clear e3
          go_enter Try.func22, Try.ntmps22
          go_wp2
          go_quiet (fail)
          go_wp2
          go_ret
          exact ⟨ret_bool (by simp [c0, c1, c2, c3]), below_drewN (Below.refl _ _) _⟩
        · have c3 : (d' == a) = false := beq_eq_false_iff_ne.2 e3
          have d3 : decide (d' = a) = false := decide_eq_false e3
          clear e3
          by_cases e4 : d' = b
          · have c4 : (d' == b) = true := beq_iff_eq.2 e4
            have d4 : decide (d' = b) = true := decide_eq_true e4
            clear e4
            go_enter Try.func22, Try.ntmps22
            go_wp2
            go_quiet (fail)
            go_wp2
            go_ret
            exact ⟨ret_bool (by simp [c0, c1, c2, c3, c4]), below_drewN (Below.refl _ _) _⟩
          · have c4 : (d' == b) = false := beq_eq_false_iff_ne.2 e4
            have d4 : decide (d' = b) = false := decide_eq_false e4
            clear e4
            go_enter Try.func22, Try.ntmps22
            go_wp2
            go_quiet (fail)
            go_wp2
            go_ret
            exact ⟨ret_bool (by simp [c0, c1, c2, c3, c4]), below_drewN (Below.refl _ _) _⟩
end Go.Proofs.Ytgkpjeheoinpiaa.Wds
