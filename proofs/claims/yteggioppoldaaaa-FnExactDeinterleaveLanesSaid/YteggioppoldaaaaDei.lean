/-
  Lanes taken apart: the code's and the model's function; one contract each.
-/
import Derived.Test.YteggioppoldaaaaWea
import Derived.Test.YteggioppoldaaaaPush2
namespace Go.Proofs.Yteggioppoldaaaa.Wds
open Go.RowKit
set_option linter.unusedVariables false

/-- The relation of the loop that takes lanes apart. -/
def Parts (zl : List Int) (n B : Nat) (w5 : World) (ev od i : Value) (wr : World) : Prop :=
  ∃ k : Nat, k ≤ n ∧ i = .int .i64 (2 * k : Nat) ∧ wr.ownsRow B 2 1 ev k ((Ln.tab (fun i => zl.getD (2 * i) 0) k).map (Value.int .i64)) ∧ wr.ownsRow B 2 1 od k ((Ln.tab (fun i => zl.getD (2 * i + 1) 0) k).map (Value.int .i64)) ∧
    Sep ev od ∧ Below B w5 wr ∧ B ≤ wr.heap.size
set_option maxHeartbeats 1000000 in
theorem sDei_yes (b : Int) (A1 A2 : Option Addr) (n c1 c2 : Nat) (xs ys : List Int) (B1 B2 : Nat) (w : World) (hn : n ≤ 1048576) (hn0 : 0 < n) (h1 : Rd w B1 A1 n xs) (h2 : Rd w B2 A2 n ys) (hbo : Ln.both b xs ys = true) :
    Calls Try.prog 15 #[.int .i64 b, .slice A1 n c1, .slice A2 n c2] w (Ret2 (Ln.tab (fun i => (xs ++ ys).getD (2 * i) 0) n) (Ln.tab (fun i => (xs ++ ys).getD (2 * i + 1) 0) n) true w) := by
  obtain ⟨i0, hi, hz0, hz1, hz2⟩ := info_parts A_info64
  have k1 := sBoth_any b A1 A2 n n c1 c2 xs ys B1 B2 w hn hn h1 h2
  rw [hbo] at k1
  obtain ⟨g1, o1, rfl, _, _⟩ := h1.at_ hn0
  obtain ⟨g2, o2, rfl, _, _⟩ := h2.at_ hn0
  have C1 := Lib.hid k1
  have H1 := Lib.hid h1
  have H2 := Lib.hid h2
  obtain ⟨zl, hzl⟩ : ∃ zl, zl = xs ++ ys := ⟨_, rfl⟩
  rw [← hzl]
  have HZL := Lib.hid hzl
  clear h1 h2 k1 hbo hzl
  go_enter Try.func15, Try.ntmps15
  go_wp2_with fail
  refine C1.out.mono ?_
  rintro e w1 ⟨rfl, hb⟩
  have HB1 := Lib.hid hb; clear hb
  have HS1 := Lib.hid HB1.out.size
  go_wp2_with fail
  refine (sOwnR_any _ n _ xs B1 _ hn (H1.out.below HB1.out)).mono ?_
  rintro e w3 ⟨v3, rfl, hown, hb⟩
  have HO3 := Lib.hid hown
  have HB3 := Lib.hid (HB1.out.trans (hb.mono HB1.out.size))
  have HS3 := Lib.hid hb.size
  clear hown hb
  go_wp2_with (at_builtin; refine wpList_append_list _ rfl _ _ rfl i0 Try.underlying25 hi hz0 hz1 hz2 w1.heap.size _ n xs rfl HO3.out B2 _ _ _ ys rfl (H2.out.below HB3.out) (by intro h; cases h) (by omega) HS3.out ?_; intro v' w4 hown4 hb4; obtain ⟨g4, c4, rfl, hc4, ho4⟩ := own_some hown4 (by omega); have HO4 := Lib.hid ho4; have HB4 := Lib.hid (HB3.out.trans (hb4.mono HS1.out)); clear hown4 hb4 ho4)
  rw [← HZL.out] at HO4
  have HR := Lib.hid HO4.out.rd
  go_loopw [10, 11, 12] (fun ev od i wr => Parts zl n w4.heap.size w4 ev od i wr) (fun _ _ i _ => 2 * n - (intOf i).toNat)
  case atStart =>
    have hod : ((w4.alloc (.cells #[] 2)).alloc (.cells #[] 2)).ownsRow w4.heap.size 2 1 (.slice (some ⟨w4.heap.size + 1, 0, none⟩) 0 0) 0 (([] : List Int).map (Value.int .i64)) := by
      have h := owns_mono (B' := w4.heap.size) (owns_new (w4.alloc (.cells #[] 2))) (by simp)
      have e : (w4.alloc (.cells #[] 2)).heap.size = w4.heap.size + 1 := by simp
      rw [e] at h
      exact h
    refine ⟨0, Nat.zero_le _, rfl, (owns_new w4).alloc _, hod, ?_, ((Below.refl _ _).alloc (Nat.le_refl _) _).alloc (by simp) _, by simp; omega⟩
    intro r hr hr2
    simp [Value.ownBlock] at hr hr2
    omega
  case round =>
    obtain ⟨k, hk, rfl, he, ho, hsep, hb, hsz⟩ := hrel
    by_cases hlt : k < n
    · obtain ⟨g', o', e', _, hce⟩ := HR.out.at_ (k := 2 * k) (by omega)
      injection e' with e'
      injection e' with e1 e2
      subst e1; subst e2
      obtain ⟨g'', o'', e'', _, hco⟩ := HR.out.at_ (k := 2 * k + 1) (by omega)
      injection e'' with e''
      injection e'' with e1 e2
      subst e1; subst e2
      rw [Nat.zero_add] at hce hco
      have hde := (hb.cell (p := ⟨g4, 2 * k, none⟩) (World.block_lt_of_cell? w4 _ hce)).trans hce
      obtain ⟨x, hx⟩ : ∃ z, z = zl.getD (2 * k) 0 := ⟨_, rfl⟩
      obtain ⟨y, hy⟩ : ∃ z, z = zl.getD (2 * k + 1) 0 := ⟨_, rfl⟩
      rw [← hx] at hde
      rw [← hy] at hco
      have HE := Lib.hid he
      have HOD := Lib.hid ho
      have HSEP := Lib.hid hsep
      have HB := Lib.hid hb
      have HCO := Lib.hid hco
      have HX := Lib.hid (And.intro hx hy)
      obtain ⟨q, hq⟩ : ∃ q, q = 2 * k := ⟨_, rfl⟩
      have hq1 : q + 1 < n + n := by omega
      have hq2 : q < n + n := by omega
      rw [← hq] at hde
      rw [← hq]
      have HQ := Lib.hid hq
      have HCQ := Lib.hid (show w4.cell? ⟨g4, q + 1, none⟩ = some (.int .i64 y) by rw [hq]; exact hco)
      clear he ho hsep hb hco hce hx hy hq
      go_wp2_with (first | (at_builtin; refine wpList_push2 _ rfl (.tmp 30) _ rfl i0 Try.underlying25 hi hz0 hz1 hz2 _ _ _ _ _ rfl HE.out rfl (by omega) hsz ?_; intro v' w5 hown1 hb5 hoth; have HE1 := Lib.hid hown1; have HB5 := Lib.hid (HB.out.trans hb5); have hdo := (HB5.out.cell (p := ⟨g4, q + 1, none⟩) (World.block_lt_of_cell? w4 _ HCQ.out)).trans HCQ.out; have hsz5 := Nat.le_trans hsz hb5.size; have HOD1 := Lib.hid (hoth.out _ _ _ HOD.out HSEP.out.symm); clear hown1 hb5 hoth) | (at_builtin; refine wpList_push2 _ rfl (.tmp 37) _ rfl i0 Try.underlying25 hi hz0 hz1 hz2 _ _ _ _ _ rfl HOD1.out.1 rfl (by omega) hsz5 ?_; intro v'' w6 hown1 hb6 hoth; have HOD2 := Lib.hid hown1; have HB6 := Lib.hid (HB5.out.trans hb6); have hsz6 := Nat.le_trans hsz5 hb6.size; have HE2 := Lib.hid (hoth.out _ _ _ HE1.out HOD1.out.2.symm); clear hown1 hb6 hoth))
      go_roundw
      case rel =>
        obtain ⟨a, b⟩ := HX.out
        have hq := HQ.out
        refine ⟨k + 1, by omega, by rw [hq]; go_num, ?_, ?_, HE2.out.2, HB6.out, hsz6⟩
        · have := HE2.out.1
          rw [a] at this
          rw [Ln.tab_succ]
          exact this
        · have := HOD2.out
          rw [b] at this
          rw [Ln.tab_succ]
          exact this
      case measure => simp [intOf]; omega
    · have hkn : k = n := by omega
      subst hkn
      obtain ⟨ge, ce, rfl, hce, hoe⟩ := own_some he hn0
      obtain ⟨go, co, rfl, hco, hoo⟩ := own_some ho hn0
      have q0 : ((2 * k : Nat) : Int) = ((k + k : Nat) : Int) := by omega
      have HF := Lib.hid (And.intro hoe (And.intro hoo (And.intro hsep hb)))
      have HSZ := Lib.hid HB4.out.size
      obtain ⟨q, hq⟩ : ∃ q, q = 2 * k := ⟨_, rfl⟩
      have q1 : ¬ q < k + k := by omega
      rw [← hq]
      clear hoe hoo hsep hb he ho q0 hq
      go_wp2
      go_ret3
      obtain ⟨hoe, hoo, hsep, hb⟩ := HF.out
      refine ⟨_, k, ce, _, k, co, rfl, hoe.more HSZ.out (Nat.le_refl _), hoo.more HSZ.out (Nat.le_refl _), ?_, hn, hn, HB4.out.trans (hb.mono HSZ.out)⟩
      intro g o g' o' e e'
      injection e with e
      injection e with e1 _
      injection e' with e'
      injection e' with e1' _
      refine .inl fun hh => ?_
      exact hsep ge rfl (by rw [show ge = go by omega]; rfl)
theorem sDeinterleaveLanes_any (b : Int) (A1 : Option Addr) (n1 c1 : Nat) (xs : List Int) (B1 : Nat) (A2 : Option Addr) (n2 c2 : Nat) (ys : List Int) (B2 : Nat) (w : World)
    (hn1 : n1 ≤ 1048576) (hn2 : n2 ≤ 1048576) (h1 : Rd w B1 A1 n1 xs) (h2 : Rd w B2 A2 n2 ys) :
    Calls Try.prog 15 #[.int .i64 b, .slice A1 n1 c1, .slice A2 n2 c2] w (Ret2 (Ln.deinterleave b xs ys).1 (Ln.deinterleave b xs ys).2.1 (Ln.deinterleave b xs ys).2.2 w) := by
  unfold Ln.deinterleave
  by_cases hbo : Ln.both b xs ys = true
  · obtain ⟨f1, f2, f3⟩ := Ln.both_len hbo
    have g1 := h1.len
    have g2 := h2.len
    obtain rfl : n2 = n1 := by omega
    rw [hbo, g1]
    exact sDei_yes b A1 A2 n2 c1 c2 xs ys B1 B2 w hn1 (by have := Ln.vec_len f2; omega) h1 h2 hbo
  · have hb' : Ln.both b xs ys = false := by simpa using hbo
    have k1 := sBoth_any b A1 A2 n1 n2 c1 c2 xs ys B1 B2 w hn1 hn2 h1 h2
    rw [hb'] at k1
    rw [hb']
    have C1 := Lib.hid k1
    clear k1 h1 h2 hbo hb'
    go_enter Try.func15, Try.ntmps15
    go_wp2_with fail
    refine C1.out.mono ?_
    rintro e w1 ⟨rfl, hb⟩
    have HB := Lib.hid hb; clear hb
    go_wp2_with fail
    go_ret3
    exact Ret2.no HB.out
theorem run_mk (n : Nat) (hn : n ≤ 1048576) (W : World) : (Instr.makeSlice 25 (.int .i64 (n : Int)) (.int .i64 (n : Int))).run Try.prog W = .ok (.slice (some ⟨W.heap.size, 0, none⟩) n n) (W.alloc (.cells (clls (List.replicate n 0)) 2)) := by
  obtain ⟨i0, hi, hz0, hz1, hz2⟩ := info_parts A_info64
  have hrun := run_make (P := Try.prog) W 25 2 i0 (.int .i64 0) Try.underlying25 hi hz0 .i64 .i64 (n : Int) (n : Int) (by omega) (by omega) (by rw [hz2]; omega) (by omega)
  have e : madeCells (Value.int .i64 0).cells ((n : Int).toNat * i0.size) = clls (List.replicate n 0) := by
    rw [hz1, ← clls_zero]
    apply Array.ext
    · simp [madeCells]
    · intro j hj1 hj2
      simp [madeCells, Value.cells, Nat.mod_one]
  rw [e] at hrun
  rw [hrun, Int.toNat_natCast]
theorem two_blk (w : World) (cs : Array Value) : Blk ((w.alloc (.cells cs 2)).alloc (.cells cs 2)) w.heap.size cs ∧ Blk ((w.alloc (.cells cs 2)).alloc (.cells cs 2)) (w.heap.size + 1) cs := by
  refine ⟨(Blk.new w cs).alloc _, ?_⟩
  have h := Blk.new (w.alloc (.cells cs 2)) cs
  have e : (w.alloc (.cells cs 2)).heap.size = w.heap.size + 1 := by simp
  rw [e] at h
  exact h
/-- The relation of the loop that takes lanes apart: two blocks that are filled. -/
def Parts2 (zl : List Int) (n ge go : Nat) (w2 : World) (i : Value) (wr : World) : Prop :=
  ∃ k : Nat, k ≤ n ∧ i = .int .i64 k ∧ Blk wr ge (clls (Ln.fill (fun i => zl.getD (2 * i) 0) n k)) ∧ Blk wr go (clls (Ln.fill (fun i => zl.getD (2 * i + 1) 0) n k)) ∧ Below w2.heap.size w2 wr
set_option maxHeartbeats 1000000 in
theorem iDei_yes (b : Int) (A1 A2 : Option Addr) (n c1 c2 : Nat) (xs ys : List Int) (B1 B2 : Nat) (w : World) (hn : n ≤ 1048576) (hn0 : 0 < n) (h1 : Rd w B1 A1 n xs) (h2 : Rd w B2 A2 n ys) (hbo : Ln.both b xs ys = true) :
    Calls Try.prog 11 #[.int .i64 b, .slice A1 n c1, .slice A2 n c2] w (Ret2 (Ln.tab (fun i => (xs ++ ys).getD (2 * i) 0) n) (Ln.tab (fun i => (xs ++ ys).getD (2 * i + 1) 0) n) true w) := by
  have k1 := areVec_any b A1 A2 n n c1 c2 xs ys B1 B2 w hn hn h1 h2
  rw [hbo] at k1
  obtain ⟨g1, o1, rfl, _, _⟩ := h1.at_ hn0
  obtain ⟨g2, o2, rfl, _, _⟩ := h2.at_ hn0
  have hll : (xs ++ ys).length = n + n := by rw [List.length_append, h1.len, h2.len]
  have C1 := Lib.hid k1
  have H1 := Lib.hid h1
  have H2 := Lib.hid h2
  have CJ := Lib.hid (fun W hb => joined_any ⟨g1, o1, none⟩ ⟨g2, o2, none⟩ n n c1 c2 xs ys B1 B2 W hn hn hn0 (h1.below hb) (h2.below hb))
  obtain ⟨zl, hzl⟩ : ∃ zl, zl = xs ++ ys := ⟨_, rfl⟩
  rw [← hzl] at hll CJ
  rw [← hzl]
  have HLL := Lib.hid hll
  have hmk := run_mk n hn
  clear h1 h2 k1 hbo hzl hll
  go_enter Try.func11, Try.ntmps11
  go_wp2_with fail
  refine C1.out.mono ?_
  rintro e w1 ⟨rfl, hb⟩
  have HB1 := Lib.hid hb; clear hb
  have HS1 := Lib.hid HB1.out.size
  go_wp2_with fail
  refine (CJ.out _ HB1.out).mono ?_
  rintro e w2 ⟨gj, rfl, hblk, hgj, hb⟩
  have HJ := Lib.hid hblk
  have HB2 := Lib.hid (HB1.out.trans (hb.mono HS1.out))
  clear hblk hgj hb
  go_wp2
  go_region
  · go_wp2
    go_loopw [29] (fun i wr => Parts2 zl n (w2.heap.size) (w2.heap.size + 1) w2 i wr) (fun i _ => n - (intOf i).toNat)
    case atStart =>
      refine ⟨0, Nat.zero_le _, rfl, ?_, ?_, ((((Below.refl _ _).alloc (Nat.le_refl _) _).alloc (by simp) _).drew)⟩
      · rw [Ln.fill_zero]; exact (two_blk w2 _).1.drew
      · rw [Ln.fill_zero]; exact (two_blk w2 _).2.drew
    case round =>
      obtain ⟨k, hk, rfl, hbe, hbo, hb⟩ := hrel
      by_cases hlt : k < n
      · have hj0 := (HJ.out.below hb HJ.out.lt).cell (2 * k)
        have hj1 := (HJ.out.below hb HJ.out.lt).cell (2 * k + 1)
        rw [clls_get (by rw [HLL.out]; omega)] at hj0 hj1
        obtain ⟨x, hx⟩ : ∃ z, z = zl.getD (2 * k) 0 := ⟨_, rfl⟩
        obtain ⟨y, hy⟩ : ∃ z, z = zl.getD (2 * k + 1) 0 := ⟨_, rfl⟩
        rw [← hx] at hj0
        rw [← hy] at hj1
        have hce := hbe.has hk hlt
        have hco := hbo.has hk hlt
        have hfe := hbe.frozen k
        have hfo := hbo.frozen k
        obtain ⟨v0, hv0⟩ : ∃ z, z = (Ln.fill (fun i => zl.getD (2 * i) 0) n k).getD k 0 := ⟨_, rfl⟩
        obtain ⟨v1, hv1⟩ : ∃ z, z = (Ln.fill (fun i => zl.getD (2 * i + 1) 0) n k).getD k 0 := ⟨_, rfl⟩
        rw [← hv0] at hce
        rw [← hv1] at hco
        have hne : w2.heap.size ≠ w2.heap.size + 1 := by omega
        have HE := Lib.hid (((hbe.set_ k (.int .i64 x)).far (p := ⟨w2.heap.size + 1, k, none⟩) hne (.int .i64 y)).drew)
        have HO := Lib.hid (((hbo.far (p := ⟨w2.heap.size, k, none⟩) (Ne.symm hne) (.int .i64 x)).set_ k (.int .i64 y)).drew)
        have HB := Lib.hid (((hb.setCell (p := ⟨w2.heap.size, k, none⟩) (by simp) (.int .i64 x)).setCell (p := ⟨w2.heap.size + 1, k, none⟩) (by simp) (.int .i64 y)).drew)
        have HX := Lib.hid (And.intro hx hy)
        have i1 : (0 : Int) ≤ (k : Int) := by omega
        have i2 : (k : Int) < (n : Int) := by omega
        have i3 : 2 * (k : Int) < ((n + n : Nat) : Int) := by omega
        have i4 : 2 * (k : Int) + 1 < ((n + n : Nat) : Int) := by omega
        clear hx hy hv0 hv1 hbe hbo hb hne
        go_wp2
        go_region
        all_goals go_wp2
        all_goals go_roundw
        case rel =>
          obtain ⟨a, b⟩ := HX.out
          have he := HE.out
          have ho := HO.out
          have f1 := Ln.fill_set (fun i => zl.getD (2 * i) 0) n k hlt
          have f2 := Ln.fill_set (fun i => zl.getD (2 * i + 1) 0) n k hlt
          rw [clls_set, a, f1, ← a] at he
          rw [clls_set, b, f2, ← b] at ho
          exact ⟨k + 1, by omega, by go_num, he, ho, HB.out⟩
        case measure => simp [intOf]; omega
      · have hkn : k = n := by omega
        subst hkn
        have HF := Lib.hid (And.intro hbe (And.intro hbo hb))
        clear hbe hbo hb
        go_wp2
        go_ret3
        obtain ⟨he, ho, hb⟩ := HF.out
        rw [Ln.fill_all] at he ho
        exact Ret2.mk_ (lo := w2.heap.size) (hi := w2.heap.size + 1) (lo' := w2.heap.size + 1) (hi' := w2.heap.size + 1 + 1) ⟨Ln.tab_len _ _, fun _ => ⟨_, 0, _, rfl, Nat.le_refl _, Nat.lt_succ_self _, he, fun j z hz => by rw [Nat.zero_add, clls_at, hz]; rfl⟩⟩ ⟨Ln.tab_len _ _, fun _ => ⟨_, 0, _, rfl, Nat.le_refl _, Nat.lt_succ_self _, ho, fun j z hz => by rw [Nat.zero_add, clls_at, hz]; rfl⟩⟩ (by omega) (Nat.le_trans HB2.out.size (by simp)) (Nat.le_trans HB2.out.size (by simp)) he.lt ho.lt hn hn hn0 hn0 (HB2.out.trans (hb.mono HB2.out.size))
  · go_wp2
    go_loopw [29] (fun i wr => Parts2 zl n (w2.heap.size + 1) (w2.heap.size) w2 i wr) (fun i _ => n - (intOf i).toNat)
    case atStart =>
      refine ⟨0, Nat.zero_le _, rfl, ?_, ?_, ((((Below.refl _ _).alloc (Nat.le_refl _) _).alloc (by simp) _).drew)⟩
      · rw [Ln.fill_zero]; exact (two_blk w2 _).2.drew
      · rw [Ln.fill_zero]; exact (two_blk w2 _).1.drew
    case round =>
      obtain ⟨k, hk, rfl, hbe, hbo, hb⟩ := hrel
      by_cases hlt : k < n
      · have hj0 := (HJ.out.below hb HJ.out.lt).cell (2 * k)
        have hj1 := (HJ.out.below hb HJ.out.lt).cell (2 * k + 1)
        rw [clls_get (by rw [HLL.out]; omega)] at hj0 hj1
        obtain ⟨x, hx⟩ : ∃ z, z = zl.getD (2 * k) 0 := ⟨_, rfl⟩
        obtain ⟨y, hy⟩ : ∃ z, z = zl.getD (2 * k + 1) 0 := ⟨_, rfl⟩
        rw [← hx] at hj0
        rw [← hy] at hj1
        have hce := hbe.has hk hlt
        have hco := hbo.has hk hlt
        have hfe := hbe.frozen k
        have hfo := hbo.frozen k
        obtain ⟨v0, hv0⟩ : ∃ z, z = (Ln.fill (fun i => zl.getD (2 * i) 0) n k).getD k 0 := ⟨_, rfl⟩
        obtain ⟨v1, hv1⟩ : ∃ z, z = (Ln.fill (fun i => zl.getD (2 * i + 1) 0) n k).getD k 0 := ⟨_, rfl⟩
        rw [← hv0] at hce
        rw [← hv1] at hco
        have hne : w2.heap.size + 1 ≠ w2.heap.size := by omega
        have HE := Lib.hid (((hbe.set_ k (.int .i64 x)).far (p := ⟨w2.heap.size, k, none⟩) hne (.int .i64 y)).drew)
        have HO := Lib.hid (((hbo.far (p := ⟨w2.heap.size + 1, k, none⟩) (Ne.symm hne) (.int .i64 x)).set_ k (.int .i64 y)).drew)
        have HB := Lib.hid (((hb.setCell (p := ⟨w2.heap.size + 1, k, none⟩) (by simp) (.int .i64 x)).setCell (p := ⟨w2.heap.size, k, none⟩) (by simp) (.int .i64 y)).drew)
        have HX := Lib.hid (And.intro hx hy)
        have i1 : (0 : Int) ≤ (k : Int) := by omega
        have i2 : (k : Int) < (n : Int) := by omega
        have i3 : 2 * (k : Int) < ((n + n : Nat) : Int) := by omega
        have i4 : 2 * (k : Int) + 1 < ((n + n : Nat) : Int) := by omega
        clear hx hy hv0 hv1 hbe hbo hb hne
        go_wp2
        go_region
        all_goals go_wp2
        all_goals go_roundw
        case rel =>
          obtain ⟨a, b⟩ := HX.out
          have he := HE.out
          have ho := HO.out
          have f1 := Ln.fill_set (fun i => zl.getD (2 * i) 0) n k hlt
          have f2 := Ln.fill_set (fun i => zl.getD (2 * i + 1) 0) n k hlt
          rw [clls_set, a, f1, ← a] at he
          rw [clls_set, b, f2, ← b] at ho
          exact ⟨k + 1, by omega, by go_num, he, ho, HB.out⟩
        case measure => simp [intOf]; omega
      · have hkn : k = n := by omega
        subst hkn
        have HF := Lib.hid (And.intro hbe (And.intro hbo hb))
        clear hbe hbo hb
        go_wp2
        go_ret3
        obtain ⟨he, ho, hb⟩ := HF.out
        rw [Ln.fill_all] at he ho
        exact Ret2.mk_ (lo := w2.heap.size + 1) (hi := w2.heap.size + 1 + 1) (lo' := w2.heap.size) (hi' := w2.heap.size + 1) ⟨Ln.tab_len _ _, fun _ => ⟨_, 0, _, rfl, Nat.le_refl _, Nat.lt_succ_self _, he, fun j z hz => by rw [Nat.zero_add, clls_at, hz]; rfl⟩⟩ ⟨Ln.tab_len _ _, fun _ => ⟨_, 0, _, rfl, Nat.le_refl _, Nat.lt_succ_self _, ho, fun j z hz => by rw [Nat.zero_add, clls_at, hz]; rfl⟩⟩ (by omega) (Nat.le_trans HB2.out.size (by simp)) (Nat.le_trans HB2.out.size (by simp)) he.lt ho.lt hn hn hn0 hn0 (HB2.out.trans (hb.mono HB2.out.size))
theorem iDeinterleaveLanes_any (b : Int) (A1 : Option Addr) (n1 c1 : Nat) (xs : List Int) (B1 : Nat) (A2 : Option Addr) (n2 c2 : Nat) (ys : List Int) (B2 : Nat) (w : World)
    (hn1 : n1 ≤ 1048576) (hn2 : n2 ≤ 1048576) (h1 : Rd w B1 A1 n1 xs) (h2 : Rd w B2 A2 n2 ys) :
    Calls Try.prog 11 #[.int .i64 b, .slice A1 n1 c1, .slice A2 n2 c2] w (Ret2 (Ln.deinterleave b xs ys).1 (Ln.deinterleave b xs ys).2.1 (Ln.deinterleave b xs ys).2.2 w) := by
  unfold Ln.deinterleave
  by_cases hbo : Ln.both b xs ys = true
  · obtain ⟨f1, f2, f3⟩ := Ln.both_len hbo
    have g1 := h1.len
    have g2 := h2.len
    obtain rfl : n2 = n1 := by omega
    rw [hbo, g1]
    exact iDei_yes b A1 A2 n2 c1 c2 xs ys B1 B2 w hn1 (by have := Ln.vec_len f2; omega) h1 h2 hbo
  · have hb' : Ln.both b xs ys = false := by simpa using hbo
    have k1 := areVec_any b A1 A2 n1 n2 c1 c2 xs ys B1 B2 w hn1 hn2 h1 h2
    rw [hb'] at k1
    rw [hb']
    have C1 := Lib.hid k1
    clear k1 h1 h2 hbo hb'
    go_enter Try.func11, Try.ntmps11
    go_wp2_with fail
    refine C1.out.mono ?_
    rintro e w1 ⟨rfl, hb⟩
    have HB := Lib.hid hb; clear hb
    go_wp2_with fail
    go_ret3
    exact Ret2.no HB.out
end Go.Proofs.Yteggioppoldaaaa.Wds
