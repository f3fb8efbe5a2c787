/-
  FewestSpills: the code's function: a loop over an iterator of sets. One contract.
-/
import Derived.Test.YtfmplneopmbfoaaDoorSubI
import Derived.Test.YtfmplneopmbfoaaDoorCmpC
import Derived.Test.YtfmplneopmbfoaaDoorWidth
import Derived.Test.YtfmplneopmbfoaaDoorSpM
import Derived.Test.YtfmplneopmbfoaaDoorTailI
import Derived.Test.YtfmplneopmbfoaaDoorBxM
namespace Go.Proofs.YtfmplneopmbfoaaDoor.Wds
open Go.RowKit Go.Shelf
attribute [local go_sem] Oper.semAt_some
set_option linter.unusedVariables false

theorem widS_wid {ss : List Rg.R} (h : ss.length ≤ 32) (s k : Nat) : widS ss ss.length s k = Sp.wid ss s k := by
  induction k with
  | zero => rfl
  | succ k ih => rw [widS, Sp.wid, ih, Sp.diff_setOf, Rg.pop_setOf _ h]
/-- What holds in a round: the set's box at g, the crowds' box at gc. -/
structure SpR (w W0 W : World) (g gc gk Bs n₀ n : Nat) (b : Nat) (wr : World) : Prop where
  b1 : Bx wr g 49 #[.int .u32 (b : Int)]
  b2 : Bx wr gc 50 #[.slice (some ⟨gk, 0, none⟩) n n]
  kp : KpB Bs n₀ W wr
  kf : KeepsFrom W0.heap.size W wr
  hb : Below w.heap.size w wr
  hs : W0.heap.size ≤ wr.heap.size
theorem SpR.keep {w W0 W : World} {g gc gk Bs n₀ n : Nat} {b : Nat} {wr wr' : World} (h : SpR w W0 W g gc gk Bs n₀ n b wr) (hn : n₀ ≤ W.heap.size) (hk : Below wr.heap.size wr wr') : SpR w W0 W g gc gk Bs n₀ n b wr' :=
  ⟨h.b1.keep hk, h.b2.keep hk, h.kp.trans (KpB.of hk (Nat.le_trans hn h.kp.h.size)), h.kf.trans (keepsFrom_of hk), h.hb.trans (hk.mono h.hb.size), Nat.le_trans h.hs hk.size⟩
theorem SpR.set {w W0 W : World} {g gc gk Bs n₀ n : Nat} {b : Nat} {wr : World} (h : SpR w W0 W g gc gk Bs n₀ n b wr) (h1 : gc ≠ g) (h4 : Bs ≠ g) (h5 : n₀ ≤ g) (h6 : w.heap.size ≤ g) (z : Nat) : SpR w W0 W g gc gk Bs n₀ n z (wr.setCell ⟨g, 0, none⟩ (.int .u32 (z : Int))) :=
  ⟨by have := h.b1.set_ 0 (.int .u32 (z : Int)); simpa using this, h.b2.far (p := ⟨g, 0, none⟩) h1 _, h.kp.set (p := ⟨g, 0, none⟩) h5 h4 _, h.kf.trans ((KeepsOthers.setCell _ _ _).from _), h.hb.setCell (p := ⟨g, 0, none⟩) h6 _, by simpa [World.setCell] using h.hs⟩
set_option maxRecDepth 100000 in
set_option maxHeartbeats 4000000 in
theorem iFewestSpills_any (A : Option Addr) (n c : Nat) (ss : List Rg.R) (B : Nat) (r : Int) (w : World) (hn : n ≤ 1048576) (h : RdG w B A n ss) (hTab : TabT w) :
    Calls Tryd.prog 13 #[.slice A n c, .int .i64 r] w (Ret1 (Sp.fewestOf ss r).1 (Sp.fewestOf ss r).2 w) := by
  have CV := Lib.hid (fun (W : World) (hb : Below w.heap.size w W) => iValidRanges_any A n c ss B W hn (h.below hb))
  have CR := Lib.hid (fun W => isReg_any r W)
  have hl := h.len
  obtain ⟨v, hv⟩ : ∃ z, z = Rg.valid ss := ⟨_, rfl⟩
  obtain ⟨q, hq⟩ : ∃ z, z = Sp.isReg r := ⟨_, rfl⟩
  unfold Sp.fewestOf
  rw [← hv] at CV
  rw [← hv, ← hq]
  rw [show decide (0 ≤ r ∧ r ≤ 12) = Sp.isReg r from rfl, ← hq] at CR
  have H := Lib.hid h
  have HT := Lib.hid hTab
  clear h hTab
  have HB0 := Lib.hid ((Below.refl w.heap.size w).alloc (Nat.le_refl _) (.cells #[.int .i64 r] 2))
  have k0 := Bx.new w 2 #[.int .i64 r]
  have c0 := k0.cell 0
  cases v
  · clear hv hq k0
    go_enter Tryd.func13, Tryd.ntmps13
    go_wp2_with fail
    refine (CV.out _ HB0.out).mono ?_
    rintro e w1 ⟨rfl, hb⟩
    have HB1 := Lib.hid (HB0.out.trans (hb.mono HB0.out.size)); clear hb
    go_wp2
    go_ret2
    exact Ret1.no HB1.out
  cases q
  · clear hv hq
    go_enter Tryd.func13, Tryd.ntmps13
    go_wp2_with fail
    refine (CV.out _ HB0.out).mono ?_
    rintro e w1 ⟨rfl, hb⟩
    have HB1 := Lib.hid (HB0.out.trans (hb.mono HB0.out.size))
    have c1 := (k0.keep hb).cell 0
    clear hb
    go_wp2_with fail
    refine (CR.out _).mono ?_
    rintro e w2 ⟨rfl, hb⟩
    have HB2 := Lib.hid (HB1.out.trans (hb.mono HB1.out.size)); clear hb
    go_wp2
    go_ret2
    exact Ret1.no HB2.out
  · rw [if_pos (show (true && true) = true from rfl)]
    have hvv : Rg.valid ss = true := hv.symm
    have hn12 : n ≤ 12 := by rw [← hl]; exact Rg.len_of_valid hvv
    have HF := Lib.hid (show Sp.fewest ss r = Sc.memsI (Sp.bst (Sp.okW ss r) (2 ^ n - 1) (Sp.down (2 ^ n) (2 ^ n))) by rw [Sp.fewest_down, hl])
    have HOK := Lib.hid (fun k => (show Sp.okW ss r k = decide (((widS ss n k n : Nat) : Int) ≤ r) by rw [Sp.okW, ← hl, widS_wid (by omega)]))
    obtain ⟨N, hN⟩ : ∃ N : Nat, N = 2 ^ n := ⟨_, rfl⟩
    have hN1 : 1 ≤ N := by rw [hN]; exact Nat.one_le_two_pow
    have hN2 : N ≤ 4096 := by rw [hN]; exact Nat.pow_le_pow_right (n := 2) (j := 12) (by decide) hn12
    have CO := Lib.hid (fun W => ones_any n W (by omega))
    rw [← hN] at HF CO
    have HN := Lib.hid hN
    have HLT := Lib.hid (fun l (hl : ∀ s ∈ l, s < N) => (show Sp.bst (Sp.okW ss r) (N - 1) l < 4294967296 from Nat.lt_of_lt_of_le (Sp.bst_lt (N := N) (by omega) hl) (by omega)))
    obtain ⟨M, hM⟩ : ∃ M, M = N - 1 := ⟨_, rfl⟩
    rw [← hM] at HF HLT CO
    have HM := Lib.hid hM
    clear hv hq hl hvv hN hM
    refine (callsIn_wide (n := 8)).1 ?_
    refine callsIn_of_wp_marks Tryd.func13 rfl trivial ?_ rfl
    simp only [Tryd.ntmps13, List.size_toArray, List.length_cons, List.length_nil, Nat.reduceAdd, Nat.reduceSub, Array.replicate_succ, Array.replicate_zero, List.push_toArray, List.append_toArray, List.nil_append, List.cons_append]
    gi_wp2_with (refine ⟨trivial, ?_⟩; gi_at_call 12; refine (callsIn_wide.2 (CV.out _ HB0.out)).mono ?_; rintro e w1 ⟨rfl, hb⟩; have k1 := k0.keep hb; have c1 := k1.cell 0; have HB1 := Lib.hid (HB0.out.trans (hb.mono HB0.out.size)); clear hb c0)
    gi_wp2_with (refine ⟨trivial, ?_⟩; gi_at_call 28; refine (callsIn_wide.2 (CR.out _)).mono ?_; rintro e w2 ⟨rfl, hb⟩; have hb1 := hb; clear hb)
    have k2 := k1.keep hb1
    have HB2 := Lib.hid (HB1.out.trans (hb1.mono HB1.out.size)); clear hb1 c1 k1 k0
    have CC := Lib.hid (crowds_any A n c ss B w2 (H.out.below HB2.out) hn12)
    gi_wp2_with (refine ⟨trivial, ?_⟩; gi_at_call 27; refine (callsIn_wide.2 CC.out).mono ?_; rintro e w3 ⟨gk, rfl, hgk, hbk, hb⟩; have hb1 := hb; clear hb)
    have k3 := k2.keep hb1
    have HB3 := Lib.hid (HB2.out.trans (hb1.mono HB2.out.size)); clear hb1 k2 CC
    gi_wp2_with (refine ⟨trivial, ?_⟩; gi_at_call 29; refine (callsIn_wide.2 (CO.out _)).mono ?_; rintro e w4 ⟨rfl, rfl⟩)
    gi_wp2_with (refine ⟨trivial, ?_⟩; gi_at_call 40; refine (subs Fence.wide _ trivial rfl _ _).mono ?_; rintro e w5 ⟨rfl, rfl⟩)
    have q1 : Bx (((w3.alloc (.cells #[.slice (some ⟨gk, 0, none⟩) n n] 50)).alloc (.cells #[.int .u32 (M : Int)] 49)).alloc (.cells #[.int .u32 (M : Int)] 49)) (w3.heap.size + 1) 49 #[.int .u32 (M : Int)] := by
      have := (Bx.new (w3.alloc (.cells #[.slice (some ⟨gk, 0, none⟩) n n] 50)) 49 #[.int .u32 (M : Int)]).alloc (.cells #[.int .u32 (M : Int)] 49)
      rw [World.size_alloc] at this
      exact this
    have q2 : Bx (((w3.alloc (.cells #[.slice (some ⟨gk, 0, none⟩) n n] 50)).alloc (.cells #[.int .u32 (M : Int)] 49)).alloc (.cells #[.int .u32 (M : Int)] 49)) w3.heap.size 50 #[.slice (some ⟨gk, 0, none⟩) n n] := ((Bx.new w3 _ _).alloc _).alloc _
    have q3 : (((w3.alloc (.cells #[.slice (some ⟨gk, 0, none⟩) n n] 50)).alloc (.cells #[.int .u32 (M : Int)] 49)).alloc (.cells #[.int .u32 (M : Int)] 49)).cell? ⟨w3.heap.size + 1 + 1, 0, none⟩ = some (.int .u32 (M : Int)) := by
      have q := (Boxed.new ((w3.alloc (.cells #[.slice (some ⟨gk, 0, none⟩) n n] 50)).alloc (.cells #[.int .u32 (M : Int)] 49)) 49 (.int .u32 (M : Int))).cell
      simpa using q
    have hb0 : Below w3.heap.size w3 (((w3.alloc (.cells #[.slice (some ⟨gk, 0, none⟩) n n] 50)).alloc (.cells #[.int .u32 (M : Int)] 49)).alloc (.cells #[.int .u32 (M : Int)] 49)) := (((Below.refl _ _).alloc (Nat.le_refl _) _).alloc (by simp) _).alloc (by simp; omega) _
    have hsz : (((w3.alloc (.cells #[.slice (some ⟨gk, 0, none⟩) n n] 50)).alloc (.cells #[.int .u32 (M : Int)] 49)).alloc (.cells #[.int .u32 (M : Int)] 49)).heap.size = w3.heap.size + 3 := by simp
    obtain ⟨W0, hW0⟩ : ∃ W0, (((w3.alloc (.cells #[.slice (some ⟨gk, 0, none⟩) n n] 50)).alloc (.cells #[.int .u32 (M : Int)] 49)).alloc (.cells #[.int .u32 (M : Int)] 49)) = W0 := ⟨_, rfl⟩
    rw [hW0] at hb0 q1 q2 q3 hsz ⊢
    clear hW0
    have hgk3 := hbk.lt
    have HK := Lib.hid hbk
    have HR3 := Lib.hid k3
    clear hbk k3
    have hstops := subs_stops Fence.wide (8 - 1) trivial rfl (by omega) (w3.heap.size + 1 + 1) w3.heap.size n N (by omega) HN.out W0 (by omega) (by rw [← HM.out]; exact q3)
    refine wpIn_rangeFunc_ownH rfl (by omega) (gf := 59) (lb := #[.pointer (some ⟨w3.heap.size + 1 + 1, 0, none⟩)]) rfl trivial (enters_of Tryd.func59 (by kernel_rfl) rfl)
      hstops KpB.trans (kpB_b (by omega)) (Below.refl _ _) (fun _ => rfl)
      (fun pre W => ((W.heap[w3.heap.size + 1]? = some (.cells #[.int .u32 ((Sp.bst (Sp.okW ss r) M (pre.map (·.1)) : Nat) : Int)] 49 (0, 0)) ∧ W.heap[w3.heap.size]? = some (.cells #[.slice (some ⟨gk, 0, none⟩) n n] 50 (0, 0))) ∧ Below w3.heap.size w3 W) ∧ W0.heap.size ≤ W.heap.size)
      (fun _ _ _ => False)
      (OwnFrom.and (OwnFrom.and (OwnFrom.and (Own.from (blk_own _ _ _) _) (Own.from (blk_own _ _ _) _)) (ownFrom_below (Nat.le_refl _) (by omega))) (fun _ _ _ _ hs hg _ => Nat.le_trans hs hg.size))
      (fun _ _ _ _ _ hs _ _ => hs)
      ⟨⟨⟨q1, q2⟩, hb0⟩, Nat.le_refl _⟩
      (fun x a' W => a' = { tmps := #[.slice A n c, .int .i64 r, undef, .pointer (some ⟨w.heap.size, 0, none⟩), .slice none 0 0, .bool false, .pointer (some ⟨w3.heap.size, 0, none⟩), .int .u32 (M : Int), .pointer (some ⟨w3.heap.size + 1, 0, none⟩), .int .u32 ((x.1 : Nat) : Int), .slice A n c, .bool true, .bool false, .bool false, .int .i64 r, .bool true, .bool false, .bool false, .slice A n c, .slice (some ⟨gk, 0, none⟩) n n, .slice A n c, .int .i64 n, .int .u32 (M : Int), .int .u32 (M : Int), .int .u32 (M : Int), .func (.func 59) #[] #[.pointer (some ⟨w3.heap.size + 1 + 1, 0, none⟩)], .int .u32 ((x.1 : Nat) : Int), undef, undef, undef, undef, undef, undef, undef, undef, undef, undef, undef, undef, undef], defers := [] })
      (fun x a' _ X Y row hs hg hr => hs)
      ?assign ?body ?done ?stop
    case assign =>
      rintro l pre x W K ⟨⟨⟨b1, b2⟩, hB⟩, hS⟩ hK
      gi_wp2
      exact hK _ _ (KeepsFrom.refl _ _) (KpB.refl _ _ _) ⟨⟨⟨b1, b2⟩, hB⟩, hS⟩ rfl
    case body =>
      rintro l pre ⟨j, hj⟩ a' W hl ⟨rr, hr⟩ ⟨⟨⟨b1, b2⟩, hB⟩, hS⟩ rfl hlt
      dsimp only
      have hbs := HLT.out (pre.map (·.1)) (fun s hs => by obtain ⟨y, _, rfl⟩ := List.mem_map.1 hs; exact y.2)
      have HNX := Lib.hid (Sp.bst_snoc (Sp.okW ss r) M (pre.map (·.1)) j)
      obtain ⟨b, hbb⟩ : ∃ b, b = Sp.bst (Sp.okW ss r) M (pre.map (·.1)) := ⟨_, rfl⟩
      rw [← hbb] at b1 hbs HNX
      clear hbb
      have R0 : SpR w3 W0 W (w3.heap.size + 1) w3.heap.size gk (w3.heap.size + 1 + 1) w3.heap.size n b W := ⟨b1, b2, KpB.of (Below.refl _ _) (by omega), KeepsFrom.refl _ _, hB, hS⟩
      have HR0 := Lib.hid R0
      have hjl : j < 4294967296 := by omega
      have CW := Lib.hid (fun (p : BelBy W) => calls_bel (widthW_any gk n j ss p.W hn12 hjl ((HK.out.below hB hgk3).keep p.h)))
      have CB := Lib.hid (fun (p : BelBy W) => calls_bel (isBefore_any j b p.W hjl hbs (HT.out.below ((HB3.out.trans (hB.mono HB3.out.size)).trans (p.h.mono (Nat.le_trans HB3.out.size hB.size))) HT.out.lt)))
      have HOJ := Lib.hid (HOK.out j)
      have d1 : ∀ p : BelBy W, p.W.cell? ⟨w3.heap.size, 0, none⟩ = some (.slice (some ⟨gk, 0, none⟩) n n) := BelBy.cell (R0.b2.cell 0)
      have d2 : ∀ p : BelBy W, p.W.cell? ⟨w3.heap.size + 1, 0, none⟩ = some (.int .u32 (b : Int)) := BelBy.cell (R0.b1.cell 0)
      have d3 : ∀ p : BelBy W, p.W.cell? ⟨w.heap.size, 0, none⟩ = some (.int .i64 r) := BelBy.cell ((HR3.out.below hB HR3.out.lt).cell 0)
      clear R0 b1 b2
      obtain ⟨wd, hwd⟩ : ∃ x, x = widS ss n j n := ⟨_, rfl⟩
      rw [← hwd] at CW HOJ
      obtain ⟨q, hq⟩ : ∃ q, q = Sp.less (Sc.memsI j) (Sc.memsI b) := ⟨_, rfl⟩
      rw [← hq] at CB HNX
      rw [HOJ.out] at HNX
      clear hwd hq HOJ
      have eu : (pre ++ [(⟨j, hj⟩ : SbIx N)]).map (fun x => x.1) = pre.map (fun x => x.1) ++ [j] := by rw [List.map_append]; rfl
      have ev : (pre ++ [(⟨j, hj⟩ : SbIx N)]).unattach = pre.map (·.1) ++ [j] := eu
      have HE := Lib.hid (And.intro eu ev)
      clear eu ev
      by_cases hw : (wd : Int) ≤ r
      · have dw : decide ((wd : Int) ≤ r) = true := decide_eq_true hw
        rw [dw, Bool.true_and] at HNX
        clear hw
        cases q
        · have HX2 := Lib.hid (show Sp.bst (Sp.okW ss r) M (pre.map (·.1) ++ [j]) = b from HNX.out)
          clear HNX
          gi_wp2
          refine wpIn_region_bel_tail 9 (by kernel_rfl) (by kernel_rfl) (by kernel_rfl) ?_
          simp only [List.take_succ_cons, List.take_zero, List.drop_succ_cons, List.drop_zero]
          iterate 2 (quiet_step_in (fail))
          refine wpQuietIn_step (by intro _ _; intros; trivial) (fun K hK => ?_)
          go_simp
          apply Exists.intro
          refine ⟨fun _ => CallsIn.inRound l (callsIn_wide.2 (CW.out _)), hK _ ?_⟩
          clear hK K
          iterate 5 (quiet_step_in (fail))
          refine wpQuietIn_step (by intro _ _; intros; trivial) (fun K hK => ?_)
          go_simp
          apply Exists.intro
          refine ⟨fun _ => CallsIn.inRound l (callsIn_wide.2 (CB.out _)), hK _ ?_⟩
          clear hK K
          repeat (quiet_step_in (fail))
          refine wpQuietIn_nil ?_
          rintro w5 ⟨⟨_, h5⟩, rfl⟩
          have R5 := Lib.hid (HR0.out.keep (by omega) h5)
          clear h5 d1 d2 d3
          gi_wp2
          refine ⟨by first | exact R5.out.kf | (rw [← hsz]; exact R5.out.kf), R5.out.kp, ⟨⟨?_, R5.out.b2⟩, R5.out.hb⟩, by first | exact R5.out.hs | (rw [← hsz]; exact R5.out.hs)⟩
          first | rw [HE.out.1, HX2.out] | rw [HE.out.2, HX2.out]
          exact R5.out.b1
        · have HX2 := Lib.hid (show Sp.bst (Sp.okW ss r) M (pre.map (·.1) ++ [j]) = j from HNX.out)
          clear HNX
          gi_wp2
          refine wpIn_region_bel_tail 9 (by kernel_rfl) (by kernel_rfl) (by kernel_rfl) ?_
          simp only [List.take_succ_cons, List.take_zero, List.drop_succ_cons, List.drop_zero]
          iterate 2 (quiet_step_in (fail))
          refine wpQuietIn_step (by intro _ _; intros; trivial) (fun K hK => ?_)
          go_simp
          apply Exists.intro
          refine ⟨fun _ => CallsIn.inRound l (callsIn_wide.2 (CW.out _)), hK _ ?_⟩
          clear hK K
          iterate 5 (quiet_step_in (fail))
          refine wpQuietIn_step (by intro _ _; intros; trivial) (fun K hK => ?_)
          go_simp
          apply Exists.intro
          refine ⟨fun _ => CallsIn.inRound l (callsIn_wide.2 (CB.out _)), hK _ ?_⟩
          clear hK K
          repeat (quiet_step_in (fail))
          refine wpQuietIn_nil ?_
          rintro w5 ⟨⟨_, h5⟩, rfl⟩
          have R5 := Lib.hid (HR0.out.keep (by omega) h5)
          clear h5 d1 d2 d3
          have y2 : w5.cell? ⟨w3.heap.size + 1, 0, none⟩ = some (.int .u32 (b : Int)) := R5.out.b1.cell 0
          have f2 := R5.out.b1.frozen 0
          gi_wp2
          have R7 := Lib.hid (R5.out.set (show w3.heap.size ≠ w3.heap.size + 1 by omega) (show w3.heap.size + 1 + 1 ≠ w3.heap.size + 1 by omega) (by omega) (by omega) j)
          refine ⟨by first | exact R7.out.kf | (rw [← hsz]; exact R7.out.kf), R7.out.kp, ⟨⟨?_, R7.out.b2⟩, R7.out.hb⟩, by first | exact R7.out.hs | (rw [← hsz]; exact R7.out.hs)⟩
          first | rw [HE.out.1, HX2.out] | rw [HE.out.2, HX2.out]
          exact R7.out.b1
      · have dw : decide ((wd : Int) ≤ r) = false := decide_eq_false hw
        rw [dw, Bool.false_and] at HNX
        have HX2 := Lib.hid (show Sp.bst (Sp.okW ss r) M (pre.map (·.1) ++ [j]) = b from HNX.out)
        clear HNX hw
        gi_wp2
        refine wpIn_region_bel_tail 9 (by kernel_rfl) (by kernel_rfl) (by kernel_rfl) ?_
        simp only [List.take_succ_cons, List.take_zero, List.drop_succ_cons, List.drop_zero]
        iterate 2 (quiet_step_in (fail))
        refine wpQuietIn_step (by intro _ _; intros; trivial) (fun K hK => ?_)
        go_simp
        apply Exists.intro
        refine ⟨fun _ => CallsIn.inRound l (callsIn_wide.2 (CW.out _)), hK _ ?_⟩
        clear hK K
        iterate 5 (quiet_step_in (fail))
        refine wpQuietIn_step (by intro _ _; intros; trivial) (fun K hK => ?_)
        go_simp
        refine hK _ ?_
        clear hK K
        repeat (quiet_step_in (fail))
        refine wpQuietIn_nil ?_
        rintro w5 ⟨⟨_, h5⟩, rfl⟩
        have R5 := Lib.hid (HR0.out.keep (by omega) h5)
        clear h5 d1 d2 d3
        gi_wp2
        refine ⟨by first | exact R5.out.kf | (rw [← hsz]; exact R5.out.kf), R5.out.kp, ⟨⟨?_, R5.out.b2⟩, R5.out.hb⟩, by first | exact R5.out.hs | (rw [← hsz]; exact R5.out.hs)⟩
        first | rw [HE.out.1, HX2.out] | rw [HE.out.2, HX2.out]
        exact R5.out.b1
    case done =>
      rintro D ys W hD hS ⟨⟨⟨b1, b2⟩, hB⟩, hSz⟩ hK
      have hbs := HLT.out (ys.map (·.1)) (fun s hs => by obtain ⟨y, _, rfl⟩ := List.mem_map.1 hs; exact y.2)
      have hS' : ys.map (·.1) = Sp.down N N := hS
      rw [hS'] at b1 hbs
      obtain ⟨b, hbb⟩ : ∃ b, b = Sp.bst (Sp.okW ss r) M (Sp.down N N) := ⟨_, rfl⟩
      rw [← hbb] at b1 hbs HF
      have y2 : W.cell? ⟨w3.heap.size + 1, 0, none⟩ = some (.int .u32 (b : Int)) := Bx.cell b1 0
      have hBw : Below w.heap.size w W := HB3.out.trans (hB.mono HB3.out.size)
      have CM := Lib.hid (members_any b W hbs (HT.out.below hBw HT.out.lt))
      clear hbb
      gi_wp2_with (refine ⟨trivial, ?_⟩; gi_at_call 30; refine (callsIn_wide.2 CM.out).mono ?_; rintro e w5 ⟨A5, n5, c5, rfl, ho5, hn5, _, hb5⟩)
      have hK5 : w5.heap[D]? = some (.deferred (some [])) := (hb5.block D (Array.getElem?_eq_some_iff.1 hK).1).trans hK
      refine ⟨by simp, .inl ⟨_, _, rfl, run_takeDeferred hK5, ?_⟩⟩
      have hbF : Below w.heap.size w (w5.putObj D (.deferred none)) := (hBw.trans (hb5.mono hBw.size)).trans (belowK_b (w := w) (Nat.le_refl _) w5 D _ _ (by have := HB3.out.size; omega) hK5 rfl rfl)
      have hoF : Own (w5.putObj D (.deferred none)) w.heap.size (w5.putObj D (.deferred none)).heap.size A5 n5 (Sc.memsI b) :=
        ⟨ho5.1, fun hn => by
          obtain ⟨g, o, cells, e, g1, g2, hg, hcl⟩ := ho5.2 hn
          exact ⟨g, o, cells, e, by have := hBw.size; omega, by simpa [World.putObj] using g2, (grownBy_keeps_cells (grownBy_putObj' w5 D (.deferred none)) (fun r e => by cases e; exact ⟨_, hK5, rfl⟩) hg rfl).trans hg, hcl⟩⟩
      have hrt : Ret1 (Sc.memsI b) true w (.returned (.tuple #[.slice A5 n5 c5, .bool true])) (w5.putObj D (.deferred none)) := ⟨A5, n5, c5, rfl, hoF, hn5, hbF⟩
      rw [← HF.out] at hrt
      exact ⟨_, results_tmp2 (t := 4) (u := 5) rfl _ _ _, hrt⟩
    case stop =>
      rintro D cx pre W _ _ hx _
      exact hx.elim
end Go.Proofs.YtfmplneopmbfoaaDoor.Wds
