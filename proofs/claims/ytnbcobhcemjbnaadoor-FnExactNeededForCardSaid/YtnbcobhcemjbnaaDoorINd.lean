/-
  NeededFor: the code's function: a loop over an iterator, from the last statement on. One contract.
-/
import Derived.Test.YtnbcobhcemjbnaaDoorBwdS
import Derived.Test.YtnbcobhcemjbnaaDoorNdM
import Derived.Test.YtnbcobhcemjbnaaDoorOuts
import Derived.Test.YtnbcobhcemjbnaaDoorVTask
import Derived.Test.YtnbcobhcemjbnaaDoorVCode
import Derived.Test.YtnbcobhcemjbnaaDoorSets
import Derived.Test.YtnbcobhcemjbnaaDoorBxM
import Derived.Test.YtnbcobhcemjbnaaDoorTailI
import Derived.Test.YtnbcobhcemjbnaaDoorPush
namespace Go.Proofs.YtnbcobhcemjbnaaDoor.Wds
open Go.RowKit Go.Shelf
attribute [local go_sem] Oper.semAt_some
set_option linter.unusedVariables false

theorem blk_ownS {β : Type} (g : Nat) (t : TypeId) (f : β → Array Value) : Go.Own (fun (s : β) (W : World) => W.heap[g]? = some (.cells (f s) t (0, 0))) := fun s X Y row hs hg hrow =>
  (grownBy_keeps_cells hg hrow hs rfl).trans hs
/-- What a step that only makes memory keeps of a round. -/
theorem KpB.of {Bs n₀ : Nat} {W W' : World} (h : Below W.heap.size W W') (hn : n₀ ≤ W.heap.size) : KpB Bs n₀ W W' :=
  ⟨h.mono hn, fun v hv => (h.cell (World.block_lt_of_cell? W _ hv)).trans hv⟩
theorem KpB.set {Bs n₀ : Nat} {W W' : World} (h : KpB Bs n₀ W W') {p : Addr} (hp : n₀ ≤ p.block) (hne : Bs ≠ p.block) (u : Value) : KpB Bs n₀ W (W'.setCell p u) :=
  ⟨h.h.setCell hp u, fun v hv => by
    have h1 := h.b v hv
    rw [← h1]
    exact World.cell?_of_block (Below.heap_setCell W' p u Bs hne)⟩
theorem keepsFrom_of {B : Nat} {W W' : World} (h : Below W.heap.size W W') : KeepsFrom B W W' :=
  ⟨h.size, fun k o _ hk _ => (h.block k (Array.getElem?_eq_some_iff.1 hk).1).trans hk⟩
/-- What holds in a round of the loop over statements: both sets' boxes (at g and g'), the statement's copy. -/
structure NgR (w W0 W : World) (g g' Bs n₀ : Nat) (st : Nat × Nat) (bx : Nat) (cX : Array Value) (wr : World) : Prop where
  b1 : Bx wr g 58 #[.int .u32 (st.1 : Int)]
  b2 : Bx wr g' 58 #[.int .u32 (st.2 : Int)]
  bX : Bx wr bx 80 cX
  kp : KpB Bs n₀ W wr
  kf : KeepsFrom W0.heap.size W wr
  hb : Below w.heap.size w wr
  hs : W0.heap.size ≤ wr.heap.size
theorem NgR.keep {w W0 W : World} {g g' Bs n₀ : Nat} {st : Nat × Nat} {bx : Nat} {cX : Array Value} {wr wr' : World} (h : NgR w W0 W g g' Bs n₀ st bx cX wr) (hn : n₀ ≤ W.heap.size) (hk : Below wr.heap.size wr wr') : NgR w W0 W g g' Bs n₀ st bx cX wr' :=
  ⟨h.b1.keep hk, h.b2.keep hk, h.bX.keep hk, h.kp.trans (KpB.of hk (Nat.le_trans hn h.kp.h.size)), h.kf.trans (keepsFrom_of hk), h.hb.trans (hk.mono h.hb.size), Nat.le_trans h.hs hk.size⟩
theorem NgR.set1 {w W0 W : World} {g g' Bs n₀ : Nat} {st : Nat × Nat} {bx : Nat} {cX : Array Value} {wr : World} (h : NgR w W0 W g g' Bs n₀ st bx cX wr) (h1 : g' ≠ g) (h2 : bx ≠ g) (h3 : Bs ≠ g) (h4 : n₀ ≤ g) (h5 : w.heap.size ≤ g) (z : Nat) : NgR w W0 W g g' Bs n₀ (z, st.2) bx cX (wr.setCell ⟨g, 0, none⟩ (.int .u32 (z : Int))) :=
  ⟨by have := h.b1.set_ 0 (.int .u32 (z : Int)); simpa using this, h.b2.far (p := ⟨g, 0, none⟩) h1 _, h.bX.far (p := ⟨g, 0, none⟩) h2 _, h.kp.set (p := ⟨g, 0, none⟩) h4 h3 _, h.kf.trans ((KeepsOthers.setCell _ _ _).from _), h.hb.setCell (p := ⟨g, 0, none⟩) h5 _, by simpa [World.setCell] using h.hs⟩
theorem NgR.set2 {w W0 W : World} {g g' Bs n₀ : Nat} {st : Nat × Nat} {bx : Nat} {cX : Array Value} {wr : World} (h : NgR w W0 W g g' Bs n₀ st bx cX wr) (h1 : g ≠ g') (h2 : bx ≠ g') (h3 : Bs ≠ g') (h4 : n₀ ≤ g') (h5 : w.heap.size ≤ g') (z : Nat) : NgR w W0 W g g' Bs n₀ (st.1, z) bx cX (wr.setCell ⟨g', 0, none⟩ (.int .u32 (z : Int))) :=
  ⟨h.b1.far (p := ⟨g', 0, none⟩) h1 _, by have := h.b2.set_ 0 (.int .u32 (z : Int)); simpa using this, h.bX.far (p := ⟨g', 0, none⟩) h2 _, h.kp.set (p := ⟨g', 0, none⟩) h4 h3 _, h.kf.trans ((KeepsOthers.setCell _ _ _).from _), h.hb.setCell (p := ⟨g', 0, none⟩) h5 _, by simpa [World.setCell] using h.hs⟩
set_option maxRecDepth 100000 in
set_option maxHeartbeats 4000000 in
theorem iNeededFor_any (A : Option Addr) (n c : Nat) (ss : List Sc.St) (B : Nat) (A' : Option Addr) (m c' : Nat) (cs : List Int) (B' : Nat) (w : World) (hn : n ≤ 1048576) (hm : m ≤ 1048576) (h : RdS w B A n ss) (h' : Rd w B' A' m cs) (hTab : TabT w) :
    Calls Tryd.prog 20 #[.slice A n c, .slice A' m c'] w (Ret1 (Sc.neededFor ss cs).1 (Sc.neededFor ss cs).2 w) := by
  have C1 := Lib.hid (setBelow_any 32 A' m c' cs B' w (by omega) hm h')
  have C2 := Lib.hid (fun (W : World) (hb : Below w.heap.size w W) => iValidCode_any A n c ss B W hn (h.below hb))
  have hl := h.len
  rw [show (((32 : Nat) : Int) - 1) = 31 by decide] at C1
  obtain ⟨v, hv⟩ : ∃ z, z = Sc.valid ss := ⟨_, rfl⟩
  obtain ⟨u, hu⟩ : ∃ z, z = Tk.ups 31 cs := ⟨_, rfl⟩
  unfold Sc.neededFor
  rw [← hv] at C2 ⊢
  rw [← hu] at C1 ⊢
  have H := Lib.hid h
  have HT := Lib.hid hTab
  clear h h' hTab
  cases u
  · clear hv hu
    rw [Bool.and_false]
    go_enter Tryd.func20, Tryd.ntmps20
    go_wp2_with fail
    refine C1.out.mono ?_
    rintro e w1 ⟨rfl, hb⟩
    have HB := Lib.hid hb; clear hb
    go_wp2
    go_ret2
    exact Ret1.no (HB.out.alloc HB.out.size _)
  cases v
  · clear hv hu
    rw [if_pos rfl] at C1
    go_enter Tryd.func20, Tryd.ntmps20
    go_wp2_with fail
    refine C1.out.mono ?_
    rintro e w1 ⟨rfl, hb⟩
    have HB := Lib.hid (hb.alloc hb.size (.cells #[.int .u32 ((Sc.doneOf cs : Nat) : Int)] 58)); clear hb
    go_wp2_with fail
    refine (C2.out _ HB.out).mono ?_
    rintro e w2 ⟨rfl, hb⟩
    have HB2 := Lib.hid (HB.out.trans (hb.mono HB.out.size)); clear hb
    go_wp2
    go_ret2
    exact Ret1.no HB2.out
  · rw [if_pos rfl] at C1
    have HV := Lib.hid hv.symm
    have HU := Lib.hid hu.symm
    clear hv hu
    have h16 : n ≤ 16 := by rw [← hl]; exact Sc.len_of_valid HV.out
    have HL := Lib.hid hl; clear hl
    obtain ⟨c0, hc0⟩ : ∃ x, x = Sc.doneOf cs := ⟨_, rfl⟩
    have hclt := Sc.doneOf_ups HU.out
    rw [← hc0] at C1 hclt ⊢
    have HC0 := Lib.hid hc0; clear hc0
    refine (callsIn_wide (n := 8)).1 ?_
    refine callsIn_of_wp_marks Tryd.func20 rfl trivial ?_ rfl
    simp only [Tryd.ntmps20, List.size_toArray, List.length_cons, List.length_nil, Nat.reduceAdd, Nat.reduceSub, Array.replicate_succ, Array.replicate_zero, List.push_toArray, List.append_toArray, List.nil_append, List.cons_append]
    gi_wp2_with (refine ⟨trivial, ?_⟩; gi_at_call 55; refine (callsIn_wide.2 C1.out).mono ?_; rintro e w1 ⟨rfl, hb⟩; have HB1 := Lib.hid hb; clear hb)
    have HB1a := Lib.hid (HB1.out.alloc HB1.out.size (.cells #[.int .u32 (c0 : Int)] 58))
    gi_wp2_with (refine ⟨trivial, ?_⟩; gi_at_call 56; refine (callsIn_wide.2 (C2.out _ HB1a.out)).mono ?_; rintro e w2 ⟨rfl, hb⟩; have hb2 := hb; clear hb)
    have k1 := (Bx.new w1 58 #[.int .u32 (c0 : Int)]).keep hb2
    have HB2 := Lib.hid (HB1a.out.trans (hb2.mono HB1a.out.size)); clear hb2
    gi_wp2_with (refine ⟨trivial, ?_⟩; gi_at_call 57; refine (bwdS Fence.wide _ trivial rfl A n c _).mono ?_; rintro e w3 ⟨rfl, rfl⟩)
    have hsz2 : w1.heap.size < w2.heap.size := k1.lt
    have hw1 : w.heap.size ≤ w1.heap.size := HB1.out.size
    have hb0 : Below w.heap.size w ((w2.alloc (.cells #[.int .u32 0] 58)).alloc (.cells #[.slice A n c] 39)) := (HB2.out.alloc HB2.out.size _).alloc (Nat.le_trans HB2.out.size (by simp)) _
    have q1 : Bx ((w2.alloc (.cells #[.int .u32 0] 58)).alloc (.cells #[.slice A n c] 39)) w1.heap.size 58 #[.int .u32 (c0 : Int)] := (k1.alloc _).alloc _
    have q2 : Bx ((w2.alloc (.cells #[.int .u32 0] 58)).alloc (.cells #[.slice A n c] 39)) w2.heap.size 58 #[.int .u32 0] := (Bx.new w2 _ _).alloc _
    have q3 : ((w2.alloc (.cells #[.int .u32 0] 58)).alloc (.cells #[.slice A n c] 39)).cell? ⟨w2.heap.size + 1, 0, none⟩ = some (.slice A n c) := by
      have q := (Boxed.new (w2.alloc (.cells #[.int .u32 0] 58)) 39 (.slice A n c)).cell
      rw [World.size_alloc] at q
      exact q
    have hsz : ((w2.alloc (.cells #[.int .u32 0] 58)).alloc (.cells #[.slice A n c] 39)).heap.size = w2.heap.size + 2 := by simp
    have hrd := ((H.out.tight).more hw1)
    have hrd0 := hrd.keep (w' := ((w2.alloc (.cells #[.int .u32 0] 58)).alloc (.cells #[.slice A n c] 39))) (fun p hp hs => hb0.cell (by have := hs; exact this))
    obtain ⟨W0, hW0⟩ : ∃ W0, ((w2.alloc (.cells #[.int .u32 0] 58)).alloc (.cells #[.slice A n c] 39)) = W0 := ⟨_, rfl⟩
    rw [hW0] at hb0 q1 q2 q3 hsz hrd0 ⊢
    clear hW0 k1
    have HB0 := Lib.hid hb0
    have hstops := bwdS_stops Fence.wide (8 - 1) trivial rfl (by omega) (w2.heap.size + 1) w1.heap.size A n c ss h16 W0 (by omega) (by omega) q3 hrd0
    refine wpIn_rangeFunc_ownH rfl (by omega) (gf := 85) (lb := #[.pointer (some ⟨w2.heap.size + 1, 0, none⟩)]) rfl trivial (enters_of Tryd.func85 (by kernel_rfl) rfl)
      hstops KpB.trans (kpB_b (by omega)) (Below.refl _ _) (fun _ => rfl)
      (fun pre W => ((W.heap[w1.heap.size]? = some (.cells #[.int .u32 ((Sc.ndAll ss c0 (pre.map (·.1))).1 : Int)] 58 (0, 0)) ∧ W.heap[w2.heap.size]? = some (.cells #[.int .u32 ((Sc.ndAll ss c0 (pre.map (·.1))).2 : Int)] 58 (0, 0))) ∧ Below w.heap.size w W) ∧ W0.heap.size ≤ W.heap.size)
      (fun _ _ _ => False)
      (OwnFrom.and (OwnFrom.and (OwnFrom.and (Own.from (blk_ownS _ _ _) _) (Own.from (blk_ownS _ _ _) _)) (ownFrom_below (Nat.le_refl _) (by omega))) (fun _ _ _ _ hs hg _ => Nat.le_trans hs hg.size))
      (fun _ _ _ _ _ hs _ _ => hs)
      ⟨⟨⟨q1, q2⟩, hb0⟩, Nat.le_refl _⟩
      (fun x a' W => ∃ bx, W0.heap.size ≤ bx ∧ W.heap[bx]? = some (.cells #[.int .i64 (Sc.nth ss x.1).op, .int .i64 (Sc.nth ss x.1).d, .int .i64 (Sc.nth ss x.1).a, .int .i64 (Sc.nth ss x.1).b] 80 (0, 0)) ∧ a' = { tmps := #[.slice A n c, .slice A' m c', undef, undef, .slice none 0 0, .bool false, .pointer (some ⟨w1.heap.size, 0, none⟩), .bool true, .pointer (some ⟨w2.heap.size, 0, none⟩), .int .i64 ((x.1 : Nat) : Int), .pointer (some ⟨bx, 0, none⟩), .tuple #[.int .u32 (c0 : Int), .bool true], .slice A' m c', .tuple #[.int .u32 (c0 : Int), .bool true], .int .u32 (c0 : Int), .bool true, .bool true, .bool false, .bool false, .slice A n c, .bool true, .bool false, .bool false, .slice A n c, .func (.func 85) #[] #[.pointer (some ⟨w2.heap.size + 1, 0, none⟩)], .int .i64 ((x.1 : Nat) : Int), .agg #[.int .i64 (Sc.nth ss x.1).op, .int .i64 (Sc.nth ss x.1).d, .int .i64 (Sc.nth ss x.1).a, .int .i64 (Sc.nth ss x.1).b], undef, undef, undef, undef, undef, undef, undef, undef, undef, undef, undef, undef, undef, undef, undef, undef, undef], defers := [] })
      (fun x a' _ X Y row hs hg hr => by obtain ⟨bx, e1, e2, e3⟩ := hs; exact ⟨bx, e1, blk_ownS bx 80 (fun (_ : Unit) => _) () X Y row e2 hg (fun r e => (hr r e).2), e3⟩)
      ?assign ?body ?done ?stop
    case assign =>
      rintro l pre x W K ⟨⟨⟨b1, b2⟩, hB⟩, hS⟩ hK
      gi_wp2
      have hs := hB.size
      exact hK _ _ ((KeepsOthers.alloc _ _).from _) ⟨(Below.refl _ W).alloc (by omega) _, fun v hv => (((Below.refl W.heap.size W).alloc (Nat.le_refl _) _).cell (World.block_lt_of_cell? W _ hv)).trans hv⟩ ⟨⟨⟨Bx.alloc b1 _, Bx.alloc b2 _⟩, hB.alloc hs _⟩, Nat.le_trans hS (by simp)⟩ ⟨W.heap.size, hS, Bx.new W _ _, rfl⟩
    case body =>
      rintro l pre ⟨j, hj⟩ a' W hl ⟨rr, hr⟩ ⟨⟨⟨b1, b2⟩, hB⟩, hS⟩ ⟨bx, hBx, bX, rfl⟩ hlt
      dsimp only at bX ⊢
      have okj := Sc.ok_of_valid HV.out (k := j) (by rw [HL.out]; exact hj)
      have okc := Sc.ok_cells okj
      have hlt2 := Sc.ndAll_lt (ss := ss) (n := n) (fun k hk => Sc.ok_of_valid HV.out (k := k) (by rw [HL.out]; exact hk)) h16 hclt (pre.map (·.1)) (fun i hi => by obtain ⟨y, _, rfl⟩ := List.mem_map.1 hi; exact y.2)
      have HNX := Lib.hid (Sc.ndAll_snoc ss c0 (pre.map (·.1)) j)
      obtain ⟨st, hst⟩ : ∃ st, st = Sc.ndAll ss c0 (pre.map (·.1)) := ⟨_, rfl⟩
      rw [← hst] at b1 b2 hlt2 HNX
      obtain ⟨x, hx⟩ : ∃ x, x = Sc.nth ss j := ⟨_, rfl⟩
      rw [← hx] at bX okc ⊢
      have HX := Lib.hid hx
      clear hst hx okj
      obtain ⟨xo, xd, xa, xb⟩ := x
      simp only at bX okc ⊢
      obtain ⟨_, hd, ha, hbb⟩ := okc
      obtain ⟨d, rfl⟩ := Int.eq_ofNat_of_zero_le hd.1
      have HS := Lib.hid (show Sc.ndStep ss st j = if st.1.testBit d then (Sc.diff st.1 (2 ^ d) ||| (Sc.bt xa ||| Sc.bt xb), st.2 ||| 2 ^ j) else st by
        unfold Sc.ndStep; rw [← HX.out]; simp only [Sc.bt, Int.toNat_natCast])
      have R0 : NgR w W0 W w1.heap.size w2.heap.size (w2.heap.size + 1) w1.heap.size st bx #[.int .i64 xo, .int .i64 d, .int .i64 xa, .int .i64 xb] W := ⟨b1, b2, bX, KpB.of (Below.refl _ _) (by omega), KeepsFrom.refl _ _, hB, hS⟩
      have HR0 := Lib.hid R0
      have CW := Lib.hid (fun (p : BelBy W) => calls_bel (writes_any xo d xa xb p.W hd))
      have CR := Lib.hid (fun (W : World) (p : BelBy W) => calls_bel (reads_any xo d xa xb p.W ha hbb))
      obtain ⟨mv, hmv⟩ : ∃ m, m = st.1 &&& 2 ^ d := ⟨_, rfl⟩
      have hand : bits .and .u32 (st.1 : Int) ((Sc.bt (d : Int) : Nat) : Int) = (mv : Int) := by rw [Sc.bt, Int.toNat_natCast, hmv]; exact u32_and st.1 (2 ^ d) hlt2.1 (Sc.pow_lt (by omega))
      have htb : (st.1 &&& 2 ^ d == 0) = !st.1.testBit d := by rw [Bool.eq_iff_iff, beq_iff_eq, Sc.and_pow_eq_zero]; cases st.1.testBit d <;> simp
      rw [← hmv] at htb
      have d1 : ∀ p : BelBy W, p.W.cell? ⟨w1.heap.size, 0, none⟩ = some (.int .u32 (st.1 : Int)) := BelBy.cell (R0.b1.cell 0)
      have x0 : ∀ p : BelBy W, p.W.cell? ⟨bx, 0, none⟩ = some (.int .i64 xo) := BelBy.cell (R0.bX.cell 0)
      have x1 : ∀ p : BelBy W, p.W.cell? ⟨bx, 1, none⟩ = some (.int .i64 d) := BelBy.cell (R0.bX.cell 1)
      have x2 : ∀ p : BelBy W, p.W.cell? ⟨bx, 2, none⟩ = some (.int .i64 xa) := BelBy.cell (R0.bX.cell 2)
      have x3 : ∀ p : BelBy W, p.W.cell? ⟨bx, 3, none⟩ = some (.int .i64 xb) := BelBy.cell (R0.bX.cell 3)
      clear R0 b1 b2 bX hmv
      obtain ⟨t, ht⟩ : ∃ t, t = st.1.testBit d := ⟨_, rfl⟩
      rw [← ht] at htb HS
      clear ht
      cases t
      · obtain rfl : mv = 0 := by simpa using htb
        clear htb
        gi_wp2
        refine wpIn_region_bel_tail 4 (by kernel_rfl) (by kernel_rfl) (by kernel_rfl) ?_
        simp only [List.take_succ_cons, List.take_zero, List.drop_succ_cons, List.drop_zero]
        iterate 2 (quiet_step_in (fail))
        refine wpQuietIn_step (by intro _ _; intros; trivial) (fun K hK => ?_)
        go_simp
        apply Exists.intro
        refine ⟨fun _ => CallsIn.inRound l (callsIn_wide.2 (CW.out _)), hK _ ?_⟩
        clear hK K
        repeat (quiet_step_in (fail))
        refine wpQuietIn_nil ?_
        rintro w3 ⟨⟨_, h3⟩, rfl⟩
        have R3 := Lib.hid (HR0.out.keep (by omega) h3)
        clear h3 d1 x0 x1 x2 x3
        gi_wp2
        have eu : (pre ++ [(⟨j, hj⟩ : StIx n)]).map (fun x => x.1) = pre.map (fun x => x.1) ++ [j] := by rw [List.map_append]; rfl
        have ev : (pre ++ [(⟨j, hj⟩ : StIx n)]).unattach = pre.map (·.1) ++ [j] := eu
        refine ⟨by first | exact R3.out.kf | (rw [← hsz]; exact R3.out.kf), R3.out.kp, ⟨⟨?_, ?_⟩, R3.out.hb⟩, by first | exact R3.out.hs | (rw [← hsz]; exact R3.out.hs)⟩
        · first | rw [eu, HNX.out, HS.out] | rw [ev, HNX.out, HS.out]
          exact R3.out.b1
        · first | rw [eu, HNX.out, HS.out] | rw [ev, HNX.out, HS.out]
          exact R3.out.b2
      · have hmv0 : ¬ mv = 0 := by simpa using htb
        have hmv1 : ((mv : Int) == 0) = false := by simpa using hmv0
        have hmv2 : decide ((mv : Int) = 0) = false := by simpa using hmv0
        have hmv3 : ((mv : Int) != 0) = true := by simpa using hmv0
        clear htb
        gi_wp2
        refine wpIn_region_bel_tail 4 (by kernel_rfl) (by kernel_rfl) (by kernel_rfl) ?_
        simp only [List.take_succ_cons, List.take_zero, List.drop_succ_cons, List.drop_zero]
        iterate 2 (quiet_step_in (fail))
        refine wpQuietIn_step (by intro _ _; intros; trivial) (fun K hK => ?_)
        go_simp
        apply Exists.intro
        refine ⟨fun _ => CallsIn.inRound l (callsIn_wide.2 (CW.out _)), hK _ ?_⟩
        clear hK K
        repeat (quiet_step_in (fail))
        refine wpQuietIn_nil ?_
        rintro w3 ⟨⟨_, h3⟩, rfl⟩
        have R3 := Lib.hid (HR0.out.keep (by omega) h3)
        clear h3 d1 x0 x1 x2 x3
        have y2 : w3.cell? ⟨w2.heap.size, 0, none⟩ = some (.int .u32 (st.2 : Int)) := R3.out.b2.cell 0
        have f2 := R3.out.b2.frozen 0
        have CN := Lib.hid (fun W => withN_any st.2 j W hlt2.2 (by omega))
        gi_wp2_with (refine ⟨trivial, ?_⟩; gi_at_call 43; refine (CallsIn.inRound l (callsIn_wide.2 (CN.out _))).mono ?_; rintro e w4 ⟨rfl, rfl⟩)
        have R4 := R3.out.set2 (show w1.heap.size ≠ w2.heap.size by omega) (show bx ≠ w2.heap.size by omega) (show w2.heap.size + 1 ≠ w2.heap.size by omega) (by omega) (by omega) (st.2 ||| 2 ^ j)
        obtain ⟨y4, hy4⟩ : ∃ y, y = w3.setCell ⟨w2.heap.size, 0, none⟩ (.int .u32 ((st.2 ||| 2 ^ j : Nat) : Int)) := ⟨_, rfl⟩
        rw [← hy4] at R4 ⊢
        have HR4 := Lib.hid R4
        have CW4 := Lib.hid (fun (p : BelBy y4) => calls_bel (writes_any xo d xa xb p.W hd))
        have CR4 := Lib.hid (fun (p : BelBy y4) => calls_bel (reads_any xo d xa xb p.W ha hbb))
        have hdlt : Sc.diff st.1 (2 ^ d) < 4294967296 := Sc.diff_lt hlt2.1
        have hrlt : Sc.bt xa ||| Sc.bt xb < 4294967296 := Sc.or_lt (Sc.bt_lt ha.2) (Sc.bt_lt hbb.2)
        have hdiff : bits .andNot .u32 (st.1 : Int) ((Sc.bt (d : Int) : Nat) : Int) = ((Sc.diff st.1 (2 ^ d) : Nat) : Int) := by rw [Sc.bt, Int.toNat_natCast]; exact u32_andNot st.1 (2 ^ d) hlt2.1 (Sc.pow_lt (by omega))
        have hor := u32_or (Sc.diff st.1 (2 ^ d)) (Sc.bt xa ||| Sc.bt xb) hdlt hrlt
        obtain ⟨dv, hdv⟩ : ∃ m, m = Sc.diff st.1 (2 ^ d) := ⟨_, rfl⟩
        obtain ⟨rv, hrv⟩ : ∃ m, m = Sc.bt xa ||| Sc.bt xb := ⟨_, rfl⟩
        rw [← hdv] at hdiff hor HS
        rw [← hrv] at hor HS CR4
        have d1 : ∀ p : BelBy y4, p.W.cell? ⟨w1.heap.size, 0, none⟩ = some (.int .u32 (st.1 : Int)) := BelBy.cell (R4.b1.cell 0)
        have x0 : ∀ p : BelBy y4, p.W.cell? ⟨bx, 0, none⟩ = some (.int .i64 xo) := BelBy.cell (R4.bX.cell 0)
        have x1 : ∀ p : BelBy y4, p.W.cell? ⟨bx, 1, none⟩ = some (.int .i64 d) := BelBy.cell (R4.bX.cell 1)
        have x2 : ∀ p : BelBy y4, p.W.cell? ⟨bx, 2, none⟩ = some (.int .i64 xa) := BelBy.cell (R4.bX.cell 2)
        have x3 : ∀ p : BelBy y4, p.W.cell? ⟨bx, 3, none⟩ = some (.int .i64 xb) := BelBy.cell (R4.bX.cell 3)
        clear y2 f2 R4 hy4 hdlt hrlt hdv hrv
        refine wpIn_region_bel_tail 7 (by kernel_rfl) (by kernel_rfl) (by kernel_rfl) ?_
        simp only [List.take_succ_cons, List.take_zero, List.drop_succ_cons, List.drop_zero]
        iterate 2 (quiet_step_in (fail))
        refine wpQuietIn_step (by intro _ _; intros; trivial) (fun K hK => ?_)
        go_simp
        apply Exists.intro
        refine ⟨fun _ => CallsIn.inRound l (callsIn_wide.2 (CW4.out _)), hK _ ?_⟩
        clear hK K
        iterate 2 (quiet_step_in (fail))
        refine wpQuietIn_step (by intro _ _; intros; trivial) (fun K hK => ?_)
        go_simp
        apply Exists.intro
        refine ⟨fun _ => CallsIn.inRound l (callsIn_wide.2 (CR4.out _)), hK _ ?_⟩
        clear hK K
        repeat (quiet_step_in (fail))
        refine wpQuietIn_nil ?_
        rintro w5 ⟨⟨_, h5⟩, rfl⟩
        have R5 := Lib.hid (HR4.out.keep (by omega) h5)
        have y6 : w5.cell? ⟨w1.heap.size, 0, none⟩ = some (.int .u32 (st.1 : Int)) := R5.out.b1.cell 0
        have f6 := R5.out.b1.frozen 0
        clear h5 d1 x0 x1 x2 x3
        gi_wp2
        have R7 := Lib.hid (R5.out.set1 (show w2.heap.size ≠ w1.heap.size by omega) (show bx ≠ w1.heap.size by omega) (show w2.heap.size + 1 ≠ w1.heap.size by omega) (Nat.le_refl _) (by omega) (dv ||| rv))
        have eu : (pre ++ [(⟨j, hj⟩ : StIx n)]).map (fun x => x.1) = pre.map (fun x => x.1) ++ [j] := by rw [List.map_append]; rfl
        have ev : (pre ++ [(⟨j, hj⟩ : StIx n)]).unattach = pre.map (·.1) ++ [j] := eu
        refine ⟨by first | exact R7.out.kf | (rw [← hsz]; exact R7.out.kf), R7.out.kp, ⟨⟨?_, ?_⟩, R7.out.hb⟩, by first | exact R7.out.hs | (rw [← hsz]; exact R7.out.hs)⟩
        · first | rw [eu, HNX.out, HS.out] | rw [ev, HNX.out, HS.out]
          exact R7.out.b1
        · first | rw [eu, HNX.out, HS.out] | rw [ev, HNX.out, HS.out]
          exact R7.out.b2
    case done =>
      rintro D ys W hD hS ⟨⟨⟨b1, b2⟩, hB⟩, hSz⟩ hK
      have hS' : ys.map (·.1) = Sc.downTo ss.length ss.length := by rw [HL.out]; exact hS
      have hlt2 := Sc.nd_lt HV.out (c0 := c0) hclt ss.length (Nat.le_refl _)
      have hnd : Sc.ndAll ss c0 (ys.map (·.1)) = Sc.nd ss c0 ss.length := by rw [hS']; rfl
      rw [hnd] at b2
      obtain ⟨st, hst⟩ : ∃ st, st = Sc.nd ss c0 ss.length := ⟨_, rfl⟩
      rw [← hst] at b2 hlt2 ⊢
      have y2 : W.cell? ⟨w2.heap.size, 0, none⟩ = some (.int .u32 (st.2 : Int)) := Bx.cell b2 0
      have CM := Lib.hid (members_any st.2 W hlt2.2 (HT.out.below hB HT.out.lt))
      have HST := Lib.hid hst
      clear hst
      gi_wp2_with (refine ⟨trivial, ?_⟩; gi_at_call 38; refine (callsIn_wide.2 CM.out).mono ?_; rintro e w5 ⟨A5, n5, c5, rfl, ho5, hn5, _, hb5⟩)
      have hK5 : w5.heap[D]? = some (.deferred (some [])) := (hb5.block D (Array.getElem?_eq_some_iff.1 hK).1).trans hK
      refine ⟨by simp, .inl ⟨_, _, rfl, run_takeDeferred hK5, ?_⟩⟩
      have hbF : Below w.heap.size w (w5.putObj D (.deferred none)) := (hB.trans (hb5.mono hB.size)).trans (belowK_b (w := w) (Nat.le_refl _) w5 D _ _ (by omega) hK5 rfl rfl)
      have hoF : Own (w5.putObj D (.deferred none)) w.heap.size (w5.putObj D (.deferred none)).heap.size A5 n5 (Sc.memsI st.2) :=
        ⟨ho5.1, fun hn => by
          obtain ⟨g, o, cells, e, g1, g2, hg, hcl⟩ := ho5.2 hn
          exact ⟨g, o, cells, e, by have := hB.size; omega, by simpa [World.putObj] using g2, (grownBy_keeps_cells (grownBy_putObj' w5 D (.deferred none)) (fun r e => by cases e; exact ⟨_, hK5, rfl⟩) hg rfl).trans hg, hcl⟩⟩
      have hrt : Ret1 (Sc.memsI st.2) true w (.returned (.tuple #[.slice A5 n5 c5, .bool true])) (w5.putObj D (.deferred none)) := ⟨A5, n5, c5, rfl, hoF, hn5, hbF⟩
      rw [HST.out] at hrt
      exact ⟨_, results_tmp2 (t := 4) (u := 5) rfl _ _ _, hrt⟩
    case stop =>
      rintro D cx pre W _ _ hx _
      exact hx.elim
end Go.Proofs.YtnbcobhcemjbnaaDoor.Wds
