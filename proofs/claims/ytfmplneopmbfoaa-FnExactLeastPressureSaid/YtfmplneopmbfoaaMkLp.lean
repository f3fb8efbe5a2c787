/-
  The table of the least pressures behind each set of tasks: the code's function, one contract.
-/
import Derived.Test.YtfmplneopmbfoaaPress
import Derived.Test.YtfmplneopmbfoaaGOrd
import Derived.Test.YtfmplneopmbfoaaOnes
import Derived.Test.YtfmplneopmbfoaaSubI
import Derived.Test.YtfmplneopmbfoaaLpM
import Derived.Test.YtfmplneopmbfoaaBelBy
import Derived.Test.YtfmplneopmbfoaaTailI
import Derived.Test.YtfmplneopmbfoaaBxM
import Derived.Test.YtfmplneopmbfoaaLstT
namespace Go.Proofs.Ytfmplneopmbfoaa.Wds
open Go.RowKit Go.Shelf
attribute [local go_sem] Oper.semAt_some
set_option linter.unusedVariables false

/-- A table as numbers. -/
def tbl (L : List Nat) : List Int := L.map Int.ofNat
theorem tbl_len (L : List Nat) : (tbl L).length = L.length := by simp [tbl]
theorem tbl_at {L : List Nat} {k : Nat} : (tbl L).getD k 0 = ((L.getD k 0 : Nat) : Int) := by
  rw [tbl, List.getD_eq_getElem?_getD, List.getElem?_map, List.getD_eq_getElem?_getD]
  cases L[k]? <;> rfl
theorem tbl_set (L : List Nat) (k v : Nat) : (tbl L).set k (v : Int) = tbl (L.set k v) := by simp [tbl]
theorem tbl_zero (n : Nat) : tbl (List.replicate n 0) = List.replicate n 0 := by simp [tbl]
theorem run_make_l (W : World) (n : Nat) (hn : n ≤ 17592186044415) : (Instr.makeSlice 25 (.int .u32 (n : Int)) (.int .u32 (n : Int))).run Try.prog W = .ok (.slice (some ⟨W.heap.size, 0, none⟩) n n) (W.alloc (.cells (clls (List.replicate n 0)) 2)) := by
  obtain ⟨i, hi, h3, h4, h5⟩ := info_parts A_info64
  have hrun := run_make (P := Try.prog) W 25 2 i (.int .i64 0) Try.underlying25 hi h3 .u32 .u32 (n : Int) (n : Int) (by omega) (by omega) (by rw [h5]; omega) (by omega)
  have e : madeCells (Value.int .i64 0).cells ((n : Int).toNat * i.size) = clls (List.replicate n 0) := by
    rw [h4, ← clls_zero]
    apply Array.ext
    · simp [madeCells]
    · intro j hj1 hj2
      simp [madeCells, Value.cells, Nat.mod_one]
  rw [e] at hrun
  simpa using hrun
theorem five_allocs (w : World) (t0 t1 t2 t3 t4 : TypeId) (c0 c1 c2 c3 c4 : Array Value) :
    ∃ W0, (((((w.alloc (.cells c0 t0)).alloc (.cells c1 t1)).alloc (.cells c2 t2)).alloc (.cells c3 t3)).alloc (.cells c4 t4)) = W0 ∧ Bx W0 w.heap.size t0 c0 ∧ Bx W0 (w.heap.size + 1) t1 c1 ∧ Bx W0 (w.heap.size + 1 + 1) t2 c2 ∧
      Bx W0 (w.heap.size + 1 + 1 + 1) t3 c3 ∧ Bx W0 (w.heap.size + 1 + 1 + 1 + 1) t4 c4 ∧ W0.heap.size = w.heap.size + 5 ∧ Below w.heap.size w W0 := by
  refine ⟨_, rfl, ((((Bx.new w _ _).alloc _).alloc _).alloc _).alloc _, ?_, ?_, ?_, ?_, by simp, ?_⟩
  · have := (((Bx.new (w.alloc (.cells c0 t0)) t1 c1).alloc (.cells c2 t2)).alloc (.cells c3 t3)).alloc (.cells c4 t4)
    simpa only [World.size_alloc] using this
  · have := ((Bx.new ((w.alloc (.cells c0 t0)).alloc (.cells c1 t1)) t2 c2).alloc (.cells c3 t3)).alloc (.cells c4 t4)
    simpa only [World.size_alloc] using this
  · have := (Bx.new (((w.alloc (.cells c0 t0)).alloc (.cells c1 t1)).alloc (.cells c2 t2)) t3 c3).alloc (.cells c4 t4)
    simpa only [World.size_alloc] using this
  · have := Bx.new ((((w.alloc (.cells c0 t0)).alloc (.cells c1 t1)).alloc (.cells c2 t2)).alloc (.cells c3 t3)) t4 c4
    simpa only [World.size_alloc] using this
  · exact (((((Below.refl w.heap.size w).alloc (Nat.le_refl _) _).alloc (by simp) _).alloc (by simp; omega) _).alloc (by simp; omega) _).alloc (by simp; omega) _
/-- What holds in a round of the loop over sets. -/
structure LpR (w W0 W : World) (g n N M : Nat) (T : List Nat) (wr : World) : Prop where
  b0 : Bx wr w.heap.size 67 #[.slice (some ⟨g, 0, none⟩) n n]
  b1 : Bx wr (w.heap.size + 1) 72 #[.int .u32 (M : Int)]
  b2 : Bx wr (w.heap.size + 1 + 1) 2 (clls (tbl T))
  b3 : Bx wr (w.heap.size + 1 + 1 + 1) 25 #[.slice (some ⟨w.heap.size + 1 + 1, 0, none⟩) N N]
  kp : KpB (w.heap.size + 1 + 1 + 1 + 1) w.heap.size W wr
  kf : KeepsFrom W0.heap.size W wr
  hb : Below w.heap.size w wr
  hs : W0.heap.size ≤ wr.heap.size
theorem LpR.keep {w W0 W : World} {g n N M : Nat} {T : List Nat} {wr wr' : World} (h : LpR w W0 W g n N M T wr) (hk : Below wr.heap.size wr wr') : LpR w W0 W g n N M T wr' :=
  ⟨h.b0.keep hk, h.b1.keep hk, h.b2.keep hk, h.b3.keep hk, h.kp.trans (KpB.of hk h.hb.size), h.kf.trans (keepsFrom_of hk), h.hb.trans (hk.mono h.hb.size), Nat.le_trans h.hs hk.size⟩
theorem LpR.set {w W0 W : World} {g n N M : Nat} {T : List Nat} {wr : World} (h : LpR w W0 W g n N M T wr) (j v : Nat) : LpR w W0 W g n N M (T.set j v) (wr.setCell ⟨w.heap.size + 1 + 1, j, none⟩ (.int .i64 (v : Int))) :=
  ⟨h.b0.far (p := ⟨w.heap.size + 1 + 1, j, none⟩) (show w.heap.size ≠ w.heap.size + 1 + 1 by omega) _, h.b1.far (p := ⟨w.heap.size + 1 + 1, j, none⟩) (show w.heap.size + 1 ≠ w.heap.size + 1 + 1 by omega) _,
    by have := h.b2.set_ j (.int .i64 (v : Int)); rw [clls_set, tbl_set] at this; exact this, h.b3.far (p := ⟨w.heap.size + 1 + 1, j, none⟩) (show w.heap.size + 1 + 1 + 1 ≠ w.heap.size + 1 + 1 by omega) _,
    h.kp.set (p := ⟨w.heap.size + 1 + 1, j, none⟩) (show w.heap.size ≤ w.heap.size + 1 + 1 by omega) (show w.heap.size + 1 + 1 + 1 + 1 ≠ w.heap.size + 1 + 1 by omega) _, h.kf.trans ((KeepsOthers.setCell _ _ _).from _), h.hb.setCell (p := ⟨w.heap.size + 1 + 1, j, none⟩) (show w.heap.size ≤ w.heap.size + 1 + 1 by omega) _, by simpa [World.setCell] using h.hs⟩
def MadeL (us : List Nat) (w : World) (e : Ending) (w' : World) : Prop :=
  ∃ g', e = .returned (.slice (some ⟨g', 0, none⟩) (2 ^ us.length) (2 ^ us.length)) ∧ w.heap.size ≤ g' ∧ Blk w' g' (clls (tbl (Lp.tabF us))) ∧ Below w.heap.size w w'
set_option maxRecDepth 100000 in
set_option maxHeartbeats 4000000 in
theorem leastP_any (g n : Nat) (us : List Nat) (w : World) (hl : us.length = n) (hn : n ≤ 8) (hu : ∀ i, i < n → us.getD i 0 < 4294967296) (hb : BlkU w g (cllU us)) :
    Calls Try.prog 57 #[.slice (some ⟨g, 0, none⟩) n n] w (MadeL us w) := by
  have hg := hb.lt
  have HU := Lib.hid hb
  have HUL := Lib.hid hu
  have HL := Lib.hid hl
  unfold MadeL
  rw [hl]
  have HTF := Lib.hid (show Lp.tabF us = Lp.tabP us (Sp.down (2 ^ n) (2 ^ n)) by rw [Lp.tabF, hl]; rfl)
  have HTL := Lib.hid (fun l => (show (Lp.tabP us l).length = 2 ^ n by rw [Lp.tabP_len, hl]))
  have HTZ := Lib.hid (show Lp.tabP us [] = List.replicate (2 ^ n) 0 by rw [← hl]; rfl)
  have HPUT := Lib.hid (fun L s => (show Lp.put us L s = if s = 2 ^ n - 1 then L else L.set s (max (Tk.liveU us s) (Lp.minO (fun j => L.getD (s ||| 2 ^ j) 0) (Tk.nextU us s) 8 n)) by rw [Lp.put, Lp.val, hl]))
  have HOR := Lib.hid (fun s j (h : s < 2 ^ n) (hj : j < n) => Lp.or_lt h hj)
  have HB0 := Lib.hid ((Below.refl w.heap.size w).alloc (Nat.le_refl _) (.cells #[.slice (some ⟨g, 0, none⟩) n n] 67))
  obtain ⟨N, hN⟩ : ∃ N : Nat, N = 2 ^ n := ⟨_, rfl⟩
  have hN1 : 1 ≤ N := by rw [hN]; exact Nat.one_le_two_pow
  have hN2 : N ≤ 256 := by rw [hN]; exact Nat.pow_le_pow_right (n := 2) (j := 8) (by decide) hn
  have CO := Lib.hid (fun W => ones_any n W (by omega))
  rw [← hN] at HTF HTL HTZ HPUT CO HOR ⊢
  have HN := Lib.hid hN
  obtain ⟨M, hM⟩ : ∃ M, M = N - 1 := ⟨_, rfl⟩
  rw [← hM] at CO HPUT
  have HM := Lib.hid hM
  have u1 : IntKind.u32.wrap ((M : Int) + 1) = (N : Int) := by rw [IntKind.wrap_u32]; omega
  have hmk := fun W => run_make_l W N (by omega)
  have k0 := Bx.new w 67 #[.slice (some ⟨g, 0, none⟩) n n]
  have c0 := k0.cell 0
  clear hb hu hl hN hM
  refine (callsIn_wide (n := 8)).1 ?_
  refine callsIn_of_wp_marks Try.func57 rfl trivial ?_ rfl
  simp only [Try.ntmps57, List.size_toArray, List.length_cons, List.length_nil, Nat.reduceAdd, Nat.reduceSub, Array.replicate_succ, Array.replicate_zero, List.push_toArray, List.append_toArray, List.nil_append, List.cons_append]
  gi_wp2_with (refine ⟨trivial, ?_⟩; gi_at_call 85; refine (callsIn_wide.2 (CO.out _)).mono ?_; rintro e w4 ⟨rfl, rfl⟩)
  gi_wp2_with (refine ⟨trivial, ?_⟩; gi_at_call 86; refine (subs Fence.wide _ trivial rfl _ _).mono ?_; rintro e w5 ⟨rfl, rfl⟩)
  clear hmk c0 k0
  obtain ⟨W0, hW0, b0, b1, b2, b3, b4, hsz, hb0⟩ := five_allocs w 67 72 2 25 72 #[.slice (some ⟨g, 0, none⟩) n n] #[.int .u32 (M : Int)] (clls (List.replicate N 0)) #[.slice (some ⟨w.heap.size + 1 + 1, 0, none⟩) N N] #[.int .u32 (M : Int)]
  rw [hW0]
  clear hW0
  have q4 := b4.cell 0
  have hstops := subs_stops Fence.wide (8 - 1) trivial rfl (by omega) (w.heap.size + 1 + 1 + 1 + 1) w.heap.size n N (by omega) HN.out W0 (by omega) (by rw [← HM.out]; exact q4)
  have hz : clls (tbl (Lp.tabP us [])) = clls (List.replicate N 0) := by rw [HTZ.out, tbl_zero]
  refine wpIn_rangeFunc_ownH rfl (by omega) (gf := 99) (lb := #[.pointer (some ⟨w.heap.size + 1 + 1 + 1 + 1, 0, none⟩)]) rfl trivial (enters_of Try.func99 (by kernel_rfl) rfl)
    hstops KpB.trans (kpB_b (by omega)) (Below.refl _ _) (fun _ => rfl)
    (fun pre W => ((((W.heap[w.heap.size]? = some (.cells #[.slice (some ⟨g, 0, none⟩) n n] 67 (0, 0)) ∧ W.heap[w.heap.size + 1]? = some (.cells #[.int .u32 (M : Int)] 72 (0, 0))) ∧ W.heap[w.heap.size + 1 + 1]? = some (.cells (clls (tbl (Lp.tabP us (pre.map (·.1))))) 2 (0, 0))) ∧ W.heap[w.heap.size + 1 + 1 + 1]? = some (.cells #[.slice (some ⟨w.heap.size + 1 + 1, 0, none⟩) N N] 25 (0, 0))) ∧ Below w.heap.size w W) ∧ W0.heap.size ≤ W.heap.size)
    (fun _ _ _ => False)
    (OwnFrom.and (OwnFrom.and (OwnFrom.and (OwnFrom.and (OwnFrom.and (Own.from (blk_own _ _ _) _) (Own.from (blk_own _ _ _) _)) (Own.from (blk_own _ _ _) _)) (Own.from (blk_own _ _ _) _)) (ownFrom_below (Nat.le_refl _) (by omega))) (fun _ _ _ _ hs hg _ => Nat.le_trans hs hg.size))
    (fun _ _ _ _ _ hs _ _ => hs)
    ⟨⟨⟨⟨⟨b0, b1⟩, by rw [List.map_nil, hz]; exact b2⟩, b3⟩, hb0⟩, Nat.le_refl _⟩
    (fun x a' W => a' = { tmps := #[.slice (some ⟨g, 0, none⟩) n n, .pointer (some ⟨w.heap.size, 0, none⟩), .slice none 0 0, .pointer (some ⟨w.heap.size + 1, 0, none⟩), .pointer (some ⟨w.heap.size + 1 + 1 + 1, 0, none⟩), .int .u32 ((x.1 : Nat) : Int), undef, undef, .slice (some ⟨g, 0, none⟩) n n, .int .i64 n, .int .u32 (M : Int), .int .u32 (M : Int), .int .u32 (N : Int), .slice (some ⟨w.heap.size + 1 + 1, 0, none⟩) N N, .int .u32 (M : Int), .func (.func 99) #[] #[.pointer (some ⟨w.heap.size + 1 + 1 + 1 + 1, 0, none⟩)], .int .u32 ((x.1 : Nat) : Int), undef, undef, undef, undef, undef, undef, undef, undef, undef, undef, undef, undef, undef, undef, undef, undef, undef, undef, undef, undef, undef, undef, undef, undef, undef, undef, undef, undef, undef, undef], defers := [] })
    (fun x a' _ X Y row hs hg hr => hs)
    ?assign ?body ?done ?stop
  case assign =>
    rintro l pre x W K ⟨⟨⟨⟨⟨b0, b1⟩, b2⟩, b3⟩, hB⟩, hS⟩ hK
    gi_wp2
    exact hK _ _ (KeepsFrom.refl _ _) (KpB.refl _ _ _) ⟨⟨⟨⟨⟨b0, b1⟩, b2⟩, b3⟩, hB⟩, hS⟩ rfl
  case body =>
    rintro l pre ⟨j, hj⟩ a' W hl ⟨rr, hr⟩ ⟨⟨⟨⟨⟨b0, b1⟩, b2⟩, b3⟩, hB⟩, hS⟩ rfl hlt
    dsimp only
    have HTN := Lib.hid (HTL.out (pre.map (·.1)))
    have HNX := Lib.hid ((Lp.tabP_snoc us (pre.map (·.1)) j).trans (HPUT.out _ j))
    obtain ⟨T, hT⟩ : ∃ T, T = Lp.tabP us (pre.map (·.1)) := ⟨_, rfl⟩
    rw [← hT] at b2 HTN HNX
    clear hT
    have R0 : LpR w W0 W g n N M T W := ⟨b0, b1, b2, b3, KpB.of (Below.refl _ _) hB.size, KeepsFrom.refl _ _, hB, hS⟩
    have HR0 := Lib.hid R0
    have c1 : W.cell? ⟨w.heap.size + 1, 0, none⟩ = some (.int .u32 (M : Int)) := R0.b1.cell 0
    have c0 : W.cell? ⟨w.heap.size, 0, none⟩ = some (.slice (some ⟨g, 0, none⟩) n n) := R0.b0.cell 0
    have eu : (pre ++ [(⟨j, hj⟩ : SbIx N)]).map (fun x => x.1) = pre.map (fun x => x.1) ++ [j] := by rw [List.map_append]; rfl
    have ev : (pre ++ [(⟨j, hj⟩ : SbIx N)]).unattach = pre.map (·.1) ++ [j] := eu
    have HE := Lib.hid (And.intro eu ev)
    clear eu ev R0 b0 b1 b2 b3 hB hS
    by_cases hjM : j = M
    · have e1 : ((j : Int) == (M : Int)) = true := beq_iff_eq.2 (by omega)
      have e2 : decide ((j : Int) = (M : Int)) = true := decide_eq_true (by omega)
      rw [if_pos hjM] at HNX
      clear hjM
      gi_wp2
      refine ⟨by first | exact HR0.out.kf | (rw [← hsz]; exact HR0.out.kf), HR0.out.kp, ⟨⟨⟨⟨HR0.out.b0, HR0.out.b1⟩, ?_⟩, HR0.out.b3⟩, HR0.out.hb⟩, by first | exact HR0.out.hs | (rw [← hsz]; exact HR0.out.hs)⟩
      first | rw [HE.out.1, HNX.out] | rw [HE.out.2, HNX.out]
      exact HR0.out.b2
    · have e1 : ((j : Int) == (M : Int)) = false := beq_eq_false_iff_ne.2 (by omega)
      have e2 : decide ((j : Int) = (M : Int)) = false := decide_eq_false (by omega)
      rw [if_neg hjM] at HNX
      clear hjM
      have hj32 : j < 4294967296 := by omega
      gi_wp2
      gi_loopw [6, 22] (fun rv i wr => ∃ q : Nat, q ≤ n ∧ i = .int .i64 q ∧ rv = .int .i64 ((Lp.minO (fun k => T.getD (j ||| 2 ^ k) 0) (Tk.nextU us j) 8 q : Nat) : Int) ∧ LpR w W0 W g n N M T wr) (fun _ i _ => n - (intOf i).toNat)
      case atStart => exact ⟨0, Nat.zero_le _, rfl, rfl, HR0.out⟩
      case round =>
        rename World => wr
        obtain ⟨q, hq, rfl, rfl, hR⟩ := hrel
        have HRR := Lib.hid hR
        by_cases hql : q < n
        · have c0' : wr.cell? ⟨w.heap.size, 0, none⟩ = some (.slice (some ⟨g, 0, none⟩) n n) := hR.b0.cell 0
          have CN := Lib.hid (isNextU_any g n us j q wr HL.out (by omega) HUL.out hj32 hql (HU.out.keep hR.hb))
          have HSS := Lib.hid (show Lp.minO (fun k => T.getD (j ||| 2 ^ k) 0) (Tk.nextU us j) 8 (q + 1) = if Tk.nextU us j q then min (Lp.minO (fun k => T.getD (j ||| 2 ^ k) 0) (Tk.nextU us j) 8 q) (T.getD (j ||| 2 ^ q) 0) else Lp.minO (fun k => T.getD (j ||| 2 ^ k) 0) (Tk.nextU us j) 8 q by rw [Lp.minO])
          obtain ⟨m, hm⟩ : ∃ m, m = Lp.minO (fun k => T.getD (j ||| 2 ^ k) 0) (Tk.nextU us j) 8 q := ⟨_, rfl⟩
          rw [← hm] at HSS ⊢
          obtain ⟨b, hbb⟩ : ∃ b, b = Tk.nextU us j q := ⟨_, rfl⟩
          rw [← hbb] at CN HSS
          have i0 : (0 : Int) ≤ (q : Int) := by omega
          have i1 : (q : Int) < (n : Int) := by omega
          clear hR hm hbb
          cases b
          · gi_wp2_with (refine ⟨trivial, ?_⟩; gi_at_call 58; refine (CallsIn.inRound l (callsIn_wide.2 CN.out)).mono ?_; rintro e w5 ⟨rfl, hb5⟩)
            have R5 := Lib.hid (HRR.out.keep hb5)
            clear hb5 CN c0'
            gi_wp2
            go_roundw
            case rel => exact ⟨q + 1, by omega, by go_num, by rw [HSS.out, if_neg (by simp)], R5.out⟩
            case measure => simp [intOf]; omega
          · gi_wp2_with (refine ⟨trivial, ?_⟩; gi_at_call 58; refine (CallsIn.inRound l (callsIn_wide.2 CN.out)).mono ?_; rintro e w5 ⟨rfl, hb5⟩)
            have R5 := Lib.hid (HRR.out.keep hb5)
            clear hb5 CN c0'
            have hyN := HOR.out j q hj hql
            have CW := Lib.hid (fun (p : BelBy w5) => calls_bel ((withN_any j q p.W hj32 (by omega)).mono fun e w' h => ⟨h.1, h.2 ▸ Below.refl _ _⟩))
            obtain ⟨y, hy⟩ : ∃ y, y = j ||| 2 ^ q := ⟨_, rfl⟩
            rw [← hy] at hyN CW HSS
            have d1 : ∀ p : BelBy w5, p.W.cell? ⟨w.heap.size + 1 + 1 + 1, 0, none⟩ = some (.slice (some ⟨w.heap.size + 1 + 1, 0, none⟩) N N) := BelBy.cell (R5.out.b3.cell 0)
            obtain ⟨t, ht⟩ : ∃ t, t = T.getD y 0 := ⟨_, rfl⟩
            have d2 : ∀ p : BelBy w5, p.W.cell? ⟨w.heap.size + 1 + 1, y, none⟩ = some (.int .i64 (t : Int)) := BelBy.cell (by rw [R5.out.b2.cell, clls_get (by rw [tbl_len, HTN.out]; exact hyN), tbl_at, ht])
            rw [← ht] at HSS
            have t0 : (0 : Int) ≤ (y : Int) := by omega
            have t1 : (y : Int) < (N : Int) := by omega
            clear hy ht hyN
            gi_wp2
            refine wpIn_region_bel_tail 8 (by kernel_rfl) (by kernel_rfl) (by kernel_rfl) ?_
            simp only [List.take_succ_cons, List.take_zero, List.drop_succ_cons, List.drop_zero]
            iterate 4 (quiet_step_in (fail))
            refine wpQuietIn_step (by intro _ _; intros; trivial) (fun K hK => ?_)
            go_simp
            apply Exists.intro
            refine ⟨fun _ => CallsIn.inRound l (callsIn_wide.2 (CW.out _)), hK _ ?_⟩
            clear hK K
            repeat (quiet_step_in (fail))
            refine wpQuietIn_nil ?_
            rintro w6 ⟨⟨_, h6⟩, rfl⟩
            have R6 := Lib.hid (R5.out.keep h6)
            clear h6 d1 d2 CW
            gi_wp2
            go_roundw
            case rel => exact ⟨q + 1, by omega, by go_num, by rw [HSS.out, show (if t < m then (t : Int) else (m : Int)) = ((min m t : Nat) : Int) by split <;> omega]; simp, R6.out⟩
            case measure => simp [intOf]; omega
        · have hqn : q = n := by omega
          have i1 : ¬ (q : Int) < (n : Int) := by omega
          rw [hqn]
          have CB := Lib.hid (fun (p : BelBy wr) => calls_bel (liveBehind_any g n us j p.W HL.out (by omega) HUL.out hj32 (HU.out.keep (HRR.out.hb.trans (p.h.mono HRR.out.hb.size)))))
          obtain ⟨lv, hlv⟩ : ∃ m, m = Tk.liveU us j := ⟨_, rfl⟩
          obtain ⟨m, hm⟩ : ∃ m, m = Lp.minO (fun k => T.getD (j ||| 2 ^ k) 0) (Tk.nextU us j) 8 n := ⟨_, rfl⟩
          rw [← hlv] at CB HNX
          rw [← hm] at HNX ⊢
          have d1 : ∀ p : BelBy wr, p.W.cell? ⟨w.heap.size + 1 + 1 + 1, 0, none⟩ = some (.slice (some ⟨w.heap.size + 1 + 1, 0, none⟩) N N) := BelBy.cell (HRR.out.b3.cell 0)
          have d2 : ∀ p : BelBy wr, p.W.cell? ⟨w.heap.size, 0, none⟩ = some (.slice (some ⟨g, 0, none⟩) n n) := BelBy.cell (HRR.out.b0.cell 0)
          have t0 : (0 : Int) ≤ (j : Int) := by omega
          have t1 : (j : Int) < (N : Int) := by omega
          rw [hqn] at i1
          clear hR hql hm hlv hqn hq
          rcases Int.lt_or_le (lv : Int) (m : Int) with hlm | hlm0
          · skip
            rw [show max lv m = m by omega] at HNX
            gi_wp2
            refine wpIn_region_bel_tail 8 (by kernel_rfl) (by kernel_rfl) (by kernel_rfl) ?_
            simp only [List.take_succ_cons, List.take_zero, List.drop_succ_cons, List.drop_zero]
            iterate 4 (quiet_step_in (fail))
            refine wpQuietIn_step (by intro _ _; intros; trivial) (fun K hK => ?_)
            go_simp
            apply Exists.intro
            refine ⟨fun _ => CallsIn.inRound l (callsIn_wide.2 (CB.out _)), hK _ ?_⟩
            clear hK K
            repeat (quiet_step_in (fail))
            refine wpQuietIn_nil ?_
            rintro w6 ⟨⟨_, h6⟩, rfl⟩
            have R6 := Lib.hid (HRR.out.keep h6)
            have f6 := R6.out.b2.frozen j
            obtain ⟨old, e6⟩ : ∃ old, w6.cell? ⟨w.heap.size + 1 + 1, j, none⟩ = some (.int .i64 old) := ⟨_, by rw [R6.out.b2.cell, clls_get (by rw [tbl_len, HTN.out]; exact hj)]⟩
            have R7 := Lib.hid (R6.out.set j m)
            clear h6 d1 d2 CB
            gi_wp2
            refine ⟨by first | exact R7.out.kf | (rw [← hsz]; exact R7.out.kf), R7.out.kp, ⟨⟨⟨⟨R7.out.b0, R7.out.b1⟩, ?_⟩, R7.out.b3⟩, R7.out.hb⟩, by first | exact R7.out.hs | (rw [← hsz]; exact R7.out.hs)⟩
            first | rw [HE.out.1, HNX.out] | rw [HE.out.2, HNX.out]
            exact R7.out.b2
          · have hlm : ¬ (lv : Int) < (m : Int) := by omega
            rw [show max lv m = lv by omega] at HNX
            gi_wp2
            refine wpIn_region_bel_tail 8 (by kernel_rfl) (by kernel_rfl) (by kernel_rfl) ?_
            simp only [List.take_succ_cons, List.take_zero, List.drop_succ_cons, List.drop_zero]
            iterate 4 (quiet_step_in (fail))
            refine wpQuietIn_step (by intro _ _; intros; trivial) (fun K hK => ?_)
            go_simp
            apply Exists.intro
            refine ⟨fun _ => CallsIn.inRound l (callsIn_wide.2 (CB.out _)), hK _ ?_⟩
            clear hK K
            repeat (quiet_step_in (fail))
            refine wpQuietIn_nil ?_
            rintro w6 ⟨⟨_, h6⟩, rfl⟩
            have R6 := Lib.hid (HRR.out.keep h6)
            have f6 := R6.out.b2.frozen j
            obtain ⟨old, e6⟩ : ∃ old, w6.cell? ⟨w.heap.size + 1 + 1, j, none⟩ = some (.int .i64 old) := ⟨_, by rw [R6.out.b2.cell, clls_get (by rw [tbl_len, HTN.out]; exact hj)]⟩
            have R7 := Lib.hid (R6.out.set j lv)
            clear h6 d1 d2 CB
            gi_wp2
            refine ⟨by first | exact R7.out.kf | (rw [← hsz]; exact R7.out.kf), R7.out.kp, ⟨⟨⟨⟨R7.out.b0, R7.out.b1⟩, ?_⟩, R7.out.b3⟩, R7.out.hb⟩, by first | exact R7.out.hs | (rw [← hsz]; exact R7.out.hs)⟩
            first | rw [HE.out.1, HNX.out] | rw [HE.out.2, HNX.out]
            exact R7.out.b2
  case done =>
    rintro D ys W hD hS ⟨⟨⟨⟨⟨b0, b1⟩, b2⟩, b3⟩, hB⟩, hSz⟩ hK
    have hS' : ys.map (·.1) = Sp.down N N := hS
    rw [hS', ← HTF.out] at b2
    have c4 : W.cell? ⟨w.heap.size + 1 + 1 + 1, 0, none⟩ = some (.slice (some ⟨w.heap.size + 1 + 1, 0, none⟩) N N) := Bx.cell b3 0
    gi_wp2
    refine ⟨by simp, .inl ⟨_, _, rfl, run_takeDeferred hK, ?_⟩⟩
    have hbF : Below w.heap.size w (W.putObj D (.deferred none)) := hB.trans (belowK_b (w := w) (Nat.le_refl _) W D _ _ (by omega) hK rfl rfl)
    have hbl : Blk (W.putObj D (.deferred none)) (w.heap.size + 1 + 1) (clls (tbl (Lp.tabF us))) := (grownBy_keeps_cells (grownBy_putObj' W D (.deferred none)) (fun r e => by cases e; exact ⟨_, hK, rfl⟩) b2 rfl).trans b2
    exact ⟨_, results_tmp (t := 2) rfl _ _ _, ⟨_, rfl, by omega, hbl, hbF⟩⟩
  case stop =>
    rintro D cx pre W _ _ hx _
    exact hx.elim
end Go.Proofs.Ytfmplneopmbfoaa.Wds
