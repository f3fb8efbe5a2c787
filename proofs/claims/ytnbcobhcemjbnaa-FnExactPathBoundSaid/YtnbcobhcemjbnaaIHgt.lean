/-
  HeightsOf: the code's function: a loop over an iterator, from the last task on. One contract.
-/
import Derived.Test.YtnbcobhcemjbnaaBwdT
import Derived.Test.YtnbcobhcemjbnaaHtM
import Derived.Test.YtnbcobhcemjbnaaVTask2
import Derived.Test.YtnbcobhcemjbnaaTailI
import Derived.Test.YtnbcobhcemjbnaaPush
import Derived.Test.YtnbcobhcemjbnaaBxM
namespace Go.Proofs.Ytnbcobhcemjbnaa.Wds
open Go.RowKit Go.Shelf
attribute [local go_sem] Oper.semAt_some
set_option linter.unusedVariables false

/-- The heights behind some tasks, in whatever order. -/
def hP (ts : List Tk.T) (l : List Nat) : List Int := l.foldl (fun h i => Tk.hIn ts h i (Tk.nth ts i).ns.length) (List.replicate ts.length 0)
theorem hP_snoc (ts : List Tk.T) (l : List Nat) (i : Nat) : hP ts (l ++ [i]) = Tk.hIn ts (hP ts l) i (Tk.nth ts i).ns.length := by simp [hP]
theorem hP_len (ts : List Tk.T) (l : List Nat) : (hP ts l).length = ts.length := by
  suffices h : ∀ (l : List Nat) (z : List Int), (l.foldl (fun h i => Tk.hIn ts h i (Tk.nth ts i).ns.length) z).length = z.length by
    rw [hP, h]; simp
  intro l
  induction l with
  | nil => intro z; rfl
  | cons i l ih => intro z; rw [List.foldl_cons, ih, Tk.hIn_len]
theorem hP_bwd (ts : List Tk.T) (k : Nat) : hP ts (bwd ts.length k) = Tk.hts ts k := by
  induction k with
  | zero => rfl
  | succ k ih => rw [bwd_succ, hP_snoc, ih, Tk.hts]
theorem hP_bd {ts : List Tk.T} (hv : Tk.valid ts = true) {n : Nat} (hn : ts.length = n) (l : List (TkIx n)) : Tk.Bd (hP ts (l.map (·.1))) (6 * l.length) := by
  subst hn
  have key : ∀ (l : List (TkIx ts.length)) (z : List Int) (b : Int), Tk.Bd z b → Tk.Bd ((l.map (·.1)).foldl (fun h i => Tk.hIn ts h i (Tk.nth ts i).ns.length) z) (b + 6 * l.length) := by
    intro l
    induction l with
    | nil => intro z b h; simpa using h
    | cons x l ih =>
      intro z b h
      rw [List.map_cons, List.foldl_cons]
      have h2 := ih _ _ (Tk.hIn_bd h (Tk.tok_parts (Tk.tok_of_valid hv (k := x.1) x.2)).2.1 (Tk.nth ts x.1).ns.length)
      exact h2.more (by simp only [List.length_cons]; omega)
  have := key l (List.replicate ts.length 0) 0 (fun j => by rw [List.getD_eq_getElem?_getD, List.getElem?_replicate]; split <;> simp)
  exact this.more (by omega)
theorem run_make_i (W : World) (n : Nat) (hn : n ≤ 17592186044415) : (Instr.makeSlice 26 (.int .i64 (n : Int)) (.int .i64 (n : Int))).run Try.prog W = .ok (.slice (some ⟨W.heap.size, 0, none⟩) n n) (W.alloc (.cells (clls (List.replicate n 0)) 2)) := by
  obtain ⟨i, hi, h3, h4, h5⟩ := info_parts A_info64
  have hrun := run_make (P := Try.prog) W 26 2 i (.int .i64 0) Try.underlying26 hi h3 .i64 .i64 (n : Int) (n : Int) (by omega) (by omega) (by rw [h5]; omega) (by omega)
  have e : madeCells (Value.int .i64 0).cells ((n : Int).toNat * i.size) = clls (List.replicate n 0) := by
    rw [h4, ← clls_zero]
    apply Array.ext
    · simp [madeCells]
    · intro j hj1 hj2
      simp [madeCells, Value.cells, Nat.mod_one]
  rw [e] at hrun
  simpa using hrun
theorem blk_own {β : Type} (g : Nat) (t : TypeId) (f : β → Array Value) : Go.Own (fun (s : β) (W : World) => W.heap[g]? = some (.cells (f s) t (0, 0))) := fun s X Y row hs hg hrow =>
  (grownBy_keeps_cells hg hrow hs rfl).trans hs
/-- What a step that only makes memory keeps of a round. -/
theorem KpB.of {Bs n₀ : Nat} {W W' : World} (h : Below W.heap.size W W') (hn : n₀ ≤ W.heap.size) : KpB Bs n₀ W W' :=
  ⟨h.mono hn, fun v hv => (h.cell (World.block_lt_of_cell? W _ hv)).trans hv⟩
theorem KpB.set {Bs n₀ : Nat} {W W' : World} (h : KpB Bs n₀ W W') {p : Addr} (hp : n₀ ≤ p.block) (hne : Bs ≠ p.block) (u : Value) : KpB Bs n₀ W (W'.setCell p u) :=
  ⟨h.h.setCell hp u, fun v hv => by
    have h1 := h.b v hv
    rw [← h1]
    exact World.cell?_of_block (Below.heap_setCell W' p u Bs hne)⟩
theorem keepsFrom_of {B : Nat} {W W' : World} (h : Below W.heap.size W W') : KeepsFrom B W W' :=
  ⟨h.size, fun k o _ hk _ => (h.block k (Array.getElem?_eq_some_iff.1 hk).1).trans hk⟩
/-- What holds in a round of the loop over tasks. -/
structure HgR (w1 W0 W : World) (hs : List Int) (n bx : Nat) (cX : Array Value) (wr : World) : Prop where
  b1 : Bx wr w1.heap.size 2 (clls hs)
  b2 : Bx wr (w1.heap.size + 1) 26 #[.slice (some ⟨w1.heap.size, 0, none⟩) n n]
  bX : Bx wr bx 50 cX
  kp : KpB (w1.heap.size + 1 + 1) w1.heap.size W wr
  kf : KeepsFrom W0.heap.size W wr
  hb : Below w1.heap.size w1 wr
  hs : W0.heap.size ≤ wr.heap.size
theorem HgR.keep {w1 W0 W : World} {hs : List Int} {n bx : Nat} {cX : Array Value} {wr wr' : World} (h : HgR w1 W0 W hs n bx cX wr) (hk : Below wr.heap.size wr wr') : HgR w1 W0 W hs n bx cX wr' :=
  ⟨h.b1.keep hk, h.b2.keep hk, h.bX.keep hk, h.kp.trans (KpB.of hk h.hb.size), h.kf.trans (keepsFrom_of hk), h.hb.trans (hk.mono h.hb.size), Nat.le_trans h.hs hk.size⟩
theorem HgR.set {w1 W0 W : World} {hs : List Int} {n bx : Nat} {cX : Array Value} {wr : World} (h : HgR w1 W0 W hs n bx cX wr) (hne : bx ≠ w1.heap.size) (j : Nat) (z : Int) : HgR w1 W0 W (hs.set j z) n bx cX (wr.setCell ⟨w1.heap.size, j, none⟩ (.int .i64 z)) :=
  ⟨by have := h.b1.set_ j (.int .i64 z); rw [clls_set] at this; exact this, h.b2.far (p := ⟨w1.heap.size, j, none⟩) (show w1.heap.size + 1 ≠ w1.heap.size by omega) _, h.bX.far (p := ⟨w1.heap.size, j, none⟩) hne _,
    h.kp.set (p := ⟨w1.heap.size, j, none⟩) (Nat.le_refl _) (show w1.heap.size + 1 + 1 ≠ w1.heap.size by omega) _, h.kf.trans ((KeepsOthers.setCell _ _ _).from _), h.hb.setCell (p := ⟨w1.heap.size, j, none⟩) (Nat.le_refl _) _, by simpa [World.setCell] using h.hs⟩
set_option maxRecDepth 100000 in
set_option maxHeartbeats 4000000 in
theorem iHeightsOf_any (A : Option Addr) (n c : Nat) (ts : List Tk.T) (B : Nat) (w : World) (hn : Ln.totL (Tk.nss ts) ≤ 1048576) (h : RdT w B A n ts) :
    Calls Try.prog 27 #[.slice A n c] w (Ret1 (Tk.heightsOf ts).1 (Tk.heightsOf ts).2 w) := by
  have CV := Lib.hid (iValidTasks_any A n c ts B w hn h)
  obtain ⟨v, hv⟩ : ∃ z, z = Tk.valid ts := ⟨_, rfl⟩
  unfold Tk.heightsOf
  rw [← hv] at CV ⊢
  have hl := h.len
  have H := Lib.hid h
  have HT := Lib.hid hn
  clear h hn
  cases v
  · clear hv
    go_enter Try.func27, Try.ntmps27
    go_wp2_with fail
    refine CV.out.mono ?_
    rintro e w1 ⟨rfl, hb⟩
    have HB := Lib.hid hb; clear hb
    go_wp2_with fail
    go_ret2
    exact Ret1.no HB.out
  · rw [if_pos rfl]
    have h8 : n ≤ 8 := by rw [← hl]; exact Tk.len_of_valid hv.symm
    have HV := Lib.hid hv.symm; clear hv
    obtain ⟨i0, hi, hz0, hz1, hz2⟩ := info_parts A_info64
    refine (callsIn_wide (n := 8)).1 ?_
    refine callsIn_of_wp_marks Try.func27 rfl trivial ?_ rfl
    simp only [Try.ntmps27, List.size_toArray, List.length_cons, List.length_nil, Nat.reduceAdd, Nat.reduceSub, Array.replicate_succ, Array.replicate_zero, List.push_toArray, List.append_toArray, List.nil_append, List.cons_append]
    have HL := Lib.hid hl; clear hl
    have hmk := fun W => run_make_i W n (by omega)
    gi_wp2_with (refine ⟨trivial, ?_⟩; gi_at_call 46; refine (callsIn_wide.2 CV.out).mono ?_; rintro e w1 ⟨rfl, hb⟩; have HB1 := Lib.hid hb; clear hb)
    gi_wp2_with (refine ⟨trivial, ?_⟩; gi_at_call 52; refine (bwdT Fence.wide _ trivial rfl A n c _).mono ?_; rintro e w2 ⟨rfl, rfl⟩)
    clear hmk
    have h1 := (H.out.below HB1.out).tight
    have hb0 : Below w1.heap.size w1 (((w1.alloc (.cells (clls (List.replicate n 0)) 2)).alloc (.cells #[.slice (some ⟨w1.heap.size, 0, none⟩) n n] 26)).alloc (.cells #[.slice A n c] 24)) := (((Below.refl _ _).alloc (Nat.le_refl _) _).alloc (by simp) _).alloc (by simp; omega) _
    have k1 : (((w1.alloc (.cells (clls (List.replicate n 0)) 2)).alloc (.cells #[.slice (some ⟨w1.heap.size, 0, none⟩) n n] 26)).alloc (.cells #[.slice A n c] 24)).heap[w1.heap.size]? = some (.cells (clls (List.replicate n 0)) 2 (0, 0)) := ((Blk.new w1 _).alloc _).alloc _
    have k2 : (((w1.alloc (.cells (clls (List.replicate n 0)) 2)).alloc (.cells #[.slice (some ⟨w1.heap.size, 0, none⟩) n n] 26)).alloc (.cells #[.slice A n c] 24)).heap[w1.heap.size + 1]? = some (.cells #[.slice (some ⟨w1.heap.size, 0, none⟩) n n] 26 (0, 0)) := by
      have := (Boxed.new (w1.alloc (.cells (clls (List.replicate n 0)) 2)) 26 (.slice (some ⟨w1.heap.size, 0, none⟩) n n)).alloc (.cells #[.slice A n c] 24)
      simpa [Boxed] using this
    have k3 : (((w1.alloc (.cells (clls (List.replicate n 0)) 2)).alloc (.cells #[.slice (some ⟨w1.heap.size, 0, none⟩) n n] 26)).alloc (.cells #[.slice A n c] 24)).cell? ⟨w1.heap.size + 1 + 1, 0, none⟩ = some (.slice A n c) := by
      have := (Boxed.new ((w1.alloc (.cells (clls (List.replicate n 0)) 2)).alloc (.cells #[.slice (some ⟨w1.heap.size, 0, none⟩) n n] 26)) 24 (.slice A n c)).cell
      simpa using this
    have hsz : (((w1.alloc (.cells (clls (List.replicate n 0)) 2)).alloc (.cells #[.slice (some ⟨w1.heap.size, 0, none⟩) n n] 26)).alloc (.cells #[.slice A n c] 24)).heap.size = w1.heap.size + 3 := by simp
    obtain ⟨W0, hW0⟩ : ∃ W0, (((w1.alloc (.cells (clls (List.replicate n 0)) 2)).alloc (.cells #[.slice (some ⟨w1.heap.size, 0, none⟩) n n] 26)).alloc (.cells #[.slice A n c] 24)) = W0 := ⟨_, rfl⟩
    rw [hW0] at hb0 k1 k2 k3 hsz ⊢
    clear hW0
    have HB0 := Lib.hid hb0
    obtain ⟨R, m, cc, hRm, hstops⟩ := bwdT_stops Fence.wide (8 - 1) trivial rfl (by omega) (w1.heap.size + 1 + 1) w1.heap.size A n c ts h8 W0 (by omega) (by omega) k3 (h1.below hb0)
    refine wpIn_rangeFunc_ownH rfl (by omega) (gf := 64) (lb := #[.pointer (some ⟨w1.heap.size + 1 + 1, 0, none⟩)]) rfl trivial (enters_of Try.func64 (by kernel_rfl) rfl)
      hstops KpB.trans (kpB_b (by omega)) (Below.refl _ _) (fun _ => rfl)
      (fun pre W => ((W.heap[w1.heap.size]? = some (.cells (clls (hP ts (pre.map (·.1)))) 2 (0, 0)) ∧ W.heap[w1.heap.size + 1]? = some (.cells #[.slice (some ⟨w1.heap.size, 0, none⟩) n n] 26 (0, 0))) ∧ Below w1.heap.size w1 W) ∧ W0.heap.size ≤ W.heap.size)
      (fun _ _ _ => False)
      (OwnFrom.and (OwnFrom.and (OwnFrom.and (Own.from (blk_own _ _ _) _) (Own.from (blk_own _ _ _) _)) (ownFrom_below (Nat.le_refl _) (by omega))) (fun _ _ _ _ hs hg _ => Nat.le_trans hs hg.size))
      (fun _ _ _ _ _ hs _ _ => hs)
      ⟨⟨⟨by rw [List.map_nil, hP, List.foldl_nil, HL.out]; exact k1, k2⟩, hb0⟩, Nat.le_refl _⟩
      (fun x a' W => ∃ Bx, W0.heap.size ≤ Bx ∧ W.heap[Bx]? = some (.cells #[.int .i64 (Tk.nth ts x.1).p, .int .i64 (Tk.nth ts x.1).l, .slice (R x.1) (m x.1) (cc x.1)] 50 (0, 0)) ∧ a' = { tmps := #[.slice A n c, undef, .slice none 0 0, .bool false, .pointer (some ⟨w1.heap.size + 1, 0, none⟩), .int .i64 ((x.1 : Nat) : Int), .pointer (some ⟨Bx, 0, none⟩), undef, undef, .slice A n c, .bool true, .bool false, .slice A n c, .int .i64 n, .slice (some ⟨w1.heap.size, 0, none⟩) n n, .slice A n c, .func (.func 64) #[] #[.pointer (some ⟨w1.heap.size + 1 + 1, 0, none⟩)], .int .i64 ((x.1 : Nat) : Int), .agg #[.int .i64 (Tk.nth ts x.1).p, .int .i64 (Tk.nth ts x.1).l, .slice (R x.1) (m x.1) (cc x.1)], undef, undef, undef, undef, undef, undef, undef, undef, undef, undef, undef, undef, undef, undef, undef, undef, undef, undef, undef, undef, undef, undef, undef, undef, undef, undef, undef, undef, undef], defers := [] })
      (fun x a' _ X Y row hs hg hr => by obtain ⟨Bx, e1, e2, e3⟩ := hs; exact ⟨Bx, e1, blk_own Bx 50 (fun (_ : Unit) => _) () X Y row e2 hg (fun r e => (hr r e).2), e3⟩)
      ?assign ?body ?done ?stop
    case assign =>
      rintro l pre x W K ⟨⟨⟨b1, b2⟩, hB⟩, hS⟩ hK
      gi_wp2
      have hs := hB.size
      exact hK _ _ ((KeepsOthers.alloc _ _).from _) ⟨(Below.refl _ W).alloc hs _, fun v hv => (((Below.refl W.heap.size W).alloc (Nat.le_refl _) _).cell (World.block_lt_of_cell? W _ hv)).trans hv⟩ ⟨⟨⟨Bx.alloc b1 _, Bx.alloc b2 _⟩, hB.alloc hs _⟩, Nat.le_trans hS (by simp)⟩ ⟨W.heap.size, hS, Bx.new W _ _, rfl⟩
    case body =>
      rintro l pre ⟨j, hj⟩ a' W hl ⟨rr, hr⟩ ⟨⟨⟨b1, b2⟩, hB⟩, hS⟩ ⟨bx, hBx, bX, rfl⟩ hlt
      dsimp only at bX ⊢
      have hRM := hRm j hj
      obtain ⟨Rj, eRj⟩ : ∃ r, r = R j := ⟨_, rfl⟩
      obtain ⟨mj, emj⟩ : ∃ r, r = m j := ⟨_, rfl⟩
      obtain ⟨cj, ecj⟩ : ∃ r, r = cc j := ⟨_, rfl⟩
      rw [← eRj, ← emj] at hRM
      rw [← ecj] at hRM
      rw [← eRj, ← emj, ← ecj] at bX ⊢
      have HRM := Lib.hid hRM
      clear eRj emj ecj hRM
      have hm20 : mj ≤ 1048576 := by
        have q1 := Ln.row_le (Tk.nss ts) j (by rw [Tk.nss_len, HL.out]; exact hj)
        rw [Tk.nss_getD] at q1
        have q2 := HT.out
        have q3 := HRM.out.2.len
        unfold Ln.totL at q2
        omega
      have hbd := hP_bd HV.out HL.out pre
      have hlen := hP_len ts (pre.map (·.1))
      rw [HL.out] at hlen
      have HNX := Lib.hid (hP_snoc ts (pre.map (·.1)) j)
      obtain ⟨hh, hhd⟩ : ∃ hh, hh = hP ts (pre.map (·.1)) := ⟨_, rfl⟩
      rw [← hhd] at b1 hbd hlen HNX
      have HLEN := Lib.hid hlen
      have HBD := Lib.hid hbd
      have HP := Lib.hid (Tk.tok_parts (Tk.tok_of_valid HV.out (k := j) (by rw [HL.out]; exact hj)))
      have hx := hbd j
      obtain ⟨x, hxd⟩ : ∃ x, x = hh.getD j 0 := ⟨_, rfl⟩
      rw [← hxd] at hx
      have HX := Lib.hid hxd
      have cx : W.cell? ⟨w1.heap.size, j, none⟩ = some (.int .i64 x) := by rw [Bx.cell b1, clls_get (by omega), hxd]
      have c4 : W.cell? ⟨w1.heap.size + 1, 0, none⟩ = some (.slice (some ⟨w1.heap.size, 0, none⟩) n n) := Bx.cell b2 0
      have cX1 : W.cell? ⟨bx, 1, none⟩ = some (.int .i64 (Tk.nth ts j).l) := Bx.cell bX 1
      have hl6 := HP.out.2.1
      obtain ⟨tl, htl⟩ : ∃ tl, tl = (Tk.nth ts j).l := ⟨_, rfl⟩
      rw [← htl] at cX1 hl6
      have HTL := Lib.hid htl
      have d1 := BelBy.cell cx
      have d2 := BelBy.cell c4
      have d3 := BelBy.cell cX1
      have i1 : (0 : Int) ≤ (j : Int) := by omega
      have i2 : (j : Int) < (n : Int) := by omega
      have s1 : IntKind.i64.wrap (x + tl) = x + tl := IntWalk.i64_in _ (by omega)
      clear hbd hlen hhd hx hxd cx c4 cX1 htl hl6
      gi_wp2
      refine wpIn_region_bel_tail 8 (by kernel_rfl) (by kernel_rfl) (by kernel_rfl) ?_
      simp only [List.take_succ_cons, List.take_zero, List.drop_succ_cons, List.drop_zero]
      repeat (quiet_step_in (fail))
      refine wpQuietIn_nil ?_
      rintro w3 ⟨⟨_, h3⟩, rfl⟩
      have R0 : HgR w1 W0 W hh n bx #[.int .i64 (Tk.nth ts j).p, .int .i64 (Tk.nth ts j).l, .slice Rj mj cj] W := ⟨b1, b2, bX, KpB.of (Below.refl _ _) hB.size, KeepsFrom.refl _ _, hB, hS⟩
      have R3 := Lib.hid (R0.keep h3)
      have hne : bx ≠ w1.heap.size := by omega
      have f3 := R3.out.b1.frozen j
      have e3 : w3.cell? ⟨w1.heap.size, j, none⟩ = some (.int .i64 (hh.getD j 0)) := by rw [R3.out.b1.cell, clls_get (by rw [HLEN.out]; exact hj)]
      have R4 := R3.out.set hne j (x + tl)
      rw [HX.out, HTL.out, ← Tk.hIn_zero ts hh j] at R4
      rw [← HX.out, ← HTL.out] at R4
      have HR4 := Lib.hid R4
      have t2 : (w3.setCell ⟨w1.heap.size, j, none⟩ (.int .i64 (x + tl))).cell? ⟨bx, 2, none⟩ = some (.slice Rj mj cj) := R4.bX.cell 2
      clear d1 d2 d3 h3 R0 R4 b1 b2 bX
      gi_wp2
      clear t2
      gi_loopw [30] (fun i wr => ∃ q : Nat, q ≤ mj ∧ i = .int .i64 q ∧ HgR w1 W0 W (Tk.hIn ts hh j q) n bx #[.int .i64 (Tk.nth ts j).p, .int .i64 (Tk.nth ts j).l, .slice Rj mj cj] wr) (fun i _ => mj - (intOf i).toNat)
      case atStart => exact ⟨0, Nat.zero_le _, rfl, by have := HR4.out; rw [HTL.out] at this; rw [HTL.out]; exact this⟩
      case round =>
        rename World => wr
        obtain ⟨q, hq, rfl, hR⟩ := hrel
        by_cases hql : q < mj
        · have rd := HRM.out.2.keep (fun p hp hs => (hR.hb.cell hp).trans (HB0.out.cell hp).symm)
          have hns := HRM.out.2.len
          obtain ⟨gr, og, rfl, _, hcq⟩ := rd.at_ hql
          have hmem : (Tk.nth ts j).ns.getD q 0 ∈ (Tk.nth ts j).ns := by
            rw [List.getD_eq_getElem?_getD, List.getElem?_eq_getElem (by rw [hns]; exact hql)]; exact List.getElem_mem _
          have hvr := HP.out.2.2 _ hmem
          have HSS := Lib.hid (Tk.hIn_succ ts hh j q (by rw [hns]; exact hql))
          obtain ⟨v, hvd⟩ : ∃ v, v = (Tk.nth ts j).ns.getD q 0 := ⟨_, rfl⟩
          rw [← hvd] at hcq hvr HSS
          obtain ⟨e, rfl⟩ := Int.eq_ofNat_of_zero_le hvr.1
          have hin := Tk.hIn_len ts hh j q
          rw [HLEN.out] at hin
          obtain ⟨h2, h2d⟩ : ∃ h2, h2 = Tk.hIn ts hh j q := ⟨_, rfl⟩
          rw [← h2d] at hR hin HSS
          have cy : wr.cell? ⟨w1.heap.size, e, none⟩ = some (.int .i64 (h2.getD e 0)) := by rw [hR.b1.cell, clls_get (by omega)]
          have cz : wr.cell? ⟨w1.heap.size, j, none⟩ = some (.int .i64 (h2.getD j 0)) := by rw [hR.b1.cell, clls_get (by omega)]
          have c4 : wr.cell? ⟨w1.heap.size + 1, 0, none⟩ = some (.slice (some ⟨w1.heap.size, 0, none⟩) n n) := hR.b2.cell 0
          obtain ⟨y1, y1d⟩ : ∃ y, y = h2.getD e 0 := ⟨_, rfl⟩
          obtain ⟨y2, y2d⟩ : ∃ y, y = h2.getD j 0 := ⟨_, rfl⟩
          rw [← y1d] at cy
          rw [← y2d] at cz
          have HY := Lib.hid (And.intro y1d y2d)
          have HRR := Lib.hid hR
          have HIN := Lib.hid hin
          have d1 := BelBy.cell cy
          have d2 := BelBy.cell cz
          have d3 := BelBy.cell c4
          have hej : e < n := by omega
          have t1 : (e : Int) < (n : Int) := by omega
          have t0 : (0 : Int) ≤ (e : Int) := by omega
          have t2 : (q : Int) < (mj : Int) := by omega
          have t3 : (0 : Int) ≤ (q : Int) := by omega
          clear hR rd hns hmem hvr hvd hin h2d cy cz c4 y1d y2d
          gi_wp2
          refine wpIn_region_bel_tail 12 (by kernel_rfl) (by kernel_rfl) (by kernel_rfl) ?_
          simp only [List.take_succ_cons, List.take_zero, List.drop_succ_cons, List.drop_zero]
          repeat (quiet_step_in (fail))
          refine wpQuietIn_nil ?_
          rintro w5 ⟨⟨_, h5⟩, rfl⟩
          have R5 := Lib.hid (HRR.out.keep h5)
          have f5 := R5.out.b1.frozen e
          have e5 : w5.cell? ⟨w1.heap.size, e, none⟩ = some (.int .i64 (h2.getD e 0)) := by rw [R5.out.b1.cell, clls_get (by rw [HIN.out]; exact hej)]
          clear d1 d2 d3 h5
          gi_wp2
          go_roundw
          case rel =>
            refine ⟨q + 1, by omega, by go_num, ?_⟩
            have := R5.out.set hne e (max y1 y2)
            rw [HSS.out, Tk.hStep, Int.toNat_natCast, ← HY.out.1, ← HY.out.2]
            rw [show (if y1 < y2 then y2 else y1) = max y1 y2 by split <;> omega]
            exact this
          case measure => simp [intOf]; omega
        · have hqm : q = mj := by omega
          have t2 : ¬ (q : Int) < (mj : Int) := by omega
          have HRR := Lib.hid hR
          clear hR hql
          gi_wp2
          refine ⟨by rw [← hsz]; exact HRR.out.kf, HRR.out.kp, ⟨⟨?_, HRR.out.b2⟩, HRR.out.hb⟩, by rw [← hsz]; exact HRR.out.hs⟩
          have := HRR.out.b1
          rw [hqm, ← HRM.out.2.len, ← HNX.out] at this
          have eu : (pre ++ [(⟨j, hj⟩ : TkIx n)]).unattach = pre.map (·.1) ++ [j] := by
            unfold List.unattach
            rw [List.map_append]; rfl
          rw [eu]
          exact this
    case done =>
      rintro D ys W hD hS ⟨⟨⟨b1, b2⟩, hB⟩, hSz⟩ hK
      have c4 : W.cell? ⟨w1.heap.size + 1, 0, none⟩ = some (.slice (some ⟨w1.heap.size, 0, none⟩) n n) := Bx.cell b2 0
      gi_wp2
      refine ⟨by simp, .inl ⟨_, _, rfl, run_takeDeferred hK, ?_⟩⟩
      have hbF : Below w.heap.size w (W.putObj D (.deferred none)) := (HB1.out.trans (hB.mono HB1.out.size)).trans (belowK_b (w := w) (Nat.le_refl _) W D _ _ (by have := HB1.out.size; omega) hK rfl rfl)
      have hbl : Blk (W.putObj D (.deferred none)) w1.heap.size (clls (hP ts (ys.map (·.1)))) := (grownBy_keeps_cells (grownBy_putObj' W D (.deferred none)) (fun r e => by cases e; exact ⟨_, hK, rfl⟩) b1 rfl).trans b1
      have hS' : ys.map (·.1) = bwd ts.length ts.length := by rw [HL.out]; exact hS
      rw [hS', hP_bwd] at hbl
      have hrt : Ret1 (Tk.heights ts) true w (.returned (.tuple #[.slice (some ⟨w1.heap.size, 0, none⟩) n n, .bool true])) (W.putObj D (.deferred none)) := Ret1.of_blk hbl (by rw [Tk.heights, Tk.hts_len, HL.out]) HB1.out.size (by omega) hbF
      exact ⟨_, results_tmp2 (t := 2) (u := 3) rfl _ _ _, hrt⟩
    case stop =>
      rintro D cx pre W _ _ hx _
      exact hx.elim
end Go.Proofs.Ytnbcobhcemjbnaa.Wds
