/-
  Groups: the code's packer. One contract.
-/
import Derived.Test.YtgkpjeheoinpiaaGp3
import Derived.Test.YtgkpjeheoinpiaaGraph
import Derived.Test.YtgkpjeheoinpiaaMch
import Derived.Test.YtgkpjeheoinpiaaVCode
import Derived.Test.YtgkpjeheoinpiaaTailQ
import Derived.Deep.RegionHeld3
import Derived.Deep.CutRange
namespace Go.Proofs.Ytgkpjeheoinpiaa.Wds
open Go.RowKit
set_option linter.unusedVariables false

/-- A block of any type that holds just these cells, none frozen. -/
def Bx (w : World) (g : Nat) (t : TypeId) (cs : Array Value) : Prop := w.heap[g]? = some (.cells cs t (0, 0))
theorem Bx.lt {w : World} {g : Nat} {t : TypeId} {cs : Array Value} (h : Bx w g t cs) : g < w.heap.size := lt_of_block h
theorem Bx.cell {w : World} {g : Nat} {t : TypeId} {cs : Array Value} (h : Bx w g t cs) (i : Nat) : w.cell? ⟨g, i, none⟩ = cs[i]? := cell_of_row w g i cs _ (0, 0) h
theorem Bx.frozen {w : World} {g : Nat} {t : TypeId} {cs : Array Value} (h : Bx w g t cs) (i : Nat) : w.frozen? ⟨g, i, none⟩ = false := by
  unfold Bx at h; simp [World.frozen?, h]
theorem Bx.new (w : World) (t : TypeId) (cs : Array Value) : Bx (w.alloc (.cells cs t)) w.heap.size t cs := heap_alloc_new w _
theorem Bx.alloc {w : World} {g : Nat} {t : TypeId} {cs : Array Value} (h : Bx w g t cs) (o : Obj) : Bx (w.alloc o) g t cs := (Below.heap_alloc w o g h.lt).trans h
theorem Bx.set_ {w : World} {g : Nat} {t : TypeId} {cs : Array Value} (h : Bx w g t cs) (i : Nat) (u : Value) : Bx (w.setCell ⟨g, i, none⟩ u) g t (cs.setIfInBounds i u) := by
  unfold Bx at h ⊢
  simp [World.setCell, Array.getElem?_modify, h]
theorem Bx.far {w : World} {g : Nat} {t : TypeId} {cs : Array Value} (h : Bx w g t cs) {p : Addr} (hp : g ≠ p.block) (u : Value) : Bx (w.setCell p u) g t cs := (Below.heap_setCell w p u g hp).trans h
theorem Bx.below {w w' : World} {g : Nat} {t : TypeId} {cs : Array Value} (h : Bx w g t cs) {B : Nat} (hb : Below B w w') (hg : g < B) : Bx w' g t cs := (hb.block g hg).trans h
theorem Bx.keep {w w' : World} {g : Nat} {t : TypeId} {cs : Array Value} (h : Bx w g t cs) (hb : Below w.heap.size w w') : Bx w' g t cs := h.below hb h.lt
theorem run_make_u (W : World) (n : Nat) (hn : n ≤ 17592186044416) : (Instr.makeSlice 43 (.int .i64 (n : Int)) (.int .i64 (n : Int))).run Try.prog W = .ok (.slice (some ⟨W.heap.size, 0, none⟩) n n) (W.alloc (.cells (cllU (List.replicate n 0)) 64)) := by
  obtain ⟨i, hi, h3, h4, h5⟩ := info_parts A_infoU
  have hrun := run_make (P := Try.prog) W 43 64 i (.int .u32 0) Try.underlying43 hi h3 .i64 .i64 (n : Int) (n : Int) (by omega) (by omega) (by rw [h5]; omega) (by omega)
  have e : madeCells (Value.int .u32 0).cells ((n : Int).toNat * i.size) = cllU (List.replicate n 0) := by
    rw [h4, ← cllU_zero]
    apply Array.ext
    · simp [madeCells]
    · intro j hj1 hj2
      simp [madeCells, Value.cells, Nat.mod_one]
  rw [e] at hrun
  simpa using hrun
theorem Bx.cells5 {w : World} {g : Nat} {t : TypeId} {a b c d e : Value} (h : Bx w g t #[a, b, c, d, e]) : w.cell? ⟨g, 0, none⟩ = some a ∧ w.cell? ⟨g, 1, none⟩ = some b ∧ w.cell? ⟨g, 2, none⟩ = some c ∧ w.cell? ⟨g, 3, none⟩ = some d ∧ w.cell? ⟨g, 4, none⟩ = some e ∧
    w.frozen? ⟨g, 0, none⟩ = false ∧ w.frozen? ⟨g, 1, none⟩ = false ∧ w.frozen? ⟨g, 2, none⟩ = false ∧ w.frozen? ⟨g, 3, none⟩ = false ∧ w.frozen? ⟨g, 4, none⟩ = false :=
  ⟨h.cell 0, h.cell 1, h.cell 2, h.cell 3, h.cell 4, h.frozen 0, h.frozen 1, h.frozen 2, h.frozen 3, h.frozen 4⟩
theorem Bx.cells5A {w : World} {g : Nat} {t : TypeId} {a b c d e : Value} (h : Bx w g t #[a, b, c, d, e]) : (∀ o, (w.alloc o).cell? ⟨g, 0, none⟩ = some a) ∧ (∀ o, (w.alloc o).cell? ⟨g, 1, none⟩ = some b) ∧ (∀ o, (w.alloc o).cell? ⟨g, 2, none⟩ = some c) ∧ (∀ o, (w.alloc o).cell? ⟨g, 3, none⟩ = some d) ∧ (∀ o, (w.alloc o).cell? ⟨g, 4, none⟩ = some e) ∧
    (∀ o, (w.alloc o).frozen? ⟨g, 0, none⟩ = false) ∧ (∀ o, (w.alloc o).frozen? ⟨g, 1, none⟩ = false) ∧ (∀ o, (w.alloc o).frozen? ⟨g, 2, none⟩ = false) ∧ (∀ o, (w.alloc o).frozen? ⟨g, 3, none⟩ = false) ∧ (∀ o, (w.alloc o).frozen? ⟨g, 4, none⟩ = false) :=
  ⟨fun o => (h.alloc o).cell 0, fun o => (h.alloc o).cell 1, fun o => (h.alloc o).cell 2, fun o => (h.alloc o).cell 3, fun o => (h.alloc o).cell 4, fun o => (h.alloc o).frozen 0, fun o => (h.alloc o).frozen 1, fun o => (h.alloc o).frozen 2, fun o => (h.alloc o).frozen 3, fun o => (h.alloc o).frozen 4⟩
theorem sz1 (w : World) (o : Obj) : (w.alloc o).heap.size = w.heap.size + 1 := by simp
theorem set5_below {B : Nat} {a w : World} (h : Below B a w) {g : Nat} (hg : B ≤ g) (v0 v1 v2 v3 v4 : Value) :
    Below B a (((((w.setCell ⟨g, 0, none⟩ v0).setCell ⟨g, 1, none⟩ v1).setCell ⟨g, 2, none⟩ v2).setCell ⟨g, 3, none⟩ v3).setCell ⟨g, 4, none⟩ v4) :=
  ((((h.setCell (p := ⟨g, 0, none⟩) hg v0).setCell (p := ⟨g, 1, none⟩) hg v1).setCell (p := ⟨g, 2, none⟩) hg v2).setCell (p := ⟨g, 3, none⟩) hg v3).setCell (p := ⟨g, 4, none⟩) hg v4
theorem Bx.set5 {w : World} {g : Nat} {t : TypeId} {u0 u1 u2 u3 u4 : Value} (h : Bx w g t #[u0, u1, u2, u3, u4]) (v0 v1 v2 v3 v4 : Value) :
    Bx (((((w.setCell ⟨g, 0, none⟩ v0).setCell ⟨g, 1, none⟩ v1).setCell ⟨g, 2, none⟩ v2).setCell ⟨g, 3, none⟩ v3).setCell ⟨g, 4, none⟩ v4) g t #[v0, v1, v2, v3, v4] := by
  have := ((((h.set_ 0 v0).set_ 1 v1).set_ 2 v2).set_ 3 v3).set_ 4 v4
  simpa using this
theorem BlkU.far5 {w : World} {g : Nat} {cs : Array Value} (h : BlkU w g cs) {k : Nat} (hk : g ≠ k) (v0 v1 v2 v3 v4 : Value) :
    BlkU (((((w.setCell ⟨k, 0, none⟩ v0).setCell ⟨k, 1, none⟩ v1).setCell ⟨k, 2, none⟩ v2).setCell ⟨k, 3, none⟩ v3).setCell ⟨k, 4, none⟩ v4) g cs :=
  ((((h.far (p := ⟨k, 0, none⟩) hk v0).far (p := ⟨k, 1, none⟩) hk v1).far (p := ⟨k, 2, none⟩) hk v2).far (p := ⟨k, 3, none⟩) hk v3).far (p := ⟨k, 4, none⟩) hk v4
/-- The mates as they grow: those of the statements below k are done, of k the first i. -/
def mg (l : Int) (ss : List Sc.St) (n k i : Nat) : List Nat := (List.range n).map fun j => if j < k then Gp.mate l ss n j else if j = k then Sc.setOf (fun x => Gp.fit l (Sc.nth ss k) (Sc.nth ss x)) i else 0
theorem mg_len (l : Int) (ss : List Sc.St) (n k i : Nat) : (mg l ss n k i).length = n := by simp [mg]
theorem mg_at {l : Int} {ss : List Sc.St} {n k i j : Nat} (h : j < n) : (mg l ss n k i).getD j 0 = if j < k then Gp.mate l ss n j else if j = k then Sc.setOf (fun x => Gp.fit l (Sc.nth ss k) (Sc.nth ss x)) i else 0 := by
  rw [mg, List.getD_eq_getElem?_getD, List.getElem?_map, List.getElem?_range h]; rfl
theorem mg_zero (l : Int) (ss : List Sc.St) (n : Nat) : mg l ss n 0 0 = List.replicate n 0 := by
  refine List.ext_getElem (by simp [mg]) fun j h1 h2 => ?_
  simp [mg, Sc.setOf]
theorem mg_next (l : Int) (ss : List Sc.St) (n k : Nat) : mg l ss n k n = mg l ss n (k + 1) 0 := by
  unfold mg
  refine List.map_congr_left fun j _ => ?_
  by_cases h1 : j < k
  · rw [if_pos h1, if_pos (by omega)]
  · by_cases h2 : j = k
    · subst h2; rw [if_neg h1, if_pos rfl, if_pos (by omega)]; rfl
    · rw [if_neg h1, if_neg h2, if_neg (by omega)]
      split <;> simp [Sc.setOf]
theorem mg_set (l : Int) (ss : List Sc.St) (n k i : Nat) (h : k < n) (v : Nat) (hv : v = Sc.setOf (fun x => Gp.fit l (Sc.nth ss k) (Sc.nth ss x)) (i + 1)) : (mg l ss n k i).set k v = mg l ss n k (i + 1) := by
  refine List.ext_getElem (by simp [mg]) fun j h1 h2 => ?_
  rw [List.getElem_set]
  by_cases e : k = j
  · subst e; rw [if_pos rfl, hv]; simp [mg]
  · rw [if_neg e]; simp [mg, show ¬ j = k from fun h => e h.symm]
theorem mg_same (l : Int) (ss : List Sc.St) (n k i : Nat) (hf : Gp.fit l (Sc.nth ss k) (Sc.nth ss i) = false) : mg l ss n k (i + 1) = mg l ss n k i := by
  unfold mg
  refine List.map_congr_left fun j _ => ?_
  by_cases h1 : j < k
  · rw [if_pos h1, if_pos h1]
  · by_cases h2 : j = k
    · subst h2; rw [if_neg h1, if_pos rfl, if_neg h1, if_pos rfl, Sc.setOf, hf]; simp
    · rw [if_neg h1, if_neg h2, if_neg h1, if_neg h2]
theorem mg_all (l : Int) (ss : List Sc.St) (n : Nat) : mg l ss n n 0 = (List.range n).map (Gp.mate l ss n) := by
  unfold mg
  refine List.map_congr_left fun j hj => ?_
  rw [if_pos (List.mem_range.1 hj)]
/-- What the packer's loops keep: the graph's row, the mates' row, the packer's own cells; nothing below b has changed. -/
structure PkW (w0 : World) (b gn gm gk : Nat) (cn : Array Value) (ms : List Nat) (ck : Array Value) (w : World) : Prop where
  n : BlkU w gn cn
  m : BlkU w gm (cllU ms)
  k : Bx w gk 46 ck
  h : Below b w0 w
theorem PkW.alloc {w0 w : World} {b gn gm gk : Nat} {cn : Array Value} {ms : List Nat} {ck : Array Value} (h : PkW w0 b gn gm gk cn ms ck w) (hb : b ≤ w0.heap.size) (o : Obj) : PkW w0 b gn gm gk cn ms ck (w.alloc o) :=
  ⟨h.n.alloc o, h.m.alloc o, h.k.alloc o, h.h.alloc (Nat.le_trans hb h.h.size) o⟩
theorem PkW.keep {w0 w w' : World} {b gn gm gk : Nat} {cn : Array Value} {ms : List Nat} {ck : Array Value} (h : PkW w0 b gn gm gk cn ms ck w) (hb : b ≤ w0.heap.size) (hk : Below w.heap.size w w') : PkW w0 b gn gm gk cn ms ck w' :=
  ⟨h.n.keep hk, h.m.keep hk, h.k.keep hk, h.h.trans (hk.mono (Nat.le_trans hb h.h.size))⟩
theorem PkW.set {w0 w : World} {b gn gm gk : Nat} {cn : Array Value} {ms : List Nat} {ck : Array Value} (h : PkW w0 b gn gm gk cn ms ck w) (h1 : gn ≠ gm) (h2 : gk ≠ gm) (h3 : b ≤ gm) (i v : Nat) : PkW w0 b gn gm gk cn (ms.set i v) ck (w.setCell ⟨gm, i, none⟩ (.int .u32 (v : Int))) :=
  ⟨h.n.far (p := ⟨gm, i, none⟩) h1 _, by have := h.m.set_ i (.int .u32 (v : Int)); rw [cllU_set] at this; exact this, h.k.far (p := ⟨gm, i, none⟩) h2 _, h.h.setCell (p := ⟨gm, i, none⟩) h3 _⟩
/-- The packer is returned: a row of sets of its own, and mates. -/
def RetP (l b : Int) (A : Option Addr) (n c : Nat) (ss : List Sc.St) (w : World) (e : Ending) (w' : World) : Prop :=
  ∃ gn gm, e = .returned (.tuple #[.agg #[.int .i64 l, .int .i64 b, .slice A n c, .slice (some ⟨gn, 0, none⟩) n n, .slice (some ⟨gm, 0, none⟩) n n], .bool true]) ∧ w.heap.size ≤ gn ∧ w.heap.size ≤ gm ∧ gn ≠ gm ∧
    BlkU w' gn (cllU (graph ss n)) ∧ BlkU w' gm (cllU ((List.range n).map (Gp.mate l ss n))) ∧ Below w.heap.size w w'
set_option maxRecDepth 100000 in
set_option maxHeartbeats 4000000 in
theorem packerOf_any (l b : Int) (A : Option Addr) (n c : Nat) (ss : List Sc.St) (B : Nat) (w : World) (hn : n ≤ 1048576) (h : RdS w B A n ss) (hv : Sc.valid ss = true) (hm : Mc.mok l b = true) (hl : l = 2 ∨ l = 4) (hnc : n ≤ c) :
    Calls Try.prog 15 #[.agg #[.int .i64 l, .int .i64 b], .slice A n c] w (RetP l b A n c ss w) := by
  obtain ⟨i0, hi, hz0, hz1, hz2⟩ := info_parts A_infoU
  have hn16 : n ≤ 16 := by have := Sc.len_of_valid hv; rw [h.len] at this; exact this
  have HV := Lib.hid (fun k (hk : k < n) => Sc.ok_of_valid hv (k := k) (by rw [h.len]; exact hk))
  have C1 := Lib.hid (fun W => iValidM_any l b W)
  rw [hm] at C1
  have C2 := Lib.hid (fun (W : World) (hb : Below w.heap.size w W) => iValidCode_any A n c ss B W hn (h.below hb))
  rw [hv] at C2
  have CG := Lib.hid (fun (W : World) (hb : Below w.heap.size w W) => graphOf_any A n c ss B W (h.below hb) hv hnc)
  have H := Lib.hid h; clear h hv hm
  have h4 : ¬ (4 : Int) < l := by omega
  have HL := Lib.hid hl; clear hl
  go_enter Try.func15, Try.ntmps15
  go_wp2_with fail
  refine (C1.out _).mono ?_
  rintro e w1 ⟨rfl, hb⟩
  have X1 := Lib.hid (((Bx.new w 28 #[.int .i64 l, .int .i64 b]).alloc (.cells #[.int .i64 0, .int .i64 0, .slice none 0 0, .slice none 0 0, .slice none 0 0] 46)).keep hb)
  have X2 := Lib.hid ((Bx.new (w.alloc (.cells #[.int .i64 l, .int .i64 b] 28)) 46 #[.int .i64 0, .int .i64 0, .slice none 0 0, .slice none 0 0, .slice none 0 0]).keep hb)
  rw [show (w.alloc (.cells #[.int .i64 l, .int .i64 b] 28)).heap.size = w.heap.size + 1 by simp] at X2
  have hb0 : Below w.heap.size w ((w.alloc (.cells #[.int .i64 l, .int .i64 b] 28)).alloc (.cells #[.int .i64 0, .int .i64 0, .slice none 0 0, .slice none 0 0, .slice none 0 0] 46)) := ((Below.refl _ _).alloc (Nat.le_refl _) _).alloc (by simp) _
  have HB1 := Lib.hid (hb0.trans (hb.mono hb0.size)); clear hb hb0
  have x0 : w1.cell? ⟨w.heap.size, 0, none⟩ = some (.int .i64 l) := X1.out.cell 0
  go_wp2_with fail
  refine (C2.out _ HB1.out).mono ?_
  rintro e w2 ⟨rfl, hb⟩
  have Y1 := Lib.hid (X1.out.keep hb)
  have Y2 := Lib.hid (X2.out.keep hb)
  have HB2 := Lib.hid (HB1.out.trans (hb.mono HB1.out.size)); clear hb x0
  have x0 : w2.cell? ⟨w.heap.size, 0, none⟩ = some (.int .i64 l) := Y1.out.cell 0
  have x1 : w2.cell? ⟨w.heap.size, 1, none⟩ = some (.int .i64 b) := Y1.out.cell 1
  have K := Lib.hid (fun (W : World) (h : Below w2.heap.size w2 W) => (And.intro ((h.cell (World.block_lt_of_cell? w2 _ x0)).trans x0) ((h.cell (World.block_lt_of_cell? w2 _ x1)).trans x1) : W.cell? ⟨w.heap.size, 0, none⟩ = some (.int .i64 l) ∧ W.cell? ⟨w.heap.size, 1, none⟩ = some (.int .i64 b)))
  have HS2 := Lib.hid Y2.out.lt
  go_upto_region 3 with (fail)
  go_cut [6] from 25 to 32 (fun k wx => ∃ gn gm gk, k = .pointer (some ⟨gk, 0, none⟩) ∧ w.heap.size + 2 ≤ gn ∧ w.heap.size + 2 ≤ gm ∧ w.heap.size + 2 ≤ gk ∧ gn ≠ gm ∧ gm ≠ gk ∧ gn ≠ gk ∧ BlkU wx gn (cllU (graph ss n)) ∧ BlkU wx gm (cllU (List.replicate n 0)) ∧
    Bx wx gk 46 #[.int .i64 l, .int .i64 b, .slice A n c, .slice (some ⟨gn, 0, none⟩) n n, .slice (some ⟨gm, 0, none⟩) n n] ∧ Below w2.heap.size w2 wx)
  case first =>
    have KD := Lib.hid (K.out w2.drew (Below.refl _ _).drew)
    have KA := Lib.hid (fun o => K.out (w2.drew.alloc o) ((Below.refl _ _).drew.alloc (Nat.le_refl _) _))
    have KAA := Lib.hid (fun o o' => K.out ((w2.drew.alloc o).alloc o') (((Below.refl _ _).drew.alloc (Nat.le_refl _) _).alloc (by simp) _))
    have KB := Lib.hid (fun o => K.out (w2.alloc o).drew ((Below.refl _ _).alloc (Nat.le_refl _) _).drew)
    have KBB := Lib.hid (fun o o' => K.out ((w2.alloc o).alloc o').drew (((Below.refl _ _).alloc (Nat.le_refl _) _).alloc (by simp) _).drew)
    have K3A := Lib.hid (fun w3 (h : Below w2.heap.size w2 w3) o => K.out (w3.alloc o) (h.alloc h.size _))
    have K3AA := Lib.hid (fun w3 (h : Below w2.heap.size w2 w3) o o' => K.out ((w3.alloc o).alloc o') ((h.alloc h.size _).alloc (Nat.le_trans h.size (by simp)) _))
    have K3S := Lib.hid (fun w3 (h : Below w2.heap.size w2 w3) v0 v1 v2 v3 v4 => K.out _ (set5_below h (Nat.le_refl w2.heap.size) v0 v1 v2 v3 v4))
    have K3S1 := Lib.hid (fun w3 (h : Below w2.heap.size w2 w3) v0 v1 v2 v3 v4 => K.out _ (set5_below h (Nat.le_succ w2.heap.size) v0 v1 v2 v3 v4))
    have K3SA := Lib.hid (fun w3 (h : Below w2.heap.size w2 w3) o v0 v1 v2 v3 v4 => K.out _ (set5_below (h.alloc h.size o) (Nat.le_refl w2.heap.size) v0 v1 v2 v3 v4))
    have hmk := fun W => run_make_u W n (by omega)
    go_region_held3 (fun W => W.cell? ⟨w.heap.size, 0, none⟩ = some (.int .i64 l) ∧ W.cell? ⟨w.heap.size, 1, none⟩ = some (.int .i64 b))
      (with_reducible (first | exact KD.out | exact KA.out _ | exact KAA.out _ _ | exact KB.out _ | exact KBB.out _ _ | exact K.out _ HC3.out | exact K3A.out w3 HC3.out _ | exact K3AA.out w3 HC3.out _ _ | exact K3S.out w3 HC3.out _ _ _ _ _ | exact K3S1.out w3 HC3.out _ _ _ _ _ | exact K3SA.out w3 HC3.out _ _ _ _ _ _))
      (first | (go_at_call 27; (with_reducible refine (CG.out _ ?_).mono ?_); (first | exact HB2.out.drew | exact HB2.out.drew.alloc HB2.out.size _ | exact (HB2.out.drew.alloc HB2.out.size _).alloc (Nat.le_trans HB2.out.size (by simp)) _); rintro e w3 ⟨gn, rfl, hgn, hbk, hb3⟩; have HC3 : Hid (Below w2.heap.size w2 w3) := (by first | exact Lib.hid ((Below.refl _ w2).drew.trans (hb3.mono (Nat.le_refl _))) | exact Lib.hid (((Below.refl _ w2).drew.alloc (Nat.le_refl _) _).trans (hb3.mono (by simp))) | exact Lib.hid ((((Below.refl _ w2).drew.alloc (Nat.le_refl _) _).alloc (by simp) _).trans (hb3.mono (by simp; try omega)))); have HG3 := Lib.hid (And.intro hgn hbk); (try (have HQ3 : Hid (Bx w3 w2.heap.size 46 #[.int .i64 0, .int .i64 0, .slice none 0 0, .slice none 0 0, .slice none 0 0]) := (by first | exact Lib.hid ((Bx.new w2.drew _ _).keep hb3) | exact Lib.hid (((Bx.new w2.drew _ _).alloc _).keep hb3)); obtain ⟨q0, q1, q2, q3, q4, f0, f1, f2, f3, f4⟩ := HQ3.out.cells5; obtain ⟨r0, r1, r2, r3, r4, s0, s1, s2, s3, s4⟩ := HQ3.out.cells5A)); (try (have HQ4 : Hid (Bx w3 (w2.heap.size + 1) 46 #[.int .i64 0, .int .i64 0, .slice none 0 0, .slice none 0 0, .slice none 0 0]) := (by have := (Bx.new (w2.drew.alloc _) 46 #[.int .i64 0, .int .i64 0, .slice none 0 0, .slice none 0 0, .slice none 0 0]).keep hb3; exact Lib.hid (by simpa using this)); obtain ⟨q0, q1, q2, q3, q4, f0, f1, f2, f3, f4⟩ := HQ4.out.cells5)); (try have HM3 : Hid (BlkU w3 w2.heap.size (cllU (List.replicate n 0))) := (by first | exact Lib.hid ((BlkU.new w2.drew _).keep hb3) | exact Lib.hid (((BlkU.new w2.drew _).alloc _).keep hb3))); (try have HM4 : Hid (BlkU w3 (w2.heap.size + 1) (cllU (List.replicate n 0))) := (by have := (BlkU.new (w2.drew.alloc _) (cllU (List.replicate n 0))).keep hb3; exact Lib.hid (by simpa using this))); clear hgn hbk hb3))
    · have hS := HS2.out
      have hg : w2.heap.size ≤ gn := HG3.out.1
      have hlt := HG3.out.2.lt
      have hs3 := HC3.out.size
      go_wp2_with fail
      go_meet
      case rel =>
        exact ⟨gn, w3.heap.size, w3.heap.size + 1, rfl, by omega, by omega, by omega, by omega, by omega, by omega, (HG3.out.2.alloc _).alloc _, (BlkU.new w3 _).alloc _, (by have := Bx.new (w3.alloc (.cells (cllU (List.replicate n 0)) 64)) 46 #[.int .i64 l, .int .i64 b, .slice A n c, .slice (some ⟨gn, 0, none⟩) n n, .slice (some ⟨w3.heap.size, 0, none⟩) n n]; simpa using this), (HC3.out.alloc hs3 _).alloc (Nat.le_trans hs3 (by simp)) _⟩
    · have hS := HS2.out
      have hg : w2.heap.size ≤ gn := HG3.out.1
      have hlt := HG3.out.2.lt
      have hs3 := HC3.out.size
      go_wp2_with fail
      go_meet
      case rel =>
        exact ⟨gn, w3.heap.size + 1, w3.heap.size, rfl, by omega, by omega, by omega, by omega, by omega, by omega, (HG3.out.2.alloc _).alloc _, (by have := BlkU.new (w3.alloc (.cells #[.int .i64 l, .int .i64 b, .slice A n c, .slice (some ⟨gn, 0, none⟩) n n, .slice (some ⟨w3.heap.size + 1, 0, none⟩) n n] 46)) (cllU (List.replicate n 0)); simpa using this), (Bx.new w3 _ _).alloc _, (HC3.out.alloc hs3 _).alloc (Nat.le_trans hs3 (by simp)) _⟩
    · have hS := HS2.out
      have hg : w2.heap.size + 1 ≤ gn := by have h1 : (w2.alloc _).heap.size ≤ gn := HG3.out.1; rw [sz1] at h1; exact h1
      have hlt := HG3.out.2.lt
      have hs3 := HC3.out.size
      go_wp2_with fail
      go_meet
      case rel =>
        exact ⟨gn, w2.heap.size, w3.heap.size, rfl, by omega, by omega, by omega, by omega, by omega, by omega, HG3.out.2.alloc _, HM3.out.alloc _, Bx.new w3 _ _, HC3.out.alloc hs3 _⟩
    · have hS := HS2.out
      have hg : w2.heap.size + 1 + 1 ≤ gn := by have h1 : ((w2.alloc _).alloc _).heap.size ≤ gn := HG3.out.1; rw [sz1, sz1] at h1; exact h1
      have hlt := HG3.out.2.lt
      have hs3 := HC3.out.size
      go_wp2_with fail
      go_meet
      case rel =>
        exact ⟨gn, w2.heap.size, w2.heap.size + 1, rfl, by omega, by omega, by omega, by omega, by omega, by omega, HG3.out.2.far5 (by omega) _ _ _ _ _, HM3.out.far5 (by omega) _ _ _ _ _, HQ4.out.set5 _ _ _ _ _, set5_below HC3.out (Nat.le_succ _) _ _ _ _ _⟩
    · have hS := HS2.out
      have hg : w2.heap.size + 1 ≤ gn := by have h1 : (w2.alloc _).heap.size ≤ gn := HG3.out.1; rw [sz1] at h1; exact h1
      have hlt := HG3.out.2.lt
      have hs3 := HC3.out.size
      go_wp2_with fail
      go_meet
      case rel =>
        exact ⟨gn, w3.heap.size, w2.heap.size, rfl, by omega, by omega, by omega, by omega, by omega, by omega, (HG3.out.2.alloc _).far5 (by omega) _ _ _ _ _, (BlkU.new w3 _).far5 (by omega) _ _ _ _ _, (HQ3.out.alloc _).set5 _ _ _ _ _, set5_below (HC3.out.alloc hs3 _) (Nat.le_refl _) _ _ _ _ _⟩
    · have hS := HS2.out
      have hg : w2.heap.size + 1 + 1 ≤ gn := by have h1 : ((w2.alloc _).alloc _).heap.size ≤ gn := HG3.out.1; rw [sz1, sz1] at h1; exact h1
      have hlt := HG3.out.2.lt
      have hs3 := HC3.out.size
      go_wp2_with fail
      go_meet
      case rel =>
        exact ⟨gn, w2.heap.size + 1, w2.heap.size, rfl, by omega, by omega, by omega, by omega, by omega, by omega, HG3.out.2.far5 (by omega) _ _ _ _ _, HM4.out.far5 (by omega) _ _ _ _ _, HQ3.out.set5 _ _ _ _ _, set5_below HC3.out (Nat.le_refl _) _ _ _ _ _⟩
  case rest =>
    obtain ⟨gn, gm, gk, rfl, b1, b2, b3, d1, d2, d3, hn1, hm1, hk1, hb⟩ := hcut
    have hsz : w.heap.size + 2 ≤ wc.heap.size := by have := hn1.lt; omega
    have P0 : PkW wc (w.heap.size + 2) gn gm gk (cllU (graph ss n)) (List.replicate n 0) #[.int .i64 l, .int .i64 b, .slice A n c, .slice (some ⟨gn, 0, none⟩) n n, .slice (some ⟨gm, 0, none⟩) n n] wc := ⟨hn1, hm1, hk1, Below.refl _ _⟩
    rw [← mg_zero l ss n] at P0
    have HP0 := Lib.hid P0
    have HSZ := Lib.hid hsz
    have HBC := Lib.hid (HB2.out.trans (hb.mono HB2.out.size))
    have HDD := Lib.hid (And.intro b1 (And.intro b2 (And.intro b3 (And.intro d1 (And.intro d2 d3)))))
    have Z1 := Lib.hid (Y1.out.keep hb)
    have Z2 := Lib.hid (Y2.out.keep hb)
    have HRD := Lib.hid (H.out.below HBC.out)
    clear hn1 hm1 hk1 P0 hsz hb b1 b2 b3 d1 d2 d3 x0 x1
    go_wp2
    go_loopw [35] (fun i wr => ∃ k : Nat, k ≤ n ∧ i = .int .i64 k ∧ PkW wc (w.heap.size + 2) gn gm gk (cllU (graph ss n)) (mg l ss n k 0) #[.int .i64 l, .int .i64 b, .slice A n c, .slice (some ⟨gn, 0, none⟩) n n, .slice (some ⟨gm, 0, none⟩) n n] wr) (fun i _ => n - (intOf i).toNat)
    case atStart => exact ⟨0, Nat.zero_le _, rfl, HP0.out⟩
    case round =>
      rename World => wo
      obtain ⟨k, hk, rfl, hP⟩ := hrel
      have HPo := Lib.hid hP
      have HBo := Lib.hid (HBC.out.trans (hP.h.mono (Nat.le_add_right w.heap.size 2)))
      clear hP
      by_cases hlt : k < n
      · obtain ⟨g, o, rfl, hg, c0, c1, c2, c3⟩ := (H.out.below HBo.out).at_ hlt
        obtain ⟨y, hy⟩ : ∃ x, x = Sc.nth ss k := ⟨_, rfl⟩
        rw [← hy] at c0 c1 c2 c3
        have oky := HV.out k hlt
        rw [← hy] at oky
        obtain ⟨p', d', a', b'⟩ := y
        simp only at c0 c1 c2 c3
        have HY := Lib.hid hy; clear hy
        have HOKY := Lib.hid oky; clear oky
        have i1 : (0 : Int) ≤ (k : Int) := by omega
        have i2 : (k : Int) < (n : Int) := by omega
        go_wp2
        go_loopw [42] (fun i wr => ∃ x : Nat, x ≤ n ∧ i = .int .i64 x ∧ PkW wc (w.heap.size + 2) gn gm gk (cllU (graph ss n)) (mg l ss n k x) #[.int .i64 l, .int .i64 b, .slice (some ⟨g, o, none⟩) n c, .slice (some ⟨gn, 0, none⟩) n n, .slice (some ⟨gm, 0, none⟩) n n] wr ∧ Bx wr wo.heap.size 40 #[.int .i64 p', .int .i64 d', .int .i64 a', .int .i64 b']) (fun i _ => n - (intOf i).toNat)
        case atStart => exact ⟨0, Nat.zero_le _, rfl, HPo.out.alloc HSZ.out _, Bx.new _ _ _⟩
        case round =>
          rename World => wi
          obtain ⟨x, hx, rfl, hP, hS⟩ := hrel
          have HPi := Lib.hid hP
          have HSi := Lib.hid hS
          have HBi := Lib.hid (HBC.out.trans (hP.h.mono (Nat.le_add_right w.heap.size 2)))
          clear hP hS c0 c1 c2 c3
          by_cases hlx : x < n
          · obtain ⟨g', o', e', hg', q0, q1, q2, q3⟩ := (H.out.below HBi.out).at_ (k := x) hlx
            injection e' with e'; injection e' with e1 e2; subst e1; subst e2
            obtain ⟨z, hz⟩ : ∃ z, z = Sc.nth ss x := ⟨_, rfl⟩
            rw [← hz] at q0 q1 q2 q3
            have okx := HV.out x hlx
            rw [← hz] at okx
            obtain ⟨p, d, a, bb⟩ := z
            simp only at q0 q1 q2 q3
            have HZ := Lib.hid hz; clear hz
            obtain ⟨t, ht⟩ : ∃ z, z = Gp.fit l ⟨p', d', a', b'⟩ ⟨p, d, a, bb⟩ := ⟨_, rfl⟩
            have CF := Lib.hid (fun W => fits_any p' d' a' b' p d a bb l W HL.out HOKY.out okx)
            rw [← ht] at CF
            have HT := Lib.hid (show t = Gp.fit l (Sc.nth ss k) (Sc.nth ss x) by rw [← HY.out, ← HZ.out]; exact ht)
            clear ht okx
            have s0 : wi.cell? ⟨wo.heap.size, 0, none⟩ = some (.int .i64 p') := HSi.out.cell 0
            have s1 : wi.cell? ⟨wo.heap.size, 1, none⟩ = some (.int .i64 d') := HSi.out.cell 1
            have s2 : wi.cell? ⟨wo.heap.size, 2, none⟩ = some (.int .i64 a') := HSi.out.cell 2
            have s3 : wi.cell? ⟨wo.heap.size, 3, none⟩ = some (.int .i64 b') := HSi.out.cell 3
            have hlw := HSi.out.lt
            have m0 : wi.cell? ⟨w.heap.size, 0, none⟩ = some (.int .i64 l) := (Z1.out.below HPi.out.h (by omega)).cell 0
            have hmw : w.heap.size < wi.heap.size := by have := HPi.out.h.size; have := HSZ.out; omega
            have HP2 := Lib.hid (HPi.out.alloc HSZ.out (.cells #[.int .i64 p, .int .i64 d, .int .i64 a, .int .i64 bb] 40))
            have HS2' := Lib.hid (HSi.out.alloc (.cells #[.int .i64 p, .int .i64 d, .int .i64 a, .int .i64 bb] 40))
            have j1 : (0 : Int) ≤ (x : Int) := by omega
            have j2 : (x : Int) < (n : Int) := by omega
            go_wp2_with fail
            refine (CF.out _).mono ?_
            rintro e w4 ⟨rfl, hb4⟩
            have HP4 := Lib.hid (HP2.out.keep HSZ.out hb4)
            have HS4 := Lib.hid (HS2'.out.keep hb4)
            clear hb4 s0 s1 s2 s3 q0 q1 q2 q3 m0 hlw hmw
            cases t
            · go_wp2
              go_roundw
              case rel => exact ⟨x + 1, by omega, by go_num, by rw [mg_same _ _ _ _ _ HT.out.symm]; exact HP4.out, HS4.out⟩
              case measure => simp [intOf]; omega
            · have hset : Sc.setOf (fun z => Gp.fit l (Sc.nth ss k) (Sc.nth ss z)) x < 4294967296 := Sc.setOf_lt32 _ (by omega)
              obtain ⟨sv, hsv⟩ : ∃ z, z = Sc.setOf (fun z => Gp.fit l (Sc.nth ss k) (Sc.nth ss z)) x := ⟨_, rfl⟩
              rw [← hsv] at hset
              have HSV := Lib.hid hsv; clear hsv
              have CW := Lib.hid (fun (p : BelBy w4) => calls_bel ((withN_any sv x p.W hset (by omega)).mono fun e w' ⟨he, hw⟩ => ⟨he, hw ▸ Below.refl _ _⟩))
              have n0 : w4.cell? ⟨gm, k, none⟩ = some (.int .u32 (sv : Int)) := by
                rw [HP4.out.m.cell, cllU_get (by rw [mg_len]; exact hlt), mg_at hlt, if_neg (by omega), if_pos rfl, ← HSV.out]
              have d1 := BelBy.cell n0
              have d2 : ∀ p : BelBy w4, p.W.cell? ⟨gk, 4, none⟩ = some (.slice (some ⟨gm, 0, none⟩) n n) := BelBy.cell (HP4.out.k.cell 4)
              clear n0 hset
              go_wp2
              refine wp_region_bel_tail 11 (by kernel_rfl) (by kernel_rfl) ?_
              simp only [List.take_succ_cons, List.take_zero, List.drop_succ_cons, List.drop_zero]
              repeat (go_big_quiet_step (first | (go_at_call 29; exact CW.out _)))
              refine wpQuiet_nil ?_
              rintro w5 ⟨⟨_, h5⟩, rfl⟩
              have HP5 := Lib.hid (HP4.out.keep HSZ.out h5)
              have HS5 := Lib.hid (HS4.out.keep h5)
              have f5 := HP5.out.m.frozen k
              have e5 : w5.cell? ⟨gm, k, none⟩ = some (.int .u32 (sv : Int)) := by
                rw [HP5.out.m.cell, cllU_get (by rw [mg_len]; exact hlt), mg_at hlt, if_neg (by omega), if_pos rfl, ← HSV.out]
              clear d1 d2 h5
              go_wp2
              go_roundw
              case rel =>
                obtain ⟨_, b2, _, d1, d2, _⟩ := HDD.out
                have hS := HS2.out
                refine ⟨x + 1, by omega, by go_num, ?_, HS5.out.far (p := ⟨gm, k, none⟩) ?_ _⟩
                · have := HP5.out.set d1 (Ne.symm d2) b2 k (sv ||| 2 ^ x)
                  rw [mg_set l ss n k x hlt _ (by rw [Sc.setOf, ← HSV.out, ← HT.out, if_pos rfl])] at this
                  exact this
                · have := HPo.out.m.lt; show wo.heap.size ≠ gm; omega
              case measure => simp [intOf]; omega
          · have hxn : x = n := by omega
            subst hxn
            go_wp2
            go_roundw
            case rel => exact ⟨k + 1, by omega, by go_num, by rw [← mg_next]; exact HPi.out⟩
            case measure => simp [intOf]; omega
      · have hkn : k = n := by omega
        subst hkn
        have K1 : ∀ i v, (#[Value.int .i64 l, .int .i64 b, .slice A k c, .slice (some ⟨gn, 0, none⟩) k k, .slice (some ⟨gm, 0, none⟩) k k])[i]? = some v → wo.cell? ⟨gk, i, none⟩ = some v := fun i v h => (HPo.out.k.cell i).trans h
        have k0 := K1 0 _ rfl
        have k1 := K1 1 _ rfl
        have k2 := K1 2 _ rfl
        have k3 := K1 3 _ rfl
        have k4 := K1 4 _ rfl
        obtain ⟨q0, q1, q2, q3, q4, f0, f1, f2, f3, f4⟩ := (Z2.out.below HPo.out.h (by omega)).cells5
        clear K1
        go_wp2
        have Zw := (Z2.out.below HPo.out.h (by omega)).set5 (.int .i64 l) (.int .i64 b) (.slice A k c) (.slice (some ⟨gn, 0, none⟩) k k) (.slice (some ⟨gm, 0, none⟩) k k)
        obtain ⟨b1, b2, _, d1, _, _⟩ := HDD.out
        have hnF := HPo.out.n.far5 (k := w.heap.size + 1) (by omega) (.int .i64 l) (.int .i64 b) (.slice A k c) (.slice (some ⟨gn, 0, none⟩) k k) (.slice (some ⟨gm, 0, none⟩) k k)
        have hmF := HPo.out.m.far5 (k := w.heap.size + 1) (by omega) (.int .i64 l) (.int .i64 b) (.slice A k c) (.slice (some ⟨gn, 0, none⟩) k k) (.slice (some ⟨gm, 0, none⟩) k k)
        have hbF := set5_below HBo.out (g := w.heap.size + 1) (by omega) (.int .i64 l) (.int .i64 b) (.slice A k c) (.slice (some ⟨gn, 0, none⟩) k k) (.slice (some ⟨gm, 0, none⟩) k k)
        clear q0 q1 q2 q3 q4 f0 f1 f2 f3 f4 k0 k1 k2 k3 k4
        obtain ⟨wf, hwf⟩ : ∃ wf, wf = (((((wo.setCell ⟨w.heap.size + 1, 0, none⟩ (.int .i64 l)).setCell ⟨w.heap.size + 1, 1, none⟩ (.int .i64 b)).setCell ⟨w.heap.size + 1, 2, none⟩ (.slice A k c)).setCell ⟨w.heap.size + 1, 3, none⟩ (.slice (some ⟨gn, 0, none⟩) k k)).setCell ⟨w.heap.size + 1, 4, none⟩ (.slice (some ⟨gm, 0, none⟩) k k)) := ⟨_, rfl⟩
        rw [← hwf] at Zw hnF hmF hbF ⊢
        clear hwf
        obtain ⟨z0, z1, z2, z3, z4, _⟩ := Zw.cells5
        refine bodyPost_ret (v := .tuple #[.agg #[.int .i64 l, .int .i64 b, .slice A k c, .slice (some ⟨gn, 0, none⟩) k k, .slice (some ⟨gm, 0, none⟩) k k], .bool true]) ?_ rfl ⟨gn, gm, rfl, by omega, by omega, d1, hnF, by rw [← mg_all]; exact hmF, hbF⟩
        simp [results, Try.results15, go_sem, z0, z1, z2, z3, z4]
end Go.Proofs.Ytgkpjeheoinpiaa.Wds
