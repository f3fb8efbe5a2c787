/-
  What the laws draw of shuffles: orders of lanes, and any shuffle, often a named one. One contract each.
-/
import Derived.Test.YtfmplneopmbfoaaDraw8
import Derived.Test.YtfmplneopmbfoaaPick
import Derived.Test.YtfmplneopmbfoaaShD
namespace Go.Proofs.Ytfmplneopmbfoaa.Wds
open Go.RowKit
set_option linter.unusedVariables false

theorem Own.grew {w w' : World} {lo hi n sb : Nat} {A : Option Addr} {zs : List Int} (h : Own w lo hi A n zs) (hg : w.grownBy w' (some sb)) (hs : sb < lo) : Own w' lo hi A n zs :=
  ⟨h.1, fun hn => by
    obtain ⟨g, o, cs, e, h1, h2, hb, hc⟩ := h.2 hn
    exact ⟨g, o, cs, e, h1, h2, (hg.block g hb.lt (fun e => by injection e; omega)).trans hb, hc⟩⟩
/-- A list of lanes that was drawn: its row is new. -/
def DrawnL (P : List Int → Bool) (n sb M : Nat) (a : Option Addr) (len cap : Nat) (zs : List Int) (w : World) (e : Ending) (w' : World) : Prop :=
  ∃ (A : Option Addr) (c : Nat) (ws : List Int), e = .returned (.slice A n c) ∧ P ws = true ∧ ws.length = n ∧ Own w' w.heap.size w'.heap.size A n ws ∧ Below sb w w'
theorem Src.far2 {w : World} {sb N : Nat} {a : Option Addr} {len cap : Nat} {zs : List Int} (h : Src w sb N a len cap zs) {p : Addr} (hp : sb < p.block) (u : Value) : Src (w.setCell p u) sb N a len cap zs := by
  have hg : w.grownBy (w.setCell p u) (some p.block) := ⟨rfl, rfl, rfl, by simp [World.setCell], fun k hk hne => Below.heap_setCell w p u k (fun e => hne (by rw [e]))⟩
  exact h.grown hg (by intro e; injection e; omega) (by intro r hr; injection hr; omega)
set_option maxHeartbeats 1000000 in
theorem same4_any (n : Nat) (w : World) (hn : n ≤ 1000) : Calls Try.prog 79 #[.int .i64 (n : Int)] w (RowOf (Ln.tab (fun i => (i : Int)) n) n w) := by
  obtain ⟨i0, hi, hz0, hz1, hz2⟩ := info_parts A_info64
  go_enter Try.func79, Try.ntmps79
  go_wp2
  go_loopw [3, 4] (fun v i wr => ∃ k : Nat, k ≤ n ∧ i = .int .i64 k ∧ wr.ownsRow w.heap.size 2 1 v k ((Ln.tab (fun i => (i : Int)) k).map (Value.int .i64)) ∧ Below w.heap.size w wr) (fun _ i _ => n - (intOf i).toNat)
  case atStart => exact ⟨0, Nat.zero_le _, rfl, World.ownsRow_made w #[] 0 (Nat.le_refl _) (by decide) rfl, (Below.refl _ _).alloc (Nat.le_refl _) _⟩
  case round =>
    obtain ⟨k, hk, rfl, hown, hb⟩ := hrel
    by_cases hlt : k < n
    · have hsz := hb.size
      have HN := Lib.hid (Ln.tab_succ (fun i => (i : Int)) k)
      have HB := Lib.hid hb; clear hb
      have i1 : (k : Int) < (n : Int) := by omega
      go_wp2_with (at_builtin; refine wpList_push _ rfl _ _ rfl i0 Try.underlying25 hi hz0 hz1 hz2 _ _ _ _ _ rfl hown rfl (by omega) hsz ?_; intro v' w3 hown1 hb1; have HO1 := Lib.hid hown1; have HB3 := Lib.hid (HB.out.trans hb1); clear hown1 hb1)
      go_roundw
      case rel => exact ⟨k + 1, by omega, by go_num, by rw [HN.out]; exact HO1.out, HB3.out⟩
      case measure => simp [intOf]; omega
    · have hkn : k = n := by omega
      subst hkn
      have HO := Lib.hid hown
      have HB := Lib.hid hb; clear hb hown
      go_wp2
      go_ret
      exact ⟨_, rfl, HO.out, HB.out⟩
set_option maxHeartbeats 2000000 in
set_option maxRecDepth 100000 in
theorem drawOrder_any (n : Nat) (w : World) (sb N : Nat) (a : Option Addr) (len cap : Nat) (zs : List Int) (hl : Ln.lanes n = true) (h : Src w sb N a len cap zs) (hN : N < 700000000) :
    Calls Try.prog 48 #[.pointer (some ⟨sb, 0, none⟩), .int .i64 (n : Int)] w (DrawnL Ln.ord n sb N a len cap zs w) := by
  have hsb : sb < w.heap.size := by obtain ⟨_, _, _, hb, _⟩ := h; exact lt_of_block hb
  have hc := Ln.lanes_cases hl
  have h0 : 0 < n := by omega
  have hn : n ≤ 16 := by omega
  have HOO := Lib.hid (Ln.same_ord hl)
  have HH := Lib.hid h
  clear h hc hl
  go_enter Try.func48, Try.ntmps48
  go_wp2_with fail
  refine (same4_any n w (by omega)).mono ?_
  rintro e w1 ⟨v, rfl, hown, hb⟩
  obtain ⟨g, c, rfl, hc, ho⟩ := own_some hown h0
  have HS1 := Lib.hid (HH.out.grown (row := none) ⟨hb.os, hb.tape, hb.output, hb.size, fun i hi _ => hb.block i hi⟩ (by simp) (by intro r hr; cases hr))
  have HO := Lib.hid (ho.more (Nat.le_refl _) (Nat.le_refl _))
  have HB := Lib.hid hb
  have hs1 := hb.size
  clear hown ho hb
  go_wp2_with fail
  go_loopw [6] (fun i wr => ∃ (k : Nat) (ws : List Int), k < n ∧ i = .int .i64 (k : Int) ∧ Ln.ord ws = true ∧ ws.length = n ∧ Own wr w.heap.size w1.heap.size (some ⟨g, 0, none⟩) n ws ∧ Src wr sb (N + 2 * (n - k)) a len cap zs ∧ Below sb w wr ∧ w1.heap.size ≤ wr.heap.size) (fun i _ => (intOf i).toNat)
  case atStart =>
    exact ⟨n - 1, _, by omega, by congr 1; omega, HOO.out, Ln.tab_len _ _, HO.out, HS1.out.more (by omega), HB.out.mono (by omega), Nat.le_refl _⟩
  case round =>
    rename World => wr
    obtain ⟨k, ws, hk, rfl, hord, hlen, how, hsrc, hbel, hsz⟩ := hrel
    have HOR := Lib.hid hord
    have HLEN := Lib.hid hlen
    have HOW := Lib.hid how
    have HSR := Lib.hid hsrc
    have HBE := Lib.hid hbel
    clear hord hlen how hsrc hbel
    by_cases hlt : 0 < k
    · have i1 : (0 : Int) < (k : Int) := by omega
      have i2 : (k : Int) < (n : Int) := by omega
      have s1 : IntKind.i64.wrap ((k : Int) + 1) = (k : Int) + 1 := IntWalk.i64_in _ (by omega)
      have s2 : IntKind.i64.wrap ((k : Int) - 1) = (k : Int) - 1 := IntWalk.i64_in _ (by omega)
      go_wp2_with fail
      refine (pick_any ((k : Int) + 1) _ sb _ a len cap zs HSR.out (by omega)).mono ?_
      rintro e w2 ⟨z, rfl, z0, z1, hA⟩
      obtain ⟨j, rfl⟩ := Int.eq_ofNat_of_zero_le z0
      have hj : j ≤ k := by have := z1 (by omega); omega
      have HOW2 := Lib.hid (HOW.out.grew hA.2 hsb)
      have hs2 := hA.2.size
      have HSR2 := Lib.hid (hA.1.more (show _ ≤ N + 2 * (n - (k - 1)) by omega))
      have HBE2 := Lib.hid (HBE.out.trans (grown_below hA.2 (by omega) (Nat.le_refl _)))
      clear hA z0 z1
      obtain ⟨g', o', e', _, hcj⟩ := HOW2.out.rd.at_ (k := j) (by omega)
      injection e' with e'; injection e' with e1 e2; subst e1; subst e2
      obtain ⟨g', o', e', _, hck⟩ := HOW2.out.rd.at_ (k := k) (by omega)
      injection e' with e'; injection e' with e1 e2; subst e1; subst e2
      have hw1 := HOW2.out.store (k := j) (by omega) (ws.getD k 0)
      have hw2 := hw1.store (k := k) (by omega) (ws.getD j 0)
      rw [Nat.zero_add] at hcj hck
      have hgs : w.heap.size ≤ g := by obtain ⟨g', o', cs, e', h1, _⟩ := HOW2.out.2 h0; injection e' with e'; injection e' with e1 e2; subst e1; exact h1
      obtain ⟨x, hx⟩ : ∃ x, x = ws.getD j 0 := ⟨_, rfl⟩
      obtain ⟨y, hy⟩ : ∃ y, y = ws.getD k 0 := ⟨_, rfl⟩
      have hso : Ln.ord (Ln.swp ws j k) = true := Ln.ord_swp HOR.out (by rw [HLEN.out]; omega) (by rw [HLEN.out]; omega)
      rw [Ln.swp] at hso
      rw [← hx] at hcj hw2 hso
      rw [← hy] at hck hw2 hso
      have f1 : w2.frozen? ⟨g, j, none⟩ = false := by
        obtain ⟨g', o', cs, e', _, _, hb, _⟩ := HOW2.out.2 h0
        injection e' with e'; injection e' with e1 e2; subst e1
        exact hb.frozen j
      have f2 : w2.frozen? ⟨g, k, none⟩ = false := by
        obtain ⟨g', o', cs, e', _, _, hb, _⟩ := HOW2.out.2 h0
        injection e' with e'; injection e' with e1 e2; subst e1
        exact hb.frozen k
      obtain ⟨g', o', e', _, hck2⟩ := hw1.rd.at_ (k := k) (by omega)
      injection e' with e'; injection e' with e1 e2; subst e1; subst e2
      have f3 : (w2.setCell ⟨g, 0 + j, none⟩ (.int .i64 (ws.getD k 0))).frozen? ⟨g, k, none⟩ = false := by
        obtain ⟨g', o', cs, e', _, _, hb, _⟩ := hw1.2 h0
        injection e' with e'; injection e' with e1 e2; subst e1
        exact hb.frozen k
      rw [Nat.zero_add, Nat.zero_add] at hw2 hck2
      rw [Nat.zero_add] at f3
      rw [← hy] at hck2 f3
      obtain ⟨u, hu⟩ : ∃ u, u = (ws.set j y).getD k 0 := ⟨_, rfl⟩
      rw [← hu] at hck2
      have HW := Lib.hid hw2
      have HSO := Lib.hid hso
      have k1 : (0 : Int) ≤ (j : Int) := by omega
      have k2 : (j : Int) < (n : Int) := by omega
      clear hw1 hw2 hx hy hso hu
      go_wp2
      go_roundw
      case rel =>
        refine ⟨k - 1, _, by omega, by congr 1; omega, HSO.out, by simp [HLEN.out], HW.out, ?_, ?_, by simpa [World.setCell] using (by omega : w1.heap.size ≤ w2.heap.size)⟩
        · exact Src.far2 (Src.far2 HSR2.out (p := ⟨g, j, none⟩) (show sb < g by omega) _) (p := ⟨g, k, none⟩) (show sb < g by omega) _
        · exact (HBE2.out.setCell (p := ⟨g, j, none⟩) (show sb ≤ g by omega) _).setCell (p := ⟨g, k, none⟩) (show sb ≤ g by omega) _
      case measure => simp [intOf]; omega
    · have hk0 : k = 0 := by omega
      subst hk0
      go_wp2
      go_ret
      exact ⟨_, c, ws, rfl, HOR.out, HLEN.out, HOW.out.more (Nat.le_refl _) hsz, HBE.out⟩
set_option maxHeartbeats 2000000 in
set_option maxRecDepth 100000 in
theorem drawShuf_any (n : Nat) (w : World) (sb N : Nat) (a : Option Addr) (len cap : Nat) (zs : List Int) (hl : Ln.lanes n = true) (h : Src w sb N a len cap zs) (hN : N < 600000000) :
    Calls Try.prog 45 #[.pointer (some ⟨sb, 0, none⟩), .int .i64 (n : Int)] w (DrawnL Ln.shuf n sb N a len cap zs w) := by
  obtain ⟨i0, hi, hz0, hz1, hz2⟩ := info_parts A_info64
  have hsb : sb < w.heap.size := by obtain ⟨_, _, _, hb, _⟩ := h; exact lt_of_block hb
  have hc := Ln.lanes_cases hl
  have h0 : 0 < n := by omega
  have hn : n ≤ 16 := by omega
  have HL := Lib.hid hl
  have HH := Lib.hid h
  clear h hc hl
  go_enter Try.func45, Try.ntmps45
  go_wp2_with fail
  refine (one_any 2 _ sb _ a len cap zs HH.out (by omega)).mono ?_
  rintro e w1 ⟨q, rfl, hA⟩
  have HA1 := Lib.hid hA.1
  have HB1 := Lib.hid (grown_below hA.2 (by omega) (Nat.le_refl _))
  have hs1 := hA.2.size
  clear hA
  cases q
  rotate_left
  · go_wp2_with fail
    refine (pick_any 6 _ sb _ a len cap zs HA1.out (by omega)).mono ?_
    rintro e w2 ⟨z, rfl, z0, z1, hA⟩
    have HA2 := Lib.hid hA.1
    have HB2 := Lib.hid (HB1.out.trans (grown_below hA.2 (by omega) (Nat.le_refl _)))
    have hs2 := hA.2.size
    have hz6 : z < 6 := z1 (by omega)
    clear hA z1
    go_wp2_with fail
    refine (pick_any (n : Int) _ sb _ a len cap zs HA2.out (by omega)).mono ?_
    rintro e w3 ⟨y, rfl, y0, y1, hA⟩
    have HB3 := Lib.hid (HB2.out.trans (grown_below hA.2 (by omega) (Nat.le_refl _)))
    have hs3 := hA.2.size
    have hyn : y < (n : Int) := y1 (by omega)
    clear hA y1
    have key : ∀ b : Int, 0 ≤ b → b < (n : Int) → (b = 0 ∨ (z ≠ 1 ∧ z ≠ 3 ∧ z ≠ 4)) → Calls Try.prog 77 #[.int .i64 z, .int .i64 (n : Int), .int .i64 b] w3 fun e w' => ∃ A c, e = .returned (.tuple #[.slice A n c, .bool true]) ∧ Own w' w3.heap.size w'.heap.size A n (Ln.namedL z n b) ∧ Below w3.heap.size w3 w' := by
      intro b hb0 hb1 hb2
      have hh := sNamedShuffle_any z (n : Int) b w3
      rw [Ln.named_yes HL.out ⟨z0, by omega⟩ ⟨hb0, hb1⟩ hb2] at hh
      refine hh.mono ?_
      rintro e w' ⟨A, m, c, rfl, ho, _, hbb⟩
      obtain rfl : m = n := by have := ho.len; rw [Ln.namedL_len, Int.toNat_natCast] at this; exact this.symm
      exact ⟨A, c, rfl, ho, hbb⟩
    have HK := Lib.hid key; clear key
    have fin : ∀ (b : Int) (w' : World) (A : Option Addr) (c : Nat), 0 ≤ b → b < (n : Int) → Own w' w3.heap.size w'.heap.size A n (Ln.namedL z n b) → Below w3.heap.size w3 w' → DrawnL Ln.shuf n sb N a len cap zs w (.returned (.slice A n c)) w' :=
      fun b w' A c hb0 hb1 ho hbb => ⟨A, c, _, rfl, Ln.namedL_shuf HL.out ⟨hb0, hb1⟩, by rw [Ln.namedL_len, Int.toNat_natCast], ho.more (by omega) (Nat.le_refl _), HB3.out.trans (hbb.mono (by omega))⟩
    have HF := Lib.hid fin; clear fin
    by_cases k1 : z = 1
    · subst k1
      go_wp2_with fail
      refine (HK.out 0 (by omega) (by omega) (.inl rfl)).mono ?_
      rintro e w4 ⟨A, c, rfl, ho, hb⟩
      have HD := Lib.hid (HF.out 0 w4 A c (by omega) (by omega) ho hb)
      clear ho hb
      go_wp2
      go_ret
      exact HD.out
    · have d1 : (z == 1) = false := by simpa using k1
      have e1 : ¬ (z = 1) := k1
      by_cases k3 : z = 3
      · subst k3
        go_wp2_with fail
        refine (HK.out 0 (by omega) (by omega) (.inl rfl)).mono ?_
        rintro e w4 ⟨A, c, rfl, ho, hb⟩
        have HD := Lib.hid (HF.out 0 w4 A c (by omega) (by omega) ho hb)
        clear ho hb
        go_wp2
        go_ret
        exact HD.out
      · have d3 : (z == 3) = false := by simpa using k3
        by_cases k4 : z = 4
        · subst k4
          go_wp2_with fail
          refine (HK.out 0 (by omega) (by omega) (.inl rfl)).mono ?_
          rintro e w4 ⟨A, c, rfl, ho, hb⟩
          have HD := Lib.hid (HF.out 0 w4 A c (by omega) (by omega) ho hb)
          clear ho hb
          go_wp2
          go_ret
          exact HD.out
        · have d4 : (z == 4) = false := by simpa using k4
          go_wp2_with fail
          refine (HK.out y (by omega) (by omega) (.inr ⟨k1, k3, k4⟩)).mono ?_
          rintro e w4 ⟨A, c, rfl, ho, hb⟩
          have HD := Lib.hid (HF.out y w4 A c (by omega) (by omega) ho hb)
          clear ho hb
          go_wp2
          go_ret
          exact HD.out
  · go_wp2_with fail
    refine (one_any 2 _ sb _ a len cap zs HA1.out (by omega)).mono ?_
    rintro e w2 ⟨q, rfl, hA⟩
    have HA2 := Lib.hid hA.1
    have HB2 := Lib.hid (HB1.out.trans (grown_below hA.2 (by omega) (Nat.le_refl _)))
    have hs2 := hA.2.size
    clear hA
    cases q
    rotate_left
    · go_wp2_with fail
      refine (drawOrder_any n _ sb _ a len cap zs HL.out HA2.out (by omega)).mono ?_
      rintro e w3 ⟨A, c, ws, rfl, ho, hlen, how, hb⟩
      have HD := Lib.hid (show DrawnL Ln.shuf n sb N a len cap zs w (.returned (.slice A n c)) w3 from ⟨A, c, ws, rfl, (Ln.ord_at ho).1, hlen, how.more (by omega) (Nat.le_refl _), HB2.out.trans hb⟩)
      clear ho hlen how hb
      go_wp2
      go_ret
      exact HD.out
    · go_wp2
      go_loopw [9, 10] (fun v i wr => ∃ (k : Nat) (ws : List Int), k ≤ n ∧ i = .int .i64 (k : Int) ∧ ws.length = k ∧ (∀ x ∈ ws, 0 ≤ x ∧ x < (n : Int)) ∧ wr.ownsRow w2.heap.size 2 1 v k (ws.map (Value.int .i64)) ∧ Src wr sb (N + 8 + 2 * k) a len cap zs ∧ Below sb w wr ∧ w2.heap.size ≤ wr.heap.size) (fun _ i _ => n - (intOf i).toNat)
      case atStart =>
        exact ⟨0, [], Nat.zero_le _, rfl, rfl, by simp, World.ownsRow_made w2 #[] 0 (Nat.le_refl _) (by decide) rfl, (HA2.out.grown (World.grownBy_alloc _ _ none) (by simp) (by intro r hr; cases hr)).more (by omega), HB2.out.alloc (by omega) _, by simp⟩
      case round =>
        rename World => wr
        obtain ⟨k, ws, hk, rfl, hlen, hr, hown, hsrc, hbel, hsz⟩ := hrel
        have HSRC := Lib.hid hsrc; clear hsrc
        have HOWN := Lib.hid hown; clear hown
        have HR := Lib.hid hr; clear hr
        have HLEN := Lib.hid hlen; clear hlen
        have HBEL := Lib.hid hbel; clear hbel
        have hsb2 : sb < w2.heap.size := by omega
        by_cases hlt : k < n
        · have i1 : (k : Int) < (n : Int) := by omega
          go_wp2_with fail
          refine (pick_any (n : Int) _ sb _ a len cap zs HSRC.out (by omega)).mono ?_
          rintro e w3 ⟨z, rfl, z0, z1, hA⟩
          have hz : z < (n : Int) := z1 (by omega)
          have HOWN1 := Lib.hid (HOWN.out.kept hA.2 (own_ne HOWN.out hsb2))
          have hs3 := hA.2.size
          have HA3 := Lib.hid hA.1
          have HB3 := Lib.hid (HBEL.out.trans (grown_below hA.2 (by omega) (Nat.le_refl _)))
          clear hA z1
          go_wp2_with (at_builtin; refine wpList_append_own _ rfl _ _ 25 rfl w2.heap.size 2 i0 (.int .i64 0) 1 8 Try.underlying25 hi hz0 hz1 hz2 rfl (by decide) _ _ _ rfl (HOWN1.out.alloc _) ⟨w3.heap.size, 0, none⟩ 1 1 [.int .i64 z] rfl rfl ?c1 ?c2 ?c3 ?c4 ?c5 ?_)
          case c1 =>
            intro j u hj
            match j, hj with
            | 0, hj => simp at hj; subst hj; simp [Addr.add]
          case c2 => intro u hu; simp at hu; subst hu; rfl
          case c3 => unfold maxLen; omega
          case c4 => omega
          case c5 => simp; omega
          intro v' w4 hown2 hgrow _
          go_wp2
          go_roundw
          case rel =>
            have hs4 := hgrow.size
            have HS1 := HA3.out.grown (World.grownBy_alloc w3 (.cells #[.int .i64 z] 2) none) (by simp) (by intro r hr; cases hr)
            have hne := own_ne HOWN1.out hsb2
            refine ⟨k + 1, ws ++ [z], by omega, by go_num, by rw [List.length_append, HLEN.out]; rfl, ?_, ?_, ?_, ?_, ?_⟩
            · intro x hx
              rcases List.mem_append.1 hx with hx | hx
              · exact HR.out x hx
              · rw [List.mem_singleton.1 hx]; exact ⟨z0, hz⟩
            · rw [List.map_append]; exact hown2
            · exact (HS1.grown hgrow (by rcases hne with h | h <;> (first | (rw [h]; simp) | exact h)) (own_ge HOWN1.out hsb2)).more (by omega)
            · exact (HB3.out.alloc (by omega) _).grown hgrow (by simp; omega) (fun r hr => Nat.le_of_lt (own_ge HOWN1.out hsb2 r hr))
            · simp at hs4; omega
          case measure => simp [intOf]; omega
        · have hkn : k = n := by omega
          subst hkn
          obtain ⟨g, cp, rfl, k1, k2⟩ := own_some HOWN.out h0
          have K2 := Lib.hid k2
          clear k1 k2
          go_wp2
          go_ret
          exact ⟨_, cp, ws, rfl, Ln.shuf_of HL.out HLEN.out HR.out, HLEN.out, K2.out.more (by omega) (Nat.le_refl _), HBEL.out⟩
/-- What the laws call. -/
def DrewL (P : List Int → Bool) (n : Nat) (w : World) (e : Ending) (w' : World) : Prop :=
  ∃ (A : Option Addr) (c : Nat) (ws : List Int), e = .returned (.slice A n c) ∧ P ws = true ∧ ws.length = n ∧ Rd w' w'.heap.size A n ws ∧ Below w.heap.size w w'
theorem r8shuf_any (n : Nat) (a : Option Addr) (len cap : Nat) (zs : List Int) (w : World) (hl : Ln.lanes n = true) (h : IsRow .u8 w a len cap zs) :
    Calls Try.prog 15 #[.slice a len cap, .int .i64 (n : Int)] w (DrewL Ln.shuf n w) := by
  have HS := Lib.hid (src_new w a len cap zs h); clear h
  go_enter Try.func15, Try.ntmps15
  go_wp2_with fail
  refine (from_any _ _ _ _).mono ?_
  rintro e w' ⟨rfl, rfl⟩
  go_wp2_with fail
  refine (drawShuf_any n _ w.heap.size 0 a len cap zs hl HS.out (by omega)).mono ?_
  rintro e w2 ⟨A, c, ws, rfl, ho, hlen, how, hb⟩
  have HD := Lib.hid (show DrewL Ln.shuf n w (.returned (.slice A n c)) w2 from ⟨A, c, ws, rfl, ho, hlen, how.rd, ((Below.refl w.heap.size w).alloc (Nat.le_refl _) _).trans hb⟩)
  clear ho hlen how hb
  go_wp2_with fail
  go_ret
  exact HD.out
theorem r8order_any (n : Nat) (a : Option Addr) (len cap : Nat) (zs : List Int) (w : World) (hl : Ln.lanes n = true) (h : IsRow .u8 w a len cap zs) :
    Calls Try.prog 18 #[.slice a len cap, .int .i64 (n : Int)] w (DrewL Ln.ord n w) := by
  have HS := Lib.hid (src_new w a len cap zs h); clear h
  go_enter Try.func18, Try.ntmps18
  go_wp2_with fail
  refine (from_any _ _ _ _).mono ?_
  rintro e w' ⟨rfl, rfl⟩
  go_wp2_with fail
  refine (drawOrder_any n _ w.heap.size 0 a len cap zs hl HS.out (by omega)).mono ?_
  rintro e w2 ⟨A, c, ws, rfl, ho, hlen, how, hb⟩
  have HD := Lib.hid (show DrewL Ln.ord n w (.returned (.slice A n c)) w2 from ⟨A, c, ws, rfl, ho, hlen, how.rd, ((Below.refl w.heap.size w).alloc (Nat.le_refl _) _).trans hb⟩)
  clear ho hlen how hb
  go_wp2_with fail
  go_ret
  exact HD.out
end Go.Proofs.Ytfmplneopmbfoaa.Wds
