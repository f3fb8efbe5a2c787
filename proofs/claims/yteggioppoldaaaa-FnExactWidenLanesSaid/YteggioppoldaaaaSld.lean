/-
  Sliding over two vectors: the code's and the model's function; one contract each.
-/
import Derived.Test.YteggioppoldaaaaVecW
import Derived.Test.YteggioppoldaaaaCpy
import Derived.Test.YteggioppoldaaaaLan2
namespace Go.Proofs.Yteggioppoldaaaa.Wds
open Go.RowKit
set_option linter.unusedVariables false

theorem cut_tab (zs : List Int) (k n : Nat) (h : k + n ≤ zs.length) : (zs.drop k).take n = Ln.tab (fun i => zs.getD (k + i) 0) n := by
  apply List.ext_getElem
  · simp [Ln.tab]; omega
  · intro i h1 h2
    simp [Ln.tab] at h2 ⊢
    rw [List.getElem?_eq_getElem (by omega)]
    rfl
theorem own_some {w : World} {B : Nat} {v : Value} {n : Nat} {zs : List Int} (h : w.ownsRow B 2 1 v n (zs.map (Value.int .i64))) (hn : 0 < n) : ∃ g c, v = .slice (some ⟨g, 0, none⟩) n c ∧ n ≤ c ∧ Own w B w.heap.size (some ⟨g, 0, none⟩) n zs := by
  have h0 := h
  rcases h.2 with ⟨rfl, rfl⟩ | ⟨g, cap, cur, rfl, _, _, hc, _⟩
  · omega
  · exact ⟨_, _, rfl, hc, Own.of_row h0⟩
/-- A copy as a row that can be appended to. -/
def RowOf (zs : List Int) (n : Nat) (w : World) (e : Ending) (w' : World) : Prop :=
  ∃ v, e = .returned v ∧ w'.ownsRow w.heap.size 2 1 v n (zs.map (Value.int .i64)) ∧ Below w.heap.size w w'
theorem sOwnR_any (ad : Addr) (n c : Nat) (zs : List Int) (B : Nat) (w : World) (hn : n ≤ 1048576) (h : Rd w B (some ad) n zs) :
    Calls Try.prog 29 #[.slice (some ad) n c] w (RowOf zs n w) := by
  obtain ⟨i0, hi, hz0, hz1, hz2⟩ := info_parts A_info64
  have H := Lib.hid (h.below ((Below.refl w.heap.size w).alloc (Nat.le_refl _) (.cells #[] 2))); clear h
  have HO := Lib.hid (owns_new w)
  go_enter Try.func29, Try.ntmps29
  go_wp2_with (at_builtin; refine wpList_append_list _ rfl _ _ rfl i0 Try.underlying25 hi hz0 hz1 hz2 w.heap.size _ _ [] rfl HO.out B _ _ _ zs rfl H.out (by intro h; cases h) (by omega) (by simp) ?_; intro v' w1 hown1 hb1; have HO1 := Lib.hid hown1; have HB1 := Lib.hid hb1; clear hown1 hb1)
  go_ret
  refine ⟨_, rfl, ?_, ((Below.refl w.heap.size w).alloc (Nat.le_refl _) _).trans HB1.out⟩
  have := HO1.out
  rw [Nat.zero_add, List.nil_append] at this
  exact this
set_option maxHeartbeats 800000 in
theorem iSlide_yes (b : Int) (A1 A2 : Option Addr) (n c1 c2 : Nat) (xs ys : List Int) (B1 B2 : Nat) (k : Nat) (w : World) (hn : n ≤ 1048576) (hn0 : 0 < n) (hk : k ≤ n) (h1 : Rd w B1 A1 n xs) (h2 : Rd w B2 A2 n ys) (hbo : Ln.both b xs ys = true) :
    Calls Try.prog 13 #[.int .i64 b, .slice A1 n c1, .slice A2 n c2, .int .i64 k] w (Ret1 (Ln.tab (fun i => (xs ++ ys).getD (k + i) 0) n) true w) := by
  obtain ⟨i0, hi, hz0, hz1, hz2⟩ := info_parts A_info64
  have hsz : (Try.prog.info? 2).map (·.size) = some 1 := by rw [hi]; simp [hz1]
  have k1 := areVec_any b A1 A2 n n c1 c2 xs ys B1 B2 w hn hn h1 h2
  rw [hbo] at k1
  obtain ⟨g1, o1, rfl, _, _⟩ := h1.at_ hn0
  obtain ⟨g2, o2, rfl, _, _⟩ := h2.at_ hn0
  have hl1 := h1.len
  have hl2 := h2.len
  have C1 := Lib.hid k1
  have H1 := Lib.hid h1
  have H2 := Lib.hid h2
  have HSZ := Lib.hid hsz
  have HT := Lib.hid (cut_tab (xs ++ ys) k n (by rw [List.length_append]; omega))
  have HL := Lib.hid (show (xs ++ ys).length = n + n by rw [List.length_append]; omega)
  have q1 : (0 : Int) ≤ (k : Int) := by omega
  have q2 : (k : Int) ≤ (n : Int) := by omega
  have q3 : k ≤ n + n := by omega
  have q4 : k < n + n := by omega
  clear h1 h2 k1 hbo hl1 hl2 hsz
  go_enter Try.func13, Try.ntmps13
  go_wp2_with fail
  refine C1.out.mono ?_
  rintro e w1 ⟨rfl, hb⟩
  have HB1 := Lib.hid hb; clear hb
  have HS1 := Lib.hid HB1.out.size
  have HBK := Lib.hid (show Blk (w1.alloc (.cells (Array.replicate n (Value.int .i64 0)) 2)) w1.heap.size (Array.replicate n (Value.int .i64 0)) from Blk.new _ _)
  have HBA := Lib.hid (HB1.out.alloc HS1.out (.cells (Array.replicate n (Value.int .i64 0)) 2))
  go_wp2_with (refine wpList_make_blk _ rfl _ _ _ rfl i0 Try.underlying25 hi hz0 hz1 hz2 _ _ _ _ n rfl rfl rfl rfl (by omega) ?_)
  refine (joined_any _ _ n n _ _ xs ys B1 B2 _ hn hn hn0 (H1.out.below HBA.out) (H2.out.below HBA.out)).mono ?_
  rintro e w2 ⟨g, rfl, hblk, hg, hb⟩
  have HJ := Lib.hid hblk
  have HBK2 := Lib.hid (show w2.heap[w1.heap.size]? = some (.cells (List.replicate n (Value.int .i64 0)).toArray 2 (0, 0)) by
    have := HBK.out.keep hb
    unfold Blk at this
    simpa using this)
  have HB2 := Lib.hid (HBA.out.trans (hb.mono HBA.out.size))
  have HRJ := Lib.hid (show Rd w2 w2.heap.size (some ⟨g, k, none⟩) n (Ln.tab (fun i => (xs ++ ys).getD (k + i) 0) n) by
    have := (Own.of_blk (n := n + n) hblk HL.out (Nat.zero_le g)).rd.cut k n (by omega)
    rw [HT.out, Nat.zero_add] at this
    exact this)
  clear hblk hb hg
  go_wp2_with (refine wpList_copy_splice rfl (.tmp 29) (.tmp 34) 25 25 rfl 2 Try.underlying25 HSZ.out (some ⟨w1.heap.size, 0, none⟩) (some ⟨g, k, none⟩) n n (n + n - k) (n + n - k) (by rfl) (by rfl) w1.heap.size 0 (List.replicate n (Value.int .i64 0)) 2 HBK2.out ((Ln.tab (fun i => (xs ++ ys).getD (k + i) 0) n).map (Value.int .i64)) (by rw [List.length_map, Ln.tab_len]; exact (Nat.min_eq_right (by omega)).symm) (fun _ => ⟨rfl, _, rfl, HRJ.out.src _ rfl⟩) (by simp [Ln.tab_len]) int_one w.heap.size w HB2.out HS1.out ?_; intro w3 hg3 hb3; have HB3 := Lib.hid hb3; clear hb3)
  go_ret2
  refine Ret1.of_blk (zs := Ln.tab (fun i => (xs ++ ys).getD (k + i) 0) n) ?_ (Ln.tab_len _ _) HS1.out hn HB3.out
  have := hg3.out
  unfold Blk clls
  rw [this]
  simp [splice, Ln.tab_len]
theorem iSlideLanes_any (b : Int) (A1 : Option Addr) (n1 c1 : Nat) (xs : List Int) (B1 : Nat) (A2 : Option Addr) (n2 c2 : Nat) (ys : List Int) (B2 : Nat) (k : Int) (w : World)
    (hn1 : n1 ≤ 1048576) (hn2 : n2 ≤ 1048576) (h1 : Rd w B1 A1 n1 xs) (h2 : Rd w B2 A2 n2 ys) :
    Calls Try.prog 13 #[.int .i64 b, .slice A1 n1 c1, .slice A2 n2 c2, .int .i64 k] w (Ret1 (Ln.slide b xs ys k).1 (Ln.slide b xs ys k).2 w) := by
  unfold Ln.slide
  by_cases hbo : Ln.both b xs ys = true
  · obtain ⟨f1, f2, f3⟩ := Ln.both_len hbo
    have g1 := h1.len
    have g2 := h2.len
    obtain rfl : n2 = n1 := by omega
    by_cases hk : 0 ≤ k ∧ k ≤ xs.length
    · rw [hbo, decide_eq_true hk]
      obtain ⟨j, rfl⟩ := Int.eq_ofNat_of_zero_le hk.1
      have := iSlide_yes b A1 A2 n2 c1 c2 xs ys B1 B2 j w hn1 (by have := Ln.vec_len f2; omega) (by omega) h1 h2 hbo
      rw [g1]
      exact this
    · rw [hbo, decide_eq_false hk]
      have k1 := areVec_any b A1 A2 n2 n2 c1 c2 xs ys B1 B2 w hn1 hn2 h1 h2
      rw [hbo] at k1
      rw [g1] at hk
      have C1 := Lib.hid k1
      have hk2 : k < 0 ∨ (n2 : Int) < k := by omega
      clear k1 h1 h2 hk hbo f1 f2 f3 g1 g2
      rcases hk2 with hk2 | hk2
      · go_enter Try.func13, Try.ntmps13
        go_wp2_with fail
        refine C1.out.mono ?_
        rintro e w1 ⟨rfl, hb⟩
        have HB1 := Lib.hid hb; clear hb
        go_wp2_with fail
        go_ret2
        exact Ret1.no HB1.out
      · have hk3 : 0 ≤ k := by omega
        go_enter Try.func13, Try.ntmps13
        go_wp2_with fail
        refine C1.out.mono ?_
        rintro e w1 ⟨rfl, hb⟩
        have HB1 := Lib.hid hb; clear hb
        go_wp2_with fail
        go_ret2
        exact Ret1.no HB1.out
  · have hb' : Ln.both b xs ys = false := by simpa using hbo
    have k1 := areVec_any b A1 A2 n1 n2 c1 c2 xs ys B1 B2 w hn1 hn2 h1 h2
    rw [hb'] at k1
    rw [hb', Bool.false_and]
    have C1 := Lib.hid k1
    clear k1 h1 h2 hbo hb'
    go_enter Try.func13, Try.ntmps13
    go_wp2_with fail
    refine C1.out.mono ?_
    rintro e w1 ⟨rfl, hb⟩
    have HB := Lib.hid hb; clear hb
    go_wp2_with fail
    go_ret2
    exact Ret1.no HB.out
end Go.Proofs.Yteggioppoldaaaa.Wds
