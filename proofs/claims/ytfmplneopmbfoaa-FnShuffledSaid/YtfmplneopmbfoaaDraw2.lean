/-
  What the model's draw of some words returns (a row of its own, of so many words) and does to memory, over the translated program.
-/
import Derived.Test.YtfmplneopmbfoaaDraw1
import Derived.LoopTactic
namespace Go.Proofs.Ytfmplneopmbfoaa.Wds
open Go.RowKit
set_option linter.unusedVariables false

/-- The relation of the loop that draws words. -/
def Drawing (b : Int) (n0 N B sb : Nat) (a : Option Addr) (len cap : Nat) (zs : List Int) (w : World) (n v : Value) (wr : World) : Prop :=
  ∃ (k : Nat) (ws : List Int), k ≤ n0 ∧ n = .int .i64 ((n0 - k : Nat) : Int) ∧ ws.length = k ∧ (∀ x ∈ ws, 0 ≤ x ∧ x < Wd.pw b) ∧
    wr.ownsRow B 2 1 v k (ws.map (Value.int .i64)) ∧ Src wr sb (N + 4 * k) a len cap zs ∧ Below sb w wr ∧ B ≤ wr.heap.size

/-- What the draw of words leaves. -/
def Drawn (b : Int) (n0 N B sb : Nat) (a : Option Addr) (len cap : Nat) (zs : List Int) (w : World) (e : Ending) (w' : World) : Prop :=
  ∃ (v : Value) (ws : List Int), e = .returned v ∧ ws.length = n0 ∧ (∀ x ∈ ws, 0 ≤ x ∧ x < Wd.pw b) ∧
      w'.ownsRow B 2 1 v n0 (ws.map (Value.int .i64)) ∧ Src w' sb (N + 4 * n0) a len cap zs ∧ Below sb w w'
set_option maxHeartbeats 1000000 in
theorem words_any (b : Int) (n0 : Nat) (w : World) (sb N : Nat) (a : Option Addr) (len cap : Nat) (zs : List Int) (hb : Wd.IsBits b) (hn : n0 ≤ 1000000) (h : Src w sb N a len cap zs) (hN : N < 700000000) :
    Calls Try.prog 44 #[.pointer (some ⟨sb, 0, none⟩), .int .i64 b, .int .i64 n0] w (Drawn b n0 N w.heap.size sb a len cap zs w) := by
  obtain ⟨i0, hi, hz0, hz1, hz2⟩ := info_parts A_info2
  have HH := Lib.hid h
  have hsb : sb < w.heap.size := by obtain ⟨_, _, _, hb, _⟩ := h; exact lt_of_block hb
  clear h
  go_enter Try.func44, Try.ntmps44
  go_wp2
  go_loopw [2, 7] (fun n v wr => Drawing b n0 N w.heap.size sb a len cap zs w n v wr) (fun n _ _ => (intOf n).toNat)
  case atStart =>
    refine ⟨0, [], Nat.zero_le _, rfl, rfl, by simp, ?_, HH.out.grown (World.grownBy_alloc _ _ none) (by simp) (by intro r hr; cases hr), (Below.refl _ _).alloc (by omega) _, by simp⟩
    refine ⟨rfl, .inr ⟨w.heap.size, 0, #[], rfl, Nat.le_refl _, ?_, Nat.le_refl _, Nat.zero_le _, rfl, rfl⟩⟩
    show (w.heap.push _)[w.heap.size]? = _
    simp
  case round =>
    obtain ⟨k, ws, hk, rfl, hlen, hr, hown, hsrc, hbel, hsz⟩ := hrel
    by_cases hlt : k < n0
    · have hpos : (0 : Int) < ((n0 - k : Nat) : Int) := by omega
      have hle : ((n0 - k : Nat) : Int) ≤ 1000000 := by omega
      obtain ⟨c, hc⟩ : ∃ c : Int, c = ((n0 - k : Nat) : Int) := ⟨_, rfl⟩
      rw [← hc] at hpos hle
      have HC := Lib.hid hc
      rw [← hc]; clear hc
      have HSRC := Lib.hid hsrc; clear hsrc
      have HOWN := Lib.hid hown; clear hown
      have HR := Lib.hid hr; clear hr
      have HLEN := Lib.hid hlen; clear hlen
      have HBEL := Lib.hid hbel; clear hbel
      go_wp2_with fail
      refine (good_any b _ sb (N + 4 * k) a len cap zs hb HSRC.out (by omega)).mono ?_
      rintro e w1 ⟨z, rfl, z0, z1, hA⟩
      have hown1 := HOWN.out.kept hA.2 (own_ne HOWN.out hsb)
      have HOWN1 := Lib.hid hown1; clear hown1
      have hs1 := hA.2.size
      have HA := Lib.hid hA; clear hA
      have HZ := Lib.hid (And.intro z0 z1); clear z0 z1
      go_wp2_with (at_builtin; refine wpList_append_own _ rfl _ _ 25 rfl w.heap.size 2 i0 (.int .i64 0) 1 8 Try.underlying25 hi hz0 hz1 hz2 rfl (by decide) _ _ _ rfl (HOWN1.out.alloc _) ⟨w1.heap.size, 0, none⟩ 1 1 [.int .i64 z] rfl rfl ?c1 ?c2 ?c3 ?c4 ?c5 ?_)
      case c1 =>
        intro j u hj
        match j, hj with
        | 0, hj => simp at hj; subst hj; simp [Addr.add]
      case c2 => intro u hu; simp at hu; subst hu; rfl
      case c3 => unfold maxLen; omega
      case c4 => omega
      case c5 => simp; omega
      intro v' w2 hown2 hgrow _
      go_wp2
      go_roundw
      case rel =>
        have hs2 := hgrow.size
        have HS := HA.out.1.grown (World.grownBy_alloc w1 (.cells #[.int .i64 z] 2) none) (by simp) (by intro r hr; cases hr)
        have hne := own_ne HOWN1.out hsb
        refine ⟨k + 1, ws ++ [z], by omega, by rw [HC.out]; go_num, by rw [List.length_append, HLEN.out]; rfl, ?_, ?_, ?_, ?_, ?_⟩
        · intro x hx
          rcases List.mem_append.1 hx with hx | hx
          · exact HR.out x hx
          · rw [List.mem_singleton.1 hx]; exact HZ.out
        · rw [List.map_append]; exact hown2
        · exact (HS.grown hgrow (by rcases hne with h | h <;> (first | (rw [h]; simp) | exact h)) (own_ge HOWN1.out hsb)).more (by omega)
        · have hb1 := HBEL.out.trans ((grown_below HA.out.2 (by omega) (Nat.le_refl _)).trans ((Below.refl sb w1).alloc (by omega) (.cells #[.int .i64 z] 2)))
          exact hb1.grown hgrow (by simp; omega) (fun r hr => Nat.le_of_lt (own_ge HOWN1.out hsb r hr))
        · simp at hs2; omega
      case measure => simp [intOf]; omega
    · obtain ⟨c, hc⟩ : ∃ c : Int, c = ((n0 - k : Nat) : Int) := ⟨_, rfl⟩
      have hneg : ¬ 0 < c := by omega
      have hkn : k = n0 := by omega
      have HK := Lib.hid hkn; clear hkn
      rw [← hc]; clear hc
      have HALL := Lib.hid (And.intro hlen (And.intro hr (And.intro hown (And.intro hsrc hbel)))); clear hlen hr hown hsrc hbel
      go_wp2
      go_ret
      have hk := HK.out
      subst hk
      exact ⟨_, ws, rfl, HALL.out⟩
theorem own_shape {w : World} {B : Nat} {t : TypeId} {v : Value} {n : Nat} {ws : List Int} (h : w.ownsRow B t 1 v n (ws.map (Value.int .i64))) (hn : 0 < n) :
    ∃ g cap, v = .slice (some ⟨g, 0, none⟩) n cap ∧ B ≤ g ∧ n ≤ cap ∧ cap ≤ maxLen ∧ g < w.heap.size ∧ ∀ i, i < n → w.cell? ⟨g, i, none⟩ = some (.int .i64 (ws.getD i 0)) := by
  have hl : ws.length = n := by have := h.1; simpa using this
  rcases h.2 with ⟨_, h0⟩ | ⟨g, cap, cur, rfl, hg, hb, hnc, hcm, hcs, ht⟩
  · omega
  · refine ⟨g, cap, rfl, hg, hnc, hcm, lt_of_block hb, fun i hi => ?_⟩
    have hc : w.cell? ⟨g, i, none⟩ = cur[i]? := by simp [World.cell?, hb]
    rw [hc]
    have h1 : (cur.toList.take (n * 1))[i]? = (ws.map (Value.int .i64))[i]? := by rw [ht]
    rw [List.getElem?_take_of_lt (by omega), Array.getElem?_toList, List.getElem?_map] at h1
    rw [h1, List.getElem?_eq_getElem (by omega), List.getD_eq_getElem?_getD, List.getElem?_eq_getElem (by omega)]
    rfl
/-- What the draw of words from bytes leaves: a row of its own, n words. -/
def Words (b : Int) (n : Nat) (w : World) (e : Ending) (w' : World) : Prop :=
  ∃ (g cap : Nat) (ws : List Int), e = .returned (.slice (some ⟨g, 0, none⟩) n cap) ∧ ws.length = n ∧ (∀ x ∈ ws, 0 ≤ x ∧ x < Wd.pw b) ∧ w.heap.size ≤ g ∧ g < w'.heap.size ∧ n ≤ cap ∧ cap ≤ maxLen ∧
    (∀ i, i < n → w'.cell? ⟨g, i, none⟩ = some (.int .i64 (ws.getD i 0))) ∧ Below w.heap.size w w'
end Go.Proofs.Ytfmplneopmbfoaa.Wds

