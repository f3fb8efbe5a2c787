/-
  Marking a list of tasks: all their cells get new numbers; only their own blocks change. One contract.
-/
import Derived.Test.YtfmplneopmbfoaaStT
import Derived.Test.YtfmplneopmbfoaaLstRW
namespace Go.Proofs.Ytfmplneopmbfoaa.Wds
open Go.RowKit
set_option linter.unusedVariables false

theorem OwnT.set2 {w : World} {lo hi n k g o : Nat} {ts : List Tk.T} (h : OwnT w lo hi (some ⟨g, o, none⟩) n ts) (hk : k < n) (x y : Int) :
    OwnT ((w.setCell ⟨g, o + k * 3, none⟩ (.int .i64 x)).setCell ⟨g, o + k * 3 + 1, none⟩ (.int .i64 y)) lo hi (some ⟨g, o, none⟩) n (ts.set k ⟨x, y, (Tk.nth ts k).ns⟩) := by
  have hlen := h.1
  obtain ⟨g', o', cs, R, M, C, e, g1, g2, hg, hc, hr⟩ := h.2 (by omega)
  injection e with e
  injection e with e1 e2
  subst e1; subst e2
  have hfar : ∀ {l u : Nat} {A' : Option Addr} {n' : Nat} {zs' : List Int}, Own w l u A' n' zs' → Own ((w.setCell ⟨g, o + k * 3, none⟩ (.int .i64 x)).setCell ⟨g, o + k * 3 + 1, none⟩ (.int .i64 y)) l u A' n' zs' := by
    intro l u A' n' zs' ho
    refine ⟨ho.1, fun hn => ?_⟩
    obtain ⟨g'', o'', cs'', e'', q1, q2, hb'', hc''⟩ := ho.2 hn
    have hne : g'' ≠ g := fun e => hg.ne hb'' e.symm
    exact ⟨g'', o'', cs'', e'', q1, q2, (hb''.far (p := ⟨g, o + k * 3, none⟩) hne _).far (p := ⟨g, o + k * 3 + 1, none⟩) hne _, hc''⟩
  have hlt : o + k * 3 + 2 < cs.size := (Array.getElem?_eq_some_iff.1 (hc k hk).2.2).1
  refine ⟨by simp [hlen], fun hn => ⟨g, o, _, R, M, C, rfl, g1, g2, (hg.set_ (o + k * 3) (.int .i64 x)).set_ (o + k * 3 + 1) (.int .i64 y), fun j hj => ?_, ⟨fun j hj => ?_, hr.cap, hr.sep⟩⟩⟩
  · by_cases e : k = j
    · subst e
      rw [Tk.nth_set _ _ _ _ (by omega), if_pos rfl]
      refine ⟨?_, ?_, ?_⟩
      all_goals
        simp only [Array.getElem?_setIfInBounds, Array.size_setIfInBounds, if_true]
      · rw [if_neg (by omega), if_pos (by omega)]
      · rw [if_pos (by omega)]
      · rw [if_neg (by omega), if_neg (by omega)]; exact (hc k hk).2.2
    · rw [Tk.nth_set _ _ _ _ (by omega), if_neg e]
      have h5 := hc j hj
      refine ⟨?_, ?_, ?_⟩
      all_goals
        simp only [Array.getElem?_setIfInBounds, Array.size_setIfInBounds]
        rw [if_neg (by omega), if_neg (by omega)]
      · exact h5.1
      · exact h5.2.1
      · exact h5.2.2
  · have h5 := hfar (hr.own j hj)
    rw [Tk.nss_getD] at h5 ⊢
    rw [Tk.nth_set _ _ _ _ (by omega)]
    by_cases e : k = j
    · subst e; rw [if_pos rfl]; exact h5
    · rw [if_neg e]; exact h5
theorem OwnT.row {w : World} {lo hi n k : Nat} {A : Option Addr} {ts : List Tk.T} (h : OwnT w lo hi A n ts) (hk : k < n) :
    ∃ g o R m c l u, A = some ⟨g, o, none⟩ ∧ At3 (fun i => w.cell? ⟨g, i, none⟩) (o + k * 3) (Tk.nth ts k).p (Tk.nth ts k).l R m c ∧ Own w l u R m (Tk.nth ts k).ns ∧ (u ≤ l ∨ (lo ≤ l ∧ u ≤ hi)) ∧
      ∀ w' ys, Own w' l u R m ys → Ch l u w w' → (∀ lo' hi' A' n' zs', Apart R m A' n' → Own w lo' hi' A' n' zs' → Own w' lo' hi' A' n' zs') → OwnT w' lo hi A n (ts.set k ⟨(Tk.nth ts k).p, (Tk.nth ts k).l, ys⟩) := by
  have hlen := h.1
  obtain ⟨g, o, cs, R, M, C, rfl, h1, h2, hg, hc, hr⟩ := h.2 (by omega)
  have hown0 := hr.own k hk
  obtain ⟨l, u, hown, hlu⟩ := hown0.tight
  have hgl : g < l ∨ u ≤ g := by
    rcases hlu with ⟨_, rfl, rfl⟩ | ⟨_, _, rfl, _, cs', hb'⟩
    · omega
    · have := hg.ne hb'; omega
  have hown1 := hown
  rw [Tk.nss_getD] at hown1
  refine ⟨g, o, R k, M k, C k, l, u, rfl, ⟨(hg.cell _).trans (hc k hk).1, (hg.cell _).trans (hc k hk).2.1, (hg.cell _).trans (hc k hk).2.2⟩, hown1, by rcases hlu with ⟨_, rfl, rfl⟩ | ⟨_, h3, _, h4, _⟩ <;> omega, ?_⟩
  intro w' ys ho hch hap
  refine ⟨by simp [hlen], fun hn => ⟨g, o, cs, R, M, C, rfl, h1, h2, hg.ch hch hgl, fun j hj => ?_, ⟨fun j hj => ?_, hr.cap, hr.sep⟩⟩⟩
  · rw [Tk.nth_set _ _ _ _ (by omega)]
    by_cases e : k = j
    · subst e; rw [if_pos rfl]; exact hc k hk
    · rw [if_neg e]; exact hc j hj
  · rw [Tk.nss_getD, Tk.nth_set _ _ _ _ (by omega)]
    by_cases e : k = j
    · subst e
      rw [if_pos rfl]
      rcases hlu with ⟨h0, rfl, rfl⟩ | ⟨_, h3, _, h4, _⟩
      · exact ⟨ho.1, fun hh => absurd hh (by omega)⟩
      · exact ho.more h3 h4
    · rw [if_neg e]
      have hoj := hr.own j hj
      rw [Tk.nss_getD] at hoj
      rcases Nat.eq_zero_or_pos (M j) with h0 | hj0
      · exact ⟨hoj.1, fun hh => absurd hh (by omega)⟩
      · rcases Nat.eq_zero_or_pos (M k) with h0 | hk0
        · rcases hlu with ⟨_, rfl, rfl⟩ | ⟨_, _⟩
          · exact hoj.ch hch (.inr (Nat.zero_le _))
          · omega
        · exact hap _ _ _ _ _ (hr.apart k j hk hj e hk0 hj0) hoj
set_option maxHeartbeats 1000000 in
theorem markTS_any (A : Option Addr) (n c : Nat) (ts : List Tk.T) (lo hi : Nat) (k0 : Int) (w : World) (hn : Ln.totL (Tk.nss ts) ≤ 1048576) (hk0 : 0 ≤ k0) (hk1 : k0 ≤ 1000) (h : OwnT w lo hi A n ts) :
    Calls Try.prog 41 #[.slice A n c, .int .i64 k0] w fun e w' => (∃ v : Int, 0 ≤ v ∧ e = .returned (.int .i64 v)) ∧ Ch lo hi w w' := by
  have hl := h.len
  have hnn : n ≤ 1048576 := by unfold Ln.totL at hn; rw [Tk.nss_len] at hn; omega
  have HT := Lib.hid hn
  have HL := Lib.hid hl
  have H := Lib.hid h; clear h hn hl
  go_enter Try.func41, Try.ntmps41
  go_wp2
  go_loopw [1, 5] (fun kv i wr => ∃ (k : Nat) (v : Int) (ts' : List Tk.T), k ≤ n ∧ i = .int .i64 k ∧ kv = .int .i64 v ∧ 0 ≤ v ∧ v ≤ 1000 + 2 * k + Ln.sumL ((Tk.nss ts).take k) ∧ (∀ j, (Tk.nth ts' j).ns.length = (Tk.nth ts j).ns.length) ∧ OwnT wr lo hi A n ts' ∧ Ch lo hi w wr) (fun _ i _ => n - (intOf i).toNat)
  case atStart => exact ⟨0, k0, ts, Nat.zero_le _, rfl, rfl, hk0, by simp [Ln.sumL_nil]; omega, fun _ => rfl, H.out, Ch.refl _ _ _⟩
  case round =>
    rename World => wr
    obtain ⟨k, v, ts', hk, rfl, rfl, v0, v1, hns, hown, hch⟩ := hrel
    by_cases hlt : k < n
    · have h1 := Ln.row_le (Tk.nss ts) k (by rw [Tk.nss_len, HL.out]; exact hlt)
      have hs := Ln.sumL_take (Tk.nss ts) k (by rw [Tk.nss_len, HL.out]; exact hlt)
      have h3 := HT.out
      have h4 := Ln.sumL_le (Tk.nss ts) k
      rw [Tk.nss_getD] at h1 hs
      unfold Ln.totL at h3
      rw [Tk.nss_len, HL.out] at h3
      obtain ⟨g, o, R, m, cm, l, u, rfl, hc, _, _, _⟩ := hown.row hlt
      have hpl := hown.place hlt
      have hset := hown.set2 hlt v (v + 1)
      have hlo := hpl.2.2.1
      have hhi := hpl.2.2.2
      obtain ⟨g', o', R', m', cm', l', u', e', hc', hro, hlu, hback⟩ := hset.row hlt
      injection e' with e'; injection e' with e1 e2; subst e1; subst e2
      rw [Tk.nth_set _ _ _ _ (by rw [hown.len]; exact hlt), if_pos rfl] at hro hback
      have hm := hro.len
      rw [hns k] at hm
      have hch2 := (hch.set_ (p := ⟨g, o + k * 3, none⟩) hlo hhi (.int .i64 v)).set_ (p := ⟨g, o + k * 3 + 1, none⟩) hlo hhi (.int .i64 (v + 1))
      obtain ⟨q0, q1, q2⟩ := hc
      have f0 := hpl.2.1 (o + k * 3)
      have f1 := hpl.2.1 (o + k * 3 + 1)
      have z2 : ((wr.setCell ⟨g, o + k * 3, none⟩ (.int .i64 v)).setCell ⟨g, o + k * 3 + 1, none⟩ (.int .i64 (v + 1))).cell? ⟨g, o + k * 3 + 2, none⟩ = some (.slice R' m' cm') := hc'.2.2
      have w1 : IntKind.i64.wrap (v + 1) = v + 1 := IntWalk.i64_in _ (by omega)
      have w2 : IntKind.i64.wrap (v + 1 + 1) = v + 1 + 1 := IntWalk.i64_in _ (by omega)
      have i1 : (0 : Int) ≤ (k : Int) := by omega
      have i2 : (k : Int) < (n : Int) := by omega
      have CM := Lib.hid (markS_any R' m' cm' _ l' u' (v + 1 + 1) _ (by omega) (by omega) (by omega) hro)
      have HBK := Lib.hid hback
      have HCH := Lib.hid hch2
      have HN := Lib.hid hns
      have HLU := Lib.hid hlu
      have HV := Lib.hid (And.intro v1 (And.intro hs (And.intro hm hown.len)))
      clear hback hch2 hns hlu hro hset hpl hown hch h1 hs h3 h4 hm v1
      go_wp2_with fail
      refine CM.out.mono ?_
      rintro e w3 ⟨rfl, ho, hc1, hap⟩
      have HO := Lib.hid (HBK.out w3 _ ho hc1 hap)
      have HC1 := Lib.hid (HCH.out.trans (hc1.wide HLU.out))
      have HMK := Lib.hid (show (marks (v + 1 + 1) m').length = m' by simp [marks, Ln.tab])
      clear ho hc1 hap q0 q1 q2 z2 f0 f1
      obtain ⟨y, hy⟩ : ∃ y : Int, y = v + 1 + 1 + m' := ⟨_, rfl⟩
      have HY := Lib.hid hy
      rw [← hy]
      clear hy
      go_wp2
      go_roundw
      case rel =>
        obtain ⟨v1, hs, hm, hl'⟩ := HV.out
        refine ⟨k + 1, y, _, by omega, by go_num, by first | rfl | (rw [HY.out]), by rw [HY.out]; omega, by rw [HY.out]; push_cast; omega, fun j => ?_, HO.out, HC1.out⟩
        rw [Tk.nth_set _ _ _ _ (by simp [hl']; omega)]
        by_cases ej : k = j
        · subst ej; rw [if_pos rfl]; show (marks (v + 1 + 1) m').length = _; rw [HMK.out, hm]
        · rw [if_neg ej, Tk.nth_set _ _ _ _ (by rw [hl']; exact hlt), if_neg ej]; exact HN.out j
      case measure => simp [intOf]; omega
    · have HC := Lib.hid hch
      have hkn : k = n := by omega
      subst hkn
      clear hown hch hns
      go_wp2
      go_ret
      exact ⟨⟨v, v0, rfl⟩, HC.out⟩
end Go.Proofs.Ytfmplneopmbfoaa.Wds
