/-
  How many values are live behind tasks that are done: the model's function, one contract.
-/
import Derived.Test.YtfmplneopmbfoaaTOrd
import Derived.Test.YtfmplneopmbfoaaMaxM
namespace Go.Proofs.Ytfmplneopmbfoaa.Wds
open Go.RowKit
set_option linter.unusedVariables false

theorem liveAt_succ (ts : List Tk.T) (done : List Int) (i : Nat) (x : Int) : Tk.liveAt ts done (i + 1) x = (Tk.liveAt ts done i x || (!done.contains (i : Int) && (Tk.nth ts i).ns.contains x)) := by
  simp [Tk.liveAt, List.range_succ]
theorem RdT_take {w : World} {B n : Nat} {A : Option Addr} {zs : List Int} (h : Rd w B A n zs) {k : Nat} (hk : k ≤ n) : Rd w B A k (zs.take k) := by
  refine ⟨by rw [List.length_take, h.1]; omega, fun hn => ?_⟩
  obtain ⟨g, o, e, hg, hc⟩ := h.2 (by omega)
  refine ⟨g, o, e, hg, fun j z hz => ?_⟩
  rw [List.getElem?_take] at hz
  split at hz
  · exact hc j z hz
  · cases hz
set_option maxRecDepth 100000 in
set_option maxHeartbeats 4000000 in
theorem sLive_any (A : Option Addr) (n c : Nat) (ts : List Tk.T) (B : Nat) (A' : Option Addr) (n' c' : Nat) (zs : List Int) (B' : Nat) (w : World) (hn : Ln.totL (Tk.nss ts) ≤ 1048576) (hn' : n' ≤ 1048576) (h : RdT w B A n ts) (h' : Rd w B' A' n' zs) :
    Calls Try.prog 95 #[.slice A n c, .slice A' n' c'] w fun e w' => e = .returned (.int .i64 ((Tk.liveL ts zs : Nat) : Int)) ∧ Below w.heap.size w w' := by
  have hl := h.len
  have hl' := h'.len
  have HT := Lib.hid hn
  have HL := Lib.hid hl
  have HL' := Lib.hid hl'
  have H := Lib.hid h
  have H' := Lib.hid h'
  have hnn : n ≤ 1048576 := by unfold Ln.totL at hn; rw [Tk.nss_len, hl] at hn; omega
  have HF := Lib.hid (show Tk.liveL ts zs = Rg.cnt (fun j => Tk.liveAt ts zs n (zs.getD j 0)) n' by rw [Tk.liveL, hl, hl'])
  clear hl hl' h h' hn
  go_enter Try.func95, Try.ntmps95
  go_wp2
  go_loopw [5, 6] (fun v i wr => ∃ k : Nat, k ≤ n' ∧ i = .int .i64 k ∧ v = .int .i64 ((Rg.cnt (fun j => Tk.liveAt ts zs n (zs.getD j 0)) k : Nat) : Int) ∧ Below w.heap.size w wr) (fun _ i _ => n' - (intOf i).toNat)
  case atStart => exact ⟨0, Nat.zero_le _, rfl, rfl, Below.refl _ _⟩
  case round =>
    rename World => wo
    obtain ⟨k, hk, rfl, rfl, hb⟩ := hrel
    have hcl := Rg.cnt_le (fun j => Tk.liveAt ts zs n (zs.getD j 0)) k
    by_cases hlt : k < n'
    · obtain ⟨g', o', rfl, hg', hc1⟩ := (H'.out.below hb).at_ hlt
      have HCS := Lib.hid (show Rg.cnt (fun j => Tk.liveAt ts zs n (zs.getD j 0)) (k + 1) = Rg.cnt (fun j => Tk.liveAt ts zs n (zs.getD j 0)) k + if Tk.liveAt ts zs n (zs.getD k 0) = true then 1 else 0 by rw [Rg.cnt])
      obtain ⟨z, hz⟩ : ∃ z, z = zs.getD k 0 := ⟨_, rfl⟩
      rw [← hz] at hc1 HCS
      generalize Rg.cnt (fun j => Tk.liveAt ts zs n (zs.getD j 0)) k = cv at hcl HCS ⊢
      have HC1 := Lib.hid hc1
      have HTo := Lib.hid (H.out.below hb)
      have H2' := Lib.hid (H'.out.below hb)
      have HB := Lib.hid hb
      clear hb hz hc1
      have i1 : (0 : Int) ≤ (k : Int) := by omega
      have i2 : (k : Int) < (n' : Int) := by omega
      have i3 : (cv : Int) ≤ 1048576 := by omega
      go_wp2
      go_loopw [7, 8] (fun v i wr => ∃ x : Nat, x ≤ n ∧ i = .int .i64 x ∧ v = .bool (Tk.liveAt ts zs x z) ∧ Below wo.heap.size wo wr) (fun _ i _ => n - (intOf i).toNat)
      case atStart => exact ⟨0, Nat.zero_le _, rfl, rfl, Below.refl _ _⟩
      case round =>
        rename World => wi
        obtain ⟨x, hx, rfl, rfl, hb⟩ := hrel
        by_cases hlx : x < n
        · obtain ⟨g, o, R, m, cm, rfl, hg, hc, hmc, hr⟩ := (HTo.out.below hb).at_ hlx
          have hm : m ≤ 1048576 := by
            have h1 := Ln.row_le (Tk.nss ts) x (by rw [Tk.nss_len, HL.out]; exact hlx)
            have h2 := hr.len
            have h3 := HT.out
            rw [Tk.nss_getD] at h1
            unfold Ln.totL at h3
            omega
          have hd := H2'.out.below hb
          have q0 := BelBy.cell ((hb.cell (p := ⟨g', o' + k, none⟩) (World.block_lt_of_cell? wo _ HC1.out)).trans HC1.out)
          have q1 := BelBy.cell hc.2.2
          obtain ⟨b1, hb1⟩ : ∃ b, b = zs.contains (x : Int) := ⟨_, rfl⟩
          obtain ⟨b2, hb2⟩ : ∃ b, b = (Tk.nth ts x).ns.contains z := ⟨_, rfl⟩
          have C1 := Lib.hid (fun p : BelBy wi => calls_bel (sHas_any (some ⟨g', o', none⟩) n' c' zs B' (x : Int) p.W hn' (hd.below p.h)))
          have C2 := Lib.hid (fun p : BelBy wi => calls_bel (sHas_any R m cm (Tk.nth ts x).ns B z p.W hm (hr.below p.h)))
          rw [← hb1] at C1
          rw [← hb2] at C2
          have HN := Lib.hid (show Tk.liveAt ts zs (x + 1) z = (Tk.liveAt ts zs x z || (!b1 && b2)) by rw [liveAt_succ, hb1, hb2])
          generalize Tk.liveAt ts zs x z = lv at HN ⊢
          have HB2 := Lib.hid hb
          clear hb hc hr hd hb1 hb2 hmc
          have j1 : (0 : Int) ≤ (x : Int) := by omega
          have j2 : (x : Int) < (n : Int) := by omega
          cases lv
          rotate_left
          · go_wp2
            refine wp_region_quiet_bel (by kernel_rfl) (by kernel_rfl) ?_
            repeat (go_big_quiet_step (fail))
            refine wpQuiet_nil ?_
            rintro _ ⟨⟨wq, hwq⟩, rfl⟩
            go_wp2
            go_roundw
            case rel => exact ⟨x + 1, by omega, by go_num, by rw [HN.out]; simp, HB2.out.trans (hwq.mono HB2.out.size)⟩
            case measure => simp [intOf]; omega
          · cases b1
            rotate_left
            · go_wp2
              refine wp_region_quiet_bel (by kernel_rfl) (by kernel_rfl) ?_
              iterate 5 (go_big_quiet_step (first | (go_at_call 92; exact C1.out _)))
              repeat (go_big_quiet_step (fail))
              refine wpQuiet_nil ?_
              rintro _ ⟨⟨wq, hwq⟩, rfl⟩
              go_wp2
              go_roundw
              case rel => exact ⟨x + 1, by omega, by go_num, by rw [HN.out]; simp, HB2.out.trans (hwq.mono HB2.out.size)⟩
              case measure => simp [intOf]; omega
            · go_wp2
              refine wp_region_quiet_bel (by kernel_rfl) (by kernel_rfl) ?_
              iterate 5 (go_big_quiet_step (first | (go_at_call 92; exact C1.out _)))
              repeat (go_big_quiet_step (first | (go_at_call 92; exact C2.out _)))
              refine wpQuiet_nil ?_
              rintro _ ⟨⟨wq, hwq⟩, rfl⟩
              go_wp2
              go_roundw
              case rel => exact ⟨x + 1, by omega, by go_num, by rw [HN.out]; simp, HB2.out.trans (hwq.mono HB2.out.size)⟩
              case measure => simp [intOf]; omega
        · have hxn : x = n := by omega
          subst hxn
          have HB2 := Lib.hid (HB.out.trans (hb.mono HB.out.size)); clear hb
          generalize Tk.liveAt ts zs x z = lv at HCS ⊢
          cases lv
          · go_wp2
            go_roundw
            case rel => exact ⟨k + 1, by omega, by go_num, by rw [HCS.out]; simp, HB2.out⟩
            case measure => simp [intOf]; omega
          · go_wp2
            go_roundw
            case rel => exact ⟨k + 1, by omega, by go_num, by rw [HCS.out]; go_num, HB2.out⟩
            case measure => simp [intOf]; omega
    · have hkn : k = n' := by omega
      subst hkn
      have HB := Lib.hid hb; clear hb
      go_wp2
      go_ret
      exact ⟨ret_i (by rw [HF.out]), HB.out⟩
end Go.Proofs.Ytfmplneopmbfoaa.Wds
