/-
  The pressure of an order of tasks: the model's functions, one contract each.
-/
import Derived.Test.YtafmpjlelpkdaaaTOrd
import Derived.Test.YtafmpjlelpkdaaaMaxM
namespace Go.Proofs.Ytafmpjlelpkdaaa.Wds
open Go.RowKit
set_option linter.unusedVariables false

theorem liveAt_succ (ts : List Tk.T) (done : List Int) (i : Nat) (x : Int) : Tk.liveAt ts done (i + 1) x = (Tk.liveAt ts done i x || (!done.contains (i : Int) && (Tk.nth ts i).ns.contains x)) := by
  simp [Tk.liveAt, List.range_succ]
theorem RdT_take {w : World} {B n : Nat} {A : Option Addr} {zs : List Int} (h : Rd w B A n zs) {k : Nat} (hk : k ≤ n) : Rd w B A k (zs.take k) := by
  refine ⟨by rw [List.length_take, h.1]; omega, fun hn => ?_⟩
  obtain ⟨g, o, e, hg, hc⟩ := h.2 (by omega)
  refine ⟨g, o, e, hg, fun j z hz => ?_⟩
  rw [List.getElem?_take] at hz
  split at hz
  · exact hc j z hz
  · cases hz
set_option maxRecDepth 100000 in
set_option maxHeartbeats 4000000 in
theorem sLive_any (A : Option Addr) (n c : Nat) (ts : List Tk.T) (B : Nat) (A' : Option Addr) (n' c' : Nat) (zs : List Int) (B' : Nat) (w : World) (hn : Ln.totL (Tk.nss ts) ≤ 1048576) (hn' : n' ≤ 1048576) (h : RdT w B A n ts) (h' : Rd w B' A' n' zs) :
    Calls Try.prog 123 #[.slice A n c, .slice A' n' c'] w fun e w' => e = .returned (.int .i64 ((Tk.liveL ts zs : Nat) : Int)) ∧ Below w.heap.size w w' := by
  have hl := h.len
  have hl' := h'.len
  have HT := Lib.hid hn
  have HL := Lib.hid hl
  have HL' := Lib.hid hl'
  have H := Lib.hid h
  have H' := Lib.hid h'
  have hnn : n ≤ 1048576 := by unfold Ln.totL at hn; rw [Tk.nss_len, hl] at hn; omega
  have HF := Lib.hid (show Tk.liveL ts zs = Rg.cnt (fun j => Tk.liveAt ts zs n (zs.getD j 0)) n' by rw [Tk.liveL, hl, hl'])
  clear hl hl' h h' hn
  go_enter Try.func123, Try.ntmps123
  go_wp2
  go_loopw [5, 6] (fun v i wr => ∃ k : Nat, k ≤ n' ∧ i = .int .i64 k ∧ v = .int .i64 ((Rg.cnt (fun j => Tk.liveAt ts zs n (zs.getD j 0)) k : Nat) : Int) ∧ Below w.heap.size w wr) (fun _ i _ => n' - (intOf i).toNat)
  case atStart => exact ⟨0, Nat.zero_le _, rfl, rfl, Below.refl _ _⟩
  case round =>
    rename World => wo
    obtain ⟨k, hk, rfl, rfl, hb⟩ := hrel
    have hcl := Rg.cnt_le (fun j => Tk.liveAt ts zs n (zs.getD j 0)) k
    by_cases hlt : k < n'
    · obtain ⟨g', o', rfl, hg', hc1⟩ := (H'.out.below hb).at_ hlt
      have HCS := Lib.hid (show Rg.cnt (fun j => Tk.liveAt ts zs n (zs.getD j 0)) (k + 1) = Rg.cnt (fun j => Tk.liveAt ts zs n (zs.getD j 0)) k + if Tk.liveAt ts zs n (zs.getD k 0) = true then 1 else 0 by rw [Rg.cnt])
      obtain ⟨z, hz⟩ : ∃ z, z = zs.getD k 0 := ⟨_, rfl⟩
      rw [← hz] at hc1 HCS
      generalize Rg.cnt (fun j => Tk.liveAt ts zs n (zs.getD j 0)) k = cv at hcl HCS ⊢
      have HC1 := Lib.hid hc1
      have HTo := Lib.hid (H.out.below hb)
      have H2' := Lib.hid (H'.out.below hb)
      have HB := Lib.hid hb
      clear hb hz hc1
      have i1 : (0 : Int) ≤ (k : Int) := by omega
      have i2 : (k : Int) < (n' : Int) := by omega
      have i3 : (cv : Int) ≤ 1048576 := by omega
      go_wp2
      go_loopw [7, 8] (fun v i wr => ∃ x : Nat, x ≤ n ∧ i = .int .i64 x ∧ v = .bool (Tk.liveAt ts zs x z) ∧ Below wo.heap.size wo wr) (fun _ i _ => n - (intOf i).toNat)
      case atStart => exact ⟨0, Nat.zero_le _, rfl, rfl, Below.refl _ _⟩
      case round =>
        rename World => wi
        obtain ⟨x, hx, rfl, rfl, hb⟩ := hrel
        by_cases hlx : x < n
        · obtain ⟨g, o, R, m, cm, rfl, hg, hc, hmc, hr⟩ := (HTo.out.below hb).at_ hlx
          have hm : m ≤ 1048576 := by
            have h1 := Ln.row_le (Tk.nss ts) x (by rw [Tk.nss_len, HL.out]; exact hlx)
            have h2 := hr.len
            have h3 := HT.out
            rw [Tk.nss_getD] at h1
            unfold Ln.totL at h3
            omega
          have hd := H2'.out.below hb
          have q0 := BelBy.cell ((hb.cell (p := ⟨g', o' + k, none⟩) (World.block_lt_of_cell? wo _ HC1.out)).trans HC1.out)
          have q1 := BelBy.cell hc.2.2
          obtain ⟨b1, hb1⟩ : ∃ b, b = zs.contains (x : Int) := ⟨_, rfl⟩
          obtain ⟨b2, hb2⟩ : ∃ b, b = (Tk.nth ts x).ns.contains z := ⟨_, rfl⟩
          have C1 := Lib.hid (fun p : BelBy wi => calls_bel (sHas_any (some ⟨g', o', none⟩) n' c' zs B' (x : Int) p.W hn' (hd.below p.h)))
          have C2 := Lib.hid (fun p : BelBy wi => calls_bel (sHas_any R m cm (Tk.nth ts x).ns B z p.W hm (hr.below p.h)))
          rw [← hb1] at C1
          rw [← hb2] at C2
          have HN := Lib.hid (show Tk.liveAt ts zs (x + 1) z = (Tk.liveAt ts zs x z || (!b1 && b2)) by rw [liveAt_succ, hb1, hb2])
          generalize Tk.liveAt ts zs x z = lv at HN ⊢
          have HB2 := Lib.hid hb
          clear hb hc hr hd hb1 hb2 hmc
          have j1 : (0 : Int) ≤ (x : Int) := by omega
          have j2 : (x : Int) < (n : Int) := by omega
          cases lv
          rotate_left
          · go_wp2
            refine wp_region_quiet_bel (by kernel_rfl) (by kernel_rfl) ?_
            repeat (go_big_quiet_step (fail))
            refine wpQuiet_nil ?_
            rintro _ ⟨⟨wq, hwq⟩, rfl⟩
            go_wp2
            go_roundw
            case rel => exact ⟨x + 1, by omega, by go_num, by rw [HN.out]; simp, HB2.out.trans (hwq.mono HB2.out.size)⟩
            case measure => simp [intOf]; omega
          · cases b1
            rotate_left
            · go_wp2
              refine wp_region_quiet_bel (by kernel_rfl) (by kernel_rfl) ?_
              iterate 5 (go_big_quiet_step (first | (go_at_call 122; exact C1.out _)))
              repeat (go_big_quiet_step (fail))
              refine wpQuiet_nil ?_
              rintro _ ⟨⟨wq, hwq⟩, rfl⟩
              go_wp2
              go_roundw
              case rel => exact ⟨x + 1, by omega, by go_num, by rw [HN.out]; simp, HB2.out.trans (hwq.mono HB2.out.size)⟩
              case measure => simp [intOf]; omega
            · go_wp2
              refine wp_region_quiet_bel (by kernel_rfl) (by kernel_rfl) ?_
              iterate 5 (go_big_quiet_step (first | (go_at_call 122; exact C1.out _)))
              repeat (go_big_quiet_step (first | (go_at_call 122; exact C2.out _)))
              refine wpQuiet_nil ?_
              rintro _ ⟨⟨wq, hwq⟩, rfl⟩
              go_wp2
              go_roundw
              case rel => exact ⟨x + 1, by omega, by go_num, by rw [HN.out]; simp, HB2.out.trans (hwq.mono HB2.out.size)⟩
              case measure => simp [intOf]; omega
        · have hxn : x = n := by omega
          subst hxn
          have HB2 := Lib.hid (HB.out.trans (hb.mono HB.out.size)); clear hb
          generalize Tk.liveAt ts zs x z = lv at HCS ⊢
          cases lv
          · go_wp2
            go_roundw
            case rel => exact ⟨k + 1, by omega, by go_num, by rw [HCS.out]; simp, HB2.out⟩
            case measure => simp [intOf]; omega
          · go_wp2
            go_roundw
            case rel => exact ⟨k + 1, by omega, by go_num, by rw [HCS.out]; go_num, HB2.out⟩
            case measure => simp [intOf]; omega
    · have hkn : k = n' := by omega
      subst hkn
      have HB := Lib.hid hb; clear hb
      go_wp2
      go_ret
      exact ⟨ret_i (by rw [HF.out]), HB.out⟩
theorem presL_le (ts : List Tk.T) (zs : List Int) (N : Nat) (h : zs.length ≤ N) : ∀ j, Tk.presL ts zs j ≤ N := by
  intro j
  induction j with
  | zero => exact Nat.zero_le _
  | succ j ih =>
    rw [Tk.presL]
    have := Rg.cnt_le (fun i => Tk.liveAt ts (zs.take (j + 1)) ts.length ((zs.take (j + 1)).getD i 0)) (zs.take (j + 1)).length
    have h2 : Tk.liveL ts (zs.take (j + 1)) ≤ N := by
      unfold Tk.liveL
      rw [List.length_take] at this ⊢
      omega
    omega
set_option maxHeartbeats 1000000 in
theorem sPressure_any (A : Option Addr) (n c : Nat) (ts : List Tk.T) (B : Nat) (A' : Option Addr) (n' c' : Nat) (zs : List Int) (B' : Nat) (w : World) (hn : Ln.totL (Tk.nss ts) ≤ 1048576) (hn' : n' ≤ 1048576) (hc' : n' ≤ c') (h : RdT w B A n ts) (h' : Rd w B' A' n' zs) :
    Calls Try.prog 94 #[.slice A n c, .slice A' n' c'] w fun e w' => e = .returned (.int .i64 ((Tk.presL ts zs n' : Nat) : Int)) ∧ Below w.heap.size w w' := by
  have HL' := Lib.hid h'.len
  have HT := Lib.hid hn
  have H := Lib.hid h
  have H' := Lib.hid h'
  clear h h' hn
  go_enter Try.func94, Try.ntmps94
  go_wp2
  go_loopw [5, 6] (fun v i wr => ∃ k q : Nat, k ≤ n' ∧ q = k + 1 ∧ i = .int .i64 q ∧ v = .int .i64 ((Tk.presL ts zs k : Nat) : Int) ∧ Below w.heap.size w wr) (fun _ i _ => n' + 1 - (intOf i).toNat)
  case atStart => exact ⟨0, 1, Nat.zero_le _, rfl, rfl, rfl, Below.refl _ _⟩
  case round =>
    obtain ⟨k, q, hk, hq, rfl, rfl, hb⟩ := hrel
    by_cases hlt : k < n'
    · obtain ⟨g', o', rfl, hg', hc1⟩ := (H'.out.below hb).at_ hlt
      have HPN := Lib.hid (show Tk.presL ts zs q = max (Tk.presL ts zs k) (Tk.liveL ts (zs.take q)) by rw [hq, Tk.presL])
      have hlv : Tk.liveL ts (zs.take q) ≤ 1048576 := by
        have := Rg.cnt_le (fun j => Tk.liveAt ts (zs.take q) ts.length ((zs.take q).getD j 0)) (zs.take q).length
        unfold Tk.liveL
        rw [List.length_take] at this ⊢
        omega
      have CL := Lib.hid (sLive_any A n c ts B (some ⟨g', o', none⟩) q c' (zs.take q) B' wr HT.out (by omega) (H.out.below hb) (RdT_take (H'.out.below hb) (by omega)))
      have hpv : Tk.presL ts zs k ≤ 1048576 := presL_le ts zs 1048576 (by rw [HL'.out]; exact hn') k
      generalize Tk.liveL ts (zs.take q) = lv at CL HPN hlv
      generalize Tk.presL ts zs k = pv at HPN hpv ⊢
      have HB := Lib.hid hb; clear hb hc1
      have HQ := Lib.hid hq
      have i1 : (0 : Int) ≤ (q : Int) := by omega
      have i2 : (q : Int) ≤ (n' : Int) := by omega
      have i3 : decide (q ≤ n') = true := decide_eq_true (by omega)
      have i4 : q ≤ n' := by omega
      have i5 : q ≤ c' := by omega
      clear hq
      go_wp2_with fail
      refine CL.out.mono ?_
      rintro e w1 ⟨rfl, hb1⟩
      have HB1 := Lib.hid (HB.out.trans (hb1.mono HB.out.size)); clear hb1
      go_wp2_with fail
      refine (maxM_any _ _ _).mono ?_
      rintro e w2 ⟨rfl, rfl⟩
      go_wp2
      go_roundw
      case rel => exact ⟨q, q + 1, i4, rfl, by go_num, by rw [HPN.out]; congr 1; omega, HB1.out⟩
      case measure => simp [intOf]; omega
    · have hkn : k = n' := by omega
      subst hkn
      have HB := Lib.hid hb; clear hb
      have i3 : decide (q ≤ k) = false := decide_eq_false (by omega)
      have i4 : ¬ q ≤ k := by omega
      clear hq
      go_wp2
      go_ret
      exact ⟨rfl, HB.out⟩
theorem sPressureOf_any (A : Option Addr) (n c : Nat) (ts : List Tk.T) (B : Nat) (A' : Option Addr) (n' c' : Nat) (zs : List Int) (B' : Nat) (w : World) (hn : Ln.totL (Tk.nss ts) ≤ 1048576) (hc : n ≤ c) (hn' : n' ≤ 1048576) (hc' : n' ≤ c') (h : RdT w B A n ts) (h' : Rd w B' A' n' zs) :
    Calls Try.prog 51 #[.slice A n c, .slice A' n' c'] w (RetIB (Tk.pressureOf ts zs).1 (Tk.pressureOf ts zs).2 w) := by
  have CV := Lib.hid (sIsT_any A n c ts B w hn h)
  have CO := Lib.hid (fun (hv : Tk.valid ts = true) (W : World) (hb : Below w.heap.size w W) => sOrderT_any A n c ts B A' n' c' zs B' W hn hv hn' (h.below hb) (h'.below hb))
  have CP := Lib.hid (fun (W : World) (hb : Below w.heap.size w W) => sPressure_any A n c ts B A' n' c' zs B' W hn hn' hc' (h.below hb) (h'.below hb))
  have hl' := h'.len
  clear h h'
  unfold Tk.pressureOf Tk.isOrder
  obtain ⟨v, hv⟩ : ∃ v, v = Tk.valid ts := ⟨_, rfl⟩
  rw [← hv] at CV ⊢
  obtain ⟨q, hq⟩ : ∃ q, q = Tk.ordU (Tk.needs ts) zs := ⟨_, rfl⟩
  rw [← hq] at CO ⊢
  cases v
  · clear hv hq hl'
    go_enter Try.func51, Try.ntmps51
    go_wp2_with fail
    refine CV.out.mono ?_
    rintro e w1 ⟨rfl, hb⟩
    have HB := Lib.hid hb; clear hb
    go_wp2
    go_ret2
    exact ⟨rfl, HB.out⟩
  · have CO2 := Lib.hid (CO.out hv.symm)
    cases q
    · clear hv hq hl'
      go_enter Try.func51, Try.ntmps51
      go_wp2_with fail
      refine CV.out.mono ?_
      rintro e w1 ⟨rfl, hb⟩
      have HB := Lib.hid hb; clear hb
      go_wp2_with fail
      refine (CO2.out _ HB.out).mono ?_
      rintro e w2 ⟨rfl, hb2⟩
      have HB2 := Lib.hid (HB.out.trans (hb2.mono HB.out.size)); clear hb2
      go_wp2
      go_ret2
      exact ⟨rfl, HB2.out⟩
    · rw [show (true && true) = true from rfl, if_pos rfl, hl', Tk.pres_eq hv.symm hq.symm n' (by omega)]
      clear hv hq hl'
      go_enter Try.func51, Try.ntmps51
      go_wp2_with fail
      refine CV.out.mono ?_
      rintro e w1 ⟨rfl, hb⟩
      have HB := Lib.hid hb; clear hb
      go_wp2_with fail
      refine (CO2.out _ HB.out).mono ?_
      rintro e w2 ⟨rfl, hb2⟩
      have HB2 := Lib.hid (HB.out.trans (hb2.mono HB.out.size)); clear hb2
      go_wp2_with fail
      refine (CP.out _ HB2.out).mono ?_
      rintro e w3 ⟨rfl, hb3⟩
      have HB3 := Lib.hid (HB2.out.trans (hb3.mono HB2.out.size)); clear hb3
      go_wp2
      go_ret2
      exact ⟨rfl, HB3.out⟩
end Go.Proofs.Ytafmpjlelpkdaaa.Wds
