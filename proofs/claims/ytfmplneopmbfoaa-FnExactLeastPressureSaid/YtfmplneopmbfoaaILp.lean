/-
  LeastPressure: the code's function, one contract.
-/
import Derived.Test.YtfmplneopmbfoaaMkLp
import Derived.Test.YtfmplneopmbfoaaLpS
import Derived.Test.YtfmplneopmbfoaaVTask2
import Derived.Test.YtfmplneopmbfoaaPush
import Derived.Laws.AppendOwn
namespace Go.Proofs.Ytfmplneopmbfoaa.Wds
open Go.RowKit
set_option linter.unusedVariables false

theorem wpList_make_cap2 {P : Program} (w : World) {ops : Array Oper} {rest : List Oper} {o : Oper} {a : Act} {Q : Exit → Act → World → Prop}
    (hg : o.guard = none) (l c : Operand) (t : TypeId) (hop : o.op = Op.makeSlice t l c)
    (i : TypeInfo) (h1 : P.underlying t = some (.slice 2)) (h2 : P.info? 2 = some i) (h3 : i.zero = some (.int .i64 0)) (h4 : i.size = 1) (h5 : i.bytes = 8)
    (kl kc : IntKind) (L C : Int) (n : Nat) (hl : a.eval l = .int kl L) (hc : a.eval c = .int kc C) (hL : L = 0) (hC : C = (n : Int)) (b2 : n ≤ 17592186044416)
    (hK : wpList P ops Q rest (a.put o.dst (.slice (some ⟨w.heap.size, 0, none⟩) 0 n)) (w.alloc (.cells (Array.replicate n (Value.int .i64 0)) 2))) :
    wpList P ops Q (o :: rest) a w := by
  refine wpList_plain hg fun K hK' => ?_
  subst hL
  subst hC
  have hrun := run_make (P := P) w t 2 i (.int .i64 0) h1 h2 h3 kl kc 0 (n : Int) (by omega) (by omega) (by rw [h5]; omega) (by omega)
  have e : madeCells (Value.int .i64 0).cells ((n : Int).toNat * i.size) = Array.replicate n (Value.int .i64 0) := by
    rw [h4]
    apply Array.ext
    · simp [madeCells]
    · intro j hj1 hj2
      simp [madeCells, Value.cells, Nat.mod_one]
  rw [e] at hrun
  unfold Oper.wp
  simp [execOp, hop, hl, hc, hrun, Result.andThen]
  exact hK' _ _ hK
/-- A list, a number and a Bool are returned. -/
def Ret1IB (zs : List Int) (v : Int) (ok : Bool) (w : World) (e : Ending) (w' : World) : Prop :=
  ∃ A n c, e = .returned (.tuple #[.slice A n c, .int .i64 v, .bool ok]) ∧ Own w' w.heap.size w'.heap.size A n zs ∧ n ≤ 1048576 ∧ n ≤ c ∧ Below w.heap.size w w'
def lenV : Value → Nat
  | .slice _ l _ => l
  | _ => 0
set_option maxRecDepth 100000 in
set_option maxHeartbeats 4000000 in
theorem iLeastPressure_any (A : Option Addr) (n c : Nat) (ts : List Tk.T) (B : Nat) (w : World) (hn : Ln.totL (Tk.nss ts) ≤ 1048576) (h : RdT w B A n ts) :
    Calls Try.prog 24 #[.slice A n c] w (Ret1IB (Lp.leastOf ts).1 ((Lp.leastOf ts).2.1 : Nat) (Lp.leastOf ts).2.2 w) := by
  obtain ⟨i0, hi, hz0, hz1, hz2⟩ := info_parts A_info64
  have CN := Lib.hid (needsOf_any A n c ts B w hn h)
  have HL := Lib.hid h.len
  clear h hn
  obtain ⟨R, hR⟩ : ∃ R, R = Lp.leastOf ts := ⟨_, rfl⟩
  rw [← hR]
  have HR := Lib.hid hR; clear hR
  go_enter Try.func24, Try.ntmps24
  go_wp2_with fail
  refine CN.out.mono ?_
  rintro e w1 (⟨hv, g, rfl, hg, hbu, hb⟩ | ⟨hv, rfl, hb⟩)
  · have h8 : n ≤ 8 := by rw [← HL.out]; exact Tk.len_of_valid hv
    have hlu : (Tk.needs ts).length = n := by rw [Tk.needs_len, HL.out]
    have CT := Lib.hid (leastP_any g n (Tk.needs ts) w1 hlu h8 (needs_lt hv HL.out) hbu)
    have HUL := Lib.hid (needs_lt hv HL.out)
    have HRR := Lib.hid (show R = (Lp.order ts, Lp.least ts, true) by rw [HR.out, Lp.leastOf, if_pos hv])
    have HB := Lib.hid hb
    have HV := Lib.hid hv
    have HU1 := Lib.hid hbu
    have HLU := Lib.hid hlu
    have HF := Lib.hid (fun s => (show Lp.F (Tk.needs ts) s = (Lp.tabF (Tk.needs ts)).getD s 0 from rfl))
    have HTL := Lib.hid (show (Lp.tabF (Tk.needs ts)).length = 2 ^ n by rw [Lp.tabF, Lp.tabP_len, hlu])
    have HLE := Lib.hid (show Lp.least ts = (Lp.tabF (Tk.needs ts)).getD 0 0 from rfl)
    have HS0 := Lib.hid (Lp.St.start hv)
    clear hb hv hbu hg hlu
    go_wp2_with fail
    refine CT.out.mono ?_
    rintro e w2 ⟨g2, rfl, hg2, hblk, hb⟩
    rw [HLU.out]
    have HU2 := Lib.hid (HU1.out.keep hb)
    have HT2 := Lib.hid hblk
    have HB2 := Lib.hid (HB.out.trans (hb.mono HB.out.size))
    clear hb hblk CT
    obtain ⟨m, hm⟩ : ∃ m, m = Lp.least ts := ⟨_, rfl⟩
    rw [← hm] at HS0 HLE HRR
    have HM := Lib.hid hm; clear hm
    obtain ⟨N, hN⟩ : ∃ N : Nat, N = 2 ^ n := ⟨_, rfl⟩
    have hN1 : 1 ≤ N := by rw [hN]; exact Nat.one_le_two_pow
    have hN2 : N ≤ 256 := by rw [hN]; exact Nat.pow_le_pow_right (n := 2) (j := 8) (by decide) h8
    rw [← hN] at HTL ⊢
    have HN := Lib.hid hN; clear hN
    go_wp2_with (refine wpList_make_cap2 _ rfl _ _ _ rfl i0 Try.underlying25 hi hz0 hz1 hz2 _ _ _ _ n rfl rfl rfl rfl (by omega) ?_)
    go_loopw [8, 9] (fun v sv wr => ∃ (o : List Int) (k : Nat), Hid (Lp.St ts m o k) ∧ sv = .int .u32 ((Sc.doneOf o : Nat) : Int) ∧ lenV v = o.length ∧ o.length + k = n ∧ wr.ownsRow w2.heap.size 2 1 v o.length (o.map (Value.int .i64)) ∧ Below w2.heap.size w2 wr) (fun v _ _ => n - lenV v)
    case atStart => exact ⟨[], n, by rw [← HL.out]; exact HS0, rfl, rfl, by simp, World.ownsRow_made w2 _ n (Nat.le_refl _) (by unfold maxLen; omega) (by simp), (Below.refl _ _).alloc (Nat.le_refl _) _⟩
    case round =>
      rename World => wr
      obtain ⟨o, k, hst, rfl, hlv, hok, hown, hb⟩ := hrel
      obtain ⟨A3, c3, rfl, hc3, ho3⟩ := own_form hown
      have HO := Lib.hid hown
      have HBR := Lib.hid hb
      clear hown hb ho3 hlv
      by_cases hk0 : k = 0
      · subst hk0
        have hz := hst.out.fin
        have hlen : o.length = n := by omega
        have c0 : wr.cell? ⟨g2, 0, none⟩ = some (.int .i64 (m : Int)) := by
          rw [(HT2.out.keep HBR.out).cell, clls_get (by rw [tbl_len, HTL.out]; omega), tbl_at, ← HLE.out]
        have d0 := BelBy.cell c0
        have HZ := Lib.hid (show o = R.1 by rw [hz, HRR.out, HM.out]; rfl)
        have i1 : ¬ ((o.length : Nat) : Int) < (n : Int) := by omega
        have i2 : (0 : Int) < (N : Int) := by omega
        clear hz c0 hst
        go_wp2
        refine wp_region_quiet_bel (by kernel_rfl) (by kernel_rfl) ?_
        repeat (go_big_quiet_step (fail))
        refine wpQuiet_nil ?_
        rintro wq ⟨⟨_, hwq⟩, rfl⟩
        have HB7 := Lib.hid (HBR.out.trans (hwq.mono HBR.out.size))
        have HO7 := Lib.hid (HO.out.kept (row := none) ⟨hwq.os, hwq.tape, hwq.output, hwq.size, fun i hi _ => hwq.block i hi⟩ (by cases (Value.slice A3 o.length c3).ownBlock <;> simp))
        clear hwq d0
        go_wp2
        go_ret3
        obtain ⟨A4, c4, e4, hc4, ho4⟩ := own_form HO7.out
        injection e4 with e1 e2 e3
        subst e1; subst e3
        rw [HRR.out]
        refine ⟨A3, n, c3, rfl, ?_, by omega, by omega, HB2.out.trans (HB7.out.mono HB2.out.size)⟩
        rw [← hlen]
        have := ho4.more HB2.out.size (Nat.le_refl _)
        rw [HZ.out, HRR.out] at this
        rw [HZ.out, HRR.out]
        exact this
      · obtain ⟨k', rfl⟩ : ∃ k', k = k' + 1 := ⟨k - 1, by omega⟩
        obtain ⟨x, hx, hgx, hgn, hst', hds⟩ := hst.out.step HV.out
        rw [HL.out] at hx
        have hsl := hst.out.ok.done_lt
        rw [HL.out, ← HN.out] at hsl
        have hsl' := hst'.ok.done_lt
        have hln : ((o ++ [(x : Int)]).length) = o.length + 1 := by simp
        have HST := Lib.hid hst'
        have HOLN := Lib.hid hln
        obtain ⟨s, hs⟩ : ∃ s, s = Sc.doneOf o := ⟨_, rfl⟩
        rw [← hs] at hgx hgn hsl hds ⊢
        have HDS := Lib.hid hds
        have HGN := Lib.hid hgn
        have HGX := Lib.hid hgx
        have hs32 : s < 4294967296 := by omega
        have i1 : ((o.length : Nat) : Int) < (n : Int) := by omega
        clear hst hst' hsl' hln hds hgn hgx hs
        go_wp2
        go_loopw [10] (fun v wk => ∃ i : Nat, i ≤ x ∧ v = .int .i64 i ∧ Below wr.heap.size wr wk) (fun v _ => x - (intOf v).toNat)
        case atStart => exact ⟨0, Nat.zero_le _, rfl, Below.refl _ _⟩
        case round =>
          rename World => wk
          obtain ⟨i, hix, rfl, hb⟩ := hrel
          have hbk : Below w2.heap.size w2 wk := HBR.out.trans (hb.mono HBR.out.size)
          have HBK := Lib.hid hb
          have CI := Lib.hid (fun (p : BelBy wk) => calls_bel (isNextU_any g n (Tk.needs ts) s i p.W HLU.out (by omega) HUL.out hs32 (by omega) (HU2.out.keep (hbk.trans (p.h.mono hbk.size)))))
          have CW := Lib.hid (fun (p : BelBy wk) => calls_bel ((withN_any s i p.W hs32 (by omega)).mono fun e w' h => ⟨h.1, h.2 ▸ Below.refl _ _⟩))
          have hy : s ||| 2 ^ i < N := by rw [HN.out]; exact Lp.or_lt (by rw [← HN.out]; exact hsl) (by omega)
          have HG := Lib.hid (show Lp.good (Tk.needs ts) m s i = (Tk.nextU (Tk.needs ts) s i && decide (Lp.F (Tk.needs ts) (s ||| 2 ^ i) ≤ m)) from rfl)
          obtain ⟨y, hyd⟩ : ∃ y, y = s ||| 2 ^ i := ⟨_, rfl⟩
          rw [← hyd] at CW hy HG
          have ht2 := HT2.out.keep hbk
          obtain ⟨t, ht⟩ : ∃ t, t = Lp.F (Tk.needs ts) y := ⟨_, rfl⟩
          have cy : wk.cell? ⟨g2, y, none⟩ = some (.int .i64 (t : Int)) := by
            rw [ht2.cell, clls_get (by rw [tbl_len, HTL.out]; exact hy), tbl_at, ht, HF.out]
          have c0 : wk.cell? ⟨g2, 0, none⟩ = some (.int .i64 (m : Int)) := by
            rw [ht2.cell, clls_get (by rw [tbl_len, HTL.out]; omega), tbl_at, ← HLE.out]
          rw [← ht] at HG
          have d0 := BelBy.cell cy
          have d1 := BelBy.cell c0
          obtain ⟨b, hbb⟩ : ∃ b, b = Tk.nextU (Tk.needs ts) s i := ⟨_, rfl⟩
          rw [← hbb] at CI HG
          have t0 : (0 : Int) ≤ (y : Int) := by omega
          have t1 : (y : Int) < (N : Int) := by omega
          have t2 : (0 : Int) < (N : Int) := by omega
          clear hb hbk hyd ht2 ht cy c0 hbb hy
          cases b
          · have hne : i < x := by
              rcases Nat.lt_or_ge i x with h1 | h1
              · exact h1
              · have : i = x := by omega
                subst this
                have h2 := HGX.out
                rw [HG.out] at h2
                cases h2
            go_wp2
            refine wp_region_quiet_bel (by kernel_rfl) (by kernel_rfl) ?_
            repeat (go_big_quiet_step (first | (go_at_call 58; exact CI.out _) | (go_at_call 59; exact CW.out _)))
            refine wpQuiet_nil ?_
            rintro wq ⟨⟨_, hwq⟩, rfl⟩
            have HBA := Lib.hid (HBK.out.trans (hwq.mono HBK.out.size))
            clear hwq d0 d1 CI CW
            go_wp2
            go_roundw
            case rel => exact ⟨i + 1, by omega, by go_num, HBA.out⟩
            case measure => simp [intOf]; omega
          · by_cases htm : (m : Int) < (t : Int)
            · have hne : i < x := by
                rcases Nat.lt_or_ge i x with h1 | h1
                · exact h1
                · have : i = x := by omega
                  subst this
                  have h2 := HGX.out
                  rw [HG.out, decide_eq_false (by omega)] at h2
                  cases h2
              go_wp2
              refine wp_region_quiet_bel (by kernel_rfl) (by kernel_rfl) ?_
              repeat (go_big_quiet_step (first | (go_at_call 58; exact CI.out _) | (go_at_call 59; exact CW.out _)))
              refine wpQuiet_nil ?_
              rintro wq ⟨⟨_, hwq⟩, rfl⟩
              have HBA := Lib.hid (HBK.out.trans (hwq.mono HBK.out.size))
              clear hwq d0 d1 CI CW
              go_wp2
              go_roundw
              case rel => exact ⟨i + 1, by omega, by go_num, HBA.out⟩
              case measure => simp [intOf]; omega
            · have hxi : i = x := by
                rcases Nat.lt_or_ge i x with h1 | h1
                · have h2 := HGN.out i h1
                  rw [HG.out, decide_eq_true (by omega)] at h2
                  cases h2
                · omega
              subst hxi
              have htm2 : (t : Int) ≤ (m : Int) := by omega
              clear htm
              go_wp2
              refine wp_region_quiet_bel (by kernel_rfl) (by kernel_rfl) ?_
              repeat (go_big_quiet_step (first | (go_at_call 58; exact CI.out _) | (go_at_call 59; exact CW.out _)))
              refine wpQuiet_nil ?_
              rintro wq ⟨⟨_, hwq⟩, rfl⟩
              have HBA := Lib.hid (HBK.out.trans (hwq.mono HBK.out.size))
              clear hwq d0 d1 CI CW
              have CW2 := Lib.hid (fun W => withN_any s i W hs32 (by omega))
              have HB7 := Lib.hid (HBR.out.trans (HBA.out.mono HBR.out.size))
              have HO7 := Lib.hid (HO.out.kept (row := none) ⟨HBA.out.os, HBA.out.tape, HBA.out.output, HBA.out.size, fun i hi _ => HBA.out.block i hi⟩ (by cases (Value.slice A3 o.length c3).ownBlock <;> simp))
              go_wp2_with (at_builtin; refine wpList_push _ rfl (.tmp 47) (.tmp 49) rfl i0 Try.underlying25 hi hz0 hz1 hz2 w2.heap.size _ o.length o (i : Int) rfl HO7.out rfl (by omega) HB7.out.size ?_)
              intro v' w8 hown8a hb8
              have hown8 : w8.ownsRow w2.heap.size 2 1 v' (o.length + 1) ((o ++ [(i : Int)]).map (Value.int .i64)) := by simpa using hown8a
              have HO8 := Lib.hid hown8
              have HB8 := Lib.hid (HB7.out.trans hb8)
              obtain ⟨A9, c9, rfl, hc9, _⟩ := own_form hown8
              clear hown8 hown8a hb8
              go_wp2_with fail
              refine (CW2.out _).mono ?_
              rintro e w9 ⟨rfl, rfl⟩
              go_wp2
              go_roundw
              case rel => exact ⟨o ++ [(i : Int)], k', HST, by rw [HDS.out], by rw [HOLN.out]; rfl, by rw [HOLN.out]; omega, by rw [HOLN.out]; exact HO8.out, HB8.out⟩
              case measure => simp [lenV]; omega
  · have HRR := Lib.hid (show R = ([], 0, false) by rw [HR.out, Lp.leastOf, hv]; rfl)
    have HB := Lib.hid hb; clear hb hv
    go_wp2
    go_ret3
    rw [HRR.out]
    exact ⟨none, 0, 0, rfl, Own.nil _ _ _ _, Nat.zero_le _, Nat.le_refl _, HB.out⟩
end Go.Proofs.Ytfmplneopmbfoaa.Wds
