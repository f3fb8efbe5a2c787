/-
  The walk of the law FnNamed: for every input that can be read it returns true, and nothing that was there has changed.
-/
import Derived.Test.YtkoaljbjkogagaaDraw8
import Derived.Test.YtkoaljbjkogagaaWea
import Derived.Test.YtkoaljbjkogagaaNamed
import Derived.Test.YtkoaljbjkogagaaNamG
import Derived.Test.YtkoaljbjkogagaaNamF
import Derived.Test.YtkoaljbjkogagaaTailM
namespace Go.Proofs.Ytkoaljbjkogagaa.Wds
open Go.RowKit
set_option linter.unusedVariables false

theorem calls_same {P : Program} {f : FuncId} {args : Array Value} {w : World} {p : BelBy w} (h : Calls P f args p.W fun e w' => e = .returned (.bool true) ∧ Below p.W.heap.size p.W w') : Calls P f args p.W fun e w'' => e = .returned (.bool true) ∧ ∃ q : BelBy w, w'' = q.W := calls_bel h
/-- A named shuffle that there is. -/
theorem nm_any (kind b : Int) (N : Nat) (w : World) (hl : Ln.lanes (N : Int) = true) (hk : 0 ≤ kind ∧ kind ≤ 5) (hb : 0 ≤ b ∧ b < (N : Int)) (h0 : b = 0 ∨ (kind ≠ 1 ∧ kind ≠ 3 ∧ kind ≠ 4)) :
    Calls Try.prog 7 #[.int .i64 kind, .int .i64 (N : Int), .int .i64 b] w fun e w' => ∃ A c, e = .returned (.tuple #[.slice A N c, .bool true]) ∧ Rd w' w'.heap.size A N (Ln.namedL kind N b) ∧ Below w.heap.size w w' := by
  have h := iNamedShuffle_any kind N b w
  rw [Ln.named_yes hl hk hb h0] at h
  refine h.mono ?_
  rintro e w' ⟨A, n, c, rfl, ho, _, hbb⟩
  obtain rfl : n = N := by have := ho.len; rw [Ln.namedL_len, Int.toNat_natCast] at this; exact this.symm
  exact ⟨A, c, rfl, ho.rd, hbb⟩
/-- One after the other. -/
theorem th_any (k1 k2 b1 b2 : Int) (N : Nat) (A1 A2 : Option Addr) (c1 c2 B1 B2 : Nat) (zs : List Int) (w : World) (hl : Ln.lanes (N : Int) = true) (h1 : 0 ≤ b1 ∧ b1 < (N : Int)) (h2 : 0 ≤ b2 ∧ b2 < (N : Int)) (hz : Ln.tab (fun i => Ln.nel k1 N b1 (Ln.nel k2 N b2 i)) N = zs)
    (r1 : Rd w B1 A1 N (Ln.namedL k1 N b1)) (r2 : Rd w B2 A2 N (Ln.namedL k2 N b2)) :
    Calls Try.prog 10 #[.slice A1 N c1, .slice A2 N c2] w fun e w' => ∃ A c, e = .returned (.tuple #[.slice A N c, .bool true]) ∧ Rd w' w'.heap.size A N zs ∧ Below w.heap.size w w' := by
  have hn : N ≤ 1048576 := by have := Ln.lanes_cases hl; omega
  have h := iThenShuffle_any A1 N c1 _ B1 A2 N c2 _ B2 w hn hn r1 r2
  rw [Ln.then_yes hl h1 h2, hz] at h
  refine h.mono ?_
  rintro e w' ⟨A, n, c, rfl, ho, _, hb⟩
  obtain rfl : n = N := by have := ho.len; rw [← hz, Ln.tab_len] at this; exact this.symm
  exact ⟨A, c, rfl, ho.rd, hb⟩
set_option maxHeartbeats 40000000 in
set_option maxRecDepth 100000 in
theorem law_named (a0 : Option Addr) (len0 cap0 : Nat) (z0 : List Int) (a1 : Option Addr) (len1 cap1 : Nat) (z1 : List Int) (w : World) (r0 : IsRow .u8 w a0 len0 cap0 z0) (r1 : IsRow .u8 w a1 len1 cap1 z1) :
    Calls Try.prog 3 #[.slice a0 len0 cap0, .slice a1 len1 cap1] w fun e w' => e = .returned (.bool true) ∧ Below w.heap.size w w' := by
  have cl := r8long_any a0 a1 len0 cap0 len1 cap1 w r0.len' r1.len'
  by_cases hlong : 48 < len0 ∨ 48 < len1
  · rw [decide_eq_true hlong] at cl
    have CL := Lib.hid cl
    clear cl hlong r0 r1
    go_enter Try.func3, Try.ntmps3
    go_wp2_with fail
    refine CL.out.mono ?_
    rintro e w' ⟨rfl, rfl⟩
    go_wp2_with fail
    go_ret
    exact ⟨rfl, Below.refl _ _⟩
  · rw [decide_eq_false hlong] at cl
    have CL := Lib.hid cl
    have R0 := Lib.hid (fun (W : World) (hb : Below w.heap.size w W) => r0.below hb r0.block)
    have R1 := Lib.hid (fun (W : World) (hb : Below w.heap.size w W) => r1.below hb r1.block)
    clear cl hlong r0 r1
    go_enter Try.func3, Try.ntmps3
    go_wp2_with fail
    refine CL.out.mono ?_
    rintro e w' ⟨rfl, rfl⟩
    go_wp2_with fail
    refine (r8lanes_any _ _ _ z0 _ (R0.out _ (Below.refl _ _))).mono ?_
    rintro e w2 ⟨n, rfl, hl, hb⟩
    have HB2 := Lib.hid hb; clear hb
    by_cases h16 : n = 16
    · subst h16
      have HL := Lib.hid (show Ln.lanes ((4 : Nat) : Int) = true by decide)
      clear hl
      go_wp2_with fail
      refine (r8vec_any 8 4 _ _ _ z0 _ (by unfold Wd.IsBits; omega) HL.out (R0.out _ HB2.out)).mono ?_
      rintro e w3 ⟨ga, ca, xs, rfl, hoa, hca, hva, hb⟩
      have RA := Lib.hid hoa.rd
      have HVA := Lib.hid hva
      have HLA := Lib.hid (show xs.length = 4 from hoa.len)
      have HB := Lib.hid (HB2.out.trans (hb.mono HB2.out.size))
      clear hoa hva hb
      go_wp2_with fail
      refine (nm_any 3 0 4 w3 HL.out (by omega) (by omega) (.inl rfl)).mono ?_
      rintro e w4 ⟨Az, cz, rfl, hr, hb⟩
      replace RA := Lib.hid (RA.out.below hb)
      have Rz := Lib.hid (hr)
      replace HB := Lib.hid (HB.out.trans (hb.mono HB.out.size))
      clear hb hr
      go_wp2_with fail
      refine (nm_any 4 0 4 w4 HL.out (by omega) (by omega) (.inl rfl)).mono ?_
      rintro e w5 ⟨Au, cu, rfl, hr, hb⟩
      replace RA := Lib.hid (RA.out.below hb); replace Rz := Lib.hid (Rz.out.below hb)
      have Ru := Lib.hid (hr)
      replace HB := Lib.hid (HB.out.trans (hb.mono HB.out.size))
      clear hb hr
      go_wp2_with fail
      refine (iShuffle_yes 8 Az 4 cz _ _ (some ⟨ga, 0, none⟩) ca xs _ w5 (by omega) Rz.out RA.out (Ln.namedL_shuf HL.out (by omega)) HVA.out).mono ?_
      rintro e w6 ⟨Ax, nx, cx, rfl, hox, hcx, hb⟩
      have enx : 4 = nx := by have := hox.len; rw [Ln.pickL, Ln.tab_len, Ln.namedL_len, Int.toNat_natCast] at this; exact this
      subst enx
      obtain ⟨gx, ox, rfl, _, _⟩ := hox.rd.at_ (k := 0) (by omega)
      replace RA := Lib.hid (RA.out.below hb); replace Rz := Lib.hid (Rz.out.below hb); replace Ru := Lib.hid (Ru.out.below hb)
      have Rx := Lib.hid (hox.rd)
      replace HB := Lib.hid (HB.out.trans (hb.mono HB.out.size))
      clear hb hox
      have hlo := RA.out.cut 0 2 (by omega)
      have hhi := RA.out.cut 2 2 (by omega)
      rw [List.drop_zero] at hlo
      rw [List.take_of_length_le (by rw [List.length_drop, HLA.out]; omega)] at hhi
      have hbo := Ln.halves_vec (b := 8) (a := xs) (H := 2) (.inl rfl) (by have := HLA.out; omega) HVA.out
      have CI := Lib.hid (fun (W : World) (hW : Below w6.heap.size w6 W) => iInter_yes 8 (some ⟨ga, 0, none⟩) (some ⟨ga, 2, none⟩) 2 ca (ca - 2) _ _ _ _ W (by omega) (by omega) (hlo.below hW) (by have := hhi.below hW; rw [Nat.zero_add] at this; exact this) hbo)
      clear hlo hhi hbo
      go_wp2_with fail
      refine wp_region_mid 6 _ (by kernel_rfl) (by kernel_rfl) rfl rfl ?_
      simp only [List.take_succ_cons, List.take_zero]
      repeat (go_big_quiet_step (fail))
      refine wpQuiet_nil ?_
      rintro w7 ⟨⟨_, h7⟩, rfl⟩ KK hKK
      have H7 := Lib.hid h7
      have KI := Lib.hid (CI.out _ h7)
      clear CI h7
      go_wp2_with fail
      try rw [show 4 - 2 = 2 by omega]
      with_reducible refine KI.out.mono ?_
      rintro e w8 ⟨Al, nl, cl, Ah, nh, ch, rfl, hol, hoh, _, _, _, hb8⟩
      have enl : 2 = nl := by have := hol.len; rw [Ln.tab_len] at this; exact this
      have enh : 2 = nh := by have := hoh.len; rw [Ln.tab_len] at this; exact this
      subst enl
      subst enh
      have HH8 := Lib.hid (H7.out.trans (hb8.mono H7.out.size))
      have HOL := Lib.hid hol.rd
      have HOH := Lib.hid hoh.rd
      clear hb8 KI hol hoh
      go_wp2_with fail
      unfold MidOk
      simp only [List.drop_succ_cons, List.drop_zero]
      repeat (go_big_quiet_step (fail))
      refine wpQuiet_nil ?_
      rintro w8b ⟨⟨_, h8⟩, rfl⟩
      have hb := HH8.out.trans (h8.mono HH8.out.size)
      have hol := HOL.out.below h8
      have hoh := HOH.out.below h8
      clear h8 HH8 HOL HOH
      rw [← Ln.zip_low (H := 2) (.inl rfl) (by have := HLA.out; omega), (show 2 * 2 = 4 from rfl)] at hol
      rw [← Ln.zip_high (H := 2) (.inl rfl) (by have := HLA.out; omega), (show 2 * 2 = 4 from rfl)] at hoh
      replace RA := Lib.hid (RA.out.below hb); replace Rz := Lib.hid (Rz.out.below hb); replace Ru := Lib.hid (Ru.out.below hb); replace Rx := Lib.hid (Rx.out.below hb)
      have Rlo := Lib.hid (hol)
      have Rhi := Lib.hid (hoh)
      replace HB := Lib.hid (HB.out.trans (hb.mono HB.out.size))
      clear hb hol hoh H7
      go_wp2_with fail
      refine (th_any 3 4 0 0 4 Az Au cz cu _ _ (Ln.ident 4) _ HL.out (by omega) (by omega) (Ln.zip_unzip (.inl rfl)) Rz.out Ru.out).mono ?_
      rintro e w9 ⟨Asame, csame, rfl, hr, hb⟩
      replace RA := Lib.hid (RA.out.below hb); replace Rz := Lib.hid (Rz.out.below hb); replace Ru := Lib.hid (Ru.out.below hb); replace Rx := Lib.hid (Rx.out.below hb); replace Rlo := Lib.hid (Rlo.out.below hb); replace Rhi := Lib.hid (Rhi.out.below hb)
      have Rsame := Lib.hid (hr)
      replace HB := Lib.hid (HB.out.trans (hb.mono HB.out.size))
      clear hb hr
      go_wp2_with fail
      refine (r8at_any 0 (4 : Int) _ _ _ z1 _ (by omega) (by omega) (by omega) (by omega) (R1.out _ HB.out)).mono ?_
      rintro e w10 ⟨p, rfl, hp0, hp1, rfl⟩
      go_wp2_with fail
      refine (r8at_any 1 (4 : Int) _ _ _ z1 _ (by omega) (by omega) (by omega) (by omega) (R1.out _ HB.out)).mono ?_
      rintro e w11 ⟨q, rfl, hq0, hq1, rfl⟩
      go_wp2_with fail
      refine (nm_any 0 p 4 _ HL.out (by omega) ⟨hp0, hp1⟩ (.inr (by omega))).mono ?_
      rintro e w12 ⟨Af, cf, rfl, hr, hb⟩
      replace RA := Lib.hid (RA.out.below hb); replace Rz := Lib.hid (Rz.out.below hb); replace Ru := Lib.hid (Ru.out.below hb); replace Rx := Lib.hid (Rx.out.below hb); replace Rlo := Lib.hid (Rlo.out.below hb); replace Rhi := Lib.hid (Rhi.out.below hb); replace Rsame := Lib.hid (Rsame.out.below hb)
      have Rf := Lib.hid (hr)
      replace HB := Lib.hid (HB.out.trans (hb.mono HB.out.size))
      clear hb hr
      go_wp2_with fail
      refine (nm_any 0 q 4 w12 HL.out (by omega) ⟨hq0, hq1⟩ (.inr (by omega))).mono ?_
      rintro e w13 ⟨As, cs, rfl, hr, hb⟩
      replace RA := Lib.hid (RA.out.below hb); replace Rz := Lib.hid (Rz.out.below hb); replace Ru := Lib.hid (Ru.out.below hb); replace Rx := Lib.hid (Rx.out.below hb); replace Rlo := Lib.hid (Rlo.out.below hb); replace Rhi := Lib.hid (Rhi.out.below hb); replace Rsame := Lib.hid (Rsame.out.below hb); replace Rf := Lib.hid (Rf.out.below hb)
      have Rs := Lib.hid (hr)
      replace HB := Lib.hid (HB.out.trans (hb.mono HB.out.size))
      clear hb hr
      obtain ⟨t, ht⟩ : ∃ t, t = (p + q) % (4 : Int) := ⟨_, rfl⟩
      have ht0 : 0 ≤ t ∧ t < (4 : Int) := by rw [ht]; exact ⟨Int.emod_nonneg _ (by omega), Int.emod_lt_of_pos _ (by omega)⟩
      have HTT := Lib.hid ht
      have t2 : (p + q) % (4 : Int) = t := ht.symm
      have t3 : (0 : Int) < (4 : Int) := by omega
      clear ht
      go_wp2_with fail
      refine (nm_any 0 t 4 w13 HL.out (by omega) ht0 (.inr (by omega))).mono ?_
      rintro e w14 ⟨Ad, cd, rfl, hr, hb⟩
      replace RA := Lib.hid (RA.out.below hb); replace Rz := Lib.hid (Rz.out.below hb); replace Ru := Lib.hid (Ru.out.below hb); replace Rx := Lib.hid (Rx.out.below hb); replace Rlo := Lib.hid (Rlo.out.below hb); replace Rhi := Lib.hid (Rhi.out.below hb); replace Rsame := Lib.hid (Rsame.out.below hb); replace Rf := Lib.hid (Rf.out.below hb); replace Rs := Lib.hid (Rs.out.below hb)
      have Rd := Lib.hid (hr)
      replace HB := Lib.hid (HB.out.trans (hb.mono HB.out.size))
      clear hb hr
      go_wp2_with fail
      refine (th_any 0 0 p q 4 Af As cf cs _ _ (Ln.namedL 0 4 t) w14 HL.out ⟨hp0, hp1⟩ ⟨hq0, hq1⟩ (by rw [HTT.out]; exact Ln.rot_rot (.inl rfl) ⟨hp0, hp1⟩ ⟨hq0, hq1⟩) Rf.out Rs.out).mono ?_
      rintro e w15 ⟨Aturned, cturned, rfl, hr, hb⟩
      replace RA := Lib.hid (RA.out.below hb); replace Rz := Lib.hid (Rz.out.below hb); replace Ru := Lib.hid (Ru.out.below hb); replace Rx := Lib.hid (Rx.out.below hb); replace Rlo := Lib.hid (Rlo.out.below hb); replace Rhi := Lib.hid (Rhi.out.below hb); replace Rsame := Lib.hid (Rsame.out.below hb); replace Rf := Lib.hid (Rf.out.below hb); replace Rs := Lib.hid (Rs.out.below hb); replace Rd := Lib.hid (Rd.out.below hb)
      have Rturned := Lib.hid (hr)
      replace HB := Lib.hid (HB.out.trans (hb.mono HB.out.size))
      clear hb hr
      clear t2 t3
      have hcx2 : 2 ≤ cx := by omega
      go_wp2_with fail
      try rw [show 4 - 2 = 2 by omega]
      with_reducible refine (r8same_any Aturned Ad 4 cturned cd (Ln.namedL 0 4 t) _ _ w15 (by omega) Rturned.out Rd.out).mono ?_
      rintro e w16 ⟨rfl, hb⟩
      replace RA := Lib.hid (RA.out.below hb); replace Rz := Lib.hid (Rz.out.below hb); replace Ru := Lib.hid (Ru.out.below hb); replace Rx := Lib.hid (Rx.out.below hb); replace Rlo := Lib.hid (Rlo.out.below hb); replace Rhi := Lib.hid (Rhi.out.below hb); replace Rsame := Lib.hid (Rsame.out.below hb); replace Rf := Lib.hid (Rf.out.below hb); replace Rs := Lib.hid (Rs.out.below hb); replace Rd := Lib.hid (Rd.out.below hb); replace Rturned := Lib.hid (Rturned.out.below hb)
      replace HB := Lib.hid (HB.out.trans (hb.mono HB.out.size))
      clear hb
      have hxl := Rx.out.cut 0 2 (by omega)
      rw [Nat.add_zero, List.drop_zero] at hxl
      have HXL := Lib.hid hxl
      clear hxl
      go_wp2_with fail
      try rw [show 4 - 2 = 2 by omega]
      with_reducible refine (r8same_any (some ⟨gx, ox, none⟩) Al 2 cx cl _ _ _ w16 (by omega) HXL.out Rlo.out).mono ?_
      rintro e w17 ⟨rfl, hb⟩
      replace RA := Lib.hid (RA.out.below hb); replace Rz := Lib.hid (Rz.out.below hb); replace Ru := Lib.hid (Ru.out.below hb); replace Rx := Lib.hid (Rx.out.below hb); replace Rlo := Lib.hid (Rlo.out.below hb); replace Rhi := Lib.hid (Rhi.out.below hb); replace Rsame := Lib.hid (Rsame.out.below hb); replace Rf := Lib.hid (Rf.out.below hb); replace Rs := Lib.hid (Rs.out.below hb); replace Rd := Lib.hid (Rd.out.below hb); replace Rturned := Lib.hid (Rturned.out.below hb)
      replace HB := Lib.hid (HB.out.trans (hb.mono HB.out.size))
      clear hb
      have hxh := Rx.out.cut 2 2 (by omega)
      rw [List.take_of_length_le (by rw [List.length_drop, Ln.pickL, Ln.tab_len, Ln.namedL_len, Int.toNat_natCast]; omega)] at hxh
      have HXH := Lib.hid hxh
      clear hxh
      go_wp2_with fail
      try rw [show 4 - 2 = 2 by omega]
      with_reducible refine (r8same_any (some ⟨gx, ox + 2, none⟩) Ah 2 (cx - 2) ch _ _ _ w17 (by omega) HXH.out Rhi.out).mono ?_
      rintro e w18 ⟨rfl, hb⟩
      replace RA := Lib.hid (RA.out.below hb); replace Rz := Lib.hid (Rz.out.below hb); replace Ru := Lib.hid (Ru.out.below hb); replace Rx := Lib.hid (Rx.out.below hb); replace Rlo := Lib.hid (Rlo.out.below hb); replace Rhi := Lib.hid (Rhi.out.below hb); replace Rsame := Lib.hid (Rsame.out.below hb); replace Rf := Lib.hid (Rf.out.below hb); replace Rs := Lib.hid (Rs.out.below hb); replace Rd := Lib.hid (Rd.out.below hb); replace Rturned := Lib.hid (Rturned.out.below hb)
      replace HB := Lib.hid (HB.out.trans (hb.mono HB.out.size))
      clear hb
      go_wp2_with fail
      refine (nm_any 1 0 4 w18 HL.out (by omega) (by omega) (.inl rfl)).mono ?_
      rintro e w19 ⟨Aback, cback, rfl, hr, hb⟩
      replace RA := Lib.hid (RA.out.below hb); replace Rz := Lib.hid (Rz.out.below hb); replace Ru := Lib.hid (Ru.out.below hb); replace Rx := Lib.hid (Rx.out.below hb); replace Rlo := Lib.hid (Rlo.out.below hb); replace Rhi := Lib.hid (Rhi.out.below hb); replace Rsame := Lib.hid (Rsame.out.below hb); replace Rf := Lib.hid (Rf.out.below hb); replace Rs := Lib.hid (Rs.out.below hb); replace Rd := Lib.hid (Rd.out.below hb); replace Rturned := Lib.hid (Rturned.out.below hb)
      have Rback := Lib.hid (hr)
      replace HB := Lib.hid (HB.out.trans (hb.mono HB.out.size))
      clear hb hr
      go_wp2_with fail
      refine (nm_any 2 p 4 w19 HL.out (by omega) ⟨hp0, hp1⟩ (.inr (by omega))).mono ?_
      rintro e w20 ⟨Aswap, cswap, rfl, hr, hb⟩
      replace RA := Lib.hid (RA.out.below hb); replace Rz := Lib.hid (Rz.out.below hb); replace Ru := Lib.hid (Ru.out.below hb); replace Rx := Lib.hid (Rx.out.below hb); replace Rlo := Lib.hid (Rlo.out.below hb); replace Rhi := Lib.hid (Rhi.out.below hb); replace Rsame := Lib.hid (Rsame.out.below hb); replace Rf := Lib.hid (Rf.out.below hb); replace Rs := Lib.hid (Rs.out.below hb); replace Rd := Lib.hid (Rd.out.below hb); replace Rturned := Lib.hid (Rturned.out.below hb); replace Rback := Lib.hid (Rback.out.below hb)
      have Rswap := Lib.hid (hr)
      replace HB := Lib.hid (HB.out.trans (hb.mono HB.out.size))
      clear hb hr
      go_wp2_with fail
      refine (nm_any 5 p 4 w20 HL.out (by omega) ⟨hp0, hp1⟩ (.inr (by omega))).mono ?_
      rintro e w21 ⟨Afill, cfill, rfl, hr, hb⟩
      replace RA := Lib.hid (RA.out.below hb); replace Rz := Lib.hid (Rz.out.below hb); replace Ru := Lib.hid (Ru.out.below hb); replace Rx := Lib.hid (Rx.out.below hb); replace Rlo := Lib.hid (Rlo.out.below hb); replace Rhi := Lib.hid (Rhi.out.below hb); replace Rsame := Lib.hid (Rsame.out.below hb); replace Rf := Lib.hid (Rf.out.below hb); replace Rs := Lib.hid (Rs.out.below hb); replace Rd := Lib.hid (Rd.out.below hb); replace Rturned := Lib.hid (Rturned.out.below hb); replace Rback := Lib.hid (Rback.out.below hb); replace Rswap := Lib.hid (Rswap.out.below hb)
      have Rfill := Lib.hid (hr)
      replace HB := Lib.hid (HB.out.trans (hb.mono HB.out.size))
      clear hb hr
      go_wp2_with fail
      refine (th_any 1 1 0 0 4 Aback Aback cback cback _ _ (Ln.ident 4) w21 HL.out (by omega) (by omega) Ln.rev_rev Rback.out Rback.out).mono ?_
      rintro e w22 ⟨Atwice, ctwice, rfl, hr, hb⟩
      replace RA := Lib.hid (RA.out.below hb); replace Rz := Lib.hid (Rz.out.below hb); replace Ru := Lib.hid (Ru.out.below hb); replace Rx := Lib.hid (Rx.out.below hb); replace Rlo := Lib.hid (Rlo.out.below hb); replace Rhi := Lib.hid (Rhi.out.below hb); replace Rsame := Lib.hid (Rsame.out.below hb); replace Rf := Lib.hid (Rf.out.below hb); replace Rs := Lib.hid (Rs.out.below hb); replace Rd := Lib.hid (Rd.out.below hb); replace Rturned := Lib.hid (Rturned.out.below hb); replace Rback := Lib.hid (Rback.out.below hb); replace Rswap := Lib.hid (Rswap.out.below hb); replace Rfill := Lib.hid (Rfill.out.below hb)
      have Rtwice := Lib.hid (hr)
      replace HB := Lib.hid (HB.out.trans (hb.mono HB.out.size))
      clear hb hr
      go_wp2_with fail
      refine (th_any 2 2 p p 4 Aswap Aswap cswap cswap _ _ (Ln.ident 4) w22 HL.out ⟨hp0, hp1⟩ ⟨hp0, hp1⟩ (Ln.swap_swap hp0) Rswap.out Rswap.out).mono ?_
      rintro e w23 ⟨Aagain, cagain, rfl, hr, hb⟩
      replace RA := Lib.hid (RA.out.below hb); replace Rz := Lib.hid (Rz.out.below hb); replace Ru := Lib.hid (Ru.out.below hb); replace Rx := Lib.hid (Rx.out.below hb); replace Rlo := Lib.hid (Rlo.out.below hb); replace Rhi := Lib.hid (Rhi.out.below hb); replace Rsame := Lib.hid (Rsame.out.below hb); replace Rf := Lib.hid (Rf.out.below hb); replace Rs := Lib.hid (Rs.out.below hb); replace Rd := Lib.hid (Rd.out.below hb); replace Rturned := Lib.hid (Rturned.out.below hb); replace Rback := Lib.hid (Rback.out.below hb); replace Rswap := Lib.hid (Rswap.out.below hb); replace Rfill := Lib.hid (Rfill.out.below hb); replace Rtwice := Lib.hid (Rtwice.out.below hb)
      have Ragain := Lib.hid (hr)
      replace HB := Lib.hid (HB.out.trans (hb.mono HB.out.size))
      clear hb hr
      go_wp2_with fail
      try rw [show 4 - 2 = 2 by omega]
      with_reducible refine (r8same_any Atwice Asame 4 ctwice csame (Ln.ident 4) _ _ w23 (by omega) Rtwice.out Rsame.out).mono ?_
      rintro e w24 ⟨rfl, hb⟩
      replace RA := Lib.hid (RA.out.below hb); replace Rz := Lib.hid (Rz.out.below hb); replace Ru := Lib.hid (Ru.out.below hb); replace Rx := Lib.hid (Rx.out.below hb); replace Rlo := Lib.hid (Rlo.out.below hb); replace Rhi := Lib.hid (Rhi.out.below hb); replace Rsame := Lib.hid (Rsame.out.below hb); replace Rf := Lib.hid (Rf.out.below hb); replace Rs := Lib.hid (Rs.out.below hb); replace Rd := Lib.hid (Rd.out.below hb); replace Rturned := Lib.hid (Rturned.out.below hb); replace Rback := Lib.hid (Rback.out.below hb); replace Rswap := Lib.hid (Rswap.out.below hb); replace Rfill := Lib.hid (Rfill.out.below hb); replace Rtwice := Lib.hid (Rtwice.out.below hb); replace Ragain := Lib.hid (Ragain.out.below hb)
      replace HB := Lib.hid (HB.out.trans (hb.mono HB.out.size))
      clear hb
      go_wp2_with fail
      try rw [show 4 - 2 = 2 by omega]
      with_reducible refine (r8same_any Aagain Asame 4 cagain csame (Ln.ident 4) _ _ w24 (by omega) Ragain.out Rsame.out).mono ?_
      rintro e w25 ⟨rfl, hb⟩
      replace RA := Lib.hid (RA.out.below hb); replace Rz := Lib.hid (Rz.out.below hb); replace Ru := Lib.hid (Ru.out.below hb); replace Rx := Lib.hid (Rx.out.below hb); replace Rlo := Lib.hid (Rlo.out.below hb); replace Rhi := Lib.hid (Rhi.out.below hb); replace Rsame := Lib.hid (Rsame.out.below hb); replace Rf := Lib.hid (Rf.out.below hb); replace Rs := Lib.hid (Rs.out.below hb); replace Rd := Lib.hid (Rd.out.below hb); replace Rturned := Lib.hid (Rturned.out.below hb); replace Rback := Lib.hid (Rback.out.below hb); replace Rswap := Lib.hid (Rswap.out.below hb); replace Rfill := Lib.hid (Rfill.out.below hb); replace Rtwice := Lib.hid (Rtwice.out.below hb); replace Ragain := Lib.hid (Ragain.out.below hb)
      replace HB := Lib.hid (HB.out.trans (hb.mono HB.out.size))
      clear hb
      go_wp2_with fail
      go_loopw [39] (fun i wr => ∃ k : Nat, k ≤ 4 ∧ i = .int .i64 k ∧ Below w25.heap.size w25 wr) (fun i _ => 4 - (intOf i).toNat)
      case atStart => exact ⟨0, Nat.zero_le _, rfl, Below.refl _ _⟩
      case round =>
        rename World => wr
        obtain ⟨k, hk, rfl, hbw⟩ := hrel
        by_cases hlt : k < 4
        · obtain ⟨g1, o1, rfl, _, hc1⟩ := (Rsame.out.below hbw).at_ hlt
          obtain ⟨g2, o2, rfl, _, hc2⟩ := (Rfill.out.below hbw).at_ hlt
          rw [Ln.ident_at hlt] at hc1
          rw [Ln.first_at hlt] at hc2
          have HBW := Lib.hid hbw; clear hbw
          have i1 : (0 : Int) ≤ (k : Int) := by omega
          have i2 : (k : Int) < (4 : Int) := by omega
          go_wp2
          go_roundw
          case rel => exact ⟨k + 1, by omega, by go_num, HBW.out⟩
          case measure => simp [intOf]; omega
        · have hkn : k = 4 := by omega
          have HBW := Lib.hid hbw; clear hbw
          subst hkn
          go_wp2
          go_ret
          exact ⟨rfl, HB.out.trans (HBW.out.mono HB.out.size)⟩
    · obtain ⟨N, hN⟩ : ∃ N, N = 2 * n := ⟨_, rfl⟩
      have hN3 : N = 4 ∨ N = 8 ∨ N = 16 := by have := Ln.lanes_cases hl; omega
      have HN3 := Lib.hid hN3
      have HN2 := Lib.hid hN.symm
      have HLh := Lib.hid hl
      have HH := Lib.hid (show n = 2 ∨ n = 4 ∨ n = 8 by omega)
      have HL := Lib.hid (Ln.nf_cases hN3).1
      have hN4 : 4 ≤ N := by omega
      have hN16 : N ≤ 16 := by omega
      have hn1 : 2 ≤ n := by omega
      have hn2 : n ≤ 8 := by omega
      have q0 : (2 : Int) * (n : Int) = (N : Int) := by omega
      have q1 : (N : Int) / 2 = (n : Int) := by omega
      have q2 : (0 : Int) ≤ (N : Int) := by omega
      clear hl hN3 h16 hN
      go_wp2_with fail
      refine (r8vec_any 8 N _ _ _ z0 _ (by unfold Wd.IsBits; omega) HL.out (R0.out _ HB2.out)).mono ?_
      rintro e w3 ⟨ga, ca, xs, rfl, hoa, hca, hva, hb⟩
      have RA := Lib.hid hoa.rd
      have HVA := Lib.hid hva
      have HLA := Lib.hid (show xs.length = N from hoa.len)
      have HB := Lib.hid (HB2.out.trans (hb.mono HB2.out.size))
      clear hoa hva hb
      go_wp2_with fail
      refine (nm_any 3 0 N w3 HL.out (by omega) (by omega) (.inl rfl)).mono ?_
      rintro e w4 ⟨Az, cz, rfl, hr, hb⟩
      replace RA := Lib.hid (RA.out.below hb)
      have Rz := Lib.hid (hr)
      replace HB := Lib.hid (HB.out.trans (hb.mono HB.out.size))
      clear hb hr
      go_wp2_with fail
      refine (nm_any 4 0 N w4 HL.out (by omega) (by omega) (.inl rfl)).mono ?_
      rintro e w5 ⟨Au, cu, rfl, hr, hb⟩
      replace RA := Lib.hid (RA.out.below hb); replace Rz := Lib.hid (Rz.out.below hb)
      have Ru := Lib.hid (hr)
      replace HB := Lib.hid (HB.out.trans (hb.mono HB.out.size))
      clear hb hr
      go_wp2_with fail
      refine (iShuffle_yes 8 Az N cz _ _ (some ⟨ga, 0, none⟩) ca xs _ w5 (by omega) Rz.out RA.out (Ln.namedL_shuf HL.out (by omega)) HVA.out).mono ?_
      rintro e w6 ⟨Ax, nx, cx, rfl, hox, hcx, hb⟩
      have enx : N = nx := by have := hox.len; rw [Ln.pickL, Ln.tab_len, Ln.namedL_len, Int.toNat_natCast] at this; exact this
      subst enx
      obtain ⟨gx, ox, rfl, _, _⟩ := hox.rd.at_ (k := 0) (by omega)
      replace RA := Lib.hid (RA.out.below hb); replace Rz := Lib.hid (Rz.out.below hb); replace Ru := Lib.hid (Ru.out.below hb)
      have Rx := Lib.hid (hox.rd)
      replace HB := Lib.hid (HB.out.trans (hb.mono HB.out.size))
      clear hb hox
      have hlo := RA.out.cut 0 n (by omega)
      have hhi := RA.out.cut n n (by omega)
      rw [List.drop_zero] at hlo
      rw [List.take_of_length_le (by rw [List.length_drop, HLA.out]; omega)] at hhi
      have hbo := Ln.halves_vec (b := 8) (a := xs) (H := n) HH.out (by have := HLA.out; omega) HVA.out
      have CI := Lib.hid (fun (W : World) (hW : Below w6.heap.size w6 W) => iInter_yes 8 (some ⟨ga, 0, none⟩) (some ⟨ga, n, none⟩) n ca (ca - n) _ _ _ _ W (by omega) (by omega) (hlo.below hW) (by have := hhi.below hW; rw [Nat.zero_add] at this; exact this) hbo)
      clear hlo hhi hbo
      go_wp2_with fail
      refine wp_region_mid 6 _ (by kernel_rfl) (by kernel_rfl) rfl rfl ?_
      simp only [List.take_succ_cons, List.take_zero]
      repeat (go_big_quiet_step (fail))
      refine wpQuiet_nil ?_
      rintro w7 ⟨⟨_, h7⟩, rfl⟩ KK hKK
      have H7 := Lib.hid h7
      have KI := Lib.hid (CI.out _ h7)
      clear CI h7
      go_wp2_with fail
      try rw [show N - n = n by omega]
      with_reducible refine KI.out.mono ?_
      rintro e w8 ⟨Al, nl, cl, Ah, nh, ch, rfl, hol, hoh, _, _, _, hb8⟩
      have enl : n = nl := by have := hol.len; rw [Ln.tab_len] at this; exact this
      have enh : n = nh := by have := hoh.len; rw [Ln.tab_len] at this; exact this
      subst enl
      subst enh
      have HH8 := Lib.hid (H7.out.trans (hb8.mono H7.out.size))
      have HOL := Lib.hid hol.rd
      have HOH := Lib.hid hoh.rd
      clear hb8 KI hol hoh
      go_wp2_with fail
      unfold MidOk
      simp only [List.drop_succ_cons, List.drop_zero]
      repeat (go_big_quiet_step (fail))
      refine wpQuiet_nil ?_
      rintro w8b ⟨⟨_, h8⟩, rfl⟩
      have hb := HH8.out.trans (h8.mono HH8.out.size)
      have hol := HOL.out.below h8
      have hoh := HOH.out.below h8
      clear h8 HH8 HOL HOH
      rw [← Ln.zip_low (H := n) HH.out (by have := HLA.out; omega), HN2.out] at hol
      rw [← Ln.zip_high (H := n) HH.out (by have := HLA.out; omega), HN2.out] at hoh
      replace RA := Lib.hid (RA.out.below hb); replace Rz := Lib.hid (Rz.out.below hb); replace Ru := Lib.hid (Ru.out.below hb); replace Rx := Lib.hid (Rx.out.below hb)
      have Rlo := Lib.hid (hol)
      have Rhi := Lib.hid (hoh)
      replace HB := Lib.hid (HB.out.trans (hb.mono HB.out.size))
      clear hb hol hoh H7
      go_wp2_with fail
      refine (th_any 3 4 0 0 N Az Au cz cu _ _ (Ln.ident N) _ HL.out (by omega) (by omega) (Ln.zip_unzip HN3.out) Rz.out Ru.out).mono ?_
      rintro e w9 ⟨Asame, csame, rfl, hr, hb⟩
      replace RA := Lib.hid (RA.out.below hb); replace Rz := Lib.hid (Rz.out.below hb); replace Ru := Lib.hid (Ru.out.below hb); replace Rx := Lib.hid (Rx.out.below hb); replace Rlo := Lib.hid (Rlo.out.below hb); replace Rhi := Lib.hid (Rhi.out.below hb)
      have Rsame := Lib.hid (hr)
      replace HB := Lib.hid (HB.out.trans (hb.mono HB.out.size))
      clear hb hr
      go_wp2_with fail
      refine (r8at_any 0 ((N : Nat) : Int) _ _ _ z1 _ (by omega) (by omega) (by omega) (by omega) (R1.out _ HB.out)).mono ?_
      rintro e w10 ⟨p, rfl, hp0, hp1, rfl⟩
      go_wp2_with fail
      refine (r8at_any 1 ((N : Nat) : Int) _ _ _ z1 _ (by omega) (by omega) (by omega) (by omega) (R1.out _ HB.out)).mono ?_
      rintro e w11 ⟨q, rfl, hq0, hq1, rfl⟩
      go_wp2_with fail
      refine (nm_any 0 p N _ HL.out (by omega) ⟨hp0, hp1⟩ (.inr (by omega))).mono ?_
      rintro e w12 ⟨Af, cf, rfl, hr, hb⟩
      replace RA := Lib.hid (RA.out.below hb); replace Rz := Lib.hid (Rz.out.below hb); replace Ru := Lib.hid (Ru.out.below hb); replace Rx := Lib.hid (Rx.out.below hb); replace Rlo := Lib.hid (Rlo.out.below hb); replace Rhi := Lib.hid (Rhi.out.below hb); replace Rsame := Lib.hid (Rsame.out.below hb)
      have Rf := Lib.hid (hr)
      replace HB := Lib.hid (HB.out.trans (hb.mono HB.out.size))
      clear hb hr
      go_wp2_with fail
      refine (nm_any 0 q N w12 HL.out (by omega) ⟨hq0, hq1⟩ (.inr (by omega))).mono ?_
      rintro e w13 ⟨As, cs, rfl, hr, hb⟩
      replace RA := Lib.hid (RA.out.below hb); replace Rz := Lib.hid (Rz.out.below hb); replace Ru := Lib.hid (Ru.out.below hb); replace Rx := Lib.hid (Rx.out.below hb); replace Rlo := Lib.hid (Rlo.out.below hb); replace Rhi := Lib.hid (Rhi.out.below hb); replace Rsame := Lib.hid (Rsame.out.below hb); replace Rf := Lib.hid (Rf.out.below hb)
      have Rs := Lib.hid (hr)
      replace HB := Lib.hid (HB.out.trans (hb.mono HB.out.size))
      clear hb hr
      obtain ⟨t, ht⟩ : ∃ t, t = (p + q) % ((N : Nat) : Int) := ⟨_, rfl⟩
      have ht0 : 0 ≤ t ∧ t < ((N : Nat) : Int) := by rw [ht]; exact ⟨Int.emod_nonneg _ (by omega), Int.emod_lt_of_pos _ (by omega)⟩
      have HTT := Lib.hid ht
      have t2 : (p + q) % ((N : Nat) : Int) = t := ht.symm
      have t3 : (0 : Int) < ((N : Nat) : Int) := by omega
      clear ht
      go_wp2_with fail
      refine (nm_any 0 t N w13 HL.out (by omega) ht0 (.inr (by omega))).mono ?_
      rintro e w14 ⟨Ad, cd, rfl, hr, hb⟩
      replace RA := Lib.hid (RA.out.below hb); replace Rz := Lib.hid (Rz.out.below hb); replace Ru := Lib.hid (Ru.out.below hb); replace Rx := Lib.hid (Rx.out.below hb); replace Rlo := Lib.hid (Rlo.out.below hb); replace Rhi := Lib.hid (Rhi.out.below hb); replace Rsame := Lib.hid (Rsame.out.below hb); replace Rf := Lib.hid (Rf.out.below hb); replace Rs := Lib.hid (Rs.out.below hb)
      have Rd := Lib.hid (hr)
      replace HB := Lib.hid (HB.out.trans (hb.mono HB.out.size))
      clear hb hr
      go_wp2_with fail
      refine (th_any 0 0 p q N Af As cf cs _ _ (Ln.namedL 0 N t) w14 HL.out ⟨hp0, hp1⟩ ⟨hq0, hq1⟩ (by rw [HTT.out]; exact Ln.rot_rot HN3.out ⟨hp0, hp1⟩ ⟨hq0, hq1⟩) Rf.out Rs.out).mono ?_
      rintro e w15 ⟨Aturned, cturned, rfl, hr, hb⟩
      replace RA := Lib.hid (RA.out.below hb); replace Rz := Lib.hid (Rz.out.below hb); replace Ru := Lib.hid (Ru.out.below hb); replace Rx := Lib.hid (Rx.out.below hb); replace Rlo := Lib.hid (Rlo.out.below hb); replace Rhi := Lib.hid (Rhi.out.below hb); replace Rsame := Lib.hid (Rsame.out.below hb); replace Rf := Lib.hid (Rf.out.below hb); replace Rs := Lib.hid (Rs.out.below hb); replace Rd := Lib.hid (Rd.out.below hb)
      have Rturned := Lib.hid (hr)
      replace HB := Lib.hid (HB.out.trans (hb.mono HB.out.size))
      clear hb hr
      clear t2 t3
      have hcx2 : n ≤ cx := by omega
      go_wp2_with fail
      try rw [show N - n = n by omega]
      with_reducible refine (r8same_any Aturned Ad N cturned cd (Ln.namedL 0 N t) _ _ w15 (by omega) Rturned.out Rd.out).mono ?_
      rintro e w16 ⟨rfl, hb⟩
      replace RA := Lib.hid (RA.out.below hb); replace Rz := Lib.hid (Rz.out.below hb); replace Ru := Lib.hid (Ru.out.below hb); replace Rx := Lib.hid (Rx.out.below hb); replace Rlo := Lib.hid (Rlo.out.below hb); replace Rhi := Lib.hid (Rhi.out.below hb); replace Rsame := Lib.hid (Rsame.out.below hb); replace Rf := Lib.hid (Rf.out.below hb); replace Rs := Lib.hid (Rs.out.below hb); replace Rd := Lib.hid (Rd.out.below hb); replace Rturned := Lib.hid (Rturned.out.below hb)
      replace HB := Lib.hid (HB.out.trans (hb.mono HB.out.size))
      clear hb
      have hxl := Rx.out.cut 0 n (by omega)
      rw [Nat.add_zero, List.drop_zero] at hxl
      have HXL := Lib.hid hxl
      clear hxl
      go_wp2_with fail
      try rw [show N - n = n by omega]
      with_reducible refine (r8same_any (some ⟨gx, ox, none⟩) Al n cx cl _ _ _ w16 (by omega) HXL.out Rlo.out).mono ?_
      rintro e w17 ⟨rfl, hb⟩
      replace RA := Lib.hid (RA.out.below hb); replace Rz := Lib.hid (Rz.out.below hb); replace Ru := Lib.hid (Ru.out.below hb); replace Rx := Lib.hid (Rx.out.below hb); replace Rlo := Lib.hid (Rlo.out.below hb); replace Rhi := Lib.hid (Rhi.out.below hb); replace Rsame := Lib.hid (Rsame.out.below hb); replace Rf := Lib.hid (Rf.out.below hb); replace Rs := Lib.hid (Rs.out.below hb); replace Rd := Lib.hid (Rd.out.below hb); replace Rturned := Lib.hid (Rturned.out.below hb)
      replace HB := Lib.hid (HB.out.trans (hb.mono HB.out.size))
      clear hb
      have hxh := Rx.out.cut n n (by omega)
      rw [List.take_of_length_le (by rw [List.length_drop, Ln.pickL, Ln.tab_len, Ln.namedL_len, Int.toNat_natCast]; omega)] at hxh
      have HXH := Lib.hid hxh
      clear hxh
      go_wp2_with fail
      try rw [show N - n = n by omega]
      with_reducible refine (r8same_any (some ⟨gx, ox + n, none⟩) Ah n (cx - n) ch _ _ _ w17 (by omega) HXH.out Rhi.out).mono ?_
      rintro e w18 ⟨rfl, hb⟩
      replace RA := Lib.hid (RA.out.below hb); replace Rz := Lib.hid (Rz.out.below hb); replace Ru := Lib.hid (Ru.out.below hb); replace Rx := Lib.hid (Rx.out.below hb); replace Rlo := Lib.hid (Rlo.out.below hb); replace Rhi := Lib.hid (Rhi.out.below hb); replace Rsame := Lib.hid (Rsame.out.below hb); replace Rf := Lib.hid (Rf.out.below hb); replace Rs := Lib.hid (Rs.out.below hb); replace Rd := Lib.hid (Rd.out.below hb); replace Rturned := Lib.hid (Rturned.out.below hb)
      replace HB := Lib.hid (HB.out.trans (hb.mono HB.out.size))
      clear hb
      go_wp2_with fail
      refine (nm_any 1 0 N w18 HL.out (by omega) (by omega) (.inl rfl)).mono ?_
      rintro e w19 ⟨Aback, cback, rfl, hr, hb⟩
      replace RA := Lib.hid (RA.out.below hb); replace Rz := Lib.hid (Rz.out.below hb); replace Ru := Lib.hid (Ru.out.below hb); replace Rx := Lib.hid (Rx.out.below hb); replace Rlo := Lib.hid (Rlo.out.below hb); replace Rhi := Lib.hid (Rhi.out.below hb); replace Rsame := Lib.hid (Rsame.out.below hb); replace Rf := Lib.hid (Rf.out.below hb); replace Rs := Lib.hid (Rs.out.below hb); replace Rd := Lib.hid (Rd.out.below hb); replace Rturned := Lib.hid (Rturned.out.below hb)
      have Rback := Lib.hid (hr)
      replace HB := Lib.hid (HB.out.trans (hb.mono HB.out.size))
      clear hb hr
      go_wp2_with fail
      refine (nm_any 2 p N w19 HL.out (by omega) ⟨hp0, hp1⟩ (.inr (by omega))).mono ?_
      rintro e w20 ⟨Aswap, cswap, rfl, hr, hb⟩
      replace RA := Lib.hid (RA.out.below hb); replace Rz := Lib.hid (Rz.out.below hb); replace Ru := Lib.hid (Ru.out.below hb); replace Rx := Lib.hid (Rx.out.below hb); replace Rlo := Lib.hid (Rlo.out.below hb); replace Rhi := Lib.hid (Rhi.out.below hb); replace Rsame := Lib.hid (Rsame.out.below hb); replace Rf := Lib.hid (Rf.out.below hb); replace Rs := Lib.hid (Rs.out.below hb); replace Rd := Lib.hid (Rd.out.below hb); replace Rturned := Lib.hid (Rturned.out.below hb); replace Rback := Lib.hid (Rback.out.below hb)
      have Rswap := Lib.hid (hr)
      replace HB := Lib.hid (HB.out.trans (hb.mono HB.out.size))
      clear hb hr
      go_wp2_with fail
      refine (nm_any 5 p N w20 HL.out (by omega) ⟨hp0, hp1⟩ (.inr (by omega))).mono ?_
      rintro e w21 ⟨Afill, cfill, rfl, hr, hb⟩
      replace RA := Lib.hid (RA.out.below hb); replace Rz := Lib.hid (Rz.out.below hb); replace Ru := Lib.hid (Ru.out.below hb); replace Rx := Lib.hid (Rx.out.below hb); replace Rlo := Lib.hid (Rlo.out.below hb); replace Rhi := Lib.hid (Rhi.out.below hb); replace Rsame := Lib.hid (Rsame.out.below hb); replace Rf := Lib.hid (Rf.out.below hb); replace Rs := Lib.hid (Rs.out.below hb); replace Rd := Lib.hid (Rd.out.below hb); replace Rturned := Lib.hid (Rturned.out.below hb); replace Rback := Lib.hid (Rback.out.below hb); replace Rswap := Lib.hid (Rswap.out.below hb)
      have Rfill := Lib.hid (hr)
      replace HB := Lib.hid (HB.out.trans (hb.mono HB.out.size))
      clear hb hr
      go_wp2_with fail
      refine (th_any 1 1 0 0 N Aback Aback cback cback _ _ (Ln.ident N) w21 HL.out (by omega) (by omega) Ln.rev_rev Rback.out Rback.out).mono ?_
      rintro e w22 ⟨Atwice, ctwice, rfl, hr, hb⟩
      replace RA := Lib.hid (RA.out.below hb); replace Rz := Lib.hid (Rz.out.below hb); replace Ru := Lib.hid (Ru.out.below hb); replace Rx := Lib.hid (Rx.out.below hb); replace Rlo := Lib.hid (Rlo.out.below hb); replace Rhi := Lib.hid (Rhi.out.below hb); replace Rsame := Lib.hid (Rsame.out.below hb); replace Rf := Lib.hid (Rf.out.below hb); replace Rs := Lib.hid (Rs.out.below hb); replace Rd := Lib.hid (Rd.out.below hb); replace Rturned := Lib.hid (Rturned.out.below hb); replace Rback := Lib.hid (Rback.out.below hb); replace Rswap := Lib.hid (Rswap.out.below hb); replace Rfill := Lib.hid (Rfill.out.below hb)
      have Rtwice := Lib.hid (hr)
      replace HB := Lib.hid (HB.out.trans (hb.mono HB.out.size))
      clear hb hr
      go_wp2_with fail
      refine (th_any 2 2 p p N Aswap Aswap cswap cswap _ _ (Ln.ident N) w22 HL.out ⟨hp0, hp1⟩ ⟨hp0, hp1⟩ (Ln.swap_swap hp0) Rswap.out Rswap.out).mono ?_
      rintro e w23 ⟨Aagain, cagain, rfl, hr, hb⟩
      replace RA := Lib.hid (RA.out.below hb); replace Rz := Lib.hid (Rz.out.below hb); replace Ru := Lib.hid (Ru.out.below hb); replace Rx := Lib.hid (Rx.out.below hb); replace Rlo := Lib.hid (Rlo.out.below hb); replace Rhi := Lib.hid (Rhi.out.below hb); replace Rsame := Lib.hid (Rsame.out.below hb); replace Rf := Lib.hid (Rf.out.below hb); replace Rs := Lib.hid (Rs.out.below hb); replace Rd := Lib.hid (Rd.out.below hb); replace Rturned := Lib.hid (Rturned.out.below hb); replace Rback := Lib.hid (Rback.out.below hb); replace Rswap := Lib.hid (Rswap.out.below hb); replace Rfill := Lib.hid (Rfill.out.below hb); replace Rtwice := Lib.hid (Rtwice.out.below hb)
      have Ragain := Lib.hid (hr)
      replace HB := Lib.hid (HB.out.trans (hb.mono HB.out.size))
      clear hb hr
      go_wp2_with fail
      try rw [show N - n = n by omega]
      with_reducible refine (r8same_any Atwice Asame N ctwice csame (Ln.ident N) _ _ w23 (by omega) Rtwice.out Rsame.out).mono ?_
      rintro e w24 ⟨rfl, hb⟩
      replace RA := Lib.hid (RA.out.below hb); replace Rz := Lib.hid (Rz.out.below hb); replace Ru := Lib.hid (Ru.out.below hb); replace Rx := Lib.hid (Rx.out.below hb); replace Rlo := Lib.hid (Rlo.out.below hb); replace Rhi := Lib.hid (Rhi.out.below hb); replace Rsame := Lib.hid (Rsame.out.below hb); replace Rf := Lib.hid (Rf.out.below hb); replace Rs := Lib.hid (Rs.out.below hb); replace Rd := Lib.hid (Rd.out.below hb); replace Rturned := Lib.hid (Rturned.out.below hb); replace Rback := Lib.hid (Rback.out.below hb); replace Rswap := Lib.hid (Rswap.out.below hb); replace Rfill := Lib.hid (Rfill.out.below hb); replace Rtwice := Lib.hid (Rtwice.out.below hb); replace Ragain := Lib.hid (Ragain.out.below hb)
      replace HB := Lib.hid (HB.out.trans (hb.mono HB.out.size))
      clear hb
      go_wp2_with fail
      try rw [show N - n = n by omega]
      with_reducible refine (r8same_any Aagain Asame N cagain csame (Ln.ident N) _ _ w24 (by omega) Ragain.out Rsame.out).mono ?_
      rintro e w25 ⟨rfl, hb⟩
      replace RA := Lib.hid (RA.out.below hb); replace Rz := Lib.hid (Rz.out.below hb); replace Ru := Lib.hid (Ru.out.below hb); replace Rx := Lib.hid (Rx.out.below hb); replace Rlo := Lib.hid (Rlo.out.below hb); replace Rhi := Lib.hid (Rhi.out.below hb); replace Rsame := Lib.hid (Rsame.out.below hb); replace Rf := Lib.hid (Rf.out.below hb); replace Rs := Lib.hid (Rs.out.below hb); replace Rd := Lib.hid (Rd.out.below hb); replace Rturned := Lib.hid (Rturned.out.below hb); replace Rback := Lib.hid (Rback.out.below hb); replace Rswap := Lib.hid (Rswap.out.below hb); replace Rfill := Lib.hid (Rfill.out.below hb); replace Rtwice := Lib.hid (Rtwice.out.below hb); replace Ragain := Lib.hid (Ragain.out.below hb)
      replace HB := Lib.hid (HB.out.trans (hb.mono HB.out.size))
      clear hb
      go_wp2_with fail
      go_loopw [39] (fun i wr => ∃ k : Nat, k ≤ N ∧ i = .int .i64 k ∧ Below w25.heap.size w25 wr) (fun i _ => N - (intOf i).toNat)
      case atStart => exact ⟨0, Nat.zero_le _, rfl, Below.refl _ _⟩
      case round =>
        rename World => wr
        obtain ⟨k, hk, rfl, hbw⟩ := hrel
        by_cases hlt : k < N
        · obtain ⟨g1, o1, rfl, _, hc1⟩ := (Rsame.out.below hbw).at_ hlt
          obtain ⟨g2, o2, rfl, _, hc2⟩ := (Rfill.out.below hbw).at_ hlt
          rw [Ln.ident_at hlt] at hc1
          rw [Ln.first_at hlt] at hc2
          have HBW := Lib.hid hbw; clear hbw
          have i1 : (0 : Int) ≤ (k : Int) := by omega
          have i2 : (k : Int) < ((N : Nat) : Int) := by omega
          go_wp2
          go_roundw
          case rel => exact ⟨k + 1, by omega, by go_num, HBW.out⟩
          case measure => simp [intOf]; omega
        · have hkn : k = N := by omega
          have HBW := Lib.hid hbw; clear hbw
          subst hkn
          go_wp2
          go_ret
          exact ⟨rfl, HB.out.trans (HBW.out.mono HB.out.size)⟩
end Go.Proofs.Ytkoaljbjkogagaa.Wds
