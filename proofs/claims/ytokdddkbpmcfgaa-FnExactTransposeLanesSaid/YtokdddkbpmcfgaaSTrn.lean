/-
  Transposed rows: the model's function.
-/
import Derived.Test.YtokdddkbpmcfgaaPushR
namespace Go.Proofs.Ytokdddkbpmcfgaa.Wds
open Go.RowKit
set_option linter.unusedVariables false
set_option maxHeartbeats 2000000 in
set_option maxRecDepth 100000 in
theorem sTransposeLanes_any (b : Int) (A : Option Addr) (n c0 : Nat) (zss : List (List Int)) (B : Nat) (w : World) (hn : Ln.totL zss ≤ 1048576) (h : RdR w B A n zss) :
    Calls Try.prog 51 #[.int .i64 b, .slice A n c0] w (Read1R (Ln.transpose b zss).1 (Ln.transpose b zss).2 w) := by
  obtain ⟨i0, hi0, hz0, hz1, hz2⟩ := info_parts A_infoR
  obtain ⟨j0, hj0, y0, y1, y2⟩ := info_parts A_info64
  have k1 := sRows_any b A n c0 zss B w hn h
  unfold Ln.transpose
  have hok := fun (h : Ln.rowsOk b zss = true) => Ln.rowsOk_at h
  obtain ⟨u, hu⟩ : ∃ u, u = Ln.rowsOk b zss := ⟨_, rfl⟩
  rw [← hu] at k1 hok ⊢
  have C1 := Lib.hid k1
  cases u
  · clear k1 hok hu hn h
    go_enter Try.func51, Try.ntmps51
    go_wp2_with fail
    refine C1.out.mono ?_
    rintro e w1 ⟨rfl, hb⟩
    have HB := Lib.hid hb; clear hb
    go_wp2_with fail
    go_ret2
    exact Read1R.no HB.out
  · obtain ⟨hl1, hl2, hrow⟩ := hok rfl
    have hl := h.len
    have hnn : n ≤ 16 := by have := Ln.lanes_cases hl1; omega
    rw [hl] at hrow
    have HROW := Lib.hid hrow
    have HL := Lib.hid hl
    have H := Lib.hid h
    clear k1 hok hu hn h hl1 hl2 hrow hl
    go_enter Try.func51, Try.ntmps51
    go_wp2_with fail
    refine C1.out.mono ?_
    rintro e w1 ⟨rfl, hb⟩
    have HB1 := Lib.hid hb; clear hb
    go_wp2
    go_loopw [6, 7] (fun v i wr => PushesR (Ln.colL zss) n w1 v i wr) (fun _ i _ => n - (intOf i).toNat)
    case atStart => exact PushesR.start _ _ _
    case round =>
      rename World => wo
      obtain ⟨i, vals, hi, rfl, hown, hv, hb⟩ := hrel
      by_cases hlt : i < n
      · have HO := Lib.hid hown
        have HV := Lib.hid hv
        have HB := Lib.hid hb
        have i1 : (0 : Int) ≤ (i : Int) := by omega
        have i2 : (i : Int) < (n : Int) := by omega
        clear hown hb hv
        go_wp2
        go_loopw [8, 9] (fun v kv wr => Pushes (fun k => Ln.el zss k i) n wo v kv wr) (fun _ kv _ => n - (intOf kv).toNat)
        case atStart => exact Pushes.start _ _ _
        case round =>
          rename World => wi
          obtain ⟨k, hk, rfl, hown, hb⟩ := hrel
          by_cases hlk : k < n
          · obtain ⟨g1, o1, R, m1, c1, rfl, hg1, hc1, _, hr1⟩ := (((H.out.below HB1.out).below HB.out).below hb).at_ hlk
            have hm1 := hr1.len
            rw [(HROW.out k hlk).1] at hm1
            subst hm1
            obtain ⟨g2, o2, rfl, hg2, hc2⟩ := hr1.at_ hlt
            obtain ⟨z, hz⟩ : ∃ z, z = Ln.el zss k i := ⟨_, rfl⟩
            rw [show (zss.getD k []).getD i 0 = z from hz.symm] at hc2
            have HZ := Lib.hid hz
            have HOI := Lib.hid hown
            have HBI := Lib.hid hb
            have hsz := hb.size
            have k1 : (0 : Int) ≤ (k : Int) := by omega
            have k2 : (k : Int) < (n : Int) := by omega
            clear hz hown hb hr1
            go_wp2_with (at_builtin; refine wpList_push _ rfl _ _ rfl j0 Try.underlying25 hj0 y0 y1 y2 _ _ _ _ _ rfl HOI.out rfl (by omega) hsz ?_; intro v' w3 hown1 hb1; have HO1 := Lib.hid hown1; have HBB := Lib.hid hb1; clear hown1 hb1)
            go_roundw
            case rel => exact Pushes.step hlk HBI.out _ HZ.out HO1.out HBB.out
            case measure => simp [intOf]; omega
          · have hkn : k = n := by omega
            subst hkn
            obtain ⟨A3, c3, rfl, hc3, ho3⟩ := own_form hown
            have HCOL := Lib.hid (show Own wi wo.heap.size wi.heap.size A3 k (Ln.colL zss i) by
              have e : Ln.colL zss i = Ln.tab (fun j => Ln.el zss j i) k := by unfold Ln.colL; rw [← H.out.len]
              rw [e]; exact ho3)
            have HOW := Lib.hid (rowB HO.out hb)
            have HVW := Lib.hid (HV.out.below hb)
            have HBW := Lib.hid (HB.out.trans (hb.mono HB.out.size))
            have hsz := HBW.out.size
            have hlo := HB.out.size
            clear hown hb ho3
            go_wp2_with (at_builtin; refine wpList_pushR _ rfl _ _ rfl i0 Try.underlying35 hi0 hz0 hz1 hz2 _ _ _ _ _ _ _ rfl HOW.out rfl (by omega) hsz ?_; intro v' w3 hown1 hb1 HK; have HO1 := Lib.hid hown1; have HBB := Lib.hid hb1; clear hown1 hb1)
            have HF := Lib.hid (show PushesR (Ln.colL zss) k w1 v' (.int .i64 (i + 1 : Nat)) w3 from ⟨i + 1, _, by omega, rfl, HO1.out, HVW.out.push HK.out HBB.out.size hc3 (HK.out _ _ _ _ _ HCOL.out) hlo HBB.out.size, HBW.out.trans HBB.out⟩)
            go_roundw
            case rel => exact HF.out
            case measure => simp [intOf]; omega
      · have hkn : i = n := by omega
        subst hkn
        obtain ⟨A3, c3, rfl⟩ := owns_shape hown
        have HF := Lib.hid (And.intro hown (And.intro hb hv))
        clear hown hb hv
        go_wp2
        go_ret2
        obtain ⟨hown, hb, hv⟩ := HF.out
        exact ⟨A3, i, c3, rfl, hv.rdR hown (by unfold Ln.trL; rw [H.out.len]; rfl), HB1.out.trans (hb.mono HB1.out.size)⟩
end Go.Proofs.Ytokdddkbpmcfgaa.Wds
