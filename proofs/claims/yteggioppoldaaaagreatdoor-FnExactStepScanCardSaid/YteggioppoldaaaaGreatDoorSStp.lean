/-
  The scan by steps: the model's function; one contract.
-/
import Derived.Test.YteggioppoldaaaaGreatDoorLWise
import Derived.Test.YteggioppoldaaaaGreatDoorLan9
import Derived.Test.YteggioppoldaaaaGreatDoorSld
namespace Go.Proofs.YteggioppoldaaaaGreatDoor.Wds
open Go.RowKit Go.Proofs.YteggioppoldaaaaGreatDoor.Err
set_option linter.unusedVariables false

/-- The relation of the loop over the steps. -/
def Steps (op b : Int) (xs : List Int) (n B : Nat) (w : World) (v i : Value) (wr : World) : Prop :=
  ∃ (j g o c : Nat), v = .slice (some ⟨g, o, none⟩) n c ∧ i = .int .i64 ((2 ^ j : Nat) : Int) ∧ j ≤ Ln.lg n ∧ n ≤ c ∧ Own wr B wr.heap.size (some ⟨g, o, none⟩) n (Ln.st op b xs j) ∧ Below B w wr
set_option maxRecDepth 100000 in
set_option maxHeartbeats 1600000 in
theorem sStep_yes (op b : Int) (ad : Addr) (n c : Nat) (xs : List Int) (B : Nat) (w : World) (h0 : 0 ≤ op) (h1 : op ≤ 17) (hn : n = 2 ∨ n = 4 ∨ n = 8 ∨ n = 16) (r : Rd w B (some ad) n xs) (hop : Ln.isOp op = true) (hv : Ln.vec b xs = true) :
    Calls Tryz.prog 32 #[.int .i64 op, .int .i64 b, .slice (some ad) n c] w (Ret1 (Ln.st op b xs (Ln.lg n)) true w) := by
  obtain ⟨i0, hi, hz0, hz1, hz2⟩ := info_parts A_info64
  have k0 := sopIs_any op w
  have k1 := sIs_any b (some ad) n c xs B w (by omega) r
  rw [hop] at k0
  rw [hv] at k1
  have hlx := r.len
  have CS := Lib.hid (fun (j k m : Nat) (hk : k < n) (hm : m < n) (W : World) => sdo_any op b ((Ln.st op b xs j).getD m 0) ((Ln.st op b xs j).getD k 0) W h0 h1 (Ln.st_word h0 h1 hv j m (by omega)) (Ln.st_word h0 h1 hv j k (by omega)))
  have C0 := Lib.hid k0
  have C1 := Lib.hid k1
  have R := Lib.hid r
  have HN := Lib.hid hn
  have HLX := Lib.hid hlx
  have hn0 : 0 < n := by omega
  have hn16 : n ≤ 16 := by omega
  clear k0 k1 r hop hv hn hlx h0 h1
  go_enter Tryz.func32, Tryz.ntmps32
  go_wp2_with fail
  refine C0.out.mono ?_
  rintro e w1 ⟨rfl, rfl⟩
  go_wp2_with fail
  refine C1.out.mono ?_
  rintro e w1 ⟨rfl, hb⟩
  have HB1 := Lib.hid hb; clear hb
  go_wp2_with fail
  refine (sOwn_any _ n _ xs B _ (by omega) (R.out.below HB1.out)).mono ?_
  rintro e w3 ⟨A3, n3, c3, rfl, ho3, _, hc3, hb3⟩
  obtain rfl : n = n3 := HLX.out.symm.trans ho3.len
  obtain ⟨g3, o3, rfl, _, _⟩ := ho3.rd.at_ hn0
  have HO3 := Lib.hid (ho3.more HB1.out.size (Nat.le_refl _))
  have HC3 := Lib.hid hc3
  have HB3 := Lib.hid (HB1.out.trans (hb3.mono HB1.out.size)); clear ho3 hb3 hc3
  go_wp2_with fail
  go_loopw [8, 9] (fun v i wr => Steps op b xs n w.heap.size w v i wr) (fun _ i _ => n - (intOf i).toNat)
  case atStart => exact ⟨0, g3, o3, c3, rfl, rfl, Nat.zero_le _, HC3.out, HO3.out, HB3.out⟩
  case round =>
    rename World => wo
    obtain ⟨j, g, o, cc, rfl, rfl, hj, hcc, hown, hb⟩ := hrel
    obtain ⟨hp1, hp2⟩ := Ln.pow_lt_lg HN.out hj
    have hpp : 0 < 2 ^ j := Nat.pow_pos (by decide)
    have hps : 2 ^ (j + 1) = 2 ^ j + 2 ^ j := by rw [Nat.pow_succ]; omega
    have HRD := Lib.hid hown.rd
    by_cases hlt : 2 ^ j < n
    · have hj1 : j + 1 ≤ Ln.lg n := hp1.1 hlt
      have CJ := Lib.hid (CS.out j)
      have HF := Lib.hid (show ∀ i, Ln.ssF op b (Ln.st op b xs j) (2 ^ j) i = if 2 ^ j ≤ i then Wd.doOp op b ((Ln.st op b xs j).getD (i - 2 ^ j) 0) ((Ln.st op b xs j).getD i 0) else (Ln.st op b xs j).getD i 0 from fun _ => rfl)
      have HST := Lib.hid (show Ln.st op b xs (j + 1) = Ln.tab (Ln.ssF op b (Ln.st op b xs j) (2 ^ j)) n by rw [← HLX.out]; rfl)
      generalize Ln.ssF op b (Ln.st op b xs j) (2 ^ j) = F at HF HST
      generalize Ln.st op b xs j = zs at CJ HF HRD
      have HPS := Lib.hid hps
      have HJ1 := Lib.hid hj1
      have HB := Lib.hid hb
      obtain ⟨far, hfar⟩ : ∃ far, far = 2 ^ j := ⟨_, rfl⟩
      rw [← hfar] at hlt hpp HF HPS
      rw [← hfar]
      have i1 : (far : Int) < (n : Int) := by omega
      have i2 : (0 : Int) < (far : Int) := by omega
      clear hown hp1 hp2 hps hj1 hb hj hcc hfar
      go_wp2
      go_loopw [10, 11] (fun v i wi => Pushes F n wo v i wi) (fun _ i _ => n - (intOf i).toNat)
      case atStart => exact Pushes.start _ _ _
      case round =>
        obtain ⟨k, hk, rfl, hown, hb⟩ := hrel
        by_cases hlt2 : k < n
        · have HO := Lib.hid hown
          have HBI := Lib.hid hb; clear hown hb
          obtain ⟨g', o', e', _, hck⟩ := HRD.out.at_ hlt2
          injection e' with e'; injection e' with e1 e2; subst e1; subst e2
          have hdk := (HBI.out.cell (p := ⟨g, o + k, none⟩) (World.block_lt_of_cell? wo _ hck)).trans hck
          have j1 : (0 : Int) ≤ (k : Int) := by omega
          have j2 : (k : Int) < (n : Int) := by omega
          have j5 : (n : Int) ≤ 16 := by omega
          by_cases hf : far ≤ k
          · obtain ⟨m, hm⟩ : ∃ m, m = k - far := ⟨_, rfl⟩
            have hmn : m < n := by omega
            obtain ⟨g', o', e', _, hcm⟩ := HRD.out.at_ hmn
            injection e' with e'; injection e' with e1 e2; subst e1; subst e2
            have hdm := (HBI.out.cell (p := ⟨g, o + m, none⟩) (World.block_lt_of_cell? wo _ hcm)).trans hcm
            have L1 := Lib.hid (show g < wo.heap.size from World.block_lt_of_cell? _ _ hck)
            have CK := Lib.hid (CJ.out k m hlt2 hmn)
            have hfk := HF.out k
            rw [if_pos hf, ← hm] at hfk
            obtain ⟨x, hx⟩ : ∃ z, z = zs.getD m 0 := ⟨_, rfl⟩
            obtain ⟨y, hy⟩ : ∃ z, z = zs.getD k 0 := ⟨_, rfl⟩
            obtain ⟨q, hq⟩ : ∃ z, z = Wd.doOp op b (zs.getD m 0) (zs.getD k 0) := ⟨_, rfl⟩
            rw [← hq, ← hx, ← hy] at CK
            rw [← hx] at hdm
            rw [← hy] at hdk
            rw [← hq] at hfk
            have HFK := Lib.hid hfk
            have j3 : (k : Int) - (far : Int) = (m : Int) := by omega
            have j4 : (far : Int) ≤ (k : Int) := by omega
            have j6 : (m : Int) < (n : Int) := by omega
            have s1 : IntKind.i64.wrap (m : Int) = (m : Int) := IntWalk.i64_in _ (by omega)
            clear hx hy hq hcm hck hfk hm
            go_wp2
            go_region_held3 (fun w' => w'.cell? ⟨g, o + m, none⟩ = some (.int .i64 x) ∧ w'.cell? ⟨g, o + k, none⟩ = some (.int .i64 y)) (first | go_keep | exact ⟨(HB5.out.cell (p := ⟨g, o + m, none⟩) L1.out).trans hdm, (HB5.out.cell (p := ⟨g, o + k, none⟩) L1.out).trans hdk⟩)
              (first
                | (go_at_call 57; (with_reducible refine (CK.out _).mono ?_); rintro e w5 ⟨rfl, rfl⟩)
                | (refine step_push _ (by rfl) _ _ (by rfl) i0 Tryz.underlying25 hi hz0 hz1 hz2 wo.heap.size _ _ _ q (by rfl) ((HO.out.alloc _).drew) wr.heap.size (by rfl) (by simp) (by omega) (Nat.le_trans HBI.out.size (by simp)) ?_; intro v' w6 hown1 hb1; have HO1 := Lib.hid hown1; have HB5 := Lib.hid (((((Below.refl wo.heap.size wr).alloc HBI.out.size _).drew)).trans hb1); clear hown1 hb1))
            all_goals go_wp2
            all_goals
              go_roundw
              case rel => exact Pushes.step hlt2 HBI.out _ HFK.out.symm HO1.out HB5.out
              case measure => simp [intOf]; omega
          · have hfk := HF.out k
            rw [if_neg hf] at hfk
            obtain ⟨y, hy⟩ : ∃ z, z = zs.getD k 0 := ⟨_, rfl⟩
            rw [← hy] at hdk hfk
            have HFK := Lib.hid hfk
            have j4 : ¬ ((far : Int) ≤ (k : Int)) := by omega
            clear hy hck hfk
            go_wp2_with (at_builtin; refine wpList_push _ rfl _ _ rfl i0 Tryz.underlying25 hi hz0 hz1 hz2 _ _ _ _ _ rfl HO.out rfl (by omega) HBI.out.size ?_; intro v' w6 hown1 hb1; have HO1 := Lib.hid hown1; have HB5 := Lib.hid hb1; clear hown1 hb1)
            go_roundw
            case rel => exact Pushes.step hlt2 HBI.out _ HFK.out.symm HO1.out HB5.out
            case measure => simp [intOf]; omega
        · have hkn : k = n := by omega
          subst hkn
          obtain ⟨g5, c5, rfl, hc5, ho5⟩ := own_some hown hn0
          have HF5 := Lib.hid (And.intro hc5 (And.intro ho5 hb))
          clear hc5 ho5 hb hown
          have s2 : IntKind.i64.wrap ((far : Int) * 2) = ((far + far : Nat) : Int) := by rw [IntKind.wrap_i64]; omega
          go_wp2
          go_roundw
          case rel =>
            obtain ⟨hc5, ho5, hb5⟩ := HF5.out
            refine ⟨j + 1, g5, 0, c5, rfl, ?_, HJ1.out, hc5, ?_, HB.out.trans (hb5.mono HB.out.size)⟩
            · rw [HPS.out]
              first | rfl | (rw [s2]) | (simp [s2])
            · rw [HST.out]; exact ho5.more HB.out.size (Nat.le_refl _)
          case measure => simp [intOf]; omega
    · have hje : j = Ln.lg n := by
        rcases Nat.lt_or_ge j (Ln.lg n) with h | h
        · exact absurd (hp1.2 h) hlt
        · omega
      subst hje
      have HF := Lib.hid (And.intro hown hb)
      have i1 : ¬ (((2 ^ Ln.lg n : Nat) : Int) < (n : Int)) := by omega
      obtain ⟨far, hfar⟩ : ∃ far, far = 2 ^ Ln.lg n := ⟨_, rfl⟩
      rw [← hfar] at i1
      rw [← hfar]
      clear hown hb hp1 hp2 hps hpp hlt hj hfar
      go_wp2
      go_ret2
      obtain ⟨hown, hb⟩ := HF.out
      exact ⟨_, n, cc, rfl, hown, by omega, hb⟩
end Go.Proofs.YteggioppoldaaaaGreatDoor.Wds
