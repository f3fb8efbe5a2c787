/-
  HeightsOf and PathBound: the model's functions, one contract each.
-/
import Derived.Test.YtnbcobhcemjbnaaSHgt
import Derived.Test.YtnbcobhcemjbnaaPush
namespace Go.Proofs.Ytnbcobhcemjbnaa.Wds
open Go.RowKit
set_option linter.unusedVariables false

theorem sHeightsOf_any (A : Option Addr) (n c : Nat) (ts : List Tk.T) (B : Nat) (w : World) (hn : Ln.totL (Tk.nss ts) ≤ 1048576) (h : RdT w B A n ts) :
    Calls Try.prog 26 #[.slice A n c] w (Ret1 (Tk.heightsOf ts).1 (Tk.heightsOf ts).2 w) := by
  have CV := Lib.hid (sIsT_any A n c ts B w hn h)
  obtain ⟨v, hv⟩ : ∃ z, z = Tk.valid ts := ⟨_, rfl⟩
  unfold Tk.heightsOf
  rw [← hv] at CV ⊢
  have H := Lib.hid h
  have HT := Lib.hid hn
  clear h hn
  cases v
  · clear hv
    go_enter Try.func26, Try.ntmps26
    go_wp2_with fail
    refine CV.out.mono ?_
    rintro e w1 ⟨rfl, hb⟩
    have HB := Lib.hid hb; clear hb
    go_wp2_with fail
    go_ret2
    exact Ret1.no HB.out
  · rw [if_pos rfl]
    have HV := Lib.hid hv.symm; clear hv
    go_enter Try.func26, Try.ntmps26
    go_wp2_with fail
    refine CV.out.mono ?_
    rintro e w1 ⟨rfl, hb⟩
    have H1 := Lib.hid (H.out.below hb)
    have HB := Lib.hid hb; clear hb
    go_wp2_with fail
    refine (sHgt_any A n c ts B w1 HT.out HV.out H1.out).mono ?_
    rintro e w2 ⟨A2, n2, c2, rfl, ho, hn2, hc2, hb⟩
    have HF := Lib.hid (And.intro (ho.more HB.out.size (Nat.le_refl _)) (HB.out.trans (hb.mono HB.out.size))); clear ho hb
    go_wp2_with fail
    go_ret2
    exact ⟨A2, n2, c2, rfl, HF.out.1, hn2, HF.out.2⟩
set_option maxHeartbeats 1000000 in
theorem sPathBound_any (A : Option Addr) (n c : Nat) (ts : List Tk.T) (B : Nat) (w : World) (hn : Ln.totL (Tk.nss ts) ≤ 1048576) (h : RdT w B A n ts) :
    Calls Try.prog 24 #[.slice A n c] w (RetIB (Tk.pathBound ts).1 (Tk.pathBound ts).2 w) := by
  have CV := Lib.hid (sIsT_any A n c ts B w hn h)
  obtain ⟨v, hv⟩ : ∃ z, z = Tk.valid ts := ⟨_, rfl⟩
  have hl := h.len
  unfold Tk.pathBound
  rw [← hv] at CV ⊢
  have HL := Lib.hid hl; clear hl
  have H := Lib.hid h
  have HT := Lib.hid hn
  clear h hn
  cases v
  · clear hv
    go_enter Try.func24, Try.ntmps24
    go_wp2_with fail
    refine CV.out.mono ?_
    rintro e w1 ⟨rfl, hb⟩
    have HB := Lib.hid hb; clear hb
    go_wp2
    go_ret2
    exact ⟨rfl, HB.out⟩
  · rw [if_pos rfl]
    have h8 : n ≤ 8 := by rw [← HL.out]; exact Tk.len_of_valid hv.symm
    have HBD := Lib.hid (Tk.hts_bd hv.symm ts.length (Nat.le_refl _))
    have HV := Lib.hid hv.symm; clear hv
    go_enter Try.func24, Try.ntmps24
    go_wp2_with fail
    refine CV.out.mono ?_
    rintro e w1 ⟨rfl, hb⟩
    have H1 := Lib.hid (H.out.below hb)
    have HB := Lib.hid hb; clear hb
    go_wp2_with fail
    refine (sHgt_any A n c ts B w1 HT.out HV.out H1.out).mono ?_
    rintro e w2 ⟨A2, n2, c2, rfl, ho, _, _, hb⟩
    have en : n = n2 := by have := ho.len; rw [Tk.heights, Tk.hts_len, HL.out] at this; exact this
    subst en
    have HO := Lib.hid ho.rd
    have HB2 := Lib.hid (HB.out.trans (hb.mono HB.out.size)); clear ho hb
    go_wp2_with fail
    go_loopw [5, 6] (fun v i wr => ∃ k : Nat, k ≤ n ∧ i = .int .i64 k ∧ v = .int .i64 (Tk.maxAt (Tk.heights ts) k) ∧ Below w2.heap.size w2 wr) (fun _ i _ => n - (intOf i).toNat)
    case atStart => exact ⟨0, Nat.zero_le _, rfl, rfl, Below.refl _ _⟩
    case round =>
      rename World => wr
      obtain ⟨k, hk, rfl, rfl, hb⟩ := hrel
      have HN := Lib.hid (show Tk.maxAt (Tk.heights ts) (k + 1) = max (Tk.maxAt (Tk.heights ts) k) ((Tk.heights ts).getD k 0) from rfl)
      by_cases hlt : k < n
      · obtain ⟨g, o, rfl, _, hc⟩ := (HO.out.below hb).at_ hlt
        obtain ⟨x, hx⟩ : ∃ x, x = (Tk.heights ts).getD k 0 := ⟨_, rfl⟩
        obtain ⟨y, hy⟩ : ∃ y, y = Tk.maxAt (Tk.heights ts) k := ⟨_, rfl⟩
        rw [← hx, ← hy] at HN
        rw [← hx] at hc
        rw [← hy]
        have CM := Lib.hid (fun W => maxM_any y x W)
        have HBW := Lib.hid hb; clear hb hx hy
        have i1 : (0 : Int) ≤ (k : Int) := by omega
        have i2 : (k : Int) < (n : Int) := by omega
        go_wp2_with fail
        refine (CM.out _).mono ?_
        rintro e w3 ⟨rfl, rfl⟩
        go_wp2
        go_roundw
        case rel => exact ⟨k + 1, by omega, by go_num, by rw [HN.out], HBW.out⟩
        case measure => simp [intOf]; omega
      · have hkn : k = n := by omega
        subst hkn
        have HBW := Lib.hid hb; clear hb
        go_wp2
        go_ret2
        exact ⟨Eq.trans (b := Ending.returned (.tuple #[.int .i64 (Tk.maxAt (Tk.heights ts) k), .bool true])) rfl (by rw [HL.out]), HB2.out.trans (HBW.out.mono HB2.out.size)⟩
end Go.Proofs.Ytnbcobhcemjbnaa.Wds
