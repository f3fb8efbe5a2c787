/-
  PathBound: the code's function. One contract.
-/
import Derived.Test.YtnbcobhcemjbnaaIHgt
namespace Go.Proofs.Ytnbcobhcemjbnaa.Wds
open Go.RowKit
set_option linter.unusedVariables false

set_option maxHeartbeats 1000000 in
theorem iPathBound_any (A : Option Addr) (n c : Nat) (ts : List Tk.T) (B : Nat) (w : World) (hn : Ln.totL (Tk.nss ts) ≤ 1048576) (h : RdT w B A n ts) :
    Calls Try.prog 25 #[.slice A n c] w (RetIB (Tk.pathBound ts).1 (Tk.pathBound ts).2 w) := by
  have CH := Lib.hid (iHeightsOf_any A n c ts B w hn h)
  obtain ⟨v, hv⟩ : ∃ z, z = Tk.valid ts := ⟨_, rfl⟩
  have hl := h.len
  unfold Tk.pathBound
  unfold Tk.heightsOf at CH
  rw [← hv] at CH ⊢
  have HL := Lib.hid hl; clear hl h hn
  cases v
  · clear hv
    go_enter Try.func25, Try.ntmps25
    go_wp2_with fail
    refine CH.out.mono ?_
    rintro e w2 ⟨A2, n2, c2, rfl, ho, _, hb⟩
    have en : n2 = 0 := by have := ho.len; simpa using this.symm
    subst en
    have HB := Lib.hid hb; clear hb ho
    go_wp2_with fail
    go_loopw [6, 16] (fun v i wr => v = .int .i64 0 ∧ i = .int .i64 0 ∧ Below w.heap.size w wr) (fun _ _ _ => 0)
    case atStart => exact ⟨rfl, rfl, HB.out⟩
    case round =>
      rename World => wr
      obtain ⟨rfl, rfl, hb⟩ := hrel
      have HBW := Lib.hid hb; clear hb
      go_wp2
      go_ret2
      exact ⟨rfl, HBW.out⟩
  · rw [if_pos rfl]
    rw [if_pos rfl] at CH
    have h8 : n ≤ 8 := by rw [← HL.out]; exact Tk.len_of_valid hv.symm
    have HBD := Lib.hid (Tk.hts_bd hv.symm ts.length (Nat.le_refl _))
    clear hv
    go_enter Try.func25, Try.ntmps25
    go_wp2_with fail
    refine CH.out.mono ?_
    rintro e w2 ⟨A2, n2, c2, rfl, ho, _, hb⟩
    have en : n = n2 := by have := ho.len; rw [Tk.heights, Tk.hts_len, HL.out] at this; exact this
    subst en
    have HO := Lib.hid ho.rd
    have HB2 := Lib.hid hb; clear ho hb
    go_wp2_with fail
    go_loopw [6, 16] (fun v i wr => ∃ k : Nat, k ≤ n ∧ i = .int .i64 k ∧ v = .int .i64 (Tk.maxAt (Tk.heights ts) k) ∧ Below w2.heap.size w2 wr) (fun _ i _ => n - (intOf i).toNat)
    case atStart => exact ⟨0, Nat.zero_le _, rfl, rfl, Below.refl _ _⟩
    case round =>
      rename World => wr
      obtain ⟨k, hk, rfl, rfl, hb⟩ := hrel
      have HN := Lib.hid (show Tk.maxAt (Tk.heights ts) (k + 1) = max (Tk.maxAt (Tk.heights ts) k) ((Tk.heights ts).getD k 0) from rfl)
      by_cases hlt : k < n
      · obtain ⟨g, o, rfl, _, hc⟩ := (HO.out.below hb).at_ hlt
        obtain ⟨x, hx⟩ : ∃ x, x = (Tk.heights ts).getD k 0 := ⟨_, rfl⟩
        obtain ⟨y, hy⟩ : ∃ y, y = Tk.maxAt (Tk.heights ts) k := ⟨_, rfl⟩
        rw [← hx, ← hy] at HN
        rw [← hx] at hc
        rw [← hy]
        have HBW := Lib.hid hb; clear hb hx hy
        have i1 : (0 : Int) ≤ (k : Int) := by omega
        have i2 : (k : Int) < (n : Int) := by omega
        go_wp2
        go_roundw
        case rel => exact ⟨k + 1, by omega, by go_num, by rw [HN.out]; first | rfl | (rw [show (if y < x then x else y) = max y x by split <;> omega]), HBW.out⟩
        case measure => simp [intOf]; omega
      · have hkn : k = n := by omega
        subst hkn
        have HBW := Lib.hid hb; clear hb
        go_wp2
        go_ret2
        exact ⟨Eq.trans (b := Ending.returned (.tuple #[.int .i64 (Tk.maxAt (Tk.heights ts) k), .bool true])) rfl (by rw [HL.out]), HB2.out.trans (HBW.out.mono HB2.out.size)⟩
end Go.Proofs.Ytnbcobhcemjbnaa.Wds
