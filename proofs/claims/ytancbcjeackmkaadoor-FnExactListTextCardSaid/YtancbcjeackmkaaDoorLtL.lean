/-
  The walk of the law of ListText: the code answers as the model, for all arguments; nothing that was there has changed.
-/
import Derived.Test.YtancbcjeackmkaaDoorLt
namespace Go.Proofs.YtancbcjeackmkaaDoor.Wds
open Go.RowKit
set_option linter.unusedVariables false

set_option maxHeartbeats 2000000 in
set_option maxRecDepth 100000 in
theorem law_listText (A : Option Addr) (n c : Nat) (zz : List Int) (w : World) (wr : IsRow .i64 w A n c zz) (h32 h64 : True) (hT : TabP w) :
    Calls Tryd.prog 5 #[.slice A n c] w fun e w' => e = .returned (.bool true) ∧ Below w.heap.size w w' := by
  obtain ⟨zs, hr⟩ : ∃ zs, Rd w w.heap.size A n zs := ⟨_, Rd.of_row wr⟩
  have HR := Lib.hid hr; clear hr wr
  by_cases ln : n ≤ 1048576
  rotate_left
  · have l1 : 1048576 < n := by omega
    clear ln hT
    go_enter Tryd.func5, Tryd.ntmps5
    go_wp2
    go_ret
    exact ⟨rfl, Below.refl _ _⟩
  obtain ⟨s, ok, hse⟩ : ∃ s ok, ltE zs = .returned (.tuple #[.string s, .bool ok]) := by
    unfold ltE; split
    · exact ⟨_, _, rfl⟩
    · exact ⟨_, _, rfl⟩
  have hS : ∀ (W : World) (A : Option Addr) (c B : Nat), B ≤ W.heap.size → Rd W B A n zs → Calls Tryd.prog 13 #[.slice A n c] W fun e w' => e = .returned (.tuple #[.string s, .bool ok]) ∧ Below W.heap.size W w' :=
    fun W A c B hB r => by have := sListText_any A n c zs B W ln hB r; rw [hse] at this; exact this
  have hI : ∀ (W : World) (A : Option Addr) (c B : Nat), B ≤ W.heap.size → Below w.heap.size w W → Rd W B A n zs → Calls Tryd.prog 15 #[.slice A n c] W fun e w' => e = .returned (.tuple #[.string s, .bool ok]) ∧ Below W.heap.size W w' :=
    fun W A c B hB hb r => by have := iListText_any A n c zs B W ln hB (hT.keep hb) r; rw [hse] at this; exact this
  have HS := Lib.hid hS; clear hS
  have HI := Lib.hid hI; clear hI hse h32 h64 hT
  have hbs : (s.toList == s.toList) = true := beq_self_eq_true _
  have HB0 : Hid (Below w.heap.size w w) := Below.refl _ _
  go_enter Tryd.func5, Tryd.ntmps5
  go_wp2_with fail
  refine (toS_any A n c zs w.heap.size _ ln (HR.out.belowB HB0.out (Nat.le_refl _))).mono ?_
  rintro e w1 ⟨g1, rfl, ho, hb⟩
  have hs1 := hb.size
  have HB1 := Lib.hid (HB0.out.trans (hb.mono HB0.out.size)); clear hb HB0
  have HO_cmask := Lib.hid ho; clear ho
  go_wp2_with fail
  refine (HS.out _ _ _ _ (Nat.le_refl _) HO_cmask.out.rd).mono ?_
  rintro e w2 ⟨rfl, hb⟩
  have hs2 := hb.size
  have HO_cmask' := Lib.hid (HO_cmask.out.below hb); clear HO_cmask; have HO_cmask := HO_cmask'; clear HO_cmask'
  have HB2 := Lib.hid (HB1.out.trans (hb.mono HB1.out.size)); clear hb HB1
  clear HO_cmask
  go_wp2_with fail
  refine (toS_any A n c zs w.heap.size _ ln (HR.out.belowB HB2.out (Nat.le_refl _))).mono ?_
  rintro e w3 ⟨g3, rfl, ho, hb⟩
  have hs3 := hb.size
  have HB3 := Lib.hid (HB2.out.trans (hb.mono HB2.out.size)); clear hb HB2
  have HO_xmask := Lib.hid ho; clear ho
  go_wp2_with fail
  refine (HI.out _ _ _ _ (Nat.le_refl _) HB3.out HO_xmask.out.rd).mono ?_
  rintro e w4 ⟨rfl, hb⟩
  have hs4 := hb.size
  have HO_xmask' := Lib.hid (HO_xmask.out.below hb); clear HO_xmask; have HO_xmask := HO_xmask'; clear HO_xmask'
  have HB4 := Lib.hid (HB3.out.trans (hb.mono HB3.out.size)); clear hb HB3
  go_wp2_with fail
  refine (toS_any A n c zs w.heap.size _ ln (HR.out.belowB HB4.out (Nat.le_refl _))).mono ?_
  rintro e w5 ⟨g5, rfl, ho, hb⟩
  have hs5 := hb.size
  have HO_xmask' := Lib.hid (HO_xmask.out.below hb); clear HO_xmask; have HO_xmask := HO_xmask'; clear HO_xmask'
  have HB5 := Lib.hid (HB4.out.trans (hb.mono HB4.out.size)); clear hb HB4
  have HO_ymask := Lib.hid ho; clear ho
  go_wp2_with fail
  refine (eqS_same _ _ _ _ _ zs _ _ _ ln HO_xmask.out.rd HO_ymask.out.rd).mono ?_
  rintro e w6 ⟨rfl, hb⟩
  have hs6 := hb.size
  have HO_xmask' := Lib.hid (HO_xmask.out.below hb); clear HO_xmask; have HO_xmask := HO_xmask'; clear HO_xmask'
  have HO_ymask' := Lib.hid (HO_ymask.out.below hb); clear HO_ymask; have HO_ymask := HO_ymask'; clear HO_ymask'
  have HB6 := Lib.hid (HB5.out.trans (hb.mono HB5.out.size)); clear hb HB5
  clear HO_ymask
  go_wp2_with fail
  go_ret
  exact ⟨rfl, HB6.out⟩
end Go.Proofs.YtancbcjeackmkaaDoor.Wds
