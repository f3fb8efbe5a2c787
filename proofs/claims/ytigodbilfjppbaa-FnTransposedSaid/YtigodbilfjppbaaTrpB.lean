/-
  What the law FnTransposed uses beside the contracts of chapter 4: a byte ahead of bytes that came in, rows drawn one by one, the law's own comparison of rows.
-/
import Derived.Test.YtigodbilfjppbaaDraw8
import Derived.Test.YtigodbilfjppbaaBelBy
import Derived.Test.YtigodbilfjppbaaPushR
import Derived.Test.YtigodbilfjppbaaLstRW
import Derived.BigQuiet
namespace Go.Proofs.Ytigodbilfjppbaa.Wds
open Go.RowKit
set_option linter.unusedVariables false

theorem A_infoB : (Try.prog.info? 5).map (fun i => (i.zero, i.size, i.bytes)) = some (some (.int .u8 0), 1, 1) := by kernel_rfl
/-- append([]byte{b}, list...): the bytes are a source for draws. -/
theorem wpList_headed {P : Program} {ops : Array Oper} {rest : List Oper} {o : Oper} {a : Act} {Q : Exit → Act → World → Prop} (w0 : World) (b : Int) (hgd : o.guard = none) (s x : Operand)
    (ho : o.op = .call { callee := .builtin .append, args := #[s, x], argTypes := #[22, 22] })
    (i : TypeInfo) (ht : P.underlying 22 = some (.slice 5)) (hi : P.info? 5 = some i) (hz : i.zero = some (.int .u8 0)) (hsize : i.size = 1) (hby : i.bytes = 1)
    (hb0 : 0 ≤ b) (hb1 : b < 256) (hs : a.eval s = .slice (some ⟨w0.heap.size, 0, none⟩) 1 1)
    (A : Option Addr) (m c : Nat) (zs : List Int) (hx : a.eval x = .slice A m c) (hrow : IsRow .u8 w0 A m c zs) (hm : m ≤ 48)
    (h : ∀ w' A' c' zs', IsSrc w' A' (1 + m) c' zs' → Below w0.heap.size w0 w' → wpList P ops Q rest (a.put o.dst (.slice A' (1 + m) c')) w') :
    wpList P ops Q (o :: rest) a (w0.alloc (.cells #[.int .u8 b] 5)) := by
  have hb : Below w0.heap.size w0 (w0.alloc (.cells #[.int .u8 b] 5)) := (Below.refl _ _).alloc (Nat.le_refl _) _
  have hown : (w0.alloc (.cells #[.int .u8 b] 5)).ownsRow w0.heap.size 5 1 (.slice (some ⟨w0.heap.size, 0, none⟩) 1 1) 1 [.int .u8 b] :=
    ⟨rfl, .inr ⟨w0.heap.size, 1, #[.int .u8 b], rfl, Nat.le_refl _, by show (w0.heap.push _)[w0.heap.size]? = _; simp, Nat.le_refl _, by unfold maxLen; omega, rfl, rfl⟩⟩
  have fin : ∀ (v' : Value) (w' : World) (zs' : List Int), zs'.length = m → (∀ z ∈ zs', (Lit.int .u8 z).wf = true) → w'.ownsRow w0.heap.size 5 1 v' (1 + m) ([.int .u8 b] ++ zs'.map (Value.int .u8)) → Below w0.heap.size w0 w' → wpList P ops Q rest (a.put o.dst v') w' := by
    intro v' w' zs' hl hwf hown' hbel
    rcases hown'.2 with ⟨_, h0⟩ | ⟨g, cap, cur, rfl, hg, hh, hnc, hcm, hcs, htk⟩
    · omega
    · refine h w' (some ⟨g, 0, none⟩) cap (b :: zs') (.inr ⟨_, rfl, hnc, hcm, by simp [hl]; omega, fun j hj => ?_, ?_⟩) hbel
      · refine hown'.cells (g := g) rfl j _ ?_
        cases j with
        | zero => rfl
        | succ j =>
          simp only [List.length_cons] at hj
          have : j < zs'.length := by omega
          simp [List.getD_eq_getElem?_getD, this]
      · intro z hz
        rcases List.mem_cons.1 hz with rfl | hz
        · (simp [Lit.wf, IntKind.min, IntKind.max, IntKind.signed, IntKind.bits]; omega)
        · exact hwf z hz
  have grow : ∀ (v' : Value) (w' : World), (w0.alloc (.cells #[.int .u8 b] 5)).grownBy w' (Value.ownBlock (.slice (some ⟨w0.heap.size, 0, none⟩) 1 1)) → Below w0.heap.size w0 w' := by
    intro v' w' hg
    exact hb.grown hg (by simp) (fun r hr => by simp only [Value.ownBlock, Option.some.injEq] at hr; omega)
  rcases hrow with ⟨rfl, rfl, rfl, rfl⟩ | ⟨ad, rfl, h2, h3, h4, h5, h6⟩
  · refine wpList_append_own_none hgd s x 22 ho w0.heap.size 5 i 1 ht hi _ 1 _ hs hown hx ?_
    exact fin _ _ [] rfl (by simp) (by simpa using hown) hb
  · refine wpList_append_own _ hgd s x 22 ho w0.heap.size 5 i (.int .u8 0) 1 1 ht hi hz hsize hby rfl (by decide) _ 1 _ hs hown ad m c ((zs.take m).map (Value.int .u8)) hx (by simp; omega) ?_ ?_ (by unfold maxLen; omega) (by omega) (by simp) ?_
    · intro j u hj
      rw [List.getElem?_map, List.getElem?_take] at hj
      by_cases hjm : j < m
      · rw [if_pos hjm] at hj
        have hjz : j < zs.length := by omega
        rw [List.getElem?_eq_getElem hjz] at hj
        injection hj with hj
        subst hj
        have := h5 j hjz
        have e := (hb.cell (p := ad.add j) (World.block_lt_of_cell? w0 _ this)).trans this
        rw [e, List.getD_eq_getElem?_getD, List.getElem?_eq_getElem hjz]; rfl
      · rw [if_neg hjm] at hj; cases hj
    · intro u hu
      rw [List.mem_map] at hu
      obtain ⟨z, _, rfl⟩ := hu
      rfl
    · intro v' w' hown' hg _
      exact fin v' w' (zs.take m) (by simp; omega) (fun z hz => h6 z (List.mem_of_mem_take hz)) hown' (grow v' w' hg)
theorem RowsV.congr {w : World} {lo k : Nat} {vals : List Value} {f f' : Nat → List Int} (h : RowsV w lo k vals f) (he : ∀ j, j < k → f j = f' j) : RowsV w lo k vals f' :=
  ⟨h.1, fun j hj => by rw [← he j hj]; exact h.2 j hj⟩
/-- The relation of the loop that draws the rows. -/
def DrawsR (b : Int) (n : Nat) (w : World) (v i : Value) (wr : World) : Prop :=
  ∃ (f : Nat → List Int) (k : Nat) (vals : List Value), k ≤ n ∧ i = .int .i64 k ∧ (∀ j, j < k → (f j).length = n ∧ Ln.vec b (f j) = true) ∧ wr.ownsRow w.heap.size 26 1 v k vals ∧ RowsV wr w.heap.size k vals f ∧ Below w.heap.size w wr
theorem DrawsR.start (b : Int) (n : Nat) (w : World) : DrawsR b n w (.slice (some ⟨w.heap.size, 0, none⟩) 0 0) (.int .i64 0) (w.alloc (.cells #[] 26)) := by
  obtain ⟨k, vals, h1, h2, h3, h4, h5⟩ := PushesR.start (fun _ => []) n w
  have hk : k = 0 := by injection h2 with _ h2; omega
  subst hk
  exact ⟨_, 0, vals, h1, h2, fun j hj => absurd hj (Nat.not_lt_zero _), h3, h4, h5⟩
set_option maxHeartbeats 1000000 in
theorem r8rows_any (A A' : Option Addr) (n c c' : Nat) (zss : List (List Int)) (B B' : Nat) (w : World) (hn : n ≤ 16) (hm : ∀ k, k < n → (zss.getD k []).length ≤ 1048576) (h : RdR w B A n zss) (h' : RdR w B' A' n zss) :
    Calls Try.prog 10 #[.slice A n c, .slice A' n c'] w fun e w' => e = .returned (.bool true) ∧ Below w.heap.size w w' := by
  have HM := Lib.hid hm; clear hm
  have H := Lib.hid h; clear h
  have H' := Lib.hid h'; clear h'
  go_enter Try.func10, Try.ntmps10
  go_wp2
  go_loopw [5] (fun i wr => ∃ k : Nat, k ≤ n ∧ i = .int .i64 k ∧ Below w.heap.size w wr) (fun i _ => n - (intOf i).toNat)
  case atStart => exact ⟨0, Nat.zero_le _, rfl, Below.refl _ _⟩
  case round =>
    rename World => wr
    obtain ⟨k, hk, rfl, hb⟩ := hrel
    by_cases hlt : k < n
    · obtain ⟨g, o, R, m, cm, rfl, hg, hc, _, hr⟩ := (H.out.below hb).at_ hlt
      obtain ⟨g', o', R', m', cm', rfl, hg', hc', _, hr'⟩ := (H'.out.below hb).at_ hlt
      have e1 := hr.len
      have e2 := hr'.len
      have e3 := HM.out k hlt
      obtain rfl : m = m' := by omega
      have d1 := BelBy.cell hc
      have d2 := BelBy.cell hc'
      have C := Lib.hid (fun (p : BelBy wr) => calls_bel (r8same_any R R' m cm cm' (zss.getD k []) B B' p.W (by omega) (hr.below p.h) (hr'.below p.h)))
      have HB := Lib.hid hb; clear hb hr hr' hc hc' e1 e2 e3
      have i1 : (0 : Int) ≤ (k : Int) := by omega
      have i2 : (k : Int) < (n : Int) := by omega
      go_wp2
      refine wp_region_quiet_bel (by kernel_rfl) (by kernel_rfl) ?_
      repeat (go_big_quiet_step (first | (go_at_call 25; exact C.out _)))
      refine wpQuiet_nil ?_
      rintro wA ⟨⟨_, hbo⟩, rfl⟩
      have HBA := Lib.hid (HB.out.trans (hbo.mono HB.out.size))
      clear hbo d1 d2
      go_wp2
      go_roundw
      case rel => exact ⟨k + 1, by omega, by go_num, HBA.out⟩
      case measure => simp [intOf]; omega
    · have hkn : k = n := by omega
      have HB := Lib.hid hb; clear hb
      subst hkn
      go_wp2
      go_ret
      exact ⟨rfl, HB.out⟩
end Go.Proofs.Ytigodbilfjppbaa.Wds
