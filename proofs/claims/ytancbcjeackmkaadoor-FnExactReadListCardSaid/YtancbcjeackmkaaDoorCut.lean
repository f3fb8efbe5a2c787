/-
  Appending one text to a row of the call's own; the model's parts of a text.
-/
import Derived.Test.YtancbcjeackmkaaDoorLt
import Derived.Test.YtancbcjeackmkaaDoorCutMath
import Derived.Laws.AppendOwn
namespace Go.Proofs.YtancbcjeackmkaaDoor.Wds
open Go.RowKit
set_option linter.unusedVariables false
theorem wpList_pushT {P : Program} {ops : Array Oper} {rest : List Oper} {o : Oper} {a : Act} {Q : Exit → Act → World → Prop} (w : World) (hgd : o.guard = none) (s x : Operand)
    (ho : o.op = .call { callee := .builtin .append, args := #[s, x], argTypes := #[52, 52] })
    (i : TypeInfo) (ht : P.underlying 52 = some (.slice 9)) (hi : P.info? 9 = some i) (hz : i.zero = some (.string ByteArray.empty)) (hsize : i.size = 1) (hby : i.bytes = 16)
    (base : Nat) (v : Value) (n : Nat) (xs : List ByteArray) (z : ByteArray) (hs : a.eval s = v) (hown : w.ownsRow base 9 1 v n (xs.map Value.string))
    (hx : a.eval x = .slice (some ⟨w.heap.size, 0, none⟩) 1 1) (hn : n ≤ 1099511627776) (hbase : base ≤ w.heap.size)
    (h : ∀ v' w', w'.ownsRow base 9 1 v' (n + 1) ((xs ++ [z]).map Value.string) → Below base w w' → wpList P ops Q rest (a.put o.dst v') w') :
    wpList P ops Q (o :: rest) a (w.alloc (.cells #[.string z] 9)) := by
  refine wpList_append_own _ hgd s x 52 ho base 9 i (.string ByteArray.empty) 1 16 ht hi hz hsize hby rfl (by decide) v n _ hs (hown.alloc _) ⟨w.heap.size, 0, none⟩ 1 1 [.string z] hx rfl ?_ ?_ ?_ ?_ ?_ ?_
  · intro j u hj
    match j, hj with
    | 0, hj => simp at hj; subst hj; simp [Addr.add]
  · intro u hu; simp at hu; subst hu; rfl
  · unfold maxLen; omega
  · omega
  · simp; omega
  · intro v' w' hown' hg _
    refine h v' w' (by simpa using hown') ?_
    have hb1 : Below base w (w.alloc (.cells #[.string z] 9)) := (Below.refl base w).alloc hbase _
    refine hb1.grown hg (by simp; omega) fun r hr => ?_
    rcases hown.2 with ⟨rfl, _⟩ | ⟨g, cp, cur, rfl, hg', _⟩
    · cases hr
    · simp only [Value.ownBlock, Option.some.injEq] at hr; omega
theorem own_shapeT {w : World} {B : Nat} {v : Value} {ps : List ByteArray} (h : w.ownsRow B 9 1 v ps.length (ps.map Value.string)) (hn : 0 < ps.length) :
    ∃ g cap cs, v = .slice (some ⟨g, 0, none⟩) ps.length cap ∧ B ≤ g ∧ BlkT w g cs ∧ ∀ (j : Nat) (x : ByteArray), ps[j]? = some x → cs[j]? = some (Value.string x) := by
  rcases h.2 with ⟨_, h0⟩ | ⟨g, cap, cur, rfl, hg, hb, hnc, hcm, hcs, ht⟩
  · omega
  · refine ⟨g, cap, cur, rfl, hg, hb, fun j x hx => ?_⟩
    have hj : j < ps.length := by
      rcases Nat.lt_or_ge j ps.length with h | h
      · exact h
      · rw [List.getElem?_eq_none h] at hx; cases hx
    have e : (cur.toList.take ps.length)[j]? = (ps.map Value.string)[j]? := by rw [← ht, Nat.mul_one]
    rw [← Array.getElem?_toList, ← List.getElem?_take_of_lt hj, e, List.getElem?_map, hx]; rfl
/-- The parts are returned: a row of the call's own. -/
def RetT (m : UInt8) (l : List UInt8) (w : World) (e : Ending) (w' : World) : Prop :=
  ∃ (g c : Nat) (cs : Array Value) (ps : List ByteArray), e = .returned (.slice (some ⟨g, 0, none⟩) ps.length c) ∧ ps.map (·.data.toList) = Wd.cut m l ∧ 0 < ps.length ∧ ps.length ≤ 1048577 ∧ w.heap.size ≤ g ∧ BlkT w' g cs ∧
    (∀ (j : Nat) (x : ByteArray), ps[j]? = some x → cs[j]? = some (Value.string x)) ∧ Below w.heap.size w w'
def Cuts (m : UInt8) (s : ByteArray) (w : World) (ov fv iv : Value) (wr : World) : Prop :=
  ∃ (k f : Nat) (ps : List ByteArray), iv = .int .i64 k ∧ fv = .int .i64 f ∧ k ≤ s.size + 1 ∧ f ≤ k ∧ Hid (ps.length ≤ k) ∧ Hid (wr.ownsRow w.heap.size 9 1 ov ps.length (ps.map Value.string)) ∧ Hid (Below w.heap.size w wr) ∧
    Hid ((k ≤ s.size → Wd.cut m s.data.toList = ps.map (·.data.toList) ++ Wd.addH ((s.data.toList.drop f).take (k - f)) (Wd.cut m (s.data.toList.drop k))) ∧ (s.size < k → Wd.cut m s.data.toList = ps.map (·.data.toList)))
set_option maxRecDepth 100000 in
theorem cut_any (m : UInt8) (M : Int) (hM : M = (m.toNat : Int)) (s : ByteArray) (w : World) (hm : s.size ≤ 1048576) :
    Calls Tryd.prog 58 #[.string s, .int .u8 M] w (RetT m s.data.toList w) := by
  have hlen : s.data.toList.length = s.size := by simp
  have HL := Lib.hid hlen; clear hlen
  obtain ⟨i0, hi, hz0, hz1, hz2⟩ := info_partsV A_infoStr
  have HM := Lib.hid hM; clear hM
  go_enter Tryd.func58, Tryd.ntmps58
  go_wp2
  go_loopw [5, 6, 7] (fun ov fv iv wr => Cuts m s w ov fv iv wr) (fun _ _ iv _ => s.size + 1 - (intOf iv).toNat)
  case atStart =>
    refine ⟨0, 0, [], rfl, rfl, Nat.zero_le _, Nat.le_refl _, Lib.hid (Nat.le_refl _), Lib.hid ⟨rfl, .inr ⟨w.heap.size, 0, #[], rfl, Nat.le_refl _, ?_, Nat.le_refl _, Nat.zero_le _, rfl, rfl⟩⟩, Lib.hid ((Below.refl _ _).alloc (Nat.le_refl _) _), Lib.hid ⟨fun _ => ?_, fun h => absurd h (by omega)⟩⟩
    · show (w.heap.push _)[w.heap.size]? = _
      simp
    · simp only [List.map_nil, List.nil_append, Nat.sub_self, List.take_zero, List.drop_zero]
      rw [Wd.addH_nil (Wd.cut_ne _ _)]
  case round =>
    obtain ⟨k, f, ps, rfl, rfl, hk, hf, HP, HO, HB, HC⟩ := hrel
    by_cases hle : k ≤ s.size
    · by_cases hend : k = s.size
      · have hq1 : ((k : Int) == (s.size : Int)) = true := by rw [beq_iff_eq]; omega
        have hq2 : (k == s.size) = true := by rw [beq_iff_eq]; exact hend
        have hcut := Wd.cut_end (by rw [HL.out]; omega) (HC.out.1 hle)
        rw [← Lib.extract_data s f k] at hcut
        have HC2 := Lib.hid hcut; clear hcut hend
        have hpl := HP.out
        have hsz := HB.out.size
        have hext : (f : Int) ≤ k := by omega
        go_wp2_with (at_builtin; refine wpList_pushT _ rfl _ _ rfl i0 Tryd.underlying52 hi hz0 hz1 hz2 _ _ _ _ _ rfl HO.out rfl (by omega) HB.out.size ?_; intro v' w1 hown1 hb1; have HO1 := Lib.hid hown1; have HB1 := Lib.hid hb1; clear hown1 hb1)
        go_roundw
        case rel => exact ⟨k + 1, k + 1, ps ++ [s.extract f k], by go_num, by go_num, by omega, Nat.le_refl _, Lib.hid (by rw [List.length_append]; simp; omega), Lib.hid (by have := HO1.out; rw [List.length_append]; exact this), Lib.hid (HB.out.trans HB1.out), Lib.hid ⟨fun h => absurd h (by have := beq_iff_eq.1 hq2; omega), fun _ => by rw [HC2.out, List.map_append]; rfl⟩⟩
        case measure => simp [intOf]; omega
      · have hlt : k < s.size := by omega
        have hlp : k < s.data.toList.length := by rw [HL.out]; exact hlt
        have hq1 : ((k : Int) == (s.size : Int)) = false := by rw [beq_eq_false_iff_ne]; omega
        have hq2 : (k == s.size) = false := by rw [beq_eq_false_iff_ne]; exact hend
        have hat : s.data.toList[k]'hlp = s[k]'hlt := rfl
        have hb : (s[k]'hlt).toNat < 256 := (s[k]'hlt).toNat_lt
        by_cases hmk : (s[k]'hlt).toNat = m.toNat
        · have hq3 : (((s[k]'hlt).toNat : Int) == M) = true := by rw [beq_iff_eq, HM.out]; omega
          have hcut := Wd.cut_mark hlp (by rw [hat]; exact UInt8.toNat_inj.1 hmk) (HC.out.1 hle)
          rw [← Lib.extract_data s f k] at hcut
          have HC2 := Lib.hid hcut; clear hcut hend hmk hat
          have hpl := HP.out
          have hsz := HB.out.size
          have hext : (f : Int) ≤ k := by omega
          go_wp2_with (at_builtin; refine wpList_pushT _ rfl _ _ rfl i0 Tryd.underlying52 hi hz0 hz1 hz2 _ _ _ _ _ rfl HO.out rfl (by omega) HB.out.size ?_; intro v' w1 hown1 hb1; have HO1 := Lib.hid hown1; have HB1 := Lib.hid hb1; clear hown1 hb1)
          go_roundw
          case rel => exact ⟨k + 1, k + 1, ps ++ [s.extract f k], by go_num, by go_num, by omega, Nat.le_refl _, Lib.hid (by rw [List.length_append]; simp; omega), Lib.hid (by have := HO1.out; rw [List.length_append]; exact this), Lib.hid (HB.out.trans HB1.out), Lib.hid ⟨fun _ => by rw [HC2.out, List.map_append, Nat.sub_self, List.take_zero]; rfl, fun h => absurd h (by omega)⟩⟩
          case measure => simp [intOf]; omega
        · have hq3 : (((s[k]'hlt).toNat : Int) == M) = false := by rw [beq_eq_false_iff_ne, HM.out]; omega
          have hcut := Wd.cut_other hlp (by rw [hat]; exact fun e => hmk (by rw [e])) (HC.out.1 hle)
          rw [Wd.part_succ hf hlp] at hcut
          have HC2 := Lib.hid hcut; clear hcut hend hmk hat
          go_wp2
          go_roundw
          case rel => exact ⟨k + 1, f, ps, by go_num, rfl, by omega, by omega, Lib.hid (by have := HP.out; omega), HO, HB, Lib.hid ⟨fun _ => HC2.out, fun h => absurd h (by omega)⟩⟩
          case measure => simp [intOf]; omega
    · have hd : decide (k ≤ s.size) = false := decide_eq_false hle
      have hcut := HC.out.2 (by omega)
      have hpos : 0 < ps.length := by
        have h1 := congrArg List.length hcut
        rw [List.length_map] at h1
        have h2 := List.length_pos_iff.2 (Wd.cut_ne m s.data.toList)
        omega
      obtain ⟨g, cap, cs, hv, hg1, hg2, hcells⟩ := own_shapeT HO.out hpos
      have HR := Lib.hid (show RetT m s.data.toList w (.returned (.slice (some ⟨g, 0, none⟩) ps.length cap)) wr from ⟨g, cap, cs, ps, rfl, hcut.symm, hpos, by have := HP.out; omega, hg1, hg2, hcells, HB.out⟩)
      subst hv
      clear hcut hpos hcells hle hg2
      go_wp2
      go_ret
      exact HR.out
end Go.Proofs.YtancbcjeackmkaaDoor.Wds
