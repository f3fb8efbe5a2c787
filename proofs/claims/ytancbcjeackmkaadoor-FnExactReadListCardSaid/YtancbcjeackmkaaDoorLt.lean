/-
  ListText: what the model's and the code's function answer, and the law's walk.
-/
import Derived.Test.YtancbcjeackmkaaDoorSpec
import Derived.Test.YtancbcjeackmkaaDoorLtMath
import Derived.Test.YtancbcjeackmkaaDoorDecL
import Derived.Laws.Concat
namespace Go.Proofs.YtancbcjeackmkaaDoor.Wds
open Go.RowKit
set_option linter.unusedVariables false
theorem A_infoStr : (Tryd.prog.info? 9).map (fun i => (i.zero, i.size, i.bytes)) = some (some (.string ByteArray.empty), 1, 16) := by kernel_rfl
theorem info_partsV {P : Program} {t : TypeId} {z : Option Value} {s b : Nat} (h : (P.info? t).map (fun i => (i.zero, i.size, i.bytes)) = some (z, s, b)) : ∃ i, P.info? t = some i ∧ i.zero = z ∧ i.size = s ∧ i.bytes = b := by
  obtain ⟨i, h1, h2⟩ := Option.map_eq_some_iff.1 h
  simp only [Prod.mk.injEq] at h2
  exact ⟨i, h1, h2.1, h2.2.1, h2.2.2⟩
theorem ret_str {a b : ByteArray} (h : a = b) : Ending.returned (.string a) = .returned (.string b) := by rw [h]
/-- A list of texts, as cells. -/
def cllT (xs : List ByteArray) : Array Value := (xs.map Value.string).toArray
def BlkT (w : World) (g : Nat) (cs : Array Value) : Prop := w.heap[g]? = some (.cells cs 9 (0, 0))
theorem BlkT.lt {w : World} {g : Nat} {cs : Array Value} (h : BlkT w g cs) : g < w.heap.size := lt_of_block h
theorem BlkT.cell {w : World} {g : Nat} {cs : Array Value} (h : BlkT w g cs) (i : Nat) : w.cell? ⟨g, i, none⟩ = cs[i]? := cell_of_row w g i cs _ (0, 0) h
theorem BlkT.frozen {w : World} {g : Nat} {cs : Array Value} (h : BlkT w g cs) (i : Nat) : w.frozen? ⟨g, i, none⟩ = false := by
  unfold BlkT at h; simp [World.frozen?, h]
theorem BlkT.new (w : World) (cs : Array Value) : BlkT (w.alloc (.cells cs 9)) w.heap.size cs := heap_alloc_new w _
theorem BlkT.set_ {w : World} {g : Nat} {cs : Array Value} (h : BlkT w g cs) (i : Nat) (u : Value) : BlkT (w.setCell ⟨g, i, none⟩ u) g (cs.setIfInBounds i u) := by
  unfold BlkT at h ⊢
  simp [World.setCell, Array.getElem?_modify, h]
theorem BlkT.keep {w w' : World} {g : Nat} {cs : Array Value} (h : BlkT w g cs) (hb : Below w.heap.size w w') : BlkT w' g cs := (hb.block g h.lt).trans h
theorem cllT_set (xs : List ByteArray) (k : Nat) (x : ByteArray) : (cllT xs).setIfInBounds k (.string x) = cllT (xs.set k x) := by
  unfold cllT
  rw [List.setIfInBounds_toArray, List.map_set]
theorem cllT_get {xs : List ByteArray} {k : Nat} (x : ByteArray) (h : xs[k]? = some x) : (cllT xs)[k]? = some (.string x) := by
  unfold cllT
  rw [List.getElem?_toArray, List.getElem?_map, h]; rfl
theorem wpList_make_str {P : Program} (w : World) {ops : Array Oper} {rest : List Oper} {o : Oper} {a : Act} {Q : Exit → Act → World → Prop}
    (hg : o.guard = none) (l c : Operand) (t : TypeId) (hop : o.op = Op.makeSlice t l c)
    (i : TypeInfo) (h1 : P.underlying t = some (.slice 9)) (h2 : P.info? 9 = some i) (h3 : i.zero = some (.string ByteArray.empty)) (h4 : i.size = 1) (h5 : i.bytes = 16)
    (kl kc : IntKind) (L C : Int) (n : Nat) (hl : a.eval l = .int kl L) (hc : a.eval c = .int kc C) (hL : L = (n : Int)) (hC : C = (n : Int)) (b2 : n ≤ 1000)
    (hK : wpList P ops Q rest (a.put o.dst (.slice (some ⟨w.heap.size, 0, none⟩) n n)) (w.alloc (.cells (cllT (List.replicate n ByteArray.empty)) 9))) :
    wpList P ops Q (o :: rest) a w := by
  refine wpList_plain hg fun K hK' => ?_
  subst hL
  subst hC
  have hrun := run_make (P := P) w t 9 i (.string ByteArray.empty) h1 h2 h3 kl kc (n : Int) (n : Int) (by omega) (by omega) (by rw [h5]; omega) (by omega)
  have e : madeCells (Value.string ByteArray.empty).cells ((n : Int).toNat * i.size) = cllT (List.replicate n ByteArray.empty) := by
    rw [h4]
    unfold cllT
    apply Array.ext
    · simp [madeCells]
    · intro j hj1 hj2
      simp [madeCells, Value.cells, Nat.mod_one]
  rw [e] at hrun
  unfold Oper.wp
  simp [execOp, hop, hl, hc, hrun, Result.andThen]
  exact hK' _ _ hK
/-- The answer: the text and true, or the empty text and false. -/
def ltE (zs : List Int) : Ending := if Wd.lsOk zs then .returned (.tuple #[.string ⟨(Wd.txt zs).toArray⟩, .bool true]) else .returned (.tuple #[.string ⟨#[]⟩, .bool false])
theorem ltList_any (A : Option Addr) (n c : Nat) (zs : List Int) (B : Nat) (w : World) (hn : n ≤ 1048576) (h : Rd w B A n zs) :
    Calls Tryd.prog 35 #[.slice A n c] w fun e w' => e = .returned (.bool (decide (Wd.lsOk zs))) ∧ w = w' := by
  have hl := h.1
  have H := Lib.hid h; clear h
  have HL := Lib.hid hl; clear hl
  go_enter Tryd.func35, Tryd.ntmps35
  go_wp2
  go_loop [3] (fun i => ∃ k : Nat, k ≤ n ∧ i = .int .i64 k ∧ Hid (∀ z ∈ zs.take k, Wd.okV z)) (fun i => n - (intOf i).toNat)
  case atStart => exact ⟨0, Nat.zero_le _, rfl, Lib.hid (fun z hz => by simp at hz)⟩
  case round =>
    obtain ⟨k, hk, rfl, HA⟩ := hrel
    by_cases hlt : k < n
    · obtain ⟨g, o, rfl, hg, hc⟩ := H.out.at_ hlt
      obtain ⟨z, hz⟩ : ∃ z, z = zs.getD k 0 := ⟨_, rfl⟩
      rw [← hz] at hc
      by_cases hok : -1000000000 ≤ z ∧ z ≤ 1000000000
      · have HN := Lib.hid (Wd.all_take_ok (by rw [HL.out]; exact hlt) HA.out (by rw [← hz]; exact hok))
        clear hz
        go_wp2_with (go_at_call 51; refine (in_yes _ _ _ _ hok).mono ?_; rintro e w' ⟨rfl, rfl⟩)
        go_round
        case rel => exact ⟨k + 1, by omega, by go_num, HN⟩
        case measure => simp [intOf]; omega
      · have HN := Lib.hid (Wd.bad_at (by rw [HL.out]; exact hlt) (by rw [← hz]; exact hok))
        clear hz
        go_wp2_with (go_at_call 51; refine (in_no _ _ _ _ hok).mono ?_; rintro e w' ⟨rfl, rfl⟩)
        go_ret
        exact ⟨ret_bool (decide_eq_false HN.out).symm, rfl⟩
    · have hkn : k = n := by omega
      have hall : ∀ z ∈ zs, Wd.okV z := by
        have := HA.out
        rwa [List.take_of_length_le (by rw [HL.out]; omega)] at this
      by_cases h70 : n ≤ 70
      · have HD := Lib.hid (show decide (Wd.lsOk zs) = true by rw [decide_eq_true_eq]; exact ⟨by rw [HL.out]; exact h70, hall⟩)
        clear hall
        go_wp2
        go_ret
        exact ⟨ret_bool (by rw [HD.out]; simp; omega), rfl⟩
      · have HD := Lib.hid (show decide (Wd.lsOk zs) = false by rw [decide_eq_false_iff_not]; intro hh; have := hh.1; rw [HL.out] at this; omega)
        clear hall
        go_wp2
        go_ret
        exact ⟨ret_bool (by rw [HD.out]; simp; omega), rfl⟩
set_option maxRecDepth 100000 in
theorem ltText_any (A : Option Addr) (n c : Nat) (zs : List Int) (B : Nat) (w : World) (hB : B ≤ w.heap.size) (hok : Wd.lsOk zs) (h : Rd w B A n zs) :
    Calls Tryd.prog 36 #[.slice A n c] w fun e w' => e = .returned (.string ⟨(Wd.txt zs).toArray⟩) ∧ Below w.heap.size w w' := by
  have hl := h.1
  have hn : n ≤ 70 := by have := hok.1; omega
  have H := Lib.hid h; clear h
  have HL := Lib.hid hl; clear hl
  by_cases h0 : n = 0
  · subst h0
    have HT := Lib.hid (show Wd.txt zs = [110, 111, 110, 101] by unfold Wd.txt; rw [if_pos (List.length_eq_zero_iff.1 HL.out)])
    clear hok
    go_enter Tryd.func36, Tryd.ntmps36
    go_wp2
    go_ret
    exact ⟨by rw [HT.out]; rfl, Below.refl _ _⟩
  have hn0 : 0 < n := by omega
  have hn1 : ((n : Int) == 0) = false := by rw [beq_eq_false_iff_ne]; omega
  have HO := Lib.hid hok.2
  clear h0 hok
  go_enter Tryd.func36, Tryd.ntmps36
  go_wp2
  go_loopw [3, 4] (fun a i wr => ∃ (k : Nat) (t : ByteArray), k ≤ n ∧ i = .int .i64 k ∧ a = .string t ∧ t.size ≤ 12 * k ∧ Hid (t = ⟨(Wd.jn zs k).toArray⟩) ∧ Hid (Below w.heap.size w wr)) (fun _ i _ => n - (intOf i).toNat)
  case atStart => exact ⟨0, ByteArray.empty, Nat.zero_le _, rfl, rfl, by decide, Lib.hid (by rw [Wd.jn_zero]; rfl), Lib.hid (Below.refl _ _)⟩
  case round =>
    obtain ⟨k, t, hk, rfl, rfl, ht, HJ, HB⟩ := hrel
    by_cases hlt : k < n
    · obtain ⟨g, o, rfl, hg, hc⟩ := (H.out.belowB HB.out hB).at_ hlt
      obtain ⟨z, hz⟩ : ∃ z, z = zs.getD k 0 := ⟨_, rfl⟩
      have hzok := Wd.okV_at HO.out (show k < zs.length by rw [HL.out]; exact hlt)
      rw [← hz] at hc hzok
      have hi := Wd.itoa_len z hzok.1 hzok.2
      have hsucc := Wd.jn_succ (zs := zs) (k := k) (by rw [HL.out]; exact hlt)
      rw [← hz] at hsucc
      obtain ⟨d, hd⟩ : ∃ d : ByteArray, d = ⟨(Lib.itoa z).toArray⟩ := ⟨_, rfl⟩
      have hds : d.size ≤ 11 := by rw [hd]; exact hi.2
      have c1 := fun (W : World) => dec_any z W (by have := hzok.1; omega) (by have := hzok.2; omega)
      rw [← hd] at c1
      have C1 := Lib.hid c1; clear c1 hz hzok hi
      by_cases hk0 : k = 0
      · have hk1 : decide (0 < k) = false := by rw [decide_eq_false_iff_not]; omega
        have HN := Lib.hid (show t ++ d = ⟨(Wd.jn zs (k + 1)).toArray⟩ by rw [hsucc, HJ.out, hd, if_pos hk0, List.append_nil, ByteArray.mk_append_mk])
        clear hsucc hd hk0
        go_wp2_with (go_at_call 30; refine (C1.out _).mono ?_; rintro e w' ⟨rfl, hb⟩; have HB2 := Lib.hid (HB.out.trans (hb.mono HB.out.size)); clear hb)
        go_roundw
        case rel => exact ⟨k + 1, t ++ d, by omega, by go_num, rfl, by rw [ByteArray.size_append]; omega, HN, HB2⟩
        case measure => simp [intOf]; omega
      · have hk1 : (0 : Int) < (k : Int) := by omega
        have HN := Lib.hid (show (t ++ ⟨#[44]⟩) ++ d = ⟨(Wd.jn zs (k + 1)).toArray⟩ by
          rw [hsucc, HJ.out, hd, if_neg hk0]
          have e : (⟨#[44]⟩ : ByteArray) = ⟨([44] : List UInt8).toArray⟩ := rfl
          rw [e, ByteArray.mk_append_mk, ByteArray.mk_append_mk])
        clear hsucc hd
        go_wp2_with (go_at_call 30; refine (C1.out _).mono ?_; rintro e w' ⟨rfl, hb⟩; have HB2 := Lib.hid (HB.out.trans (hb.mono HB.out.size)); clear hb)
        go_roundw
        case rel => exact ⟨k + 1, (t ++ ⟨#[44]⟩) ++ d, by omega, by go_num, rfl, by rw [ByteArray.size_append, ByteArray.size_append]; have : (⟨#[44]⟩ : ByteArray).size = 1 := rfl; omega, HN, HB2⟩
        case measure => simp [intOf]; omega
    · have hkn : k = n := by omega
      have HE := Lib.hid (show t = ⟨(Wd.txt zs).toArray⟩ by
        rw [HJ.out]
        unfold Wd.txt
        rw [if_neg (by intro hh; have := HL.out; rw [hh] at this; simp at this; omega), hkn, ← HL.out, Wd.jn_all])
      go_wp2
      go_ret
      exact ⟨ret_str HE.out, HB.out⟩
theorem sListText_any (A : Option Addr) (n c : Nat) (zs : List Int) (B : Nat) (w : World) (hn : n ≤ 1048576) (hB : B ≤ w.heap.size) (h : Rd w B A n zs) :
    Calls Tryd.prog 13 #[.slice A n c] w fun e w' => e = ltE zs ∧ Below w.heap.size w w' := by
  have C1 := Lib.hid (ltList_any A n c zs B w hn h)
  unfold ltE
  by_cases hok : Wd.lsOk zs
  · rw [if_pos hok]
    have C2 := Lib.hid (ltText_any A n c zs B w hB hok h)
    rw [decide_eq_true hok] at C1
    clear h hok
    go_enter Tryd.func13, Tryd.ntmps13
    go_wp2_with (first | (go_at_call 35; refine C1.out.mono ?_; rintro e w' ⟨rfl, rfl⟩) | (go_at_call 36; refine C2.out.mono ?_; rintro e w' ⟨rfl, hb⟩; have HB := Lib.hid hb; clear hb))
    go_ret2
    exact ⟨rfl, HB.out⟩
  · rw [if_neg hok]
    rw [decide_eq_false hok] at C1
    clear h hok
    go_enter Tryd.func13, Tryd.ntmps13
    go_wp2_with (first | (go_at_call 35; refine C1.out.mono ?_; rintro e w' ⟨rfl, rfl⟩))
    go_ret2
    exact ⟨rfl, Below.refl _ _⟩
theorem join_of {bk n : Nat} {zs : List Int} {w : World} (hn : n ≤ 70) (hl : zs.length = n) (hall : ∀ z ∈ zs, Wd.okV z) (hb : BlkT w bk (cllT (Wd.strs zs n n))) (h0 : 0 < n) :
    Calls Tryd.prog 37 #[.slice (some ⟨bk, 0, none⟩) n n, .string ⟨#[44]⟩] w fun e w' => e = .returned (.string ⟨(Wd.txt zs).toArray⟩) ∧ Below w.heap.size w w' := by
  have hx : (Wd.strs zs n n).map (·.data.toList) = zs.map Lib.itoa := by
    rw [Wd.strs_all hl, List.map_map]; rfl
  have hj : Lib.join ((Wd.strs zs n n).map (·.data.toList)) (⟨#[44]⟩ : ByteArray).data.toList = Wd.txt zs := by
    rw [hx]; unfold Wd.txt; rw [if_neg (by intro hh; rw [hh] at hl; simp at hl; omega)]
  have hlen : (Wd.txt zs).length ≤ 840 := by
    unfold Wd.txt; rw [if_neg (by intro hh; rw [hh] at hl; simp at hl; omega), ← Wd.jn_all]
    have := Wd.jn_len hall zs.length (Nat.le_refl _); omega
  have hc := Tryd.strings_Join bk 0 n (Wd.strs zs n n) ⟨#[44]⟩ w (fun j x hx => by rw [Nat.zero_add, hb.cell]; exact cllT_get x hx) hb.lt (by rw [Wd.strs_len hl (Nat.le_refl _)]; omega) (by rw [Wd.strs_len hl (Nat.le_refl _)]; omega) (by rw [hj]; omega)
  rw [Wd.strs_len hl (Nat.le_refl _), hj] at hc
  exact hc
/-- The code's loop: the block of texts, filled up to its round. -/
def FillT (zs : List Int) (n g : Nat) (w : World) (i : Value) (wr : World) : Prop :=
  ∃ k : Nat, k ≤ n ∧ i = .int .i64 k ∧ Hid (BlkT wr g (cllT (Wd.strs zs n k))) ∧ Hid (Below w.heap.size w wr) ∧ Hid (∀ z ∈ zs.take k, Wd.okV z)
set_option maxRecDepth 100000 in
theorem iListText_any (A : Option Addr) (n c : Nat) (zs : List Int) (B : Nat) (w : World) (hn : n ≤ 1048576) (hB : B ≤ w.heap.size) (hT : TabP w) (h : Rd w B A n zs) :
    Calls Tryd.prog 15 #[.slice A n c] w fun e w' => e = ltE zs ∧ Below w.heap.size w w' := by
  have hl := h.1
  have H := Lib.hid h; clear h
  have HL := Lib.hid hl; clear hl
  have HTT := Lib.hid hT; clear hT
  by_cases h70 : n ≤ 70
  rotate_left
  · have l1 : (70 : Int) < n := by omega
    have HE := Lib.hid (show ltE zs = .returned (.tuple #[.string ⟨#[]⟩, .bool false]) by unfold ltE; rw [if_neg]; intro hh; have := hh.1; have := HL.out; omega)
    clear h70
    go_enter Tryd.func15, Tryd.ntmps15
    go_wp2
    go_ret2
    exact ⟨HE.out.symm, Below.refl _ _⟩
  have l1 : ¬ (70 : Int) < n := by omega
  by_cases h0 : n = 0
  · subst h0
    have HE := Lib.hid (show ltE zs = .returned (.tuple #[.string ⟨#[110, 111, 110, 101]⟩, .bool true]) by
      obtain rfl := List.length_eq_zero_iff.1 HL.out
      rfl)
    go_enter Tryd.func15, Tryd.ntmps15
    go_wp2
    go_ret2
    exact ⟨HE.out.symm, Below.refl _ _⟩
  have l2 : ((n : Int) == 0) = false := by rw [beq_eq_false_iff_ne]; omega
  have hnp : 0 < n := by omega
  obtain ⟨i0, hi, hz0, hz1, hz2⟩ := info_partsV A_infoStr
  clear h0
  go_enter Tryd.func15, Tryd.ntmps15
  go_wp2_with (refine wpList_make_str _ rfl _ _ _ rfl i0 Tryd.underlying52 hi hz0 hz1 hz2 _ _ _ _ n rfl rfl rfl rfl (by omega) ?_)
  go_loopw [18] (fun i wr => FillT zs n w.heap.size w i wr) (fun i _ => n - (intOf i).toNat)
  case atStart =>
    exact ⟨0, Nat.zero_le _, rfl, Lib.hid (by rw [Wd.strs_zero]; exact BlkT.new _ _), Lib.hid ((Below.refl _ _).alloc (Nat.le_refl _) _), Lib.hid (fun z hz => by simp at hz)⟩
  case round =>
    obtain ⟨k, hk, rfl, HK, HB, HA⟩ := hrel
    by_cases hlt : k < n
    · obtain ⟨g, o, rfl, hg, hc⟩ := (H.out.belowB HB.out hB).at_ hlt
      obtain ⟨z, hz⟩ : ∃ z, z = zs.getD k 0 := ⟨_, rfl⟩
      rw [← hz] at hc
      by_cases hok : -1000000000 ≤ z ∧ z ≤ 1000000000
      · have HN := Lib.hid (Wd.all_take_ok (by rw [HL.out]; exact hlt) HA.out (by rw [← hz]; exact hok))
        have hset := Wd.strs_set HL.out hlt
        rw [← hz] at hset
        have hdec := fun (W : World) (hb : Below w.heap.size w W) => iDecimal_any z W (by omega) (by omega) (HTT.out.keep hb)
        obtain ⟨d, hd⟩ : ∃ d : ByteArray, d = decS z := ⟨_, rfl⟩
        rw [show (⟨(Lib.itoa z).toArray⟩ : ByteArray) = d from hd.symm] at hset
        rw [← hd] at hdec
        have HSET := Lib.hid hset
        have HDEC := Lib.hid hdec
        clear hset hdec hd hz
        go_wp2_with (first | (go_at_call 34; refine (isValue_yes _ _ hok.1 hok.2).mono ?_; rintro e w' ⟨rfl, rfl⟩) | (go_at_call 10; refine (HDEC.out _ HB.out).mono ?_; rintro e w2 ⟨rfl, hb⟩; have HK2 := Lib.hid (HK.out.keep hb); have HB2 := Lib.hid (HB.out.trans (hb.mono HB.out.size)); clear hb; have hf := HK2.out.frozen k; obtain ⟨v0, hv0⟩ : ∃ v, w2.cell? ⟨w.heap.size, k, none⟩ = some v := ⟨_, (HK2.out.cell k).trans (cllT_get _ (List.getElem?_eq_getElem (by rw [Wd.strs_len HL.out hk]; exact hlt)))⟩))
        have HK3 := Lib.hid (HK2.out.set_ k (.string d))
        rw [cllT_set, HSET.out] at HK3
        have HB3 := Lib.hid (HB2.out.setCell (p := ⟨w.heap.size, k, none⟩) (Nat.le_refl _) (.string d))
        go_roundw
        case rel => exact ⟨k + 1, by omega, by go_num, HK3, HB3, HN⟩
        case measure => simp [intOf]; omega
      · have HE := Lib.hid (show ltE zs = .returned (.tuple #[.string ⟨#[]⟩, .bool false]) by unfold ltE; rw [if_neg]; exact Wd.bad_at (by rw [HL.out]; exact hlt) (by rw [← hz]; exact hok))
        clear hz
        go_wp2_with (go_at_call 34; refine (isValue_no _ _ hok).mono ?_; rintro e w2 ⟨rfl, hb⟩; have HB2 := Lib.hid (HB.out.trans (hb.mono HB.out.size)); clear hb)
        go_ret2
        exact ⟨HE.out.symm, HB2.out⟩
    · have hkn : k = n := by omega
      have hall : ∀ z ∈ zs, Wd.okV z := by
        have := HA.out
        rwa [List.take_of_length_le (by rw [HL.out]; omega)] at this
      subst hkn
      have HC := Lib.hid (join_of h70 HL.out hall HK.out hnp)
      have HE := Lib.hid (show ltE zs = .returned (.tuple #[.string ⟨(Wd.txt zs).toArray⟩, .bool true]) by unfold ltE; rw [if_pos]; exact ⟨by rw [HL.out]; exact h70, hall⟩)
      clear hall
      go_wp2_with (go_at_call 37; refine HC.out.mono ?_; rintro e w2 ⟨rfl, hb⟩; have HB2 := Lib.hid (HB.out.trans (hb.mono HB.out.size)); clear hb)
      go_ret2
      exact ⟨HE.out.symm, HB2.out⟩
end Go.Proofs.YtancbcjeackmkaaDoor.Wds
