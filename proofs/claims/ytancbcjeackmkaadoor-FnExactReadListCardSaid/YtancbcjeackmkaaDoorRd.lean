/-
  ReadDecimal: what the model's and the code's function answer, and the law's walk.
-/
import Derived.Test.YtancbcjeackmkaaDoorSpec
import Derived.Test.YtancbcjeackmkaaDoorRdMath
import Derived.Test.YtancbcjeackmkaaDoorDecL
import Derived.Lib.AtoiErrMem
namespace Go.Proofs.YtancbcjeackmkaaDoor.Wds
open Go.RowKit Go.WideShapes
set_option linter.unusedVariables false

/-- What the library's two error values are. -/
def ErrP (name : String) (w : World) : Prop := ∃ (tp : TypeId) (p : Value), w.var? Tryd.prog name = some #[.iface tp p]
/-- The answer: a number and true, or 0 and false. -/
def rdE : Option Int → Ending
  | some v => .returned (.tuple #[.int .i64 v, .bool true])
  | none => .returned (.tuple #[.int .i64 0, .bool false])
theorem ba_ext {s : ByteArray} {l : List UInt8} : (s = ⟨l.toArray⟩) ↔ l = s.data.toList := by
  constructor
  · rintro rfl; simp
  · rintro rfl; cases s; simp
theorem var_below {w w' : World} {name : String} {g : Nat} (hg : Tryd.prog.globalNamed name = some g) (hlt : g < w.heap.size) (hb : Below w.heap.size w w') : w'.var? Tryd.prog name = w.var? Tryd.prog name := by
  unfold World.var?
  rw [hg]
  simp only [Option.bind_some]
  rw [hb.block _ hlt]
theorem ba_beq {t s : ByteArray} (h : ¬ t = s) : (t.toList == s.toList) = false := by
  rw [beq_eq_false_iff_ne, ByteArray.toList_eq, ByteArray.toList_eq]
  exact fun e => h (bytes_inj e)
set_option maxRecDepth 100000 in
theorem value_any (s : ByteArray) (w : World) (hm : s.size ≤ 1048576) :
    Calls Tryd.prog 32 #[.string s] w fun e w' => e = rdE (Wd.rdV s.data.toList) ∧ Below w.heap.size w w' := by
  have hlen : s.data.toList.length = s.size := by simp
  have HL := Lib.hid hlen; clear hlen
  by_cases h1 : 1 ≤ s.size
  rotate_left
  · have HV := Lib.hid (show Wd.rdV s.data.toList = none by unfold Wd.rdV; rw [if_neg]; have := HL.out; omega)
    have l1 : (s.size : Int) < 1 := by omega
    clear h1
    go_enter Tryd.func32, Tryd.ntmps32
    go_wp2
    go_ret2
    exact ⟨by rw [HV.out]; rfl, Below.refl _ _⟩
  by_cases h2 : s.size ≤ 11
  rotate_left
  · have HV := Lib.hid (show Wd.rdV s.data.toList = none by unfold Wd.rdV; rw [if_neg]; have := HL.out; omega)
    have l1 : ¬ (s.size : Int) < 1 := by omega
    have l2 : (11 : Int) < s.size := by omega
    clear h1 h2
    go_enter Tryd.func32, Tryd.ntmps32
    go_wp2
    go_ret2
    exact ⟨by rw [HV.out]; rfl, Below.refl _ _⟩
  have l1 : ¬ (s.size : Int) < 1 := by omega
  have l2 : ¬ (11 : Int) < s.size := by omega
  have h0s : 0 < s.size := h1
  go_enter Tryd.func32, Tryd.ntmps32
  go_wp2
  go_loop [4, 5] (fun a i => ∃ (k c : Nat), k ≤ s.size ∧ i = .int .i64 k ∧ a = .int .i64 c ∧ c ≤ 99999999999 ∧ Hid (c = Wd.rdN 0 (s.data.toList.take k))) (fun _ i => s.size - (intOf i).toNat)
  case atStart => exact ⟨0, 0, Nat.zero_le _, rfl, rfl, by omega, Lib.hid rfl⟩
  case round =>
    obtain ⟨k, c, hk, rfl, rfl, hc, HC⟩ := hrel
    by_cases hp : k < s.size
    · have hlp : k < s.data.toList.length := by rw [HL.out]; exact hp
      have hb : (s[k]'hp).toNat < 256 := (s[k]'hp).toNat_lt
      have HN := Lib.hid (Wd.rdN_succ hlp)
      have HB := Lib.hid (show c < 10 ^ k by
        have e := Wd.rdN_lt (s.data.toList.take k)
        rw [← HC.out, List.length_take, Nat.min_eq_left (by omega)] at e; exact e)
      have HB2 := Lib.hid (show c < 10000000000 by
        have e := HB.out
        have : (10 : Nat) ^ k ≤ 10 ^ 10 := Nat.pow_le_pow_right (by decide) (by omega)
        have e2 : (10 : Nat) ^ 10 = 10000000000 := by decide
        omega)
      have hc2 : c < 10000000000 := HB2.out
      by_cases hlo : 48 ≤ ((s[k]'hp).toNat : Int)
      · by_cases hhi : ((s[k]'hp).toNat : Int) ≤ 57
        · have HS := Lib.hid (show Wd.rdStep c (s[k]'hp) = 10 * c + ((s[k]'hp).toNat - 48) by unfold Wd.rdStep; rw [if_pos (by omega)])
          go_wp2
          go_round
          case rel => exact ⟨k + 1, 10 * c + ((s[k]'hp).toNat - 48), hp, by go_num, by go_num, by omega, Lib.hid (by rw [HN.out, ← HC.out]; exact HS.out.symm)⟩
          case measure => simp [intOf]; omega
        · have HS := Lib.hid (show Wd.rdStep c (s[k]'hp) = c by unfold Wd.rdStep; rw [if_neg (by omega)])
          go_wp2
          go_round
          case rel => exact ⟨k + 1, c, hp, by go_num, rfl, by omega, Lib.hid (by rw [HN.out, ← HC.out]; exact HS.out.symm)⟩
          case measure => simp [intOf]; omega
      · have HS := Lib.hid (show Wd.rdStep c (s[k]'hp) = c by unfold Wd.rdStep; rw [if_neg (by omega)])
        go_wp2
        go_round
        case rel => exact ⟨k + 1, c, hp, by go_num, rfl, by omega, Lib.hid (by rw [HN.out, ← HC.out]; exact HS.out.symm)⟩
        case measure => simp [intOf]; omega
    · have hks : k = s.size := by omega
      have HC2 := Lib.hid (show c = Wd.rdN 0 s.data.toList by rw [HC.out, hks, ← HL.out, List.take_length]); clear HC
      have hne : s.data.toList ≠ [] := by intro h; have := HL.out; rw [h] at this; simp at this; omega
      have hhd : s.data.toList.head? = some (s[0]'h0s) := by
        cases hq : s.data.toList with
        | nil => exact absurd hq hne
        | cons x r =>
          have := byte_at s 0 h0s
          rw [hq] at this
          exact this
      obtain ⟨v, hv⟩ : ∃ v : Int, v = Wd.rdW s.data.toList := ⟨_, rfl⟩
      have hvv : v = if s[0]'h0s = 45 then -(c : Int) else (c : Int) := by
        rw [hv]; unfold Wd.rdW; rw [hhd, HC2.out]; simp
      have hrv : Wd.rdV s.data.toList = if ((-1000000000 ≤ v ∧ v ≤ 1000000000) ∧ Lib.itoa v = s.data.toList) then some v else none := by
        unfold Wd.rdV
        rw [← hv, ← HC2.out, HL.out]
        by_cases hi : Lib.itoa v = s.data.toList
        · by_cases hcb : c ≤ 1000000000
          · rw [if_pos ⟨h1, h2, hcb, hi⟩, if_pos ⟨by rw [hvv]; split <;> omega, hi⟩]
          · rw [if_neg (fun h => hcb h.2.2.1), if_neg (fun h => hcb (by have := h.1; rw [hvv] at this; split at this <;> omega))]
        · rw [if_neg (fun h => hi h.2.2.2), if_neg (fun h => hi h.2)]
      have HRV := Lib.hid hrv; clear hrv
      obtain ⟨t, ht⟩ : ∃ t : ByteArray, t = ⟨(Lib.itoa v).toArray⟩ := ⟨_, rfl⟩
      have hti : t = s ↔ Lib.itoa v = s.data.toList := by
        rw [ht, ← ba_ext]; exact eq_comm
      have HTI := Lib.hid hti; clear hti
      have c1 := fun (W : World) => dec_any v W (by rw [hvv]; split <;> omega) (by rw [hvv]; split <;> omega)
      rw [← ht] at c1
      have C1 := Lib.hid c1; clear c1 ht hv
      have h45 : (s[0]'h0s = 45) ↔ ((s[0]'h0s).toNat : Int) = 45 := by
        constructor
        · intro h; rw [h]; rfl
        · intro h; apply UInt8.toNat_inj.1; show (s[0]'h0s).toNat = 45; omega
      have hb0 : (s[0]'h0s).toNat < 256 := (s[0]'h0s).toNat_lt
      clear hhd hne HC2 HL
      by_cases hneg : ((s[0]'h0s).toNat : Int) = 45
      · rw [if_pos (h45.2 hneg)] at hvv
        clear h45
        subst hvv
        by_cases hin : -1000000000 ≤ -(c : Int) ∧ -(c : Int) ≤ 1000000000
        · by_cases hts : t = s
          · have HE := Lib.hid (show Wd.rdV s.data.toList = some (-(c : Int)) by rw [HRV.out, if_pos ⟨hin, HTI.out.1 hts⟩])
            clear HRV HTI
            subst hts
            go_wp2_with (first | (go_at_call 51; refine (in_yes _ _ _ _ hin).mono ?_; rintro e w' ⟨rfl, rfl⟩) | (go_at_call 30; refine (C1.out _).mono ?_; rintro e w' ⟨rfl, hb⟩))
            go_ret2
            exact ⟨by rw [HE.out]; rfl, hb⟩
          · have hbq := ba_beq hts
            have HE := Lib.hid (show Wd.rdV s.data.toList = none by rw [HRV.out, if_neg (fun h => hts (HTI.out.2 h.2))])
            clear HRV HTI
            go_wp2_with (first | (go_at_call 51; refine (in_yes _ _ _ _ hin).mono ?_; rintro e w' ⟨rfl, rfl⟩) | (go_at_call 30; refine (C1.out _).mono ?_; rintro e w' ⟨rfl, hb⟩))
            go_ret2
            exact ⟨by rw [HE.out]; rfl, hb⟩
        · have HE := Lib.hid (show Wd.rdV s.data.toList = none by rw [HRV.out, if_neg (fun h => hin h.1)])
          clear HRV HTI
          go_wp2_with (first | (go_at_call 51; refine (in_no _ _ _ _ hin).mono ?_; rintro e w' ⟨rfl, rfl⟩))
          go_ret2
          exact ⟨by rw [HE.out]; rfl, Below.refl _ _⟩
      · rw [if_neg (fun h => hneg (h45.1 h))] at hvv
        clear h45
        subst hvv
        by_cases hin : -1000000000 ≤ (c : Int) ∧ (c : Int) ≤ 1000000000
        · by_cases hts : t = s
          · have HE := Lib.hid (show Wd.rdV s.data.toList = some ((c : Int)) by rw [HRV.out, if_pos ⟨hin, HTI.out.1 hts⟩])
            clear HRV HTI
            subst hts
            go_wp2_with (first | (go_at_call 51; refine (in_yes _ _ _ _ hin).mono ?_; rintro e w' ⟨rfl, rfl⟩) | (go_at_call 30; refine (C1.out _).mono ?_; rintro e w' ⟨rfl, hb⟩))
            go_ret2
            exact ⟨by rw [HE.out]; rfl, hb⟩
          · have hbq := ba_beq hts
            have HE := Lib.hid (show Wd.rdV s.data.toList = none by rw [HRV.out, if_neg (fun h => hts (HTI.out.2 h.2))])
            clear HRV HTI
            go_wp2_with (first | (go_at_call 51; refine (in_yes _ _ _ _ hin).mono ?_; rintro e w' ⟨rfl, rfl⟩) | (go_at_call 30; refine (C1.out _).mono ?_; rintro e w' ⟨rfl, hb⟩))
            go_ret2
            exact ⟨by rw [HE.out]; rfl, hb⟩
        · have HE := Lib.hid (show Wd.rdV s.data.toList = none by rw [HRV.out, if_neg (fun h => hin h.1)])
          clear HRV HTI
          go_wp2_with (first | (go_at_call 51; refine (in_no _ _ _ _ hin).mono ?_; rintro e w' ⟨rfl, rfl⟩))
          go_ret2
          exact ⟨by rw [HE.out]; rfl, Below.refl _ _⟩
theorem sReadDecimal_any (s : ByteArray) (w : World) (hm : s.size ≤ 1048576) :
    Calls Tryd.prog 11 #[.string s] w fun e w' => e = rdE (Wd.rdV s.data.toList) ∧ Below w.heap.size w w' := by
  have c := value_any s w hm
  revert c
  cases Wd.rdV s.data.toList with
  | none =>
    intro c
    have C := Lib.hid c; clear c
    go_enter Tryd.func11, Tryd.ntmps11
    go_wp2_with (go_at_call 32; refine C.out.mono ?_; rintro e w' ⟨rfl, hb⟩; unfold rdE)
    go_ret2
    exact ⟨rfl, hb⟩
  | some v =>
    intro c
    have C := Lib.hid c; clear c
    go_enter Tryd.func11, Tryd.ntmps11
    go_wp2_with (go_at_call 32; refine C.out.mono ?_; rintro e w' ⟨rfl, hb⟩; unfold rdE)
    go_ret2
    exact ⟨rfl, hb⟩
theorem parse_ok (s : ByteArray) (w : World) (n : Int) (hm : s.size ≤ 1048576) (h : Lib.parseIntB 64 s.data.toList = .ok n) :
    Calls Tryd.prog 33 #[.string s, .int .i64 10, .int .i64 64] w fun e w' => e = .returned (.tuple #[.int .i64 n, .nilIface]) ∧ Below w.heap.size w w' := by
  refine (Tryd.strconv_ParseInt_10_at64_ok s (by omega) n h w).mono ?_
  rintro e w' ⟨rfl, hw⟩
  refine ⟨rfl, ?_⟩
  rcases hw with rfl | ⟨t, rfl⟩
  · exact Below.refl _ _
  · exact Lib.bytesWorld_below _ _ _
theorem parse_bad (s : ByteArray) (w : World) (hm : s.size ≤ 1048576) (h : ∀ n, Lib.parseIntB 64 s.data.toList ≠ .ok n) (hS : ErrP "strconv.ErrSyntax" w) (hR : ErrP "strconv.ErrRange" w) :
    Calls Tryd.prog 33 #[.string s, .int .i64 10, .int .i64 64] w fun e w' => ∃ (n : Int) (T : TypeId) (N : Nat), e = .returned (.tuple #[.int .i64 n, .iface T (.pointer (some ⟨N, 0, none⟩))]) ∧ Below w.heap.size w w' := by
  rcases hp : Lib.parseIntB 64 s.data.toList with n | _ | _
  · exact absurd hp (h n)
  · obtain ⟨tp, p, hv⟩ := hS
    refine (Tryd.strconv_ParseInt_10_at64_syntax_var s (by omega) hp tp p w hv).mono ?_
    rintro e w' ⟨N, rfl, _, _, hb⟩
    exact ⟨_, _, N, rfl, hb⟩
  · obtain ⟨tp, p, hv⟩ := hR
    refine (Tryd.strconv_ParseInt_10_at64_range_var s (by omega) hp tp p w hv).mono ?_
    rintro e w' ⟨N, rfl, _, _, hb⟩
    exact ⟨_, _, N, rfl, hb⟩
set_option maxRecDepth 100000 in
theorem iReadDecimal_any (s : ByteArray) (w : World) (hm : s.size ≤ 1048576) (hT : TabP w) (hS : ErrP "strconv.ErrSyntax" w) (hR : ErrP "strconv.ErrRange" w) :
    Calls Tryd.prog 12 #[.string s] w fun e w' => e = rdE (Wd.rdV s.data.toList) ∧ Below w.heap.size w w' := by
  by_cases hok : ∃ n, Lib.parseIntB 64 s.data.toList = .ok n
  · obtain ⟨n, hn⟩ := hok
    have HRV := Lib.hid (Wd.rd_ok hn)
    have C := Lib.hid (parse_ok s w n hm hn)
    have HT := Lib.hid hT
    clear hn hT hS hR
    by_cases hin : -1000000000 ≤ n ∧ n ≤ 1000000000
    · obtain ⟨t, ht⟩ : ∃ t : ByteArray, t = decS n := ⟨_, rfl⟩
      have hti : t = s ↔ Lib.itoa n = s.data.toList := by
        rw [ht]; unfold decS; rw [← ba_ext]; exact eq_comm
      have c2 := fun (W : World) (hb : Below w.heap.size w W) => iDecimal_any n W (by omega) (by omega) (HT.out.keep hb)
      rw [← ht] at c2
      have C2 := Lib.hid c2
      clear c2 ht HT
      by_cases hts : t = s
      · have HE := Lib.hid (show Wd.rdV s.data.toList = some n by rw [HRV.out, if_pos ⟨hin, hti.1 hts⟩])
        clear HRV hti
        subst hts
        have hin' := hin
        obtain ⟨hi0, hi1⟩ := hin
        go_enter Tryd.func12, Tryd.ntmps12
        go_wp2_with (first | (go_at_call 33; refine C.out.mono ?_; rintro e w' ⟨rfl, hb⟩; have HB := Lib.hid hb; clear hb) | (go_at_call 34; refine (isValue_yes _ _ hin'.1 hin'.2).mono ?_; rintro e w' ⟨rfl, rfl⟩) | (go_at_call 10; refine (C2.out _ HB.out).mono ?_; rintro e w' ⟨rfl, hb2⟩; have HB2 := Lib.hid (HB.out.trans (hb2.mono HB.out.size)); clear hb2))
        go_ret2
        exact ⟨by rw [HE.out]; rfl, HB2.out⟩
      · have HE := Lib.hid (show Wd.rdV s.data.toList = none by rw [HRV.out, if_neg (fun h => hts (hti.2 h.2))])
        have hbq := ba_beq hts
        clear HRV hti
        have hin' := hin
        obtain ⟨hi0, hi1⟩ := hin
        go_enter Tryd.func12, Tryd.ntmps12
        go_wp2_with (first | (go_at_call 33; refine C.out.mono ?_; rintro e w' ⟨rfl, hb⟩; have HB := Lib.hid hb; clear hb) | (go_at_call 34; refine (isValue_yes _ _ hin'.1 hin'.2).mono ?_; rintro e w' ⟨rfl, rfl⟩) | (go_at_call 10; refine (C2.out _ HB.out).mono ?_; rintro e w' ⟨rfl, hb2⟩; have HB2 := Lib.hid (HB.out.trans (hb2.mono HB.out.size)); clear hb2))
        go_ret2
        exact ⟨by rw [HE.out]; rfl, HB2.out⟩
    · have HE := Lib.hid (show Wd.rdV s.data.toList = none by rw [HRV.out, if_neg (fun h => hin h.1)])
      clear HRV HT
      go_enter Tryd.func12, Tryd.ntmps12
      go_wp2_with (first | (go_at_call 33; refine C.out.mono ?_; rintro e w' ⟨rfl, hb⟩; have HB := Lib.hid hb; clear hb) | (go_at_call 34; refine (isValue_no _ _ hin).mono ?_; rintro e w' ⟨rfl, hb2⟩; have HB2 := Lib.hid (HB.out.trans (hb2.mono HB.out.size)); clear hb2))
      go_ret2
      exact ⟨by rw [HE.out]; rfl, HB2.out⟩
  · have hno : ∀ n, Lib.parseIntB 64 s.data.toList ≠ .ok n := fun n h => hok ⟨n, h⟩
    have HE := Lib.hid (Wd.rd_bad hno)
    have C := Lib.hid (parse_bad s w hm hno hS hR)
    clear hno hok hT hS hR
    go_enter Tryd.func12, Tryd.ntmps12
    go_wp2_with (first | (go_at_call 33; refine C.out.mono ?_; rintro e w' ⟨n, T, N, rfl, hb⟩; have HB := Lib.hid hb; clear hb))
    go_ret2
    exact ⟨by rw [HE.out]; rfl, HB.out⟩
theorem errP_below {w w' : World} {name : String} (h : ErrP name w) (hg : (∃ g, Tryd.prog.globalNamed name = some g)) (hb : Below w.heap.size w w') : ErrP name w' := by
  obtain ⟨g, hg⟩ := hg
  obtain ⟨tp, p, hv⟩ := h
  refine ⟨tp, p, ?_⟩
  rw [var_below hg _ hb, hv]
  unfold World.var? at hv
  rw [hg] at hv
  simp only [Option.bind_some] at hv
  rcases Nat.lt_or_ge g w.heap.size with h | h
  · exact h
  · rw [Array.getElem?_eq_none h] at hv; cases hv
theorem law_readDecimal (s : ByteArray) (w : World) (hs : s.size ≤ maxLen) (hS : ErrP "strconv.ErrSyntax" w) (hR : ErrP "strconv.ErrRange" w) (h32 h64 : True) (hT : TabP w) :
    Calls Tryd.prog 4 #[.string s] w fun e w' => e = .returned (.bool true) ∧ Below w.heap.size w w' := by
  unfold maxLen at hs
  by_cases hbig : (1048576 : Int) < s.size
  · go_enter Tryd.func4, Tryd.ntmps4
    go_wp2
    go_ret
    exact ⟨rfl, Below.refl _ _⟩
  have hm : s.size ≤ 1048576 := by omega
  have c1 := sReadDecimal_any s w hm
  have c2 := fun (W : World) (hb : Below w.heap.size w W) => iReadDecimal_any s W hm (hT.keep hb) (errP_below hS ⟨_, (by kernel_rfl : Tryd.prog.globalNamed "strconv.ErrSyntax" = some 2)⟩ hb) (errP_below hR ⟨_, (by kernel_rfl : Tryd.prog.globalNamed "strconv.ErrRange" = some 3)⟩ hb)
  revert c1 c2
  clear hT hS hR h32 h64
  cases Wd.rdV s.data.toList with
  | none =>
    intro c1 c2
    have C1 := Lib.hid c1; have C2 := Lib.hid c2; clear c1 c2
    go_enter Tryd.func4, Tryd.ntmps4
    go_wp2_with (first | (go_at_call 11; refine C1.out.mono ?_; rintro e w' ⟨rfl, hb⟩; unfold rdE; have HB := Lib.hid hb; clear hb) | (go_at_call 12; refine (C2.out _ HB.out).mono ?_; rintro e w' ⟨rfl, hb2⟩; unfold rdE; have HB2 := Lib.hid (HB.out.trans (hb2.mono HB.out.size)); clear hb2))
    go_ret
    exact ⟨rfl, HB2.out⟩
  | some v =>
    intro c1 c2
    have C1 := Lib.hid c1; have C2 := Lib.hid c2; clear c1 c2
    go_enter Tryd.func4, Tryd.ntmps4
    go_wp2_with (first | (go_at_call 11; refine C1.out.mono ?_; rintro e w' ⟨rfl, hb⟩; unfold rdE; have HB := Lib.hid hb; clear hb) | (go_at_call 12; refine (C2.out _ HB.out).mono ?_; rintro e w' ⟨rfl, hb2⟩; unfold rdE; have HB2 := Lib.hid (HB.out.trans (hb2.mono HB.out.size)); clear hb2))
    go_ret
    exact ⟨rfl, HB2.out⟩
end Go.Proofs.YtancbcjeackmkaaDoor.Wds
