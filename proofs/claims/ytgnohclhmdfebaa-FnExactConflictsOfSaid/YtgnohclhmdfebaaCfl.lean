/-
  Conflicts: the code's and the model's function; one contract each.
-/
import Derived.Test.YtgnohclhmdfebaaVecW
import Derived.Test.YtgnohclhmdfebaaCpy
import Derived.Test.YtgnohclhmdfebaaLan4
namespace Go.Proofs.Ytgnohclhmdfebaa.Wds
open Go.RowKit
set_option linter.unusedVariables false

theorem w64 (q : Nat) (s : Int) (hq : q < 16) (s0 : 0 ≤ s) (s1 : s < 65536) : wrap64 (s + wrap64 (2 ^ q)) = s + 2 ^ q := by
  have hp := Ln.pow_le16 hq
  obtain ⟨p, hpp⟩ : ∃ p : Int, p = 2 ^ q := ⟨_, rfl⟩
  rw [← hpp] at hp ⊢
  obtain ⟨p0, p1⟩ := hp
  have e1 : wrap64 p = p := by unfold wrap64; omega
  rw [e1]
  unfold wrap64; omega
theorem w64' (q : Nat) (hq : q < 16) : wrap64 (2 ^ q) = 2 ^ q := by
  have hp := Ln.pow_le16 hq
  obtain ⟨p, hpp⟩ : ∃ p : Int, p = 2 ^ q := ⟨_, rfl⟩
  rw [← hpp] at hp ⊢
  obtain ⟨p0, p1⟩ := hp
  unfold wrap64; omega
theorem Ret1.of_rowB2 {w w' : World} {B : Nat} {v : Value} {n : Nat} {zs : List Int} (h : w'.ownsRow B 2 1 v n (zs.map (Value.int .i64))) (hB : w.heap.size ≤ B) (hn : n ≤ 1048576) (hb : Below w.heap.size w w') : Ret1 zs true w (.returned (.tuple #[v, .bool true])) w' := by
  obtain ⟨A, c, rfl, hc, ho⟩ := own_form h
  exact ⟨A, n, c, rfl, ho.more hB (Nat.le_refl _), hn, hb⟩
theorem ownsD' {w : World} {B : Nat} {e : TypeId} {s : Nat} {v : Value} {n : Nat} {xs : List Value} (h : w.ownsRow B e s v n xs) (k : Nat) : (w.drewN k).ownsRow B e s v n xs := h
set_option maxHeartbeats 1000000 in
theorem sCfl_yes (A : Option Addr) (n c : Nat) (zs : List Int) (B : Nat) (w : World) (hn : n ≤ 16) (h : Rd w B A n zs) (hv : Ln.vec 16 zs = true) :
    Calls Try.prog 17 #[.slice A n c] w (Ret1 (Ln.tab (Ln.cf zs) n) true w) := by
  obtain ⟨i0, hi, hz0, hz1, hz2⟩ := info_parts A_info64
  have k1 := sIs_any 16 A n c zs B w (by omega) h
  rw [hv] at k1
  have C1 := Lib.hid k1
  have H := Lib.hid h
  clear h k1 hv
  go_enter Try.func17, Try.ntmps17
  go_wp2_with fail
  refine C1.out.mono ?_
  rintro e w1 ⟨rfl, hb⟩
  have HB1 := Lib.hid hb; clear hb
  have HS1 := Lib.hid HB1.out.size
  go_wp2_with fail
  go_loopw [4, 5] (fun v i wr => ∃ k : Nat, k ≤ n ∧ i = .int .i64 k ∧ wr.ownsRow w1.heap.size 2 1 v k ((Ln.tab (Ln.cf zs) k).map (Value.int .i64)) ∧ Below w.heap.size w wr ∧ w1.heap.size ≤ wr.heap.size) (fun _ i _ => n - (intOf i).toNat)
  case atStart => exact ⟨0, Nat.zero_le _, rfl, owns_new w1, HB1.out.alloc HS1.out _, by simp⟩
  case round =>
    obtain ⟨k, hk, rfl, hown, hb, hsz⟩ := hrel
    have HO := Lib.hid hown
    have HB := Lib.hid hb; clear hown hb
    by_cases hlt : k < n
    · obtain ⟨g, o, rfl, hg, hc⟩ := H.out.at_ hlt
      go_wp2
      go_loopw [6, 7] (fun s j w2 => ∃ q : Nat, q ≤ k ∧ j = .int .i64 q ∧ s = .int .i64 (Ln.cfK zs (zs.getD k 0) q) ∧ ∃ d, w2 = wr.drewN d) (fun _ j _ => k - (intOf j).toNat)
      case atStart => exact ⟨0, Nat.zero_le _, rfl, rfl, 0, rfl⟩
      case round =>
        obtain ⟨q, hq, rfl, rfl, d, rfl⟩ := hrel
        by_cases hqk : q < k
        · obtain ⟨g', o', e', _, hcq⟩ := H.out.at_ (k := q) (by omega)
          injection e' with e'
          injection e' with e1 e2
          subst e1; subst e2
          have hd := (HB.out.cell (p := ⟨g, o + k, none⟩) (World.block_lt_of_cell? w _ hc)).trans hc
          have hdq := (HB.out.cell (p := ⟨g, o + q, none⟩) (World.block_lt_of_cell? w _ hcq)).trans hcq
          have hbd := Ln.cfK_bd zs (zs.getD k 0) q
          have hp := Ln.pow_le16 (k := q) (by omega)
          obtain ⟨x, hx⟩ : ∃ z, z = zs.getD k 0 := ⟨_, rfl⟩
          obtain ⟨y, hy⟩ : ∃ z, z = zs.getD q 0 := ⟨_, rfl⟩
          rw [← hx] at hd hbd
          rw [← hy] at hdq
          obtain ⟨s, hs⟩ : ∃ s, s = Ln.cfK zs x q := ⟨_, rfl⟩
          rw [← hs] at hbd
          rw [← hx, ← hs]
          have HX := Lib.hid (And.intro hx (And.intro hy hs))
          have i1 : (0 : Int) ≤ (k : Int) := by omega
          have i2 : (k : Int) < (n : Int) := by omega
          have i3 : (0 : Int) ≤ (q : Int) := by omega
          have i4 : (q : Int) < (n : Int) := by omega
          have s0 := hbd.1
          have s1 : s < 65536 := by omega
          clear hx hy hs hc hcq hbd hp
          by_cases hxy : y = x
          · subst hxy
            go_wp2
            go_quiet (fail)
            go_wp2
            go_roundw
            case rel =>
              obtain ⟨a, b, c⟩ := HX.out
              refine ⟨q + 1, by omega, by go_num, ?_, _, rfl⟩
              rw [a, Ln.cfK_yes (b.symm.trans a), ← a, ← c, w64 q s (by omega) s0 s1]
            case measure => simp [intOf]; omega
          · have e1 : (y == x) = false := by rw [beq_eq_false_iff_ne]; exact hxy
            have e2 : (x == y) = false := by rw [beq_eq_false_iff_ne]; exact fun h => hxy h.symm
            have HNE := Lib.hid hxy
            clear hxy
            go_wp2
            go_quiet (fail)
            go_wp2
            go_roundw
            case rel =>
              obtain ⟨a, b, c⟩ := HX.out
              refine ⟨q + 1, by omega, by go_num, ?_, _, rfl⟩
              rw [Ln.cfK_no (by rw [← b]; exact HNE.out), ← c]
            case measure => simp [intOf]; omega
        · have hqq : q = k := by omega
          have HQ := Lib.hid hqq
          have hbd := Ln.cfK_bd zs (zs.getD k 0) q
          have hp := Ln.pow_le16 (k := q) (by omega)
          obtain ⟨s, hs⟩ : ∃ s, s = Ln.cfK zs (zs.getD k 0) q := ⟨_, rfl⟩
          rw [← hs]
          have HSS := Lib.hid hs
          clear hs hbd hp hqq
          have HOD := Lib.hid (ownsD' HO.out d)
          go_wp2_with (at_builtin; refine wpList_push _ rfl _ _ rfl i0 Try.underlying22 hi hz0 hz1 hz2 _ _ _ _ _ rfl HOD.out rfl (by omega) hsz ?_; intro v' w3 hown1 hb1; have HO1 := Lib.hid hown1; have HBB := Lib.hid hb1; clear hown1 hb1)
          go_roundw
          case rel =>
            refine ⟨k + 1, by omega, by go_num, ?_, (below_drewN HB.out d).trans (HBB.out.mono HS1.out), Nat.le_trans hsz HBB.out.size⟩
            have := HO1.out
            rw [HSS.out, HQ.out] at this
            rw [Ln.tab_succ]
            exact this
          case measure => simp [intOf]; omega
    · have hkn : k = n := by omega
      have HN := Lib.hid hkn; clear hkn
      go_wp2
      go_ret2
      have := HN.out
      subst this
      exact Ret1.of_rowB2 HO.out HS1.out (by omega) HB.out
theorem sConflictsOf_any (A : Option Addr) (n c : Nat) (zs : List Int) (B : Nat) (w : World) (hn : n ≤ 1048576) (h : Rd w B A n zs) :
    Calls Try.prog 17 #[.slice A n c] w (Ret1 (Ln.conflicts zs).1 (Ln.conflicts zs).2 w) := by
  unfold Ln.conflicts
  by_cases hv : Ln.vec 16 zs = true
  · rw [hv, h.len]
    exact sCfl_yes A n c zs B w (by have := Ln.vec_len hv; rw [h.len] at this; omega) h hv
  · have hv' : Ln.vec 16 zs = false := by simpa using hv
    have k1 := sIs_any 16 A n c zs B w hn h
    rw [hv'] at k1
    rw [hv']
    have C1 := Lib.hid k1
    clear k1 h hv hv'
    go_enter Try.func17, Try.ntmps17
    go_wp2_with fail
    refine C1.out.mono ?_
    rintro e w1 ⟨rfl, hb⟩
    have HB := Lib.hid hb; clear hb
    go_wp2_with fail
    go_ret2
    exact Ret1.no HB.out
theorem or_pow (q : Nat) (s : Int) (hq : q < 16) (s0 : 0 ≤ s) (s1 : s < 2 ^ q) : bits .or .i64 s (2 ^ q) = s + 2 ^ q := by
  have hp := Ln.pow_le16 hq
  have h3 := (Bts.three_i64 s (2 ^ q) s0 (by omega) (by omega) (by omega))
  obtain ⟨a, rfl⟩ := Int.eq_ofNat_of_zero_le s0
  have e2 : (2 : Int) ^ q = ((2 ^ q : Nat) : Int) := by rw [Int.natCast_pow]; rfl
  have hlt : a < 2 ^ q := by rw [e2] at s1; omega
  have hor : 2 ^ q + a = 2 ^ q ||| a := by have := Nat.two_pow_add_eq_or_of_lt hlt 1; simpa using this
  rw [h3.2.1, e2, Int.toNat_natCast, Int.toNat_natCast, Nat.or_comm, ← hor]
  omega
theorem set_zero (f : Nat → Int) (n k : Nat) (h : k < n) : (Ln.fill f n k).set k 0 = Ln.fill f n k := by
  unfold Ln.fill
  rw [List.set_append_right _ _ (by simp [Ln.tab]), Ln.tab_len, Nat.sub_self]
  obtain ⟨m, hm⟩ : ∃ m, n - k = m + 1 := ⟨n - k - 1, by omega⟩
  rw [hm, List.replicate_succ, List.set_cons_zero]
set_option maxHeartbeats 1000000 in
theorem iCfl_yes (A : Option Addr) (n c : Nat) (zs : List Int) (B : Nat) (w : World) (hn : n ≤ 16) (hc : n ≤ c) (h : Rd w B A n zs) (hv : Ln.vec 16 zs = true) :
    Calls Try.prog 18 #[.slice A n c] w (Ret1 (Ln.tab (Ln.cf zs) n) true w) := by
  obtain ⟨i0, hi, hz0, hz1, hz2⟩ := info_parts A_info64
  have k1 := isVec_any 16 A n c zs B w (by omega) h
  rw [hv] at k1
  have C1 := Lib.hid k1
  have H := Lib.hid h
  clear h k1 hv
  go_enter Try.func18, Try.ntmps18
  go_wp2_with fail
  refine C1.out.mono ?_
  rintro e w1 ⟨rfl, hb⟩
  have HB1 := Lib.hid hb; clear hb
  have HS1 := Lib.hid HB1.out.size
  go_wp2_with (refine wpList_make_blk _ rfl _ _ _ rfl i0 Try.underlying22 hi hz0 hz1 hz2 _ _ _ _ n rfl rfl rfl rfl (by omega) ?_)
  go_loopw [17] (fun i wr => Fills (Ln.cf zs) n w1.heap.size w i wr) (fun i _ => n - (intOf i).toNat)
  case atStart =>
    exact ⟨0, Nat.zero_le _, rfl, by rw [Ln.fill_zero, ← clls_zero]; exact Blk.new _ _, HB1.out.alloc HS1.out _⟩
  case round =>
    obtain ⟨k, hk, rfl, hblk, hb⟩ := hrel
    have HK := Lib.hid hblk
    have HB := Lib.hid hb
    clear hblk hb
    by_cases hlt : k < n
    · obtain ⟨g, o, rfl, hg, hc0⟩ := H.out.at_ hlt
      have hd0 := (HB.out.cell (p := ⟨g, o + k, none⟩) (World.block_lt_of_cell? w _ hc0)).trans hc0
      obtain ⟨x, hx⟩ : ∃ z, z = zs.getD k 0 := ⟨_, rfl⟩
      rw [← hx] at hd0
      have HX := Lib.hid hx
      clear hx hc0
      have j1 : (k : Int) ≤ (c : Int) := by omega
      have j2 : (0 : Int) ≤ (k : Int) := by omega
      go_wp2
      go_loopw [26] (fun j w2 => ∃ q : Nat, q ≤ k ∧ j = .int .i64 q ∧ Blk w2 w1.heap.size (clls ((Ln.fill (Ln.cf zs) n k).set k (Ln.cfK zs x q))) ∧ Below w.heap.size w w2) (fun j _ => k - (intOf j).toNat)
      case atStart => exact ⟨0, Nat.zero_le _, rfl, by rw [show Ln.cfK zs x 0 = 0 from rfl, set_zero _ _ _ hlt]; exact HK.out, HB.out⟩
      case round =>
        rename_i w2
        obtain ⟨q, hq, rfl, hbq, hb2⟩ := hrel
        by_cases hqk : q < k
        · obtain ⟨g', o', e', _, hcq⟩ := H.out.at_ (k := q) (by omega)
          injection e' with e'
          injection e' with e1 e2
          subst e1; subst e2
          have hdq := (hb2.cell (p := ⟨g, o + q, none⟩) (World.block_lt_of_cell? w _ hcq)).trans hcq
          have hbd := Ln.cfK_bd zs x q
          have hp := Ln.pow_le16 (k := q) (by omega)
          obtain ⟨y, hy⟩ : ∃ z, z = zs.getD q 0 := ⟨_, rfl⟩
          rw [← hy] at hdq
          have hlen : ((Ln.fill (Ln.cf zs) n k).set k (Ln.cfK zs x q)).length = n := by rw [List.length_set, Ln.fill_len _ _ _ hk]
          have hget : ((Ln.fill (Ln.cf zs) n k).set k (Ln.cfK zs x q)).getD k 0 = Ln.cfK zs x q := by
            rw [List.getD_eq_getElem?_getD, List.getElem?_set_self (by rw [Ln.fill_len _ _ _ hk]; exact hlt)]; rfl
          have hck := (hbq.cell k).trans (clls_get (by rw [hlen]; exact hlt))
          rw [hget] at hck
          have hf := hbq.frozen k
          have HST := Lib.hid (fun (v : Int) => (hbq.set_ k (.int .i64 v)).drew)
          have HBS := Lib.hid (fun (v : Int) => (hb2.setCell (p := ⟨w1.heap.size, k, none⟩) HS1.out (.int .i64 v)).drew)
          have HKQ := Lib.hid hbq
          have HBQ := Lib.hid hb2
          obtain ⟨s, hs⟩ : ∃ s, s = Ln.cfK zs x q := ⟨_, rfl⟩
          rw [← hs] at hck hbd
          have horr := or_pow q s (by omega) hbd.1 hbd.2
          have HX2 := Lib.hid (And.intro hy (And.intro hs horr))
          have HLT := Lib.hid hlt
          have i3 : (0 : Int) ≤ (q : Int) := by omega
          have i4 : (q : Int) < (k : Int) := by omega
          have i5 : (k : Int) < (n : Int) := by omega
          have i6 : q < 16 := by omega
          have i7 : (q : Int) < 16 := by omega
          have s0 := hbd.1
          have s1 : s < 65536 := by omega
          clear hy hs hcq hbd hp hlen hget hbq hb2 horr
          by_cases hxy : y = x
          · subst hxy
            go_wp2
            go_region
            all_goals go_wp2
            all_goals go_roundw
            case rel =>
              obtain ⟨a, b, c⟩ := HX2.out
              refine ⟨q + 1, by omega, by go_num, ?_, HBS.out _⟩
              have := HST.out (bits .or .i64 s (2 ^ q))
              rw [clls_set, List.set_set, c, b, ← Ln.cfK_yes a.symm] at this
              rw [w64' q i6, c, b, ← Ln.cfK_yes a.symm]
              exact this
            case measure => simp [intOf]; omega
          · have e1 : (y == x) = false := by rw [beq_eq_false_iff_ne]; exact hxy
            have HNE := Lib.hid hxy
            clear hxy
            go_wp2
            go_roundw
            case rel =>
              obtain ⟨a, b, c⟩ := HX2.out
              refine ⟨q + 1, by omega, by go_num, ?_, HBQ.out⟩
              rw [Ln.cfK_no (by rw [← a]; exact HNE.out)]
              exact HKQ.out
            case measure => simp [intOf]; omega
        · have hqq : q = k := by omega
          have HQ := Lib.hid hqq
          have HKQ := Lib.hid hbq
          have HBQ := Lib.hid hb2
          clear hqq hbq hb2
          go_wp2
          go_roundw
          case rel =>
            refine ⟨k + 1, by omega, by go_num, ?_, HBQ.out⟩
            have := HKQ.out
            rw [HQ.out, HX.out, show Ln.cfK zs (zs.getD k 0) k = Ln.cf zs k from rfl, Ln.fill_set _ _ _ hlt] at this
            exact this
          case measure => simp [intOf]; omega
    · have hkn : k = n := by omega
      have HN := Lib.hid hkn; clear hkn
      go_wp2
      go_ret2
      have := HN.out
      subst this
      have hb := HK.out
      rw [Ln.fill_all] at hb
      exact Ret1.of_blk hb (Ln.tab_len _ _) HS1.out (by omega) HB.out
theorem iConflictsOf_any (A : Option Addr) (n c : Nat) (zs : List Int) (B : Nat) (w : World) (hn : n ≤ 1048576) (hc : n ≤ c) (h : Rd w B A n zs) :
    Calls Try.prog 18 #[.slice A n c] w (Ret1 (Ln.conflicts zs).1 (Ln.conflicts zs).2 w) := by
  unfold Ln.conflicts
  by_cases hv : Ln.vec 16 zs = true
  · rw [hv, h.len]
    exact iCfl_yes A n c zs B w (by have := Ln.vec_len hv; rw [h.len] at this; omega) hc h hv
  · have hv' : Ln.vec 16 zs = false := by simpa using hv
    have k1 := isVec_any 16 A n c zs B w hn h
    rw [hv'] at k1
    rw [hv']
    have C1 := Lib.hid k1
    clear k1 h hv hv'
    go_enter Try.func18, Try.ntmps18
    go_wp2_with fail
    refine C1.out.mono ?_
    rintro e w1 ⟨rfl, hb⟩
    have HB := Lib.hid hb; clear hb
    go_wp2_with fail
    go_ret2
    exact Ret1.no HB.out
end Go.Proofs.Ytgnohclhmdfebaa.Wds
