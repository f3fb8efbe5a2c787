/-
  The walk of the law FnShuffled: for every input that can be read it returns true, and nothing that was there has changed.
-/
import Derived.Test.YtfmplneopmbfoaaDrawSh
import Derived.Test.YtfmplneopmbfoaaShuf2
import Derived.Test.YtfmplneopmbfoaaInv
import Derived.Test.YtfmplneopmbfoaaPick
import Derived.Test.YtfmplneopmbfoaaBelBy
namespace Go.Proofs.Ytfmplneopmbfoaa.Wds
open Go.RowKit
set_option linter.unusedVariables false

/-- A list and true are returned. -/
def DrewT (zs : List Int) (n : Nat) (w : World) (e : Ending) (w' : World) : Prop :=
  ∃ (A : Option Addr) (c : Nat), e = .returned (.tuple #[.slice A n c, .bool true]) ∧ Rd w' w'.heap.size A n zs ∧ Below w.heap.size w w'
theorem drewT_of {zs : List Int} {n : Nat} {w : World} {e : Ending} {w' : World} (h : Ret1 zs true w e w') (hl : zs.length = n) : DrewT zs n w e w' := by
  obtain ⟨A, m, c, rfl, ho, _, hb⟩ := h
  obtain rfl : m = n := by have := ho.len; omega
  exact ⟨A, c, rfl, ho.rd, hb⟩
/-- Lists of one length that can be read. -/
def Ls (n : Nat) (W : World) (ls : List (Option Addr × List Int)) : Prop := ∀ p ∈ ls, Rd W W.heap.size p.1 n p.2
theorem Ls.keep {n : Nat} {W W' : World} {ls : List (Option Addr × List Int)} (h : Ls n W ls) (hb : Below W.heap.size W W') : Ls n W' ls := fun p hp => ((h p hp).below hb).more hb.size
theorem Ls.cons {n : Nat} {W : World} {ls : List (Option Addr × List Int)} (h : Ls n W ls) {A : Option Addr} {zs : List Int} (hr : Rd W W.heap.size A n zs) : Ls n W ((A, zs) :: ls) := by
  intro p hp
  rcases List.mem_cons.1 hp with rfl | hp
  · exact hr
  · exact h p hp
theorem Ls.nil (n : Nat) (W : World) : Ls n W [] := fun p hp => by cases hp
theorem shf_any (b : Int) (n : Nat) (A1 : Option Addr) (c1 : Nat) (f : List Int) (A2 : Option Addr) (c2 : Nat) (a : List Int) (w : World) (hn : n ≤ 16) (hf : Ln.shuf f = true) (ha : Ln.vec b a = true) (lf : f.length = n) (la : a.length = n) (r1 : Rd w w.heap.size A1 n f) (r2 : Rd w w.heap.size A2 n a) :
    Calls Try.prog 16 #[.int .i64 b, .slice A1 n c1, .slice A2 n c2] w (DrewT (Ln.pickL a f) n w) := by
  have h := iShuffleLanes_any b A1 n c1 f _ A2 n c2 a _ w (by omega) (by omega) r1 r2
  rw [Ln.shuffle_yes hf ha lf la] at h
  exact h.mono fun e w' hh => drewT_of hh (by rw [Ln.pickL_len, lf])
theorem thn_any (n : Nat) (A1 : Option Addr) (c1 : Nat) (f : List Int) (A2 : Option Addr) (c2 : Nat) (s : List Int) (w : World) (hn : n ≤ 16) (hf : Ln.shuf f = true) (hs : Ln.shuf s = true) (lf : f.length = n) (ls : s.length = n) (r1 : Rd w w.heap.size A1 n f) (r2 : Rd w w.heap.size A2 n s) :
    Calls Try.prog 17 #[.slice A1 n c1, .slice A2 n c2] w (DrewT (Ln.pickL f s) n w) := by
  have h := iThenShuffle_any A1 n c1 f _ A2 n c2 s _ w (by omega) (by omega) r1 r2
  rw [Ln.thenS_yes hf hs lf ls] at h
  exact h.mono fun e w' hh => drewT_of hh (by rw [Ln.pickL_len, ls])
theorem ivs_any (n : Nat) (A1 : Option Addr) (c1 : Nat) (o : List Int) (w : World) (hn : n ≤ 16) (ho : Ln.ord o = true) (lo : o.length = n) (r1 : Rd w w.heap.size A1 n o) :
    Calls Try.prog 19 #[.slice A1 n c1] w (DrewT (Ln.invL o) n w) := by
  have h := iInverseShuffle_any A1 n c1 o _ w (by omega) r1
  rw [Ln.inverse_yes ho] at h
  exact h.mono fun e w' hh => drewT_of hh (by rw [Ln.invL_len, lo])
theorem pck_any (b : Int) (n : Nat) (A0 : Option Addr) (c0 : Nat) (f : List Int) (A1 : Option Addr) (c1 : Nat) (a : List Int) (A2 : Option Addr) (c2 : Nat) (u : List Int) (w : World) (hn : n ≤ 16) (hf : Ln.shuf f = true) (lf : f.length = n) (ha : Ln.vec b a = true) (hu : Ln.vec b u = true) (la : a.length = n) (lu : u.length = n)
    (r0 : Rd w w.heap.size A0 n (Ln.pks f n n)) (r1 : Rd w w.heap.size A1 n a) (r2 : Rd w w.heap.size A2 n u) :
    Calls Try.prog 22 #[.int .i64 b, .slice A0 n c0, .slice A1 n c1, .slice A2 n c2] w (DrewT (Ln.pickL (a ++ u) (Ln.pks f n n)) n w) := by
  have h := iPickLanes_any b A0 n c0 _ _ A1 n c1 a _ A2 n c2 u _ w (by omega) (by omega) (by omega) r0 r1 r2
  rw [Ln.pks_yes hf lf ha hu la lu] at h
  exact h.mono fun e w' hh => drewT_of hh (by rw [Ln.pickL_len, Ln.pks_len])
set_option maxHeartbeats 40000000 in
set_option maxRecDepth 100000 in
theorem law_shuffled (a0 : Option Addr) (len0 cap0 : Nat) (z0 : List Int) (a1 : Option Addr) (len1 cap1 : Nat) (z1 : List Int) (w : World) (r0 : IsRow .u8 w a0 len0 cap0 z0) (r1 : IsRow .u8 w a1 len1 cap1 z1) :
    Calls Try.prog 3 #[.slice a0 len0 cap0, .slice a1 len1 cap1] w fun e w' => e = .returned (.bool true) ∧ Below w.heap.size w w' := by
  obtain ⟨i0, hi0, hz0, hz1, hz2⟩ := info_parts A_info64
  have cl := r8long_any a0 a1 len0 cap0 len1 cap1 w r0.len' r1.len'
  by_cases hlong : 48 < len0 ∨ 48 < len1
  · rw [decide_eq_true hlong] at cl
    have CL := Lib.hid cl
    clear cl hlong r0 r1
    go_enter Try.func3, Try.ntmps3
    go_wp2_with fail
    refine CL.out.mono ?_
    rintro e w' ⟨rfl, rfl⟩
    go_wp2_with fail
    go_ret
    exact ⟨rfl, Below.refl _ _⟩
  · rw [decide_eq_false hlong] at cl
    have CL := Lib.hid cl
    have R0 := Lib.hid (fun (W : World) (hb : Below w.heap.size w W) => r0.below hb r0.block)
    have R1 := Lib.hid (fun (W : World) (hb : Below w.heap.size w W) => r1.below hb r1.block)
    clear cl hlong r0 r1
    go_enter Try.func3, Try.ntmps3
    go_wp2_with fail
    refine CL.out.mono ?_
    rintro e w' ⟨rfl, rfl⟩
    go_wp2_with fail
    refine (r8bits_any _ _ _ z0 _ (R0.out _ (Below.refl _ _))).mono ?_
    rintro e w1 ⟨b, rfl, hb, hb1⟩
    have HBits := Lib.hid hb
    have HB1 := Lib.hid hb1; clear hb hb1
    go_wp2_with fail
    refine (r8lanes_any _ _ _ z1 _ (R1.out _ HB1.out)).mono ?_
    rintro e w2 ⟨n, rfl, hl, hb⟩
    have HLN := Lib.hid hl
    have hn : n ≤ 16 := by have := Ln.lanes_cases hl; omega
    have hn0 : 1 < n := by have := Ln.lanes_cases hl; omega
    have HB2 := Lib.hid (HB1.out.trans (hb.mono HB1.out.size)); clear hl hb HB1
    go_wp2_with fail
    refine (r8vec_any b n _ _ _ z0 _ HBits.out HLN.out (R0.out _ HB2.out)).mono ?_
    rintro e w3 ⟨g3, c3, a, rfl, ho, _, hv, hb⟩
    have LA := Lib.hid ho.len
    have VA := Lib.hid hv
    have HL3 := Lib.hid ((Ls.nil n w3).cons ho.rd)
    have HB3 := Lib.hid (HB2.out.trans (hb.mono HB2.out.size)); clear ho hv hb HB2
    obtain ⟨A3, hA3⟩ : ∃ A : Option Addr, A = some ⟨g3, 0, none⟩ := ⟨_, rfl⟩
    rw [← hA3] at HL3 ⊢
    clear hA3
    go_wp2_with fail
    refine (r8shuf_any n _ _ _ z0 _ HLN.out (R0.out _ HB3.out)).mono ?_
    rintro e w4 ⟨A4, c4, f, rfl, ho, hlen, hr, hb⟩
    have SF := Lib.hid ho
    have LF := Lib.hid hlen
    have HL4 := Lib.hid ((HL3.out.keep hb).cons hr)
    have HB4 := Lib.hid (HB3.out.trans (hb.mono HB3.out.size)); clear ho hlen hr hb HB3 HL3
    go_wp2_with fail
    refine (r8shuf_any n _ _ _ z1 _ HLN.out (R1.out _ HB4.out)).mono ?_
    rintro e w5 ⟨A5, c5, s, rfl, ho, hlen, hr, hb⟩
    have SS := Lib.hid ho
    have LS := Lib.hid hlen
    have HL5 := Lib.hid ((HL4.out.keep hb).cons hr)
    have HB5 := Lib.hid (HB4.out.trans (hb.mono HB4.out.size)); clear ho hlen hr hb HB4 HL4
    have VX := Lib.hid (Ln.pick_vec VA.out SF.out LA.out LF.out)
    have LX := Lib.hid (show (Ln.pickL a f).length = n by rw [Ln.pickL_len]; exact LF.out)
    have SB := Lib.hid (Ln.pick_shuf SF.out SS.out LF.out LS.out)
    have LB := Lib.hid (show (Ln.pickL f s).length = n by rw [Ln.pickL_len]; exact LS.out)
    have EQ := Lib.hid (Ln.pick_pick (a := a) SS.out LF.out LS.out)
    go_wp2_with fail
    refine (shf_any b n A4 c4 f A3 c3 a _ hn SF.out VA.out LF.out LA.out (HL5.out (A4, f) (by simp)) (HL5.out (A3, a) (by simp))).mono ?_
    rintro e w6 ⟨A6, c6, rfl, hr, hb⟩
    have HL6 := Lib.hid ((HL5.out.keep hb).cons hr)
    have HB6 := Lib.hid (HB5.out.trans (hb.mono HB5.out.size)); clear hr hb HB5 HL5
    go_wp2_with fail
    refine (shf_any b n A5 c5 s A6 c6 (Ln.pickL a f) _ hn SS.out VX.out LS.out LX.out (HL6.out (A5, s) (by simp)) (HL6.out (A6, Ln.pickL a f) (by simp))).mono ?_
    rintro e w7 ⟨A7, c7, rfl, hr, hb⟩
    have HL7 := Lib.hid ((HL6.out.keep hb).cons hr)
    have HB7 := Lib.hid (HB6.out.trans (hb.mono HB6.out.size)); clear hr hb HB6 HL6
    go_wp2_with fail
    refine (thn_any n A4 c4 f A5 c5 s _ hn SF.out SS.out LF.out LS.out (HL7.out (A4, f) (by simp)) (HL7.out (A5, s) (by simp))).mono ?_
    rintro e w8 ⟨A8, c8, rfl, hr, hb⟩
    have HL8 := Lib.hid ((HL7.out.keep hb).cons hr)
    have HB8 := Lib.hid (HB7.out.trans (hb.mono HB7.out.size)); clear hr hb HB7 HL7
    go_wp2_with fail
    refine (shf_any b n A8 c8 (Ln.pickL f s) A3 c3 a _ hn SB.out VA.out LB.out LA.out (HL8.out (A8, Ln.pickL f s) (by simp)) (HL8.out (A3, a) (by simp))).mono ?_
    rintro e w9 ⟨A9, c9, rfl, hr, hb⟩
    rw [EQ.out] at hr
    have HL9 := Lib.hid ((HL8.out.keep hb).cons hr)
    have HB9 := Lib.hid (HB8.out.trans (hb.mono HB8.out.size)); clear hr hb HB8 HL8
    go_wp2_with fail
    refine (r8order_any n _ _ _ z1 _ HLN.out (R1.out _ HB9.out)).mono ?_
    rintro e w10 ⟨A10, c10, o, rfl, ho, hlen, hr, hb⟩
    have OO := Lib.hid ho
    have SO := Lib.hid (Ln.ord_at ho).1
    have LO := Lib.hid hlen
    have HL10 := Lib.hid ((HL9.out.keep hb).cons hr)
    have HB10 := Lib.hid (HB9.out.trans (hb.mono HB9.out.size)); clear ho hlen hr hb HB9 HL9
    have SI := Lib.hid (Ln.invL_shuf OO.out LO.out)
    have LI := Lib.hid (show (Ln.invL o).length = n by rw [Ln.invL_len]; exact LO.out)
    have VU := Lib.hid (Ln.pick_vec VA.out SO.out LA.out LO.out)
    have LU := Lib.hid (show (Ln.pickL a o).length = n by rw [Ln.pickL_len]; exact LO.out)
    have EB := Lib.hid (Ln.pick_back OO.out LO.out LA.out)
    go_wp2_with fail
    refine (ivs_any n A10 c10 o _ hn OO.out LO.out (HL10.out (A10, o) (by simp))).mono ?_
    rintro e w11 ⟨A11, c11, rfl, hr, hb⟩
    have HL11 := Lib.hid ((HL10.out.keep hb).cons hr)
    have HB11 := Lib.hid (HB10.out.trans (hb.mono HB10.out.size)); clear hr hb HB10 HL10
    go_wp2_with fail
    refine (shf_any b n A10 c10 o A3 c3 a _ hn SO.out VA.out LO.out LA.out (HL11.out (A10, o) (by simp)) (HL11.out (A3, a) (by simp))).mono ?_
    rintro e w12 ⟨A12, c12, rfl, hr, hb⟩
    have HL12 := Lib.hid ((HL11.out.keep hb).cons hr)
    have HB12 := Lib.hid (HB11.out.trans (hb.mono HB11.out.size)); clear hr hb HB11 HL11
    go_wp2_with fail
    refine (shf_any b n A11 c11 (Ln.invL o) A12 c12 (Ln.pickL a o) _ hn SI.out VU.out LI.out LU.out (HL12.out (A11, Ln.invL o) (by simp)) (HL12.out (A12, Ln.pickL a o) (by simp))).mono ?_
    rintro e w13 ⟨A13, c13, rfl, hr, hb⟩
    rw [EB.out] at hr
    have HL13 := Lib.hid ((HL12.out.keep hb).cons hr)
    have HB13 := Lib.hid (HB12.out.trans (hb.mono HB12.out.size)); clear hr hb HB12 HL12
    go_wp2_with fail
    refine (r8same_any A7 A9 n c7 c9 _ _ _ _ (by omega) (HL13.out (A7, Ln.pickL (Ln.pickL a f) s) (by simp)) (HL13.out (A9, Ln.pickL (Ln.pickL a f) s) (by simp))).mono ?_
    rintro e w14 ⟨rfl, hb⟩
    have HL14 := Lib.hid (HL13.out.keep hb)
    have HB14 := Lib.hid (HB13.out.trans (hb.mono HB13.out.size)); clear hb HB13 HL13
    go_wp2_with fail
    refine (r8same_any A13 A3 n c13 c3 _ _ _ _ (by omega) (HL14.out (A13, a) (by simp)) (HL14.out (A3, a) (by simp))).mono ?_
    rintro e w15 ⟨rfl, hb⟩
    have HL15 := Lib.hid (HL14.out.keep hb)
    have HB15 := Lib.hid (HB14.out.trans (hb.mono HB14.out.size)); clear hb HB14 HL14
    have CB := Lib.hid (iIsShuffle_any A8 n c8 (Ln.pickL f s) _ w15 (by omega) (HL15.out (A8, Ln.pickL f s) (by simp)))
    rw [SB.out] at CB
    go_wp2_with fail
    refine CB.out.mono ?_
    rintro e w16 ⟨rfl, hb⟩
    have HL16 := Lib.hid (HL15.out.keep hb)
    have HB16 := Lib.hid (HB15.out.trans (hb.mono HB15.out.size)); clear hb HB15 HL15 CB
    go_wp2_with fail
    go_loopw [25, 26] (fun v i wr => ∃ k : Nat, k ≤ n ∧ i = .int .i64 k ∧ wr.ownsRow w16.heap.size 2 1 v k ((Ln.pks f n k).map (Value.int .i64)) ∧ Below w16.heap.size w16 wr) (fun _ i _ => n - (intOf i).toNat)
    case atStart => exact ⟨0, Nat.zero_le _, rfl, World.ownsRow_made w16 #[] 0 (Nat.le_refl _) (by decide) rfl, (Below.refl _ _).alloc (Nat.le_refl _) _⟩
    case round =>
      rename World => wr
      obtain ⟨k, hk, rfl, hown, hb⟩ := hrel
      by_cases hlt : k < n
      · have hsz := hb.size
        obtain ⟨g, oo, rfl, _, hc⟩ := ((HL16.out (A4, f) (by simp)).below hb).at_ hlt
        have hbd := Ln.shuf_at SF.out LF.out hlt
        have HN := Lib.hid (Ln.pks_succ f n k)
        obtain ⟨x, hx⟩ : ∃ x, x = f.getD k 0 := ⟨_, rfl⟩
        rw [← hx] at hc hbd HN
        have HB := Lib.hid hb; clear hb hx
        have i0' : (0 : Int) ≤ (k : Int) := by omega
        have i1 : (k : Int) < (n : Int) := by omega
        rcases (show (k : Int) % 2 = 0 ∨ (k : Int) % 2 = 1 by omega) with q | q
        · have HN2 := Lib.hid (show Ln.pks f n (k + 1) = Ln.pks f n k ++ [x] by rw [HN.out, q]; simp)
          clear HN
          go_wp2_with (at_builtin; refine wpList_push _ rfl _ _ rfl i0 Try.underlying25 hi0 hz0 hz1 hz2 _ _ _ _ _ rfl hown rfl (by omega) hsz ?_; intro v' w3 hown1 hb1; have HO1 := Lib.hid hown1; have HB3 := Lib.hid (HB.out.trans hb1); clear hown1 hb1)
          go_roundw
          case rel => exact ⟨k + 1, by omega, by go_num, by rw [HN2.out]; exact HO1.out, HB3.out⟩
          case measure => simp [intOf]; omega
        · have HN2 := Lib.hid (show Ln.pks f n (k + 1) = Ln.pks f n k ++ [x + (n : Int)] by rw [HN.out, q]; simp)
          clear HN
          have s1 : IntKind.i64.wrap (x + (n : Int)) = x + (n : Int) := IntWalk.i64_in _ (by omega)
          go_wp2_with (at_builtin; refine wpList_push _ rfl _ _ rfl i0 Try.underlying25 hi0 hz0 hz1 hz2 _ _ _ _ _ rfl hown rfl (by omega) hsz ?_; intro v' w3 hown1 hb1; have HO1 := Lib.hid hown1; have HB3 := Lib.hid (HB.out.trans hb1); clear hown1 hb1)
          go_roundw
          case rel => exact ⟨k + 1, by omega, by go_num, by rw [HN2.out]; exact HO1.out, HB3.out⟩
          case measure => simp [intOf]; omega
      · obtain rfl : k = n := by omega
        obtain ⟨g, cp, rfl, _, how⟩ := own_some hown (by omega)
        have HL17 := Lib.hid ((HL16.out.keep hb).cons how.rd)
        have HB17 := Lib.hid (HB16.out.trans (hb.mono HB16.out.size)); clear hb hown how HL16 HB16 hlt hk
        go_wp2_with fail
        refine (pck_any b k (some ⟨g, 0, none⟩) cp f A3 c3 a A12 c12 (Ln.pickL a o) _ hn SF.out LF.out VA.out VU.out LA.out LU.out (HL17.out (some ⟨g, 0, none⟩, Ln.pks f k k) (by simp)) (HL17.out (A3, a) (by simp)) (HL17.out (A12, Ln.pickL a o) (by simp))).mono ?_
        rintro e w18 ⟨A18, c18, rfl, hr, hb⟩
        have HL18 := Lib.hid ((HL17.out.keep hb).cons hr)
        have HB18 := Lib.hid (HB17.out.trans (hb.mono HB17.out.size)); clear hr hb HB17 HL17
        go_wp2_with fail
        go_loopw [29] (fun i wr => ∃ j : Nat, j ≤ k ∧ i = .int .i64 j ∧ Below w18.heap.size w18 wr) (fun i _ => k - (intOf i).toNat)
        case atStart => exact ⟨0, Nat.zero_le _, rfl, Below.refl _ _⟩
        case round =>
          rename World => wr
          obtain ⟨j, hj, rfl, hb⟩ := hrel
          by_cases hlt : j < k
          · have hat := Ln.pks_at SF.out LF.out LA.out LU.out hlt (a := a) (u := Ln.pickL a o)
            have hbd := Ln.shuf_at SF.out LF.out hlt
            obtain ⟨g4, o4, rfl, _, hf4⟩ := ((HL18.out (A4, f) (by simp)).below hb).at_ hlt
            obtain ⟨g18, o18, rfl, _, hw18⟩ := ((HL18.out (A18, Ln.pickL (a ++ Ln.pickL a o) (Ln.pks f k k)) (by simp)).below hb).at_ hlt
            obtain ⟨x, hx⟩ : ∃ x, x = f.getD j 0 := ⟨_, rfl⟩
            rw [← hx] at hat hbd hf4
            obtain ⟨q, rfl⟩ := Int.eq_ofNat_of_zero_le hbd.1
            have hqk : q < k := by omega
            obtain ⟨g3', o3, rfl, _, ha3⟩ := ((HL18.out (A3, a) (by simp)).below hb).at_ hqk
            obtain ⟨g12, o12, rfl, _, hu12⟩ := ((HL18.out (A12, Ln.pickL a o) (by simp)).below hb).at_ hqk
            rw [hat, Int.toNat_natCast] at hw18
            have HB := Lib.hid hb; clear hb hx hat hbd
            have i0' : (0 : Int) ≤ (j : Int) := by omega
            have i1 : (j : Int) < (k : Int) := by omega
            have i2 : (0 : Int) ≤ (q : Int) := by omega
            have i3 : (q : Int) < (k : Int) := by omega
            by_cases hp : j % 2 = 0
            · rw [if_pos hp] at hw18
              have q2 : (j : Int) % 2 = 0 := by omega
              obtain ⟨y, hy⟩ : ∃ y, y = a.getD q 0 := ⟨_, rfl⟩
              rw [← hy] at hw18 ha3
              have d1 := BelBy.cell hf4
              have d2 := BelBy.cell hw18
              have d3 := BelBy.cell ha3
              clear hp hy hf4 hw18 ha3 hu12
              go_wp2
              refine wp_region_quiet_bel (by kernel_rfl) (by kernel_rfl) ?_
              repeat (go_big_quiet_step (fail))
              refine wpQuiet_nil ?_
              rintro wA ⟨⟨_, hbo⟩, rfl⟩
              have HBA := Lib.hid (HB.out.trans (hbo.mono HB.out.size))
              clear hbo d1 d2 d3
              go_wp2
              go_roundw
              case rel => exact ⟨j + 1, by omega, by go_num, HBA.out⟩
              case measure => simp [intOf]; omega
            · rw [if_neg hp] at hw18
              have q2 : (j : Int) % 2 = 1 := by omega
              obtain ⟨y, hy⟩ : ∃ y, y = (Ln.pickL a o).getD q 0 := ⟨_, rfl⟩
              rw [← hy] at hw18 hu12
              have d1 := BelBy.cell hf4
              have d2 := BelBy.cell hw18
              have d3 := BelBy.cell hu12
              clear hp hy hf4 hw18 ha3 hu12
              go_wp2
              refine wp_region_quiet_bel (by kernel_rfl) (by kernel_rfl) ?_
              repeat (go_big_quiet_step (fail))
              refine wpQuiet_nil ?_
              rintro wA ⟨⟨_, hbo⟩, rfl⟩
              have HBA := Lib.hid (HB.out.trans (hbo.mono HB.out.size))
              clear hbo d1 d2 d3
              go_wp2
              go_roundw
              case rel => exact ⟨j + 1, by omega, by go_num, HBA.out⟩
              case measure => simp [intOf]; omega
          · have HBA := Lib.hid (HB18.out.trans (hb.mono HB18.out.size)); clear hb
            go_wp2
            go_ret
            exact ⟨rfl, HBA.out⟩
end Go.Proofs.Ytfmplneopmbfoaa.Wds
