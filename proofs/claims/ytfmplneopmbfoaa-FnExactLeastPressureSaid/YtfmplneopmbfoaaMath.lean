/-
  Plain mathematics of the words of 4, 8 and 16 bits and of the eighteen operations (no program, no model): operations give words, the order and the brackets of words do not matter for those of which this is told, sums and differences undo one another, saturated sums. No conditions beyond those written in each lemma.
-/
namespace Wd
theorem or_add_and (a : Nat) : ∀ b : Nat, (a ||| b) + (a &&& b) = a + b := by
  induction a using Nat.strongRecOn with
  | _ a ih =>
    intro b
    by_cases h : a = 0
    · subst h; simp
    · have h1 := ih (a / 2) (by omega) (b / 2)
      have e1 : (a ||| b) / 2 = a / 2 ||| b / 2 := Nat.or_div_two
      have e2 : (a &&& b) / 2 = a / 2 &&& b / 2 := Nat.and_div_two
      have m1 : (a ||| b) % 2 = (a % 2) ||| (b % 2) := by
        have := Nat.or_mod_two_pow (a := a) (b := b) (n := 1); simpa using this
      have m2 : (a &&& b) % 2 = (a % 2) &&& (b % 2) := by
        have := Nat.and_mod_two_pow (a := a) (b := b) (n := 1); simpa using this
      have k : (a % 2 ||| b % 2) + (a % 2 &&& b % 2) = a % 2 + b % 2 := by
        rcases Nat.mod_two_eq_zero_or_one a with ha | ha <;> rcases Nat.mod_two_eq_zero_or_one b with hb | hb <;> simp [ha, hb]
      omega
theorem xor_add_and (a : Nat) : ∀ b : Nat, (a ^^^ b) + (a &&& b) = a ||| b := by
  induction a using Nat.strongRecOn with
  | _ a ih =>
    intro b
    by_cases h : a = 0
    · subst h; simp
    · have h1 := ih (a / 2) (by omega) (b / 2)
      have e1 : (a ||| b) / 2 = a / 2 ||| b / 2 := Nat.or_div_two
      have e2 : (a &&& b) / 2 = a / 2 &&& b / 2 := Nat.and_div_two
      have e3 : (a ^^^ b) / 2 = a / 2 ^^^ b / 2 := Nat.xor_div_two
      have m1 : (a ||| b) % 2 = (a % 2) ||| (b % 2) := by
        have := Nat.or_mod_two_pow (a := a) (b := b) (n := 1); simpa using this
      have m2 : (a &&& b) % 2 = (a % 2) &&& (b % 2) := by
        have := Nat.and_mod_two_pow (a := a) (b := b) (n := 1); simpa using this
      have m3 : (a ^^^ b) % 2 = (a % 2) ^^^ (b % 2) := by
        have := Nat.xor_mod_two_pow (a := a) (b := b) (n := 1); simpa using this
      have k : (a % 2 ^^^ b % 2) + (a % 2 &&& b % 2) = (a % 2 ||| b % 2) := by
        rcases Nat.mod_two_eq_zero_or_one a with ha | ha <;> rcases Nat.mod_two_eq_zero_or_one b with hb | hb <;> simp [ha, hb]
      omega
theorem avg_nat (a b : Nat) : (a ||| b) - (a ^^^ b) / 2 = (a + b + 1) / 2 ∧ (a ^^^ b) / 2 ≤ (a ||| b) := by
  have h1 := or_add_and a b; have h2 := xor_add_and a b; omega
theorem or_lt' {a b k : Nat} (ha : a < 2 ^ k) (hb : b < 2 ^ k) : a ||| b < 2 ^ k := Nat.or_lt_two_pow ha hb
theorem xor_half (a k : Nat) (h : a < 2 ^ (k + 1)) : a ^^^ 2 ^ k = if a < 2 ^ k then a + 2 ^ k else a - 2 ^ k := by
  split
  · rename_i hl
    rw [Nat.xor_comm]
    have := Nat.two_pow_add_eq_or_of_lt hl 1
    have h2 := xor_add_and (2 ^ k) a
    have h3 : 2 ^ k &&& a = 0 := by
      have h4 := or_add_and (2 ^ k) a
      have : 2 ^ k ||| a = 2 ^ k + a := by simpa using this.symm
      omega
    have : 2 ^ k ||| a = 2 ^ k + a := by simpa using this.symm
    omega
  · rename_i hl
    have hp : 2 ^ (k + 1) = 2 ^ k + 2 ^ k := by rw [Nat.pow_succ]; omega
    obtain ⟨c, hc⟩ : ∃ c, a = 2 ^ k + c := ⟨a - 2 ^ k, by omega⟩
    have hcl : c < 2 ^ k := by omega
    have e : 2 ^ k + c = 2 ^ k ^^^ c := by
      have h1 := Nat.two_pow_add_eq_or_of_lt hcl 1
      have h2 := xor_add_and (2 ^ k) c
      have h4 := or_add_and (2 ^ k) c
      have : 2 ^ k ||| c = 2 ^ k + c := by simpa using h1.symm
      omega
    subst hc
    have : (2 ^ k + c) ^^^ 2 ^ k = c := by
      rw [e, Nat.xor_comm, ← Nat.xor_assoc, Nat.xor_self, Nat.zero_xor]
    omega
end Wd
namespace Wd
def pw (bits : Int) : Int := if bits = 4 then 16 else if bits = 8 then 256 else 65536
def hf (bits : Int) : Int := if bits = 4 then 8 else if bits = 8 then 128 else 32768
def IsBits (bits : Int) : Prop := bits = 4 ∨ bits = 8 ∨ bits = 16
def IsWord (bits x : Int) : Prop := IsBits bits ∧ 0 ≤ x ∧ x < pw bits
instance isBitsDec (bits : Int) : Decidable (IsBits bits) := by unfold IsBits; infer_instance
instance isWordDec (bits x : Int) : Decidable (IsWord bits x) := by unfold IsWord; infer_instance
def sg (bits x : Int) : Int := if x < hf bits then x else x - pw bits
def wr (bits n : Int) : Int := n % pw bits
def cl (bits n : Int) : Int := if n < - hf bits then - hf bits else if n > hf bits - 1 then hf bits - 1 else n
def doOp (op bits a b : Int) : Int :=
  if op = 0 then wr bits (a + b) else if op = 1 then wr bits (a - b) else if op = 2 then wr bits (a * b)
  else if op = 3 then ((a.toNat &&& b.toNat : Nat) : Int) else if op = 4 then ((a.toNat ||| b.toNat : Nat) : Int) else if op = 5 then ((a.toNat ^^^ b.toNat : Nat) : Int)
  else if op = 6 then min a b else if op = 7 then max a b
  else if op = 8 then (if sg bits a < sg bits b then a else b) else if op = 9 then (if sg bits a < sg bits b then b else a)
  else if op = 10 then min (a + b) (pw bits - 1) else if op = 11 then wr bits (cl bits (sg bits a + sg bits b))
  else if op = 12 then max (a - b) 0 else if op = 13 then wr bits (cl bits (sg bits a - sg bits b))
  else if op = 14 then (a + b + 1) / 2
  else if op = 15 then wr bits (a * 2 ^ (b % bits).toNat) else if op = 16 then a / 2 ^ (b % bits).toNat
  else wr bits (sg bits a / 2 ^ (b % bits).toNat)
def comm (op : Int) : Bool := decide (0 ≤ op ∧ op ≤ 17) && !(op == 1 || op == 12 || op == 13 || op == 15 || op == 16 || op == 17)
def assoc (op : Int) : Bool := comm op && !(op == 11 || op == 14)

def test (cmp bits a b : Int) : Bool :=
  if cmp = 0 then a == b else if cmp = 1 then !(a == b) else if cmp = 2 then decide (a < b) else if cmp = 3 then decide (a ≤ b)
  else if cmp = 4 then decide (sg bits a < sg bits b) else decide (sg bits a ≤ sg bits b)
theorem isBits_bool (b : Int) : decide (IsBits b) = (b == 4 || b == 8 || b == 16) := by
  by_cases h4 : b = 4
  · subst h4; decide
  · by_cases h8 : b = 8
    · subst h8; decide
    · by_cases h16 : b = 16
      · subst h16; decide
      · rw [decide_eq_false (by unfold IsBits; omega)]; simp [h4, h8, h16]
theorem bits_cases {bits : Int} (h : IsBits bits) : (bits = 4 ∧ pw bits = 16 ∧ hf bits = 8) ∨ (bits = 8 ∧ pw bits = 256 ∧ hf bits = 128) ∨ (bits = 16 ∧ pw bits = 65536 ∧ hf bits = 32768) := by
  rcases h with rfl | rfl | rfl <;> decide
theorem op_cases {op : Int} (h0 : 0 ≤ op) (h1 : op ≤ 17) : op = 0 ∨ op = 1 ∨ op = 2 ∨ op = 3 ∨ op = 4 ∨ op = 5 ∨ op = 6 ∨ op = 7 ∨ op = 8 ∨ op = 9 ∨ op = 10 ∨ op = 11 ∨ op = 12 ∨ op = 13 ∨ op = 14 ∨ op = 15 ∨ op = 16 ∨ op = 17 := by omega

theorem pw_pos {bits : Int} (h : IsBits bits) : 0 < pw bits := by rcases bits_cases h with ⟨_, h, _⟩ | ⟨_, h, _⟩ | ⟨_, h, _⟩ <;> omega
theorem wr_word {bits : Int} (h : IsBits bits) (n : Int) : 0 ≤ wr bits n ∧ wr bits n < pw bits := by
  have := pw_pos h; unfold wr; exact ⟨Int.emod_nonneg _ (by omega), Int.emod_lt_of_pos _ this⟩

theorem bitop_word {bits a b : Int} (h : IsBits bits) (ha : 0 ≤ a ∧ a < pw bits) (hb : 0 ≤ b ∧ b < pw bits) :
    (((a.toNat &&& b.toNat : Nat) : Int) < pw bits) ∧ (((a.toNat ||| b.toNat : Nat) : Int) < pw bits) ∧ (((a.toNat ^^^ b.toNat : Nat) : Int) < pw bits) := by
  have key : ∀ k : Nat, pw bits = ((2 ^ k : Nat) : Int) → (((a.toNat &&& b.toNat : Nat) : Int) < pw bits) ∧ (((a.toNat ||| b.toNat : Nat) : Int) < pw bits) ∧ (((a.toNat ^^^ b.toNat : Nat) : Int) < pw bits) := by
    intro k hk
    have h1 : a.toNat < 2 ^ k := by omega
    have h2 : b.toNat < 2 ^ k := by omega
    have e1 : a.toNat &&& b.toNat < 2 ^ k := Nat.lt_of_le_of_lt Nat.and_le_left h1
    have e2 : a.toNat ||| b.toNat < 2 ^ k := Nat.or_lt_two_pow h1 h2
    have e3 : a.toNat ^^^ b.toNat < 2 ^ k := Nat.xor_lt_two_pow h1 h2
    omega
  rcases bits_cases h with ⟨_, h, _⟩ | ⟨_, h, _⟩ | ⟨_, h, _⟩
  · exact key 4 (by rw [h]; rfl)
  · exact key 8 (by rw [h]; rfl)
  · exact key 16 (by rw [h]; rfl)

theorem doOp_word {op bits a b : Int} (h0 : 0 ≤ op) (h1 : op ≤ 17) (h : IsBits bits) (ha : 0 ≤ a ∧ a < pw bits) (hb : 0 ≤ b ∧ b < pw bits) : 0 ≤ doOp op bits a b ∧ doOp op bits a b < pw bits := by
  have hw := wr_word h
  have hbo := bitop_word h ha hb
  rcases op_cases h0 h1 with rfl | rfl | rfl | rfl | rfl | rfl | rfl | rfl | rfl | rfl | rfl | rfl | rfl | rfl | rfl | rfl | rfl | rfl <;> simp only [doOp, reduceIte, Int.reduceEq]
  all_goals try exact hw _
  · exact ⟨by omega, hbo.1⟩
  · exact ⟨by omega, hbo.2.1⟩
  · exact ⟨by omega, hbo.2.2⟩
  · omega
  · omega
  · split <;> omega
  · split <;> omega
  · omega
  · omega
  · omega
  · have hp : (0 : Int) < 2 ^ (b % bits).toNat := Int.pow_pos (by decide)
    refine ⟨Int.ediv_nonneg ha.1 (by omega), ?_⟩
    have : a / 2 ^ (b % bits).toNat ≤ a := Int.ediv_le_self _ ha.1
    omega

theorem doOp_comm {op bits a b : Int} (hc : comm op = true) (h : IsBits bits) (ha : 0 ≤ a ∧ a < pw bits) (hb : 0 ≤ b ∧ b < pw bits) : doOp op bits a b = doOp op bits b a := by
  have h01 : 0 ≤ op ∧ op ≤ 17 := by simp [comm] at hc; omega
  rcases op_cases h01.1 h01.2 with rfl | rfl | rfl | rfl | rfl | rfl | rfl | rfl | rfl | rfl | rfl | rfl | rfl | rfl | rfl | rfl | rfl | rfl <;> simp only [doOp, reduceIte, Int.reduceEq]
  all_goals try (exact absurd hc (by decide))
  · rw [Int.add_comm]
  · rw [Int.mul_comm]
  · rw [Nat.and_comm]
  · rw [Nat.or_comm]
  · rw [Nat.xor_comm]
  · omega
  · omega
  · rcases bits_cases h with ⟨_, h1, h2⟩ | ⟨_, h1, h2⟩ | ⟨_, h1, h2⟩ <;> (rw [h1] at ha hb; simp only [sg, h1, h2]; omega)
  · rcases bits_cases h with ⟨_, h1, h2⟩ | ⟨_, h1, h2⟩ | ⟨_, h1, h2⟩ <;> (rw [h1] at ha hb; simp only [sg, h1, h2]; omega)
  · omega
  · rw [Int.add_comm]
  · rw [Int.add_comm a b]

theorem doOp_assoc {op bits a b c : Int} (hc : assoc op = true) (h : IsBits bits) (ha : 0 ≤ a ∧ a < pw bits) (hb : 0 ≤ b ∧ b < pw bits) (hcw : 0 ≤ c ∧ c < pw bits) : doOp op bits (doOp op bits a b) c = doOp op bits a (doOp op bits b c) := by
  have h01 : 0 ≤ op ∧ op ≤ 17 := by simp [assoc, comm] at hc; omega
  rcases op_cases h01.1 h01.2 with rfl | rfl | rfl | rfl | rfl | rfl | rfl | rfl | rfl | rfl | rfl | rfl | rfl | rfl | rfl | rfl | rfl | rfl <;> simp only [doOp, reduceIte, Int.reduceEq]
  all_goals try (exact absurd hc (by decide))
  · simp only [wr, Int.emod_add_emod, Int.add_emod_emod]; rw [Int.add_assoc]
  · simp only [wr]
    rw [Int.mul_emod, Int.emod_emod_of_dvd _ (Int.dvd_refl _), ← Int.mul_emod, Int.mul_emod a ((b * c) % pw bits), Int.emod_emod_of_dvd _ (Int.dvd_refl _), ← Int.mul_emod, Int.mul_assoc]
  · rw [Int.toNat_natCast, Int.toNat_natCast, Nat.and_assoc]
  · rw [Int.toNat_natCast, Int.toNat_natCast, Nat.or_assoc]
  · rw [Int.toNat_natCast, Int.toNat_natCast, Nat.xor_assoc]
  · omega
  · omega
  · rcases bits_cases h with ⟨_, h1, h2⟩ | ⟨_, h1, h2⟩ | ⟨_, h1, h2⟩ <;> (rw [h1] at ha hb hcw; simp only [sg, h1, h2]; omega)
  · rcases bits_cases h with ⟨_, h1, h2⟩ | ⟨_, h1, h2⟩ | ⟨_, h1, h2⟩ <;> (rw [h1] at ha hb hcw; simp only [sg, h1, h2]; omega)
  · omega
end Wd
namespace Wd
theorem sg_range {bits a : Int} (h : IsBits bits) (ha : 0 ≤ a ∧ a < pw bits) : - hf bits ≤ sg bits a ∧ sg bits a < hf bits ∧ pw bits = 2 * hf bits ∧ 8 ≤ hf bits ∧ hf bits ≤ 32768 := by
  rcases bits_cases h with ⟨_, h1, h2⟩ | ⟨_, h1, h2⟩ | ⟨_, h1, h2⟩ <;> (rw [h1] at ha; simp only [sg, h1, h2]; omega)
theorem add_sub {bits a b : Int} (h : IsBits bits) (ha : 0 ≤ a ∧ a < pw bits) (_hb : 0 ≤ b ∧ b < pw bits) : doOp 1 bits (doOp 0 bits a b) b = a := by
  simp only [doOp, reduceIte, Int.reduceEq, wr]
  rcases bits_cases h with ⟨_, h1, h2⟩ | ⟨_, h1, h2⟩ | ⟨_, h1, h2⟩ <;> (rw [h1] at ha ⊢; omega)
theorem sum_sg {bits a b : Int} (h : IsBits bits) (_ha : 0 ≤ a ∧ a < pw bits) (_hb : 0 ≤ b ∧ b < pw bits) : wr bits (sg bits a + sg bits b) = doOp 0 bits a b := by
  simp only [doOp, reduceIte, wr]
  rcases bits_cases h with ⟨_, h1, h2⟩ | ⟨_, h1, h2⟩ | ⟨_, h1, h2⟩ <;> (simp only [sg, h1, h2]; omega)
theorem sat_in {bits a b : Int} (h : IsBits bits) (ha : 0 ≤ a ∧ a < pw bits) (hb : 0 ≤ b ∧ b < pw bits) (h1 : - hf bits ≤ sg bits a + sg bits b) (h2 : sg bits a + sg bits b < hf bits) : doOp 11 bits a b = doOp 0 bits a b := by
  rw [← sum_sg h ha hb]
  simp only [doOp, reduceIte, Int.reduceEq]
  congr 1
  unfold cl; rw [if_neg (by omega), if_neg (by omega)]
theorem sg_wr {bits n : Int} (h : IsBits bits) (h1 : - hf bits ≤ n) (h2 : n < hf bits) : sg bits (wr bits n) = n := by
  rcases bits_cases h with ⟨_, e1, e2⟩ | ⟨_, e1, e2⟩ | ⟨_, e1, e2⟩ <;> (rw [e2] at h1 h2; simp only [sg, wr, e1, e2]; omega)
theorem sat_hi {bits a b : Int} (h : IsBits bits) (h2 : hf bits ≤ sg bits a + sg bits b) : sg bits (doOp 11 bits a b) = hf bits - 1 := by
  have hb : 8 ≤ hf bits := by rcases bits_cases h with ⟨_, e1, e2⟩ | ⟨_, e1, e2⟩ | ⟨_, e1, e2⟩ <;> omega
  have : doOp 11 bits a b = wr bits (hf bits - 1) := by
    simp only [doOp, reduceIte, Int.reduceEq]; congr 1
    unfold cl; rw [if_neg (by omega), if_pos (by omega)]
  rw [this]; exact sg_wr h (by omega) (by omega)
theorem sat_lo {bits a b : Int} (h : IsBits bits) (h2 : sg bits a + sg bits b < - hf bits) : sg bits (doOp 11 bits a b) = - hf bits := by
  have hb : 8 ≤ hf bits := by rcases bits_cases h with ⟨_, e1, e2⟩ | ⟨_, e1, e2⟩ | ⟨_, e1, e2⟩ <;> omega
  have : doOp 11 bits a b = wr bits (- hf bits) := by
    simp only [doOp, reduceIte, Int.reduceEq]; congr 1
    unfold cl; rw [if_pos (by omega)]
  rw [this]; exact sg_wr h (by omega) (by omega)
theorem satu {bits a b : Int} (_h : IsBits bits) (ha : 0 ≤ a ∧ a < pw bits) (hb : 0 ≤ b ∧ b < pw bits) :
    (a + b ≤ pw bits - 1 → doOp 10 bits a b = doOp 0 bits a b) ∧ (pw bits - 1 < a + b → doOp 10 bits a b = pw bits - 1) := by
  simp only [doOp, reduceIte, Int.reduceEq, wr]
  constructor
  · intro hh; rw [Int.emod_eq_of_lt (by omega) (by omega)]; omega
  · intro hh; omega
/-- compare laws -/
theorem least_is {bits a b : Int} (h : IsBits bits) (ha : 0 ≤ a ∧ a < pw bits) (hb : 0 ≤ b ∧ b < pw bits) : (doOp 8 bits a b = a) ↔ sg bits a ≤ sg bits b := by
  simp only [doOp, reduceIte, Int.reduceEq]
  rcases bits_cases h with ⟨_, h1, h2⟩ | ⟨_, h1, h2⟩ | ⟨_, h1, h2⟩ <;> (rw [h1] at ha hb; simp only [sg, h1, h2]; omega)
theorem not_comm {op : Int} (h0 : 0 ≤ op) (h1 : op ≤ 17) (hc : comm op = false) : doOp op 4 1 15 ≠ doOp op 4 15 1 ∨ doOp op 4 1 2 ≠ doOp op 4 2 1 := by
  rcases op_cases h0 h1 with rfl | rfl | rfl | rfl | rfl | rfl | rfl | rfl | rfl | rfl | rfl | rfl | rfl | rfl | rfl | rfl | rfl | rfl
  all_goals try (exact absurd hc (by decide))
  all_goals decide
theorem not_assoc {op : Int} (hc : comm op = true) (ha : assoc op = false) : doOp op 4 (doOp op 4 7 7) 15 ≠ doOp op 4 7 (doOp op 4 7 15) ∨ doOp op 4 (doOp op 4 0 0) 2 ≠ doOp op 4 0 (doOp op 4 0 2) := by
  have : op = 11 ∨ op = 14 := by simp [comm] at hc; simp [assoc, comm] at ha; omega
  rcases this with rfl | rfl <;> decide
end Wd
