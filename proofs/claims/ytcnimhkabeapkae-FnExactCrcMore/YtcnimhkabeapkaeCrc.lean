/- The CRC as a plain function (the register, a byte, a text), and that putting the byte on ahead is the same as bit by bit. -/
import Derived.Test.YtcnimhkabeapkaeBase
import Derived.Laws.BitsAllLaws
namespace Go.Proofs.Ytcnimhkabeapkae
def poly : Nat := 3988292384
def step (r : Nat) : Nat := if r % 2 = 1 then (r / 2) ^^^ poly else r / 2
def stepI (r x : Nat) : Nat := if (r ^^^ x) % 2 = 1 then (r / 2) ^^^ poly else r / 2

theorem xor_half (a b : Nat) : (a ^^^ b) / 2 = a / 2 ^^^ b / 2 := by
  have := Nat.shiftRight_xor_distrib (a := a) (b := b) (i := 1)
  simpa [Nat.shiftRight_eq_div_pow] using this
theorem step_xor (r x : Nat) : step (r ^^^ x) = stepI r x ^^^ (x / 2) := by
  unfold step stepI
  rw [xor_half]
  split
  · rw [Nat.xor_assoc, Nat.xor_comm (x/2) poly, ← Nat.xor_assoc]
  · rfl
theorem xor_lt {a b : Nat} (ha : a < 4294967296) (hb : b < 4294967296) : a ^^^ b < 4294967296 := Nat.xor_lt_two_pow (n := 32) ha hb
theorem step_lt {r : Nat} (h : r < 4294967296) : step r < 4294967296 := by
  unfold step
  split
  · exact xor_lt (by omega) (by decide)
  · omega
theorem stepI_lt {r x : Nat} (h : r < 4294967296) : stepI r x < 4294967296 := by
  unfold stepI
  split
  · exact xor_lt (by omega) (by decide)
  · omega
/-- k rounds of the register with the byte put on ahead -/
def runs : Nat → Nat → Nat
  | 0, r => r
  | k + 1, r => step (runs k r)
/-- k rounds of the register, the byte's bits one by one -/
def runsI (b : Nat) : Nat → Nat → Nat
  | 0, r => r
  | k + 1, r => stepI (runsI b k r) (b / 2 ^ k)
theorem runs_eq (b r k : Nat) : runs k (r ^^^ b) = runsI b k r ^^^ (b / 2 ^ k) := by
  induction k with
  | zero => simp [runs, runsI]
  | succ k ih =>
    rw [runs, runsI, ih, step_xor, Nat.div_div_eq_div_mul, ← Nat.pow_succ]
theorem runs_byte (b r : Nat) (hb : b < 256) : runs 8 (r ^^^ b) = runsI b 8 r := by
  rw [runs_eq]
  have : b / 2 ^ 8 = 0 := by omega
  rw [this, Nat.xor_zero]
theorem runs_lt {r : Nat} (h : r < 4294967296) (k : Nat) : runs k r < 4294967296 := by
  induction k with
  | zero => exact h
  | succ k ih => exact step_lt ih
theorem runsI_lt {b r : Nat} (h : r < 4294967296) (k : Nat) : runsI b k r < 4294967296 := by
  induction k with
  | zero => exact h
  | succ k ih => exact stepI_lt ih
/-- the register behind a list of bytes -/
def reg (r : Nat) (l : List UInt8) : Nat := l.foldl (fun r c => runsI c.toNat 8 r) r
theorem reg_snoc (r : Nat) (l : List UInt8) (c : UInt8) : reg r (l ++ [c]) = runsI c.toNat 8 (reg r l) := by simp [reg]
theorem reg_lt {r : Nat} (h : r < 4294967296) (l : List UInt8) : reg r l < 4294967296 := by
  unfold reg
  induction l generalizing r with
  | nil => exact h
  | cons c l ih => exact ih (runsI_lt h 8)
theorem cast_shift (b k : Nat) : ((b : Int) / 2 ^ k % 4294967296) = ((b / 2 ^ k % 4294967296 : Nat) : Int) := by
  simp [Int.natCast_ediv, Int.natCast_pow]
theorem bit_val (x b k : Nat) (hx : x < 4294967296) (hb : b < 256) : bits .and .u32 (bits .xor .u32 (x : Int) ((b : Int) / 2 ^ k % 4294967296)) 1 = (((x ^^^ b / 2 ^ k) % 2 : Nat) : Int) := by
  have hq : b / 2 ^ k ≤ b := Nat.div_le_self _ _
  rw [cast_shift, Nat.mod_eq_of_lt (by omega), u32_xor_nat x _ hx (by omega)]
  have := u32_and_nat (x ^^^ b / 2 ^ k) 1 (xor_lt hx (by omega)) (by omega)
  rw [Int.natCast_one] at this
  rw [this, nat_mask1]
theorem turn_val (x : Nat) (hx : x < 4294967296) : bits .xor .u32 ((x : Int) / 2) 3988292384 = ((x / 2 ^^^ poly : Nat) : Int) := by
  have h2 : ((x : Int) / 2) = ((x / 2 : Nat) : Int) := by simp
  rw [h2]
  exact u32_xor_nat (x / 2) poly (by omega) (by decide)
theorem stepI_yes {x b k : Nat} (hx : x < 4294967296) (hb : b < 256) (h : (bits .and .u32 (bits .xor .u32 (x : Int) ((b : Int) / 2 ^ k % 4294967296)) 1 == 1) = true) :
    bits .xor .u32 ((x : Int) / 2) 3988292384 = ((stepI x (b / 2 ^ k) : Nat) : Int) := by
  rw [bit_val x b k hx hb, beq_iff_eq] at h
  rw [turn_val x hx, stepI, if_pos (by omega)]
theorem stepI_no {x b k : Nat} (hx : x < 4294967296) (hb : b < 256) (h : (bits .and .u32 (bits .xor .u32 (x : Int) ((b : Int) / 2 ^ k % 4294967296)) 1 == 1) = false) :
    (x : Int) / 2 = ((stepI x (b / 2 ^ k) : Nat) : Int) := by
  rw [bit_val x b k hx hb, beq_eq_false_iff_ne] at h
  rw [stepI, if_neg (by omega)]; simp
theorem low_val (x : Nat) (hx : x < 4294967296) : bits .and .u32 (x : Int) 1 = ((x % 2 : Nat) : Int) := by
  have := u32_and_nat x 1 hx (by omega)
  rw [Int.natCast_one] at this
  rw [this, nat_mask1]
theorem step_yes {x : Nat} (hx : x < 4294967296) (h : (bits .and .u32 (x : Int) 1 == 1) = true) : bits .xor .u32 ((x : Int) / 2) 3988292384 = ((step x : Nat) : Int) := by
  rw [low_val x hx, beq_iff_eq] at h
  rw [turn_val x hx, step, if_pos (by omega)]
theorem step_no {x : Nat} (hx : x < 4294967296) (h : (bits .and .u32 (x : Int) 1 == 1) = false) : (x : Int) / 2 = ((step x : Nat) : Int) := by
  rw [low_val x hx, beq_eq_false_iff_ne] at h
  rw [step, if_neg (by omega)]; simp
theorem take_snoc (s : ByteArray) (k : Nat) (h : k < s.size) : s.data.toList.take (k + 1) = s.data.toList.take k ++ [s[k]] := by
  rw [List.take_succ_eq_append_getElem (by simpa using h)]; rfl
theorem reg_succ (r : Nat) (s : ByteArray) (k : Nat) (h : k < s.size) : reg r (s.data.toList.take (k + 1)) = runsI (s[k].toNat) 8 (reg r (s.data.toList.take k)) := by
  rw [take_snoc s k h, reg_snoc]
theorem take_all (s : ByteArray) (k : Nat) (h : s.size ≤ k) : s.data.toList.take k = s.data.toList := List.take_of_length_le (by simpa using h)
theorem byte_lt (c : UInt8) : c.toNat < 256 := c.toNat_lt
theorem not_val (c : Nat) (hc : c < 4294967296) : bits .xor .u32 (c : Int) 4294967295 = ((c ^^^ 4294967295 : Nat) : Int) := u32_xor_nat c 4294967295 hc (by omega)
theorem on_val (x : Nat) (c : UInt8) (hx : x < 4294967296) : bits .xor .u32 (x : Int) ((c.toNat : Int) % 4294967296) = ((runs 0 (x ^^^ c.toNat) : Nat) : Int) := by
  have hc := byte_lt c
  have h : ((c.toNat : Int) % 4294967296) = (c.toNat : Int) := by omega
  rw [h]; exact u32_xor_nat x c.toNat hx (by omega)
theorem flip_val (c : Nat) (hc : c < 4294967296) : bits .xor .u32 IntKind.u32.max (c : Int) = ((c ^^^ 4294967295 : Nat) : Int) := by
  have h : IntKind.u32.max = ((4294967295 : Nat) : Int) := by decide
  rw [h, u32_xor_nat 4294967295 c (by omega) hc, Nat.xor_comm]
/-- what CrcMore answers of a crc from 0 to 2^32-1 -/
def crcOf (c : Nat) (s : ByteArray) : Nat := reg (c ^^^ 4294967295) s.data.toList ^^^ 4294967295
end Go.Proofs.Ytcnimhkabeapkae
