import Derived.Test.YtbifmhbkmnofiaaDs
namespace Go.Proofs.Ytbifmhbkmnofiaa
open Go.RowKit
set_option linter.unusedVariables false
set_option linter.unusedSimpArgs false
theorem toNat_W {x : Int} (h : W32 x) : ∃ n : Nat, x = n ∧ n < 4294967296 := ⟨x.toNat, by have := h.1; omega, by have := h.2; omega⟩
theorem and32 (a b : Nat) (ha : a < 4294967296) (hb : b < 4294967296) : bits .and .u32 (a : Int) (b : Int) = ((a &&& b : Nat) : Int) := by
  show IntKind.u32.wrap ((BitVec.ofInt 32 (a : Int) &&& BitVec.ofInt 32 (b : Int)).toNat : Int) = _
  rw [BitVec.toNat_and, ofInt_u32 a ha, ofInt_u32 b hb, IntKind.wrap_u32']
  have : a &&& b < 2 ^ 32 := Nat.and_lt_two_pow _ (by omega)
  omega
theorem or32 (a b : Nat) (ha : a < 4294967296) (hb : b < 4294967296) : bits .or .u32 (a : Int) (b : Int) = ((a ||| b : Nat) : Int) := by
  show IntKind.u32.wrap ((BitVec.ofInt 32 (a : Int) ||| BitVec.ofInt 32 (b : Int)).toNat : Int) = _
  rw [BitVec.toNat_or, ofInt_u32 a ha, ofInt_u32 b hb, IntKind.wrap_u32']
  have : a ||| b < 2 ^ 32 := Nat.or_lt_two_pow (by omega) (by omega)
  omega
theorem xor32 (a b : Nat) (ha : a < 4294967296) (hb : b < 4294967296) : bits .xor .u32 (a : Int) (b : Int) = ((a ^^^ b : Nat) : Int) := by
  show IntKind.u32.wrap ((BitVec.ofInt 32 (a : Int) ^^^ BitVec.ofInt 32 (b : Int)).toNat : Int) = _
  rw [BitVec.toNat_xor, ofInt_u32 a ha, ofInt_u32 b hb, IntKind.wrap_u32']
  have : a ^^^ b < 2 ^ 32 := Nat.xor_lt_two_pow (by omega) (by omega)
  omega
theorem wrapi64 (n : Nat) (h : n < 4294967296) : IntKind.i64.wrap (n : Int) = n := by
  simp [IntKind.wrap, IntKind.bits, IntKind.signed]; omega
theorem and64 (a b : Nat) (ha : a < 4294967296) (hb : b < 4294967296) : bits .and .i64 (a : Int) (b : Int) = ((a &&& b : Nat) : Int) := by
  show IntKind.i64.wrap ((BitVec.ofInt 64 (a : Int) &&& BitVec.ofInt 64 (b : Int)).toNat : Int) = _
  rw [BitVec.toNat_and, ofInt_u64 a (by omega), ofInt_u64 b (by omega)]
  exact wrapi64 _ (by have : a &&& b < 2 ^ 32 := Nat.and_lt_two_pow _ (by omega); omega)
theorem or64 (a b : Nat) (ha : a < 4294967296) (hb : b < 4294967296) : bits .or .i64 (a : Int) (b : Int) = ((a ||| b : Nat) : Int) := by
  show IntKind.i64.wrap ((BitVec.ofInt 64 (a : Int) ||| BitVec.ofInt 64 (b : Int)).toNat : Int) = _
  rw [BitVec.toNat_or, ofInt_u64 a (by omega), ofInt_u64 b (by omega)]
  exact wrapi64 _ (by have : a ||| b < 2 ^ 32 := Nat.or_lt_two_pow (by omega) (by omega); omega)
theorem xor64 (a b : Nat) (ha : a < 4294967296) (hb : b < 4294967296) : bits .xor .i64 (a : Int) (b : Int) = ((a ^^^ b : Nat) : Int) := by
  show IntKind.i64.wrap ((BitVec.ofInt 64 (a : Int) ^^^ BitVec.ofInt 64 (b : Int)).toNat : Int) = _
  rw [BitVec.toNat_xor, ofInt_u64 a (by omega), ofInt_u64 b (by omega)]
  exact wrapi64 _ (by have : a ^^^ b < 2 ^ 32 := Nat.xor_lt_two_pow (by omega) (by omega); omega)
/-- on words the two widths agree -/
theorem and_w {a b : Int} (ha : W32 a) (hb : W32 b) : bits .and .i64 a b = bits .and .u32 a b := by
  obtain ⟨m, rfl, hm⟩ := toNat_W ha; obtain ⟨n, rfl, hn⟩ := toNat_W hb; rw [and32 m n hm hn, and64 m n hm hn]
theorem or_w {a b : Int} (ha : W32 a) (hb : W32 b) : bits .or .i64 a b = bits .or .u32 a b := by
  obtain ⟨m, rfl, hm⟩ := toNat_W ha; obtain ⟨n, rfl, hn⟩ := toNat_W hb; rw [or32 m n hm hn, or64 m n hm hn]
theorem xor_w {a b : Int} (ha : W32 a) (hb : W32 b) : bits .xor .i64 a b = bits .xor .u32 a b := by
  obtain ⟨m, rfl, hm⟩ := toNat_W ha; obtain ⟨n, rfl, hn⟩ := toNat_W hb; rw [xor32 m n hm hn, xor64 m n hm hn]
theorem rot_W (x n : Int) : W32 (rotI x n) := bits_u32 _ _ _ (by simp)
/-- a rotation by products and quotients -/
theorem rot_eq (x : Int) (h : W32 x) (k : Nat) (h1 : 1 ≤ k) (h2 : k ≤ 31) : x / 2 ^ k + x % 2 ^ k * 2 ^ (32 - k) = rotI x k := by
  obtain ⟨m, rfl, hm⟩ := toNat_W h
  unfold rotI
  have e1 : (32 - (k : Int)).toNat = 32 - k := by omega
  have e2 : ((k : Int)).toNat = k := by omega
  rw [e1, e2]
  have hp : 2 ^ k * 2 ^ (32 - k) = 4294967296 := by rw [← Nat.pow_add, show k + (32 - k) = 32 by omega]
  have hm2 : m * 2 ^ (32 - k) % 4294967296 = m % 2 ^ k * 2 ^ (32 - k) := by
    rw [← hp, Nat.mul_mod_mul_right]
  have hA : ((m : Int) * 2 ^ (32 - k) % 4294967296) = ((m % 2 ^ k * 2 ^ (32 - k) : Nat) : Int) := by
    rw [← hm2]; simp
  have hB : ((m : Int) / 2 ^ k) = ((m / 2 ^ k : Nat) : Int) := by simp
  have hlt1 : m % 2 ^ k * 2 ^ (32 - k) < 4294967296 := by rw [← hm2]; exact Nat.mod_lt _ (by decide)
  have hlt2 : m / 2 ^ k < 2 ^ (32 - k) := Nat.div_lt_of_lt_mul (by rw [hp]; exact hm)
  have hlt3 : m / 2 ^ k < 4294967296 := Nat.lt_of_le_of_lt (Nat.div_le_self _ _) hm
  rw [hA, hB, or32 _ _ hlt1 hlt3]
  have hor : m % 2 ^ k * 2 ^ (32 - k) ||| m / 2 ^ k = m % 2 ^ k * 2 ^ (32 - k) + m / 2 ^ k := by
    rw [Nat.mul_comm, Nat.two_pow_add_eq_or_of_lt hlt2]
  rw [hor]
  simp
  omega
theorem not_eq (e : Int) (h : W32 e) : bits .xor .u32 (if IntKind.u32.signed = true then -1 else IntKind.u32.max) e = 4294967295 - e := by
  obtain ⟨m, rfl, hm⟩ := toNat_W h
  have h1 : (if IntKind.u32.signed = true then (-1 : Int) else IntKind.u32.max) = ((4294967295 : Nat) : Int) := by decide
  rw [h1, xor32 4294967295 m (by decide) hm]
  have h2 : 4294967295 ^^^ m = 4294967295 - m := by
    have h3 := BitVec.toNat_not (x := BitVec.ofNat 32 m)
    rw [← BitVec.allOnes_xor, BitVec.toNat_xor, BitVec.toNat_allOnes, BitVec.toNat_ofNat, Nat.mod_eq_of_lt (show m < 2 ^ 32 by omega)] at h3
    exact h3
  rw [h2]; omega
theorem pow_bd (n : Nat) (h : n ≤ 32) : (1 : Int) ≤ 2 ^ n ∧ (2 : Int) ^ n ≤ 4294967296 := by
  constructor
  · have := Nat.one_le_two_pow (n := n)
    have e : ((2 : Int) ^ n) = ((2 ^ n : Nat) : Int) := by simp
    rw [e]; omega
  · have := Nat.pow_le_pow_right (n := 2) (by decide) h
    have e : ((2 : Int) ^ n) = ((2 ^ n : Nat) : Int) := by simp
    rw [e]; omega
theorem wrap_pow (n : Nat) (h : n ≤ 32) : IntKind.i64.wrap (2 ^ n) = 2 ^ n := by
  obtain ⟨h1, h2⟩ := pow_bd n h
  generalize (2 : Int) ^ n = y at *
  simp [IntKind.wrap, IntKind.bits, IntKind.signed]; omega
theorem div_pow (n : Nat) (h : n ≤ 32) : (4294967296 : Int) / 2 ^ n = 2 ^ (32 - n) := by
  have hp : (2 : Int) ^ n * 2 ^ (32 - n) = 4294967296 := by rw [← Int.pow_add, show n + (32 - n) = 32 by omega]; rfl
  rw [← hp]
  exact Int.mul_ediv_cancel_left _ (by have := (pow_bd n h).1; omega)
theorem rot_raw (x : Int) (h : W32 x) (n : Nat) (h1 : 1 ≤ n) (h2 : n ≤ 31) : x / 2 ^ n + x % 2 ^ n * (4294967296 / 2 ^ n) = rotI x n := by
  rw [div_pow n (by omega)]; exact rot_eq x h n h1 h2
theorem rot_part (x : Int) (h : W32 x) (n : Nat) (h1 : 1 ≤ n) (h2 : n ≤ 31) : 0 ≤ x % 2 ^ n * (4294967296 / 2 ^ n) ∧ x % 2 ^ n * (4294967296 / 2 ^ n) ≤ 4294967295 ∧ 0 ≤ x / 2 ^ n ∧ x / 2 ^ n ≤ 4294967295 := by
  have e := rot_raw x h n h1 h2
  have r := rot_W x n
  have hb := pow_bd n (by omega)
  have d1 : 0 ≤ x / 2 ^ n := Int.ediv_nonneg h.1 (by omega)
  have d2 : x / 2 ^ n ≤ x := Int.ediv_le_self _ h.1
  have m1 : 0 ≤ x % 2 ^ n := Int.emod_nonneg _ (by omega)
  have m2 : 0 ≤ (4294967296 : Int) / 2 ^ n := Int.ediv_nonneg (by decide) (by omega)
  have m3 := Int.mul_nonneg m1 m2
  have := r.2
  have := h.2
  refine ⟨m3, by omega, d1, by omega⟩
end Go.Proofs.Ytbifmhbkmnofiaa
