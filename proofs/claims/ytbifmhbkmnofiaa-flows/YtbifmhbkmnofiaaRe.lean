import Derived.Test.YtbifmhbkmnofiaaRd
namespace Go.Proofs.Ytbifmhbkmnofiaa
open Go.RowKit
set_option linter.unusedVariables false
set_option linter.unusedSimpArgs false
theorem getD_set (xs : List Int) (i j : Nat) (v : Int) (h : j ≠ i) : (xs.set i v)[j]?.getD 0 = xs[j]?.getD 0 := by
  rw [List.getElem?_set]; simp [Ne.symm h]
theorem getD_set_same (xs : List Int) (i : Nat) (v : Int) (h : i < xs.length) : (xs.set i v)[i]?.getD 0 = v := by
  rw [List.getElem?_set]; simp [h]
theorem ext_stable (xs : List Int) (k : Nat) : ∀ d j, j < 16 + k → (ext xs (k + d))[j]?.getD 0 = (ext xs k)[j]?.getD 0
  | 0, j, _ => rfl
  | d + 1, j, h => by
    rw [show k + (d + 1) = (k + d) + 1 by omega, ext, getD_set _ _ _ _ (by omega)]
    exact ext_stable xs k d j h
theorem exv_congr (xs ys : List Int) (t : Nat) (ht : 16 ≤ t) (h : ∀ j, j < t → xs[j]?.getD 0 = ys[j]?.getD 0) : exv xs t = exv ys t := by
  unfold exv
  rw [h (t - 16) (by omega), h (t - 15) (by omega), h (t - 7) (by omega), h (t - 2) (by omega)]
theorem sched_hi (bs : List Int) (t : Nat) (h1 : 16 ≤ t) (h2 : t < 64) : (sched bs)[t]?.getD 0 = exv (sched bs) t := by
  unfold sched
  obtain ⟨k, rfl⟩ : ∃ k, t = 16 + k := ⟨t - 16, by omega⟩
  have e1 : (48 : Nat) = (k + 1) + (47 - k) := by omega
  have e2 : (48 : Nat) = k + (48 - k) := by omega
  have s1 : (ext (pack bs 64) 48)[16 + k]?.getD 0 = (ext (pack bs 64) (k + 1))[16 + k]?.getD 0 := by
    conv => lhs; rw [e1]
    exact ext_stable _ _ _ _ (by omega)
  rw [s1, ext, getD_set_same _ _ _ (by rw [ext_len, pack_len]; omega)]
  refine exv_congr _ _ _ (by omega) (fun j hj => ?_)
  conv => rhs; rw [e2]
  exact (ext_stable _ _ _ _ hj).symm
theorem pack_zero (bs : List Int) (t : Nat) : ∀ k, k ≤ 4 * t → (pack bs k)[t]?.getD 0 = 0
  | 0, _ => by
    show Z64[t]?.getD 0 = 0
    unfold Z64
    rw [List.getElem?_replicate]
    split <;> rfl
  | k + 1, h => by
    rw [pack, pk, getD_set _ _ _ _ (by omega)]
    exact pack_zero bs t k (by omega)
theorem pack_stable (bs : List Int) (t k : Nat) (h : 4 * t + 4 ≤ k) : ∀ d, (pack bs (k + d))[t]?.getD 0 = (pack bs k)[t]?.getD 0
  | 0 => rfl
  | d + 1 => by
    rw [show k + (d + 1) = (k + d) + 1 by omega, pack, pk, getD_set _ _ _ _ (by omega)]
    exact pack_stable bs t k h d
theorem or_byte (x b : Int) (hx : 0 ≤ x) (hx' : x < 16777216) (hb : 0 ≤ b) (hb' : b < 256) : bits .or .u32 (x * 256 % 4294967296) (b % 4294967296) = 256 * x + b := by
  obtain ⟨m, rfl⟩ := Int.eq_ofNat_of_zero_le hx
  obtain ⟨c, rfl⟩ := Int.eq_ofNat_of_zero_le hb
  have e1 : ((m : Int) * 256 % 4294967296) = ((m * 256 : Nat) : Int) := by omega
  have e2 : ((c : Int) % 4294967296) = (c : Int) := by omega
  rw [e1, e2, or32 _ _ (by omega) (by omega)]
  have : m * 256 ||| c = 2 ^ 8 * m + c := by rw [Nat.two_pow_add_eq_or_of_lt (by omega), Nat.mul_comm]
  rw [this]; omega
theorem pack_part (bs : List Int) (hB : allB bs) (t : Nat) (ht : t < 16) (hl : bs.length = 64) : ∀ j, j ≤ 4 → (pack bs (4 * t + j))[t]?.getD 0 = numI ((bs.drop (4 * t)).take j)
  | 0, _ => by rw [pack_zero bs t _ (by omega)]; simp [numI]
  | j + 1, h => by
    have ih := pack_part bs hB t ht hl j (by omega)
    have hlen : 4 * t + j < bs.length := by omega
    rw [show 4 * t + (j + 1) = (4 * t + j) + 1 by omega, pack, pk, show (4 * t + j) / 4 = t by omega, getD_set_same _ _ _ (by rw [pack_len]; omega), ih]
    have hk : j < (bs.drop (4 * t)).length := by rw [List.length_drop]; omega
    rw [List.take_succ_eq_append_getElem hk, numI_snoc, List.getElem_drop]
    have hb := numI_bd _ (allB_take (fun x hx => hB x (List.mem_of_mem_drop hx) : allB (bs.drop (4 * t))) j)
    have hlt : ((bs.drop (4 * t)).take j).length = j := by rw [List.length_take, List.length_drop]; omega
    rw [hlt] at hb
    have hp : (256 : Int) ^ j ≤ 256 ^ 3 := by
      have := Nat.pow_le_pow_right (n := 256) (by decide) (show j ≤ 3 by omega)
      have e : ((256 : Int) ^ j) = ((256 ^ j : Nat) : Int) := by simp
      rw [e]; omega
    have hbb := hB bs[4 * t + j] (List.getElem_mem hlen)
    rw [List.getElem?_eq_getElem hlen, Option.getD_some]
    exact or_byte _ _ hb.1 (by have := hb.2; omega) hbb.1 hbb.2
theorem sched_lo (bs : List Int) (hB : allB bs) (hl : bs.length = 64) (t : Nat) (ht : t < 16) : (sched bs)[t]?.getD 0 = numI ((bs.drop (4 * t)).take 4) := by
  unfold sched
  have s1 : (ext (pack bs 64) 48)[t]?.getD 0 = (pack bs 64)[t]?.getD 0 := by
    have := ext_stable (pack bs 64) 0 48 t (by omega)
    rw [Nat.zero_add] at this
    exact this
  rw [s1]
  have s2 := pack_stable bs t (4 * t + 4) (Nat.le_refl _) (60 - 4 * t)
  rw [show 4 * t + 4 + (60 - 4 * t) = 64 by omega] at s2
  rw [s2]
  exact pack_part bs hB t ht hl 4 (by omega)
/-- one round, by numbers -/
theorem rstep_ref (a b c d e f g h k x : Int) (hw : allW [a, b, c, d, e, f, g, h]) :
    rstep [a, b, c, d, e, f, g, h] k x = [((h + bits .xor .u32 (bits .xor .u32 (rotI e 6) (rotI e 11)) (rotI e 25) + bits .or .u32 (bits .and .u32 e f) (bits .and .u32 (4294967295 - e) g) + k + x) + (bits .xor .u32 (bits .xor .u32 (rotI a 2) (rotI a 13)) (rotI a 22) + bits .or .u32 (bits .or .u32 (bits .and .u32 a b) (bits .and .u32 a c)) (bits .and .u32 b c))) % 4294967296, a, b, c,
      (d + (h + bits .xor .u32 (bits .xor .u32 (rotI e 6) (rotI e 11)) (rotI e 25) + bits .or .u32 (bits .and .u32 e f) (bits .and .u32 (4294967295 - e) g) + k + x)) % 4294967296, e, f, g] := by
  have hn := not_eq e (hw e (by simp))
  simp only [rstep, t1v, t2v, hn]
  congr 1
  · omega
  · congr 4
    omega
theorem addw8 (a b c d e f g h A B C D E F G H : Int) : addw [a, b, c, d, e, f, g, h] [A, B, C, D, E, F, G, H] 8 = [(a + A) % 4294967296, (b + B) % 4294967296, (c + C) % 4294967296, (d + D) % 4294967296, (e + E) % 4294967296, (f + F) % 4294967296, (g + G) % 4294967296, (h + H) % 4294967296] := by
  simp [addw]
theorem rnds_eight (ks xs : List Int) (a b c d e f g h : Int) (hw : allW [a, b, c, d, e, f, g, h]) : ∀ k, ∃ A B C D E F G H, rnds ks xs [a, b, c, d, e, f, g, h] k = [A, B, C, D, E, F, G, H] ∧ allW [A, B, C, D, E, F, G, H]
  | 0 => ⟨a, b, c, d, e, f, g, h, rfl, hw⟩
  | k + 1 => by
    obtain ⟨A, B, C, D, E, F, G, H, hr, hW⟩ := rnds_eight ks xs a b c d e f g h hw k
    refine ⟨_, _, _, _, _, _, _, _, by rw [rnds, hr]; rfl, allW_step A B C D E F G H _ _ hW⟩
end Go.Proofs.Ytbifmhbkmnofiaa
