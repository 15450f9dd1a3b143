import Derived.Test.YtbifmhbkmnofiaaRe
namespace Go.Proofs.Ytbifmhbkmnofiaa
open Go.RowKit
set_option linter.unusedVariables false
set_option linter.unusedSimpArgs false
/-- a block that is filled: bytes 0 to j of it are new -/
theorem feed_part (s : DS) (hs : s.ok) (hn : s.n % 64 = 0) (c : List Int) (hc : c.length = 64) : ∀ j, j < 64 → feed s (c.take j) = ⟨s.h, c.take j ++ s.b.drop j, s.n + j⟩
  | 0, _ => by simp [feed]
  | j + 1, h => by
    have ih := feed_part s hs hn c hc j (by omega)
    have hj : j < c.length := by omega
    rw [List.take_succ_eq_append_getElem hj, feed_append, ih]
    show addB _ c[j] = _
    unfold addB
    have hm : (s.n + j) % 64 = j := by omega
    have hm2 : ¬ (s.n + j + 1) % 64 = 0 := by omega
    simp only [hm]
    rw [if_neg hm2]
    have hb : j < s.b.length := by rw [hs.bl]; omega
    congr 1
    rw [List.set_append_right _ _ (by rw [List.length_take]; omega), List.length_take, Nat.min_eq_left (by omega), Nat.sub_self]
    conv => lhs; rw [List.drop_eq_getElem_cons hb]
    rw [List.set_cons_zero]
    have e2 := List.take_succ_eq_append_getElem hj
    simp only [List.append_assoc, List.singleton_append] at e2 ⊢
    first | done | (rw [e2]; simp)
theorem feed_block (s : DS) (hs : s.ok) (hn : s.n % 64 = 0) (c : List Int) (hc : c.length = 64) : feed s c = ⟨mixI s.h c, c, s.n + 64⟩ := by
  have h1 := feed_part s hs hn c hc 63 (by omega)
  have hj : 63 < c.length := by omega
  have e : c = c.take 63 ++ [c[63]] := by
    have := List.take_succ_eq_append_getElem hj
    rw [← this, List.take_of_length_le (by omega)]
  have hb : 63 < s.b.length := by rw [hs.bl]; omega
  have hset : (c.take 63 ++ s.b.drop 63).set 63 c[63] = c := by
    rw [List.set_append_right _ _ (by rw [List.length_take]; omega), List.length_take, Nat.min_eq_left (by omega), Nat.sub_self, List.drop_eq_getElem_cons hb]
    have hd : s.b.drop (63 + 1) = [] := List.drop_of_length_le (by rw [hs.bl]; omega)
    rw [hd]
    simp only [List.set_cons_zero]
    exact e.symm
  have : feed s c = addB (feed s (c.take 63)) c[63] := by
    conv => lhs; rw [e, feed_append]
    rfl
  rw [this, h1]
  unfold addB
  have hm : (s.n + 63) % 64 = 63 := by omega
  have hm2 : (s.n + 63 + 1) % 64 = 0 := by omega
  simp only [hm, hset]
  rw [if_pos hm2]
/-- the words behind k blocks -/
def hAt (m : List Int) : Nat → List Int
  | 0 => HT
  | k + 1 => mixI (hAt m k) ((m.drop (64 * k)).take 64)
theorem hAt_len (m : List Int) : ∀ k, (hAt m k).length = 8
  | 0 => rfl
  | k + 1 => (mixI_len _ _).trans (hAt_len m k)
theorem hAt_W (m : List Int) : ∀ k, allW (hAt m k)
  | 0 => HT_W
  | k + 1 => mixI_W _ _ (hAt_W m k)
theorem feed_hAt (m : List Int) : ∀ k, 64 * k ≤ m.length → (feed DSN (m.take (64 * k))).h = hAt m k ∧ (feed DSN (m.take (64 * k))).n = 64 * k
  | 0, _ => ⟨by simp [feed, hAt, DSN], by simp [feed, DSN]⟩
  | k + 1, h => by
    obtain ⟨i1, i2⟩ := feed_hAt m k (by omega)
    have hc : ((m.drop (64 * k)).take 64).length = 64 := by rw [List.length_take, List.length_drop]; omega
    have e : m.take (64 * (k + 1)) = m.take (64 * k) ++ (m.drop (64 * k)).take 64 := by
      rw [show 64 * (k + 1) = 64 * k + 64 by omega, List.take_add]
    rw [e, feed_append, feed_block _ (feed_ok DSN_ok _) (by rw [i2]; omega) _ hc]
    exact ⟨by rw [i1]; rfl, by show _ + 64 = _; rw [i2]; omega⟩
theorem lenBytes_bt (m : Int) : lenBytes m 8 = btI m 8 := by
  simp only [lenBytes, btI, lenB, List.range, List.range.loop, List.map]
  simp
def padded (xs : List Int) : List Int := xs ++ [128] ++ zeros (padN (xs.length + 1)) ++ btI (8 * (xs.length : Int)) 8
theorem padded_len (xs : List Int) : (padded xs).length = xs.length + 1 + padN (xs.length + 1) + 8 := by simp [padded, zeros_len, btI_len]; omega
theorem padded_mod (xs : List Int) : (padded xs).length % 64 = 0 := by
  rw [padded_len]; have := pad_eq (xs.length + 1); omega
theorem toB_map (hs : List Int) : ∀ k, k ≤ 32 → toB hs k = (List.range k).map (tb hs) ++ zeros (32 - k)
  | 0, _ => rfl
  | k + 1, h => by
    rw [toB, toB_map hs k (by omega), List.set_append_right _ _ (by simp), List.range_succ, List.map_append]
    rw [show 32 - k = (32 - (k + 1)) + 1 by omega]
    simp [zeros, List.replicate_succ]
theorem toB_bt (a b c d e f g h : Int) : toB [a, b, c, d, e, f, g, h] 32 = btI a 4 ++ btI b 4 ++ btI c 4 ++ btI d 4 ++ btI e 4 ++ btI f 4 ++ btI g 4 ++ btI h 4 := by
  rw [toB_map _ 32 (by omega)]
  simp only [btI, tb, List.range, List.range.loop, List.map, zeros]
  simp
theorem shaI_hAt (xs : List Int) : shaI xs = toB (hAt (padded xs) ((padded xs).length / 64)) 32 := by
  have e : finD (feed DSN xs) = feed DSN (padded xs) := by
    unfold finD padded
    rw [feed_append, feed_append, feed_append, feed_n, show DSN.n = 0 from rfl, Nat.zero_add, lenBytes_bt]
    rfl
  have hm := padded_mod xs
  have h := (feed_hAt (padded xs) ((padded xs).length / 64) (by omega)).1
  rw [List.take_of_length_le (by omega)] at h
  unfold shaI sumD
  rw [e, h]
end Go.Proofs.Ytbifmhbkmnofiaa
