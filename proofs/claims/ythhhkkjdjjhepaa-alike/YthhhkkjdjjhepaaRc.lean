import Derived.Test.YthhhkkjdjjhepaaRb
namespace Go.Proofs.Ythhhkkjdjjhepaa
open Go.RowKit
set_option linter.unusedVariables false
set_option linter.unusedSimpArgs false
/-- a number in so many bytes -/
def btI (n : Int) (many : Nat) : List Int := (List.range many).map fun j => n / 256 ^ (many - 1 - j) % 256
theorem btI_len (n : Int) (many : Nat) : (btI n many).length = many := by simp [btI]
theorem btI_B (n : Int) (many : Nat) : allB (btI n many) := by
  intro x hx
  simp only [btI, List.mem_map, List.mem_range] at hx
  obtain ⟨j, _, rfl⟩ := hx
  omega
def stB (n : Int) (many k : Nat) : List Int := zeros (many - k) ++ (btI n many).drop (many - k)
theorem stB_len (n : Int) (many k : Nat) (h : k ≤ many) : (stB n many k).length = many := by simp [stB, zeros, btI_len]
theorem stB_step (n : Int) (many k : Nat) (h : k < many) : stB n many (k + 1) = (stB n many k).set (many - 1 - k) (n / 256 ^ k % 256) := by
  unfold stB
  rw [List.set_append_left _ _ (by rw [zeros_len]; omega)]
  have e1 : zeros (many - k) = zeros (many - (k + 1)) ++ [0] := by rw [← zeros_succ]; congr 1; omega
  rw [e1, List.set_append_right _ _ (by rw [zeros_len]; omega), zeros_len, show many - 1 - k - (many - (k + 1)) = 0 by omega]
  have hlt : many - (k + 1) < (btI n many).length := by rw [btI_len]; omega
  rw [List.drop_eq_getElem_cons hlt]
  have e2 : (btI n many)[many - (k + 1)] = n / 256 ^ k % 256 := by
    simp only [btI, List.getElem_map, List.getElem_range]
    rw [show many - 1 - (many - (k + 1)) = k by omega]
  rw [e2, show many - (k + 1) + 1 = many - k by omega]
  simp
theorem div_step (n : Int) (k : Nat) : n / 256 ^ k / 256 = n / 256 ^ (k + 1) := by
  rw [Int.pow_succ, Int.ediv_ediv_of_nonneg (Int.pow_nonneg (by decide))]
set_option maxRecDepth 20000 in
set_option maxHeartbeats 400000 in
theorem bytes_any (n : Int) (many : Nat) (w : World) (hn : 0 ≤ n) (hn2 : n ≤ 9223372036854775807) (hm : many ≤ 100) :
    Calls Try.prog 83 #[.int .i64 n, .int .i64 many] w fun e w' => e = .returned (.string (toS (btI n many))) ∧ Below w.heap.size w w' := by
  go_enter Try.func83, Try.ntmps83
  go_wp2_with (refine wpList_makeB rfl _ _ rfl many (by omega) rfl rfl ?_)
  have hD : (w.alloc (.cells (ints .u8 (zeros many)) 5)).heap[w.heap.size]? = some (.cells (ints .u8 (stB n many 0)) 5 (0, 0)) := by
    have e : stB n many 0 = zeros many := by simp [stB, List.drop_of_length_le (Nat.le_of_eq (btI_len n many))]
    rw [e]; exact al_new _ _
  have hB : Below w.heap.size w (w.alloc (.cells (ints .u8 (zeros many)) 5)) := (Below.refl _ _).alloc (Nat.le_refl _) _
  generalize (w.alloc (.cells (ints .u8 (zeros many)) 5)) = w1 at *
  go_loopw [0, 6] (fun m i wr => ∃ k : Nat, k ≤ many ∧ i = .int .i64 ((many : Int) - 1 - k) ∧ m = .int .i64 (n / 256 ^ k) ∧ wr.heap[w.heap.size]? = some (.cells (ints .u8 (stB n many k)) 5 (0, 0)) ∧ Below w.heap.size w wr) (fun _ i _ => ((intOf i) + 1).toNat)
  case atStart => exact ⟨0, by omega, by go_num, by simp, hD, hB⟩
  case round =>
    clear hD hB
    obtain ⟨k, hk, rfl, rfl, hD, hB⟩ := hrel
    have q0 : 0 ≤ n / 256 ^ k := Int.ediv_nonneg hn (Int.pow_nonneg (by decide))
    have q1 : n / 256 ^ k ≤ 9223372036854775807 := Int.le_trans (Int.ediv_le_self _ hn) hn2
    by_cases hlt : k < many
    · have hst := hid (stB_step n many k hlt)
      have hds := hid (div_step n k)
      have hl := stB_len n many k hk
      have c0 := (cells_of _ _ _ _ _ hD).1 (many - 1 - k) (by omega)
      have f0 := (cells_of _ _ _ _ _ hD).2 (many - 1 - k)
      have j0 : ((many : Int) - 1 - k).toNat = many - 1 - k := by omega
      have i0 : (0 : Int) ≤ (many : Int) - 1 - k := by omega
      have i1 : (many : Int) - 1 - k < many := by omega
      have HD := hid hD
      clear hD
      generalize stB n many k = l at *
      generalize n / 256 ^ k = q at *
      go_wp2
      refine ⟨⟨k + 1, by omega, by go_num, ?_, ?_, hB.setCell (by simp) _⟩, by simp [intOf]; omega⟩
      · rw [← hds.out]
      · rw [hst.out]; exact setCell_ints _ _ _ _ _ _ _ HD.out
    · obtain rfl : k = many := by omega
      have e : stB n k k = btI n k := by simp [stB, zeros]
      rw [e] at hD
      have y1 : Byt wr (.slice (some ⟨w.heap.size, 0, none⟩) k k) (btI n k) := by have := byt_block hD k; rw [btI_len] at this; exact this
      have Y1 := hid y1
      clear y1 hD e
      generalize hbt : btI n k = bt at *
      have Hbt := hid hbt
      clear hbt
      go_wp2_with (refine wpList_str rfl _ rfl _ bt rfl Y1.out ?_)
      go_ret
      exact ⟨by rw [Hbt.out]; rfl, hB⟩
theorem bytes_int (n many : Int) (w : World) (hn : 0 ≤ n) (hn2 : n ≤ 9223372036854775807) (h0 : 0 ≤ many) (hm : many ≤ 100) :
    Calls Try.prog 83 #[.int .i64 n, .int .i64 many] w fun e w' => e = .returned (.string (toS (btI n many.toNat))) ∧ Below w.heap.size w w' := by
  obtain ⟨k, rfl⟩ := Int.eq_ofNat_of_zero_le h0
  rw [Int.toNat_natCast]
  exact bytes_any n k w hn hn2 (by omega)
end Go.Proofs.Ythhhkkjdjjhepaa
