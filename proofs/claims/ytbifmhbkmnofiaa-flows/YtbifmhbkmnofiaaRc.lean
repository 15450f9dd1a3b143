import Derived.Test.YtbifmhbkmnofiaaRb
namespace Go.Proofs.Ytbifmhbkmnofiaa
open Go.RowKit
set_option linter.unusedVariables false
set_option linter.unusedSimpArgs false
/-- a number in so many bytes -/
def btI (n : Int) (many : Nat) : List Int := (List.range many).map fun j => n / 256 ^ (many - 1 - j) % 256
theorem btI_len (n : Int) (many : Nat) : (btI n many).length = many := by simp [btI]
theorem btI_B (n : Int) (many : Nat) : allB (btI n many) := by
  intro x hx
  simp only [btI, List.mem_map, List.mem_range] at hx
  obtain ⟨j, _, rfl⟩ := hx
  omega
def stB (n : Int) (many k : Nat) : List Int := zeros (many - k) ++ (btI n many).drop (many - k)
theorem stB_len (n : Int) (many k : Nat) (h : k ≤ many) : (stB n many k).length = many := by simp [stB, zeros, btI_len]
theorem stB_step (n : Int) (many k : Nat) (h : k < many) : stB n many (k + 1) = (stB n many k).set (many - 1 - k) (n / 256 ^ k % 256) := by
  unfold stB
  rw [List.set_append_left _ _ (by rw [zeros_len]; omega)]
  have e1 : zeros (many - k) = zeros (many - (k + 1)) ++ [0] := by rw [← zeros_succ]; congr 1; omega
  rw [e1, List.set_append_right _ _ (by rw [zeros_len]; omega), zeros_len, show many - 1 - k - (many - (k + 1)) = 0 by omega]
  have hlt : many - (k + 1) < (btI n many).length := by rw [btI_len]; omega
  rw [List.drop_eq_getElem_cons hlt]
  have e2 : (btI n many)[many - (k + 1)] = n / 256 ^ k % 256 := by
    simp only [btI, List.getElem_map, List.getElem_range]
    rw [show many - 1 - (many - (k + 1)) = k by omega]
  rw [e2, show many - (k + 1) + 1 = many - k by omega]
  simp
theorem div_step (n : Int) (k : Nat) : n / 256 ^ k / 256 = n / 256 ^ (k + 1) := by
  rw [Int.pow_succ, Int.ediv_ediv_of_nonneg (Int.pow_nonneg (by decide))]
end Go.Proofs.Ytbifmhbkmnofiaa
