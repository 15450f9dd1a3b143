import Derived.Test.YtbifmhbkmnofiaaWj
namespace Go.Proofs.Ytbifmhbkmnofiaa
open Go.RowKit
set_option linter.unusedVariables false
set_option linter.unusedSimpArgs false
theorem cut3 (xs : List Int) (p n : Nat) (h : p + n ≤ xs.length) : xs = xs.take p ++ (((xs.drop p).take n) ++ xs.drop (p + n)) := by
  rw [← List.drop_drop, List.take_append_drop, List.take_append_drop]
theorem take_next (xs : List Int) (p n : Nat) : xs.take (p + n) = xs.take p ++ (xs.drop p).take n := by rw [List.take_add]
/-- a piece with which nothing is wrong: the first fault of all lies behind it -/
theorem piece_none {st wi sk : Int} {xs : List Int} {p n : Nat} {y z : WS} (hl : p + n ≤ xs.length) (h1 : takeW st wi sk W0 (xs.take p) 0 = (y, none)) (h2 : takeW st wi sk y ((xs.drop p).take n) 0 = (z, none)) :
    takeW st wi sk W0 (xs.take (p + n)) 0 = (z, none) ∧ (∀ f q, (takeW st wi sk W0 xs 0).2 = some (f, q) → p + n ≤ q) := by
  have hp : (xs.take p).length = p := by rw [List.length_take]; omega
  have hn : ((xs.drop p).take n).length = n := by rw [List.length_take, List.length_drop]; omega
  have h3 : takeW st wi sk y ((xs.drop p).take n) p = (z, none) := by
    have := takeW_shift st wi sk y ((xs.drop p).take n) 0 p
    rw [Nat.zero_add, h2] at this
    exact this
  have h4 : takeW st wi sk W0 (xs.take (p + n)) 0 = (z, none) := by
    rw [take_next, takeW_none h1, Nat.zero_add, hp]
    exact h3
  refine ⟨h4, fun f q hq => ?_⟩
  have h5 : takeW st wi sk W0 xs 0 = takeW st wi sk z (xs.drop (p + n)) (p + n) := by
    have := takeW_none h4 (xs.drop (p + n))
    rw [List.take_append_drop, Nat.zero_add, List.length_take, Nat.min_eq_left hl] at this
    exact this
  rw [h5] at hq
  exact (takeW_lt (y := (takeW st wi sk z (xs.drop (p + n)) (p + n)).1) (f := f) (Prod.ext rfl hq)).1
/-- a piece with a fault: it is the first of all -/
theorem piece_some {st wi sk : Int} {xs : List Int} {p n q : Nat} {y z : WS} {f : Bool} (hl : p + n ≤ xs.length) (h1 : takeW st wi sk W0 (xs.take p) 0 = (y, none)) (h2 : takeW st wi sk y ((xs.drop p).take n) 0 = (z, some (f, q))) :
    (takeW st wi sk W0 xs 0).2 = some (f, q + p) ∧ q < n := by
  have hp : (xs.take p).length = p := by rw [List.length_take]; omega
  have hn : ((xs.drop p).take n).length = n := by rw [List.length_take, List.length_drop]; omega
  have hq := (takeW_lt h2).2
  rw [hn, Nat.zero_add] at hq
  refine ⟨?_, hq⟩
  have h3 : takeW st wi sk y ((xs.drop p).take n) p = (z, some (f, q + p)) := by
    have := takeW_shift st wi sk y ((xs.drop p).take n) 0 p
    rw [Nat.zero_add, h2] at this
    exact this
  have h4 : takeW st wi sk W0 (xs.take (p + n)) 0 = (z, some (f, q + p)) := by
    rw [take_next, takeW_none h1, Nat.zero_add, hp]
    exact h3
  have := takeW_some h4 (xs.drop (p + n))
  rw [List.take_append_drop] at this
  rw [this]
end Go.Proofs.Ytbifmhbkmnofiaa
