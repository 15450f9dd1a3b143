import Derived.Test.YtbifmhbkmnofiaaWh
namespace Go.Proofs.Ytbifmhbkmnofiaa
open Go.RowKit
set_option linter.unusedVariables false
set_option linter.unusedSimpArgs false
theorem takeW_cons (st wi sk : Int) (x : WS) (b : Int) (r : List Int) (k : Nat) : takeW st wi sk x (b :: r) k = if st ≤ (runW x b).t then (runW x b, some (false, k)) else if sk ≤ (winW (runW x b) b wi).n then (winW (runW x b) b wi, some (true, k)) else takeW st wi sk (winW (runW x b) b wi) r (k + 1) := rfl
/-- one piece behind the other, where nothing is wrong with the first -/
theorem takeW_none {st wi sk : Int} {x y : WS} {us : List Int} {k : Nat} (h : takeW st wi sk x us k = (y, none)) (bs : List Int) : takeW st wi sk x (us ++ bs) k = takeW st wi sk y bs (k + us.length) := by
  induction us generalizing x k with
  | nil => cases h; rfl
  | cons a us ih =>
    rw [takeW_cons] at h
    rw [List.cons_append, takeW_cons]
    by_cases h1 : st ≤ (runW x a).t
    · rw [if_pos h1] at h; simp at h
    · rw [if_neg h1] at h ⊢
      by_cases h2 : sk ≤ (winW (runW x a) a wi).n
      · rw [if_pos h2] at h; simp at h
      · rw [if_neg h2] at h ⊢
        rw [ih h, List.length_cons]
        congr 1
        omega
/-- .. and where the first is wrong -/
theorem takeW_some {st wi sk : Int} {x y : WS} {us : List Int} {k : Nat} {f : Bool × Nat} (h : takeW st wi sk x us k = (y, some f)) (bs : List Int) : takeW st wi sk x (us ++ bs) k = (y, some f) := by
  induction us generalizing x k with
  | nil => simp [takeW] at h
  | cons a us ih =>
    rw [takeW_cons] at h
    rw [List.cons_append, takeW_cons]
    by_cases h1 : st ≤ (runW x a).t
    · rw [if_pos h1] at h ⊢; exact h
    · rw [if_neg h1] at h ⊢
      by_cases h2 : sk ≤ (winW (runW x a) a wi).n
      · rw [if_pos h2] at h ⊢; exact h
      · rw [if_neg h2] at h ⊢
        exact ih h
theorem takeW_lt {st wi sk : Int} {x y : WS} {us : List Int} {k p : Nat} {f : Bool} (h : takeW st wi sk x us k = (y, some (f, p))) : k ≤ p ∧ p < k + us.length := by
  induction us generalizing x k with
  | nil => simp [takeW] at h
  | cons a us ih =>
    rw [takeW_cons] at h
    rw [List.length_cons]
    by_cases h1 : st ≤ (runW x a).t
    · rw [if_pos h1] at h; simp at h; omega
    · rw [if_neg h1] at h
      by_cases h2 : sk ≤ (winW (runW x a) a wi).n
      · rw [if_pos h2] at h; simp at h; omega
      · rw [if_neg h2] at h
        have := ih h
        omega
/-- the place is counted from where one begins -/
theorem takeW_shift (st wi sk : Int) (x : WS) (us : List Int) (k c : Nat) : takeW st wi sk x us (k + c) = ((takeW st wi sk x us k).1, (takeW st wi sk x us k).2.map fun f => (f.1, f.2 + c)) := by
  induction us generalizing x k with
  | nil => rfl
  | cons a us ih =>
    rw [takeW_cons, takeW_cons]
    by_cases h1 : st ≤ (runW x a).t
    · rw [if_pos h1, if_pos h1]; rfl
    · rw [if_neg h1, if_neg h1]
      by_cases h2 : sk ≤ (winW (runW x a) a wi).n
      · rw [if_pos h2, if_pos h2]; rfl
      · rw [if_neg h2, if_neg h2, ← ih]
        congr 1
        omega
theorem takeW_ok {st wi sk : Int} {x y : WS} {us : List Int} {k : Nat} (hwi : 2 ≤ wi) (hx : x.ok st wi sk) (h : takeW st wi sk x us k = (y, none)) : y.ok st wi sk := by
  induction us generalizing x k with
  | nil => cases h; exact hx
  | cons a us ih =>
    rw [takeW_cons] at h
    by_cases h1 : st ≤ (runW x a).t
    · rw [if_pos h1] at h; simp at h
    · rw [if_neg h1] at h
      by_cases h2 : sk ≤ (winW (runW x a) a wi).n
      · rw [if_pos h2] at h; simp at h
      · rw [if_neg h2] at h
        obtain ⟨_, r2, r3⟩ := runW_rest x a
        have rt := runW_t x a hx.t0
        obtain ⟨w1, w2, w3, w4, w5⟩ := winW_bd (runW x a) a wi (by rw [r2]; exact hx.n0) (by rw [r3]; exact hx.c0) (by rw [r3]; exact hx.c1) hwi
        exact ih ⟨by omega, by omega, w2, by omega, w4, w5⟩ h
theorem W0_ok {st wi sk : Int} (h1 : 2 ≤ st) (h2 : 2 ≤ wi) (h3 : 2 ≤ sk) : W0.ok st wi sk := ⟨by decide, by show (0 : Int) < st; omega, by decide, by show (0 : Int) < sk; omega, by decide, by show (0 : Int) ≤ wi; omega⟩
/-- 'xy' on a guard that begins anew -/
theorem take_xy {st wi sk : Int} (h1 : 2 ≤ st) (h2 : 2 ≤ wi) (h3 : 2 ≤ sk) : (takeW st wi sk W0 [120, 121] 0).2 = none := by
  have r1 : runW W0 120 = ⟨120, 1, 0, 0, 0⟩ := rfl
  have w1 : winW ⟨120, 1, 0, 0, 0⟩ 120 wi = ⟨120, 1, 120, 1, 1⟩ := by rw [winW_first _ (by show (0 : Int) ≠ wi; omega) rfl]; rfl
  have r2 : runW ⟨120, 1, 120, 1, 1⟩ 121 = ⟨121, 1, 120, 1, 1⟩ := rfl
  have w2 : winW ⟨121, 1, 120, 1, 1⟩ 121 wi = ⟨121, 1, 120, 1, 2⟩ := by rw [winW_else _ (by show (1 : Int) ≠ wi; omega) (by decide) (by decide)]; rfl
  rw [takeW_cons, r1, w1, if_neg (by show ¬ st ≤ 1; omega), if_neg (by show ¬ sk ≤ 1; omega), takeW_cons, r2, w2, if_neg (by show ¬ st ≤ 1; omega), if_neg (by show ¬ sk ≤ 1; omega)]
  rfl
end Go.Proofs.Ytbifmhbkmnofiaa
