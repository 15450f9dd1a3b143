import Derived.Test.YtbifmhbkmnofiaaWf
namespace Go.Proofs.Ytbifmhbkmnofiaa
open Go.RowKit
set_option linter.unusedVariables false
set_option linter.unusedSimpArgs false
/-- the watch's state behind the first k samples, by its meaning -/
def Rl (xs : List Int) (W k : Nat) (y : WS) : Prop :=
  (k = 0 → y = W0) ∧ (0 < k → y.s = xs[k - 1]?.getD 0 ∧ y.c = ((k - 1) % W : Nat) + 1 ∧ y.f = xs[(k - 1) - (k - 1) % W]?.getD 0)
theorem pred_mod {k W : Nat} (h : 0 < k) (hW : 2 ≤ W) : (k % W = 0 → (k - 1) % W + 1 = W) ∧ (k % W ≠ 0 → (k - 1) % W + 1 = k % W) := by
  obtain ⟨j, rfl⟩ : ∃ j, k = j + 1 := ⟨k - 1, by omega⟩
  rw [Nat.add_sub_cancel]
  have h1 := Nat.mod_lt j (show 0 < W by omega)
  by_cases hc : j % W + 1 = W
  · have : (j + 1) % W = 0 := by rw [Nat.add_mod, Nat.mod_eq_of_lt (show 1 < W by omega), hc, Nat.mod_self]
    exact ⟨fun _ => hc, fun h => absurd this h⟩
  · have : (j + 1) % W = j % W + 1 := by rw [Nat.add_mod, Nat.mod_eq_of_lt (show 1 < W by omega), Nat.mod_eq_of_lt (by omega)]
    exact ⟨fun h => by omega, fun _ => this.symm⟩
theorem Rl.run {xs : List Int} {W k : Nat} {y : WS} (h : Rl xs W k y) (b : Int) : (runW y b).t = if 0 < k ∧ b = xs[k - 1]?.getD 0 then y.t + 1 else 1 := by
  by_cases hk : k = 0
  · rw [h.1 hk, if_neg (by omega)]
    unfold runW W0
    dsimp only
    split <;> simp
  · have h2 := (h.2 (by omega)).1
    unfold runW
    rw [h2]
    by_cases hb : b = xs[k - 1]?.getD 0
    · rw [if_pos hb, if_pos ⟨by omega, hb⟩]
    · rw [if_neg hb, if_neg (fun hh => hb hh.2)]
theorem runW_s (y : WS) (b : Int) : (runW y b).s = b := by
  unfold runW
  split
  · rename_i h; exact h.symm
  · rfl
theorem Rl.win {xs : List Int} {W k : Nat} {y : WS} (h : Rl xs W k y) (hW : 2 ≤ W) (b : Int) (hb : b = xs[k]?.getD 0) :
    (winW (runW y b) b W).n = (if k % W = 0 then 1 else if b = xs[k - k % W]?.getD 0 then y.n + 1 else y.n) ∧ (winW (runW y b) b W).c = (k % W : Nat) + 1 ∧ (winW (runW y b) b W).f = xs[k - k % W]?.getD 0 ∧ (winW (runW y b) b W).s = b := by
  obtain ⟨rf, rn, rc⟩ := runW_rest y b
  have rs := runW_s y b
  by_cases hk : k = 0
  · have hy := h.1 hk
    subst hk
    rw [hy] at rf rn rc rs ⊢
    have hn0 : ¬ (runW W0 b).c = (W : Int) := by rw [rc]; show ¬ (0 : Int) = W; omega
    rw [winW_first b hn0 (by rw [rc]; rfl)]
    dsimp only
    rw [rs, rn]
    simp [hb, W0]
  · obtain ⟨h1, h2, h3⟩ := h.2 (by omega)
    obtain ⟨p1, p2⟩ := pred_mod (show 0 < k by omega) hW
    by_cases hm : k % W = 0
    · have hc := p1 hm
      have hn0 : (runW y b).c = (W : Int) := by rw [rc, h2]; omega
      rw [winW_new b hn0]
      dsimp only
      rw [rs, hm]
      simp [hb]
    · have hc := p2 hm
      have hlt := Nat.mod_lt k (show 0 < W by omega)
      have hn0 : ¬ (runW y b).c = (W : Int) := by rw [rc, h2]; omega
      have hn1 : ¬ (runW y b).c = 0 := by rw [rc, h2]; omega
      have hf : xs[k - 1 - (k - 1) % W]?.getD 0 = xs[k - k % W]?.getD 0 := by congr 2; omega
      by_cases hbf : b = xs[k - k % W]?.getD 0
      · rw [winW_same b hn0 hn1 (by rw [rf, h3, hf]; exact hbf)]
        dsimp only
        rw [if_neg hm, if_pos hbf, rn, rc, h2, rf, h3, hf, rs]
        refine ⟨rfl, by omega, rfl, rfl⟩
      · rw [winW_else b hn0 hn1 (by rw [rf, h3, hf]; exact hbf)]
        dsimp only
        rw [if_neg hm, if_neg hbf, rn, rc, h2, rf, h3, hf, rs]
        refine ⟨rfl, by omega, rfl, rfl⟩
theorem Rl.next {xs : List Int} {W k : Nat} {y : WS} (h : Rl xs W k y) (hW : 2 ≤ W) (b : Int) (hb : b = xs[k]?.getD 0) : Rl xs W (k + 1) (winW (runW y b) b W) := by
  obtain ⟨_, h2, h3, h4⟩ := h.win hW b hb
  exact ⟨fun h => by omega, fun _ => ⟨by rw [h4, hb, Nat.add_sub_cancel], by rw [h2, Nat.add_sub_cancel], by rw [h3, Nat.add_sub_cancel]⟩⟩
theorem Rl.zero (xs : List Int) (W : Nat) : Rl xs W 0 W0 := ⟨fun _ => rfl, fun h => by omega⟩
end Go.Proofs.Ytbifmhbkmnofiaa
