import Derived.Test.YtbifmhbkmnofiaaKa
namespace Go.Proofs.Ytbifmhbkmnofiaa
open Go.RowKit
set_option linter.unusedVariables false
set_option linter.unusedSimpArgs false
def L1 : List Int := [212, 31, 214, 12, 230, 91, 12, 205, 28, 85, 17, 51, 97, 199, 67, 171, 37, 14, 174, 184, 69, 82, 91, 184, 217, 201, 30, 51, 51, 182, 234, 189]
def L2 : List Int := [217, 252, 98, 232, 253, 101, 240, 151, 177, 26, 103, 88, 80, 30, 201, 178, 31, 203, 232, 162, 228, 234, 234, 160, 182, 124, 49, 56, 99, 35, 223, 123]
def L3 : List Int := [117, 68, 180, 225, 45, 201, 18, 200, 191, 8, 154, 133, 146, 124, 12, 155, 106, 78, 47, 216, 143, 209, 152, 88, 153, 37, 0, 182, 89, 244, 189, 9]
def L4 : List Int := [201, 43, 137, 114, 151, 216, 42, 219, 26, 7, 235, 185, 239, 85, 91, 14, 172, 82, 110, 188, 157, 40, 20, 186, 177, 163, 136, 55, 140, 117, 226, 193]
def L5 : List Int := [68, 241, 135, 193, 135, 89, 76, 125, 14, 63, 214, 30, 1, 58, 247, 194, 143, 157, 97, 183, 153, 80, 186, 26, 56, 100, 149, 21, 225, 114, 209, 37]
def L6 : List Int := [217, 17, 227, 68, 70, 7, 115, 27, 159, 84, 12, 158, 250, 157, 116, 107, 236, 125, 63, 243, 95, 252, 70, 196, 195, 1, 51, 198, 185, 49, 118, 32, 192, 121, 79, 165, 207, 93, 74, 33, 238, 241, 242, 33, 62, 6, 65, 17, 126, 91, 191, 133, 200, 209, 140]
def L7 : List Int := [218, 176, 227, 204, 11, 45, 84, 62, 210, 49, 207, 163, 209, 6, 131, 57, 236, 180, 137, 242, 62, 150, 240, 149, 113, 89, 182, 113, 59, 11, 195, 43]
theorem k1 : macI Z32 (ones 32 ++ (0 :: bts dgts)) = L1 := by decide +kernel
theorem k2 : macI L1 (ones 32) = L2 := by decide +kernel
theorem k3 : macI L1 (L2 ++ (1 :: bts dgts)) = L3 := by decide +kernel
theorem k4 : macI L3 L2 = L4 := by decide +kernel
theorem k5 : macI L3 L4 = L5 := by decide +kernel
theorem k6 : stretchI (bts dgts) = L6 := by decide +kernel
theorem k7 : shaI L6 = L7 := by decide +kernel
theorem bd_ne : bts dgts ≠ [] := by decide +kernel
theorem seed_dgts : seedG (bts dgts) = ⟨L3, L4⟩ := by
  unfold seedG stirG
  rw [if_neg bd_ne, rekeyG_eq, rekeyG_eq]
  dsimp only
  rw [k1]
  have e1 : stepG ⟨L1, ones 32⟩ = ⟨L1, L2⟩ := by rw [stepG_eq]; dsimp only; rw [k2]
  rw [e1]
  dsimp only
  rw [k3, stepG_eq]
  dsimp only
  rw [k4]
theorem head_m : (bytesM (seedG (bts dgts)) 40 [])[0]? = some 68 := by
  rw [seed_dgts]
  unfold bytesM readG outG
  rw [if_pos rfl, List.getElem?_take, if_pos (by omega)]
  have hb : blk 40 = 2 := rfl
  have h1 : (stepN ⟨L3, L4⟩ 1).v = L5 := by
    have : stepN ⟨L3, L4⟩ 1 = stepG ⟨L3, L4⟩ := by simp only [stepN]
    rw [this, stepG_eq]
    dsimp only
    exact k5
  rw [hb]
  have h2 : ∀ (f : Nat → List Int), rows32 f 2 = f 0 ++ f 1 := fun f => by simp [rows32]
  rw [h2]
  rw [Nat.zero_add, h1, List.getElem?_append_left (by decide)]
  rfl
theorem head_s : (bytesS (beginS (bts dgts)) 40 [])[0]? = some 218 := by
  unfold bytesS extraS drawS
  rw [if_pos rfl, List.getElem?_take, if_pos (by omega), beginS_eq]
  dsimp only
  rw [k6]
  have hb : blk 40 = 2 := rfl
  rw [hb]
  have h2 : ∀ (f : Nat → List Int), rows32 f 2 = f 0 ++ f 1 := fun f => by simp [rows32]
  rw [h2]
  have h3 : sumF L6 0 = L7 := by
    unfold sumF
    rw [cntN]
    exact k7
  rw [h3, List.getElem?_append_left (by decide)]
  rfl
end Go.Proofs.Ytbifmhbkmnofiaa
