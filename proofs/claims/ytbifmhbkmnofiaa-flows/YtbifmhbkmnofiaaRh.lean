import Derived.Test.YtbifmhbkmnofiaaRf
import Derived.Test.YtbifmhbkmnofiaaRg
namespace Go.Proofs.Ytbifmhbkmnofiaa
open Go.RowKit
set_option linter.unusedVariables false
set_option linter.unusedSimpArgs false
theorem OwnI.slv {w : World} {N : Nat} {v : Value} {xs : List Int} (h : OwnI w N v xs) (hp : 0 < xs.length) : SlV w v (xs.map (Value.int .i64)) := by
  obtain ⟨g, cap, rfl, _, _, hc⟩ := h.form hp
  refine ⟨some ⟨g, 0, none⟩, cap, by simp, fun _ => ⟨g, 0, rfl, fun j u hu => ?_⟩⟩
  have hj : j < xs.length := by simpa using (List.getElem?_eq_some_iff.1 hu).1
  rw [Nat.zero_add, hc j hj, ← hu]
  simp [List.getElem?_eq_getElem hj]
theorem toS_append (xs ys : List Int) : toS xs ++ toS ys = toS (xs ++ ys) := by
  apply ByteArray.ext
  simp [toS, ByteArray.data_append]
theorem toS_snoc (s : ByteArray) (ys : List Int) : s ++ toS ys = toS (bts s ++ ys) := by
  conv => lhs; rw [← toS_bts s]
  exact toS_append _ _
theorem allB_append {a b : List Int} (ha : allB a) (hb : allB b) : allB (a ++ b) := fun x hx => by
  rcases List.mem_append.1 hx with h | h
  · exact ha x h
  · exact hb x h
theorem zeros_B (k : Nat) : allB (zeros k) := fun x hx => by
  have : x = 0 := List.eq_of_mem_replicate hx
  subst this; decide
theorem padded_B (s : ByteArray) : allB (padded (bts s)) :=
  allB_append (allB_append (allB_append (bts_B s) (fun x hx => by simp at hx; subst hx; decide)) (zeros_B _)) (btI_B _ _)
theorem bts_sub (m : List Int) (hB : allB m) (a : Nat) (h : a + 64 ≤ m.length) : bts ((toS m).extract a (a + 64)) = (m.drop a).take 64 := by
  rw [bts_mid _ _ _ (by rw [toS_size]; exact h), bts_toS m hB]
def strLen : Value → Nat
  | .string s => s.size
  | _ => 0
theorem hAt8 (m : List Int) (k : Nat) : ∃ a b c d e f g h, hAt m k = [a, b, c, d, e, f, g, h] := by
  have hl := hAt_len m k
  match hAt m k, hl with
  | [a, b, c, d, e, f, g, h], _ => exact ⟨a, b, c, d, e, f, g, h, rfl⟩
/-- the string of the first words -/
def outI (hs : List Int) : Nat → List Int
  | 0 => []
  | k + 1 => outI hs k ++ btI (hs[k]?.getD 0) 4
theorem outI_len (hs : List Int) : ∀ k, (outI hs k).length = 4 * k
  | 0 => rfl
  | k + 1 => by rw [outI, List.length_append, outI_len hs k, btI_len]; omega
theorem outI_toB (hs : List Int) (hl : hs.length = 8) : outI hs 8 = toB hs 32 := by
  match hs, hl with
  | [a, b, c, d, e, f, g, h], _ => rw [toB_bt]; rfl
end Go.Proofs.Ytbifmhbkmnofiaa
