import Derived.Test.YtbifmhbkmnofiaaRa
import Derived.Deep.OwnRows
namespace Go.Proofs.Ytbifmhbkmnofiaa
open Go.RowKit
set_option linter.unusedVariables false
set_option linter.unusedSimpArgs false
def numI (l : List Int) : Int := l.foldl (fun n b => 256 * n + b) 0
theorem numI_snoc (l : List Int) (b : Int) : numI (l ++ [b]) = 256 * numI l + b := by simp [numI]
theorem num_fold (l : List Int) : ∀ n : Int, 0 ≤ n → allB l → 0 ≤ l.foldl (fun n b => 256 * n + b) n ∧ l.foldl (fun n b => 256 * n + b) n < (n + 1) * 256 ^ l.length := by
  induction l with
  | nil => intro n hn _; simp; omega
  | cons b l ih =>
    intro n hn h
    have hb := h b (by simp)
    obtain ⟨i1, i2⟩ := ih (256 * n + b) (by omega) (fun x hx => h x (by simp [hx]))
    refine ⟨i1, Int.lt_of_lt_of_le i2 ?_⟩
    rw [List.length_cons, Int.pow_succ, Int.mul_comm (256 ^ l.length) 256, ← Int.mul_assoc]
    exact Int.mul_le_mul_of_nonneg_right (by omega) (Int.pow_nonneg (by decide))
theorem numI_bd (l : List Int) (h : allB l) : 0 ≤ numI l ∧ numI l < 256 ^ l.length := by
  have := num_fold l 0 (by decide) h
  simpa [numI] using this
theorem take_snoc_bts (s : ByteArray) (k : Nat) (h : k < s.size) : (bts s).take (k + 1) = (bts s).take k ++ [((s[k]).toNat : Int)] := by
  have hk : k < (bts s).length := by rw [bts_len]; exact h
  rw [List.take_succ_eq_append_getElem hk]
  have := bts_get s k h
  rw [List.getElem?_eq_getElem hk] at this
  simp at this
  rw [this]
theorem allB_take {l : List Int} (h : allB l) (k : Nat) : allB (l.take k) := fun x hx => h x (List.mem_of_mem_take hx)
theorem madeCells_zeros (n : Nat) : madeCells #[Value.int .u8 0] n = ints .u8 (zeros n) := by
  apply Array.ext
  · simp [madeCells, ints, zeros]
  · intro i h1 h2
    simp [madeCells, ints, zeros, Nat.mod_one]
theorem wpList_makeB {ops : Array Oper} {rest : List Oper} {o : Oper} {a : Act} {w : World} {Q : Exit → Act → World → Prop} (hgd : o.guard = none) (x y : Operand) (ho : o.op = .makeSlice 35 x y) (n : Nat) (hn : n ≤ 1099511627776) (hx : a.eval x = .int .i64 n) (hy : a.eval y = .int .i64 n)
    (h : wpList Try.prog ops Q rest (a.put o.dst (.slice (some ⟨w.heap.size, 0, none⟩) n n)) (w.alloc (.cells (ints .u8 (zeros n)) 5))) : wpList Try.prog ops Q (o :: rest) a w :=
  wpList_plain hgd fun _ hK => by
    unfold Oper.wp execOp
    simp only [ho, hx, hy, Sem.run_bind, run_make_row' 35 5 (.int .u8 0) 1 Try.underlying35 Try.infoB rfl .i64 .i64 n (by omega) (by omega) w, Result.andThen_ok, Sem.run_pure]
    rw [madeCells_zeros]
    exact hK _ _ h
end Go.Proofs.Ytbifmhbkmnofiaa
