import Derived.Test.YthhhkkjdjjhepaaRa
import Derived.Deep.OwnRows
namespace Go.Proofs.Ythhhkkjdjjhepaa
open Go.RowKit
set_option linter.unusedVariables false
set_option linter.unusedSimpArgs false
theorem low_int (x n : Int) (w : World) (hx : 0 ≤ x) (hx' : x ≤ 4294967295) (h0 : 0 ≤ n) (hn : n ≤ 32) :
    Calls Try.prog 98 #[.int .i64 x, .int .i64 n] w fun e w' => e = .returned (.int .i64 (x / 2 ^ n.toNat)) ∧ w' = w := by
  obtain ⟨k, rfl⟩ := Int.eq_ofNat_of_zero_le h0
  rw [Int.toNat_natCast]
  exact low_any x k w hx hx' (by omega)
theorem turned_int (x n : Int) (w : World) (hx : W32 x) (hn1 : 1 ≤ n) (hn2 : n ≤ 31) :
    Calls Try.prog 97 #[.int .i64 x, .int .i64 n] w fun e w' => e = .returned (.int .i64 (rotI x n)) ∧ ∃ m, w' = w.drewN m := by
  obtain ⟨k, rfl⟩ := Int.eq_ofNat_of_zero_le (show 0 ≤ n by omega)
  exact turned_any x k w hx (by omega) (by omega)
def numI (l : List Int) : Int := l.foldl (fun n b => 256 * n + b) 0
theorem numI_snoc (l : List Int) (b : Int) : numI (l ++ [b]) = 256 * numI l + b := by simp [numI]
theorem num_fold (l : List Int) : ∀ n : Int, 0 ≤ n → allB l → 0 ≤ l.foldl (fun n b => 256 * n + b) n ∧ l.foldl (fun n b => 256 * n + b) n < (n + 1) * 256 ^ l.length := by
  induction l with
  | nil => intro n hn _; simp; omega
  | cons b l ih =>
    intro n hn h
    have hb := h b (by simp)
    obtain ⟨i1, i2⟩ := ih (256 * n + b) (by omega) (fun x hx => h x (by simp [hx]))
    refine ⟨i1, Int.lt_of_lt_of_le i2 ?_⟩
    rw [List.length_cons, Int.pow_succ, Int.mul_comm (256 ^ l.length) 256, ← Int.mul_assoc]
    exact Int.mul_le_mul_of_nonneg_right (by omega) (Int.pow_nonneg (by decide))
theorem numI_bd (l : List Int) (h : allB l) : 0 ≤ numI l ∧ numI l < 256 ^ l.length := by
  have := num_fold l 0 (by decide) h
  simpa [numI] using this
theorem take_snoc_bts (s : ByteArray) (k : Nat) (h : k < s.size) : (bts s).take (k + 1) = (bts s).take k ++ [((s[k]).toNat : Int)] := by
  have hk : k < (bts s).length := by rw [bts_len]; exact h
  rw [List.take_succ_eq_append_getElem hk]
  have := bts_get s k h
  rw [List.getElem?_eq_getElem hk] at this
  simp at this
  rw [this]
theorem allB_take {l : List Int} (h : allB l) (k : Nat) : allB (l.take k) := fun x hx => h x (List.mem_of_mem_take hx)
set_option maxHeartbeats 400000 in
theorem number_any (s : ByteArray) (w : World) (hs : s.size ≤ 4) :
    Calls Try.prog 96 #[.string s] w fun e w' => e = .returned (.int .i64 (numI (bts s))) ∧ w' = w := by
  go_enter Try.func96, Try.ntmps96
  go_wp2
  go_loop [3, 4] (fun n i => ∃ k : Nat, k ≤ s.size ∧ i = .int .i64 k ∧ n = .int .i64 (numI ((bts s).take k))) (fun _ i => s.size - (intOf i).toNat)
  case atStart => exact ⟨0, Nat.zero_le _, rfl, rfl⟩
  case round =>
    obtain ⟨k, hk, rfl, rfl⟩ := hrel
    have hb := numI_bd _ (allB_take (bts_B s) k)
    have hl : ((bts s).take k).length = k := by rw [List.length_take, bts_len]; omega
    rw [hl] at hb
    have hp : (256 : Int) ^ k ≤ 256 ^ 4 := by
      have := Nat.pow_le_pow_right (n := 256) (by decide) (show k ≤ 4 by omega)
      have e : ((256 : Int) ^ k) = ((256 ^ k : Nat) : Int) := by simp
      rw [e]; omega
    have hb1 : 0 ≤ numI ((bts s).take k) := hb.1
    have hb2 : numI ((bts s).take k) ≤ 4294967296 := by have := hb.2; omega
    clear hb hp hl
    by_cases hlt : k < s.size
    · have hsn := hid (take_snoc_bts s k hlt)
      have hu := (s[k]).toNat_lt
      have hu1 : ((s[k]).toNat : Int) < 256 := by omega
      generalize (bts s).take k = l at *
      go_wp2
      go_round
      case rel => exact ⟨k + 1, by omega, by go_num, by rw [hsn.out, numI_snoc]⟩
      case measure => simp [intOf]; omega
    · go_wp2
      go_ret
      exact ⟨by rw [List.take_of_length_le (by rw [bts_len]; omega)]; rfl, rfl⟩
theorem madeCells_zeros (n : Nat) : madeCells #[Value.int .u8 0] n = ints .u8 (zeros n) := by
  apply Array.ext
  · simp [madeCells, ints, zeros]
  · intro i h1 h2
    simp [madeCells, ints, zeros, Nat.mod_one]
theorem wpList_makeB {ops : Array Oper} {rest : List Oper} {o : Oper} {a : Act} {w : World} {Q : Exit → Act → World → Prop} (hgd : o.guard = none) (x y : Operand) (ho : o.op = .makeSlice 38 x y) (n : Nat) (hn : n ≤ 1099511627776) (hx : a.eval x = .int .i64 n) (hy : a.eval y = .int .i64 n)
    (h : wpList Try.prog ops Q rest (a.put o.dst (.slice (some ⟨w.heap.size, 0, none⟩) n n)) (w.alloc (.cells (ints .u8 (zeros n)) 5))) : wpList Try.prog ops Q (o :: rest) a w :=
  wpList_plain hgd fun _ hK => by
    unfold Oper.wp execOp
    simp only [ho, hx, hy, Sem.run_bind, run_make_row' 38 5 (.int .u8 0) 1 Try.underlying38 Try.infoB rfl .i64 .i64 n (by omega) (by omega) w, Result.andThen_ok, Sem.run_pure]
    rw [madeCells_zeros]
    exact hK _ _ h
set_option maxHeartbeats 400000 in
theorem zeros_any (n : Nat) (w : World) (hn : n ≤ 1000) :
    Calls Try.prog 82 #[.int .i64 n] w fun e w' => e = .returned (.string (toS (zeros n))) ∧ Below w.heap.size w w' := by
  have hB : Below w.heap.size w (w.alloc (.cells (ints .u8 (zeros n)) 5)) := (Below.refl _ _).alloc (Nat.le_refl _) _
  have y1 : Byt (w.alloc (.cells (ints .u8 (zeros n)) 5)) (.slice (some ⟨w.heap.size, 0, none⟩) n n) (zeros n) := by
    have := byt_block (al_new w (.cells (ints .u8 (zeros n)) 5)) n; rw [zeros_len] at this; exact this
  have Y1 := hid y1
  have HB := hid hB
  clear y1 hB
  go_enter Try.func82, Try.ntmps82
  go_wp2_with (first
    | refine wpList_makeB rfl _ _ rfl n (by omega) rfl rfl ?_
    | refine wpList_str rfl _ rfl _ _ rfl Y1.out ?_)
  go_ret
  exact ⟨rfl, HB.out⟩
theorem zeros_int (n : Int) (w : World) (h0 : 0 ≤ n) (hn : n ≤ 1000) :
    Calls Try.prog 82 #[.int .i64 n] w fun e w' => e = .returned (.string (toS (zeros n.toNat))) ∧ Below w.heap.size w w' := by
  obtain ⟨k, rfl⟩ := Int.eq_ofNat_of_zero_le h0
  rw [Int.toNat_natCast]
  exact zeros_any k w (by omega)
end Go.Proofs.Ythhhkkjdjjhepaa
