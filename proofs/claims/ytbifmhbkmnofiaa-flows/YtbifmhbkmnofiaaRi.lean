import Derived.Test.YtbifmhbkmnofiaaRh
namespace Go.Proofs.Ytbifmhbkmnofiaa
open Go.RowKit
set_option linter.unusedVariables false
set_option linter.unusedSimpArgs false
/-- bytes at the head of a block, which may be written -/
def BR (w : World) (b : Nat) (xs : List Int) : Prop := ∀ j, j < xs.length → w.cell? ⟨b, j, none⟩ = some (.int .u8 (xs[j]?.getD 0)) ∧ w.frozen? ⟨b, j, none⟩ = false
theorem BR.set {w : World} {b : Nat} {xs : List Int} (h : BR w b xs) (j : Nat) (v : Int) : BR (w.setCell ⟨b, j, none⟩ (.int .u8 v)) b (xs.set j v) := fun i hi => by
  rw [List.length_set] at hi
  obtain ⟨h1, h2⟩ := h i hi
  constructor
  · by_cases e : i = j
    · subst e
      rw [World.cell?_setCell_same _ _ _ h1, getD_set_same _ _ _ hi]
    · rw [World.cell?_setCell_other _ _ _ _ (fun e' => e (congrArg Addr.off e').symm), h1, getD_set _ _ _ _ e]
  · rw [World.frozen?_setCell]; exact h2
theorem BR.byt {w : World} {b : Nat} {xs : List Int} (h : BR w b xs) (cap : Nat) : Byt w (.slice (some ⟨b, 0, none⟩) xs.length cap) xs :=
  Or.inr ⟨b, 0, cap, rfl, fun j hj => by rw [Nat.zero_add]; exact (h j hj).1⟩
theorem bytesW_br (w : World) (e : TypeId) (s : ByteArray) : BR (Lib.bytesWorld w e s) w.heap.size (bts s) := fun j hj => by
  rw [bts_len] at hj
  refine ⟨?_, ?_⟩
  · rw [Lib.bytesWorld_cell w e s j hj]; simp [bts, hj, List.getD]
  · have hb := Lib.bytesWorld_at_new w e s
    have hsz : s.size ≤ (Lib.bytesCells w e s).size := by simp [Lib.bytesCells]
    simp [World.frozen?, hb]; omega
theorem wpList_bytes2 {ops : Array Oper} {rest : List Oper} {o : Oper} {a : Act} {w : World} {Q : Exit → Act → World → Prop} (hgd : o.guard = none) (x : Operand) (ho : o.op = .convert 9 35 x) (s : ByteArray) (hx : a.eval x = .string s)
    (h : ∀ w' cap, Below w.heap.size w w' → w'.heap.size = w.heap.size + 1 → Hd (BR w' w.heap.size (bts s)) → s.size ≤ cap → wpList Try.prog ops Q rest (a.put o.dst (.slice (some ⟨w.heap.size, 0, none⟩) s.size cap)) w') : wpList Try.prog ops Q (o :: rest) a w :=
  wpList_plain hgd fun _ hK => by
    unfold Oper.wp execOp
    simp only [ho, hx, Sem.run_bind, Lib.run_convert_string_bytes w 9 35 5 s Try.underlying9 Try.underlying35 Try.underlying5, Result.andThen_ok, Sem.run_pure]
    exact hK _ _ (h _ _ (bytesW_below w 5 s) (Lib.bytesWorld_size w 5 s) ⟨bytesW_br w 5 s⟩ (grownCap_ge _ _ _ _))
/-- each byte with a mask; the first k of them -/
def mk8 (xs : List Int) (m : Int) (k : Nat) : List Int := (xs.take k).map (fun x => bits .xor .u8 x m) ++ xs.drop k
theorem mk8_len (xs : List Int) (m : Int) (k : Nat) : (mk8 xs m k).length = xs.length := by simp [mk8]; omega
theorem mk8_step (xs : List Int) (m : Int) (k : Nat) (h : k < xs.length) : mk8 xs m (k + 1) = (mk8 xs m k).set k (bits .xor .u8 (xs[k]?.getD 0) m) := by
  unfold mk8
  rw [List.set_append_right _ _ (by simp; omega), List.length_map, List.length_take, Nat.min_eq_left (by omega), Nat.sub_self]
  conv => rhs; rw [List.drop_eq_getElem_cons h]
  rw [List.set_cons_zero, List.take_succ_eq_append_getElem h, List.map_append, List.getElem?_eq_getElem h]
  simp
theorem mk8_get (xs : List Int) (m : Int) (k : Nat) (h : k < xs.length) : (mk8 xs m k)[k]?.getD 0 = xs[k]?.getD 0 := by
  unfold mk8
  rw [List.getElem?_append_right (by simp; omega)]
  simp [Nat.min_eq_left (Nat.le_of_lt h)]
theorem maskI_map (ks : List Int) (m : Int) : ∀ k, k ≤ ks.length → maskI ks m k = (ks.take k).map (fun x => bits .xor .u8 x m)
  | 0, _ => rfl
  | k + 1, h => by
    have hk : k < ks.length := by omega
    rw [maskI, maskI_map ks m k (by omega), List.take_succ_eq_append_getElem hk, List.map_append, List.getElem?_eq_getElem hk]; rfl
theorem key_bytes (key : ByteArray) (h : ¬ 64 < key.size) : key ++ toS (zeros (64 - key.size)) = toS (keyI (bts key)) := by
  rw [toS_snoc]; unfold keyI; rw [if_neg (by rw [bts_len]; exact h), bts_len]
theorem keyI_B (key : ByteArray) : allB (keyI (bts key)) := by
  unfold keyI
  split
  · exact allB_append (shaI_B _) (zeros_B 32)
  · exact allB_append (bts_B key) (zeros_B _)
theorem mask64 (key : ByteArray) (m : Int) : (keyI (bts key)).map (fun x => bits .xor .u8 x m) = maskI (keyI (bts key)) m 64 := by
  rw [maskI_map _ _ 64 (by rw [keyI_len]; omega), List.take_of_length_le (by rw [keyI_len]; omega)]
end Go.Proofs.Ytbifmhbkmnofiaa
