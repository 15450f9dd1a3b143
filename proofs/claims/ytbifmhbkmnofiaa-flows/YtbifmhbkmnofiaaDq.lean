import Derived.Test.YtbifmhbkmnofiaaDp
namespace Go.Proofs.Ytbifmhbkmnofiaa
open Go.RowKit
set_option linter.unusedVariables false
set_option linter.unusedSimpArgs false
/-- the first bytes of a string -/
def cut (s : ByteArray) (n : Nat) : ByteArray := if n < s.size then s.extract 0 n else s
theorem cut_size (s : ByteArray) (n : Nat) : (cut s n).size ≤ n ∧ (cut s n).size ≤ s.size := by
  unfold cut
  split
  · simp only [ByteArray.size_extract]; omega
  · omega
set_option maxHeartbeats 400000 in
theorem short_any (s : ByteArray) (n : Nat) (w : World) (hn : n ≤ 1000) (hs : s.size ≤ 9223372036854775807) :
    Calls Try.prog 15 #[.string s, .int .i64 n] w fun e w' => e = .returned (.string (cut s n)) ∧ w' = w := by
  unfold cut
  by_cases h : n < s.size
  · rw [if_pos h]
    go_enter Try.func15, Try.ntmps15
    go_wp2
    go_ret
    exact ⟨rfl, rfl⟩
  · rw [if_neg h]
    have h' : (s.size : Int) ≤ n := by omega
    go_enter Try.func15, Try.ntmps15
    go_wp2
    go_ret
    exact ⟨rfl, rfl⟩
theorem toB_B (hs : List Int) (k : Nat) : allB (toB hs k) := by
  induction k with
  | zero => intro x hx; have : x = 0 := List.eq_of_mem_replicate hx; subst this; exact ⟨by decide, by decide⟩
  | succ k ih =>
    intro x hx
    rcases List.mem_or_eq_of_mem_set hx with h1 | h1
    · exact ih x h1
    · rw [h1]; unfold tb; omega
theorem shaI_B (xs : List Int) : allB (shaI xs) := toB_B _ _
theorem bits_u8 (x y : Int) : 0 ≤ bits .xor .u8 x y ∧ bits .xor .u8 x y < 256 := by
  constructor <;> simp [bits, IntKind.wrap, IntKind.bits, IntKind.signed] <;> omega
theorem maskI_B (ks : List Int) (m : Int) (k : Nat) : allB (maskI ks m k) := by
  induction k with
  | zero => intro x hx; simp [maskI] at hx
  | succ k ih =>
    intro x hx
    simp only [maskI, List.mem_append, List.mem_singleton] at hx
    rcases hx with h1 | rfl
    · exact ih x h1
    · exact bits_u8 _ _
theorem bts_append (a b : ByteArray) : bts (a ++ b) = bts a ++ bts b := by
  simp [bts, ByteArray.data_append]
/-- a byte of the key, as the law asks for it -/
def kb (key : ByteArray) (i : Nat) : Int := if i < key.size then (bts key)[i]?.getD 0 else 0
theorem keyI_get (key : ByteArray) (h : key.size ≤ 64) (i : Nat) : (keyI (bts key))[i]?.getD 0 = kb key i := by
  unfold keyI kb
  rw [if_neg (by rw [bts_len]; omega)]
  by_cases hi : i < key.size
  · rw [if_pos hi, List.getElem?_append_left (by rw [bts_len]; exact hi)]
  · rw [if_neg hi, List.getElem?_append_right (by rw [bts_len]; omega)]
    by_cases hj : i - (bts key).length < 64 - (bts key).length
    · simp [zeros, hj]
    · simp [zeros, hj]
theorem Try.make64 (w : World) : Sem.run Try.prog (Instr.makeSlice 35 (Value.int IntKind.i64 64) (Value.int IntKind.i64 64)) w = .ok (.slice (some ⟨w.heap.size, 0, none⟩) 64 64) (w.alloc (.cells (ints .u8 Z64) 5)) := by kernel_rfl
theorem wpList_make64 {ops : Array Oper} {rest : List Oper} {o : Oper} {a : Act} {w : World} {Q : Exit → Act → World → Prop} (hgd : o.guard = none) (ho : o.op = .makeSlice 35 (.const (.int .i64 64)) (.const (.int .i64 64)))
    (h : wpList Try.prog ops Q rest (a.put o.dst (.slice (some ⟨w.heap.size, 0, none⟩) 64 64)) (w.alloc (.cells (ints .u8 Z64) 5))) : wpList Try.prog ops Q (o :: rest) a w :=
  wpList_plain hgd fun _ hK => by
    unfold Oper.wp execOp
    simp only [ho, Sem.run_bind, Act.eval, Try.make64, Result.andThen_ok, Sem.run_pure]
    exact hK _ _ h
def inn (key : ByteArray) (m : Int) (k : Nat) : List Int := maskI (keyI (bts key)) m k ++ zeros (64 - k)
theorem inn_len (key : ByteArray) (m : Int) (k : Nat) (h : k ≤ 64) : (inn key m k).length = 64 := by simp [inn, maskI_len, zeros]; omega
theorem inn_step (key : ByteArray) (m : Int) (k : Nat) (h : k < 64) (hk : key.size ≤ 64) : inn key m (k + 1) = (inn key m k).set k (bits .xor .u8 (kb key k) m) := by
  unfold inn
  rw [List.set_append_right _ _ (by rw [maskI_len]; omega), maskI_len, Nat.sub_self, maskI, keyI_get key hk]
  rw [show 64 - k = (64 - (k + 1)) + 1 by omega]
  simp [zeros, List.replicate_succ]
theorem two_sets {w wr : World} {bI k : Nat} {l1 l2 : List Int} (hD : wr.heap[bI]? = some (.cells (ints .u8 l1) 5 (0, 0))) (hE : wr.heap[bI + 1]? = some (.cells (ints .u8 l2) 5 (0, 0))) (hC : Below w.heap.size w wr) (hb : w.heap.size ≤ bI) (x y : Int) :
    ((wr.setCell ⟨bI, k, none⟩ (.int .u8 x)).setCell ⟨bI + 1, k, none⟩ (.int .u8 y)).heap[bI]? = some (.cells (ints .u8 (l1.set k x)) 5 (0, 0)) ∧ ((wr.setCell ⟨bI, k, none⟩ (.int .u8 x)).setCell ⟨bI + 1, k, none⟩ (.int .u8 y)).heap[bI + 1]? = some (.cells (ints .u8 (l2.set k y)) 5 (0, 0)) ∧
      Below w.heap.size w ((wr.setCell ⟨bI, k, none⟩ (.int .u8 x)).setCell ⟨bI + 1, k, none⟩ (.int .u8 y)) :=
  ⟨by rw [Below.heap_setCell _ _ _ _ (by simp)]; exact setCell_ints _ _ _ _ _ _ _ hD, setCell_ints _ _ _ _ _ _ _ (by rw [Below.heap_setCell _ _ _ _ (by simp)]; exact hE), (hC.setCell (by simpa using hb) _).setCell (by simp; omega) _⟩
set_option maxRecDepth 20000 in
set_option maxHeartbeats 1000000 in
theorem keyed_any (key data : ByteArray) (w : World) (hk : key.size ≤ 9223372036854775807) (hd : data.size ≤ 9223372036854775807) :
    Calls Try.prog 5 #[.string key, .string data] w fun e w' => e = .returned (.bool true) ∧ Below w.heap.size w w' := by
  go_enter Try.func5, Try.ntmps5
  go_wp2_with fail
  refine (published_any _).mono ?_
  rintro e w1 ⟨rfl, hB1⟩
  go_wp2_with fail
  refine (short_any key 64 _ (by omega) hk).mono ?_
  rintro e w' ⟨rfl, rfl⟩
  go_wp2_with fail
  refine (short_any data 236 _ (by omega) hd).mono ?_
  rintro e w' ⟨rfl, rfl⟩
  have hks := (cut_size key 64).1
  have hds := (cut_size data 236).1
  clear hk hd
  generalize cut key 64 = key at *
  generalize cut data 236 = data at *
  go_wp2_with fail
  refine (SMac_yes key data _ (by omega) (by omega)).mono ?_
  rintro e w2 ⟨rfl, hB2⟩
  have hC2 := hB1.trans (hB2.mono hB1.size)
  clear hB1 hB2
  generalize hma : toS (macI (bts key) (bts data)) = ma at *
  have Hma := hid hma
  clear hma
  go_wp2_with (refine wpList_make64 rfl rfl ?_)
  have hz2 := hC2.size
  have hD : ((w2.alloc (.cells (ints .u8 Z64) 5)).alloc (.cells (ints .u8 Z64) 5)).heap[w2.heap.size]? = some (.cells (ints .u8 (inn key 54 0)) 5 (0, 0)) := al2_1 _ _ _
  have hE : ((w2.alloc (.cells (ints .u8 Z64) 5)).alloc (.cells (ints .u8 Z64) 5)).heap[w2.heap.size + 1]? = some (.cells (ints .u8 (inn key 92 0)) 5 (0, 0)) := al2_2 _ _ _
  have hC3 : Below w.heap.size w ((w2.alloc (.cells (ints .u8 Z64) 5)).alloc (.cells (ints .u8 Z64) 5)) := (hC2.alloc (by omega) _).alloc (by simp; omega) _
  clear hC2
  generalize ((w2.alloc (.cells (ints .u8 Z64) 5)).alloc (.cells (ints .u8 Z64) 5)) = w3 at *
  generalize w2.heap.size = bI at *
  go_loopw [10] (fun i wr => ∃ k : Nat, k ≤ 64 ∧ i = .int .i64 k ∧ wr.heap[bI]? = some (.cells (ints .u8 (inn key 54 k)) 5 (0, 0)) ∧ wr.heap[bI + 1]? = some (.cells (ints .u8 (inn key 92 k)) 5 (0, 0)) ∧ Below w.heap.size w wr) (fun i _ => 64 - (intOf i).toNat)
  case atStart => exact ⟨0, by omega, rfl, hD, hE, hC3⟩
  case round =>
    clear hD hE hC3
    obtain ⟨k, hk, rfl, hD, hE, hC⟩ := hrel
    by_cases hlt : k < 64
    · have hI1 := hid (inn_step key 54 k hlt hks)
      have hI2 := hid (inn_step key 92 k hlt hks)
      have hl1 := inn_len key 54 k (by omega)
      have hl2 := inn_len key 92 k (by omega)
      have cD := (cells_of _ _ _ _ _ hD).1 k (by omega)
      have fD := (cells_of _ _ _ _ _ hD).2 k
      have cE := (cells_of _ _ _ _ _ hE).1 k (by omega)
      have fE := (cells_of _ _ _ _ _ hE).2 k
      have HD := hid hD
      have HE := hid hE
      clear hD hE
      generalize inn key 54 k = l1 at *
      generalize inn key 92 k = l2 at *
      by_cases hki : k < key.size
      · have hK : Hd (kb key k = ((key[k]).toNat : Int)) := hid (by unfold kb; rw [if_pos hki, bts_get key k hki])
        go_wp2
        have R := two_sets (k := k) HD.out HE.out hC hz2 (bits .xor .u8 ((key[k]).toNat : Int) 54) (bits .xor .u8 ((key[k]).toNat : Int) 92)
        exact ⟨⟨k + 1, by omega, by go_num, by rw [hI1.out, hK.out]; exact R.1, by rw [hI2.out, hK.out]; exact R.2.1, R.2.2⟩, by simp [intOf]; omega⟩
      · have hK : Hd (kb key k = 0) := hid (by unfold kb; rw [if_neg hki])
        go_wp2
        have R := two_sets (k := k) HD.out HE.out hC hz2 (bits .xor .u8 0 54) (bits .xor .u8 0 92)
        exact ⟨⟨k + 1, by omega, by go_num, by rw [hI1.out, hK.out]; exact R.1, by rw [hI2.out, hK.out]; exact R.2.1, R.2.2⟩, by simp [intOf]; omega⟩
    · obtain rfl : k = 64 := by omega
      have e1 : inn key 54 64 = maskI (keyI (bts key)) 54 64 := by simp [inn, zeros]
      have e2 : inn key 92 64 = maskI (keyI (bts key)) 92 64 := by simp [inn, zeros]
      rw [e1] at hD
      rw [e2] at hE
      have l1 := maskI_len (keyI (bts key)) 54 64
      have l2 := maskI_len (keyI (bts key)) 92 64
      have b1 := hid (maskI_B (keyI (bts key)) 54 64)
      have b2 := hid (maskI_B (keyI (bts key)) 92 64)
      have Hq : Hd (ma = toS (shaI (maskI (keyI (bts key)) 92 64 ++ shaI (maskI (keyI (bts key)) 54 64 ++ bts data)))) := hid (by rw [← Hma.out]; rfl)
      clear e1 e2 hlt hk
      generalize maskI (keyI (bts key)) 54 64 = m1 at *
      generalize maskI (keyI (bts key)) 92 64 = m2 at *
      have y1 : Byt wr (.slice (some ⟨bI, 0, none⟩) 64 64) m1 := by have := byt_block hD 64; rw [l1] at this; exact this
      have Y1 := hid y1
      clear y1
      have HD := hid hD
      have HE := hid hE
      clear hD hE
      have t1 : (toS m1).size ≤ 64 := by rw [toS_size, l1]; omega
      have t2 : (toS m2).size ≤ 64 := by rw [toS_size, l2]; omega
      have y2 := hid (byt_block HE.out 64)
      rw [l2] at y2
      go_wp2_with (refine wpList_str rfl (.tmp 51) rfl _ m1 rfl Y1.out ?_)
      refine (SSum_yes _ _ (by rw [ByteArray.size_append]; omega)).mono ?_
      rintro e w4 ⟨rfl, hB4⟩
      have hlt4 := (Array.getElem?_eq_some_iff.1 HE.out).1
      have hC4 := hC.trans (hB4.mono (by omega))
      have Y2 := hid (y2.out.mono hB4)
      clear hB4 hC HD HE Y1 y2
      rw [bts_append, bts_toS m1 b1.out]
      have s1 := shaI_len (m1 ++ bts data)
      have b3 := hid (shaI_B (m1 ++ bts data))
      generalize shaI (m1 ++ bts data) = ih at *
      have t3 : (toS ih).size ≤ 32 := by rw [toS_size, s1]; omega
      go_wp2_with (refine wpList_str rfl (.tmp 59) rfl _ m2 rfl Y2.out ?_)
      refine (SSum_yes _ _ (by rw [ByteArray.size_append]; omega)).mono ?_
      rintro e w5 ⟨rfl, hB5⟩
      have hC5 := hC4.trans (hB5.mono hC4.size)
      clear hB5 hC4
      rw [bts_append, bts_toS m2 b2.out, bts_toS ih b3.out, ← Hq.out]
      go_wp2
      go_ret
      exact ⟨rfl, hC5⟩
end Go.Proofs.Ytbifmhbkmnofiaa
