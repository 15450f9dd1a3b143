import Derived.Test.YtbifmhbkmnofiaaGreatMq
namespace Go.Proofs.YtbifmhbkmnofiaaGreat
open Go.RowKit
set_option linter.unusedVariables false
set_option linter.unusedSimpArgs false
theorem toS_take (xs : List Int) (n : Nat) : (toS xs).extract 0 n = toS (xs.take n) := by
  apply ByteArray.ext
  rw [ByteArray.data_extract]
  unfold toS
  rw [List.map_take]
  apply Array.toList_inj.1
  rw [Array.toList_extract]
  simp [List.extract]
theorem five_byt (w : World) (m : Int) : Byt (w.alloc (.cells #[Value.int .u8 m, Value.int .u8 0, Value.int .u8 0, Value.int .u8 1, Value.int .u8 184] 5)) (.slice (some ⟨w.heap.size, 0, none⟩) 5 5) [m, 0, 0, 1, 184] := (src_new w [m, 0, 0, 1, 184] 5).byt
theorem stretchI_eq (xs : List Int) : stretchI xs = (shaI (1 :: 0 :: 0 :: 1 :: 184 :: xs) ++ shaI (2 :: 0 :: 0 :: 1 :: 184 :: xs)).take 55 := by
  have h1 : strF xs 0 = shaI (1 :: 0 :: 0 :: 1 :: 184 :: xs) := by unfold strF; rfl
  have h2 : strF xs 1 = shaI (2 :: 0 :: 0 :: 1 :: 184 :: xs) := by unfold strF; rfl
  unfold stretchI
  have := part_end (strF xs) 55
  rw [show blk 55 = 2 from rfl] at this
  rw [this]
  have h3 : rows32 (strF xs) 2 = strF xs 0 ++ strF xs 1 := by simp [rows32]
  rw [h3, h1, h2]
theorem bts_five (m : Int) (d : ByteArray) (hm : 0 ≤ m ∧ m < 256) : bts (toS [m, 0, 0, 1, 184] ++ d) = m :: 0 :: 0 :: 1 :: 184 :: bts d := by
  rw [bts_append, bts_toS]
  · rfl
  · intro x hx
    simp only [List.mem_cons, List.not_mem_nil, or_false] at hx
    rcases hx with rfl | rfl | rfl | rfl | rfl <;> omega
set_option maxRecDepth 20000 in
set_option maxHeartbeats 1000000 in
theorem rstretch_any (d : ByteArray) (w : World) (hd : d.size ≤ 1000) :
    Calls Tryz.prog 63 #[.string d] w fun e w' => e = .returned (.string (toS (stretchI (bts d)))) ∧ Below w.heap.size w w' := by
  have y1 := hid (five_byt w 1)
  have hB1 : Below w.heap.size w (w.alloc (.cells #[Value.int .u8 1, Value.int .u8 0, Value.int .u8 0, Value.int .u8 1, Value.int .u8 184] 5)) := (Below.refl _ _).alloc (Nat.le_refl _) _
  have b1 := hid (bts_five 1 d (by omega))
  have b2 := hid (bts_five 2 d (by omega))
  have hst := hid (stretchI_eq (bts d))
  have s1 : (toS [1, 0, 0, 1, 184]).size = 5 := by rw [toS_size]; rfl
  have s2 : (toS [2, 0, 0, 1, 184]).size = 5 := by rw [toS_size]; rfl
  have HB1 := hid hB1
  clear hB1
  go_enter Tryz.func63, Tryz.ntmps63
  go_wp2_with (refine wpList_str rfl _ rfl _ [1, 0, 0, 1, 184] rfl y1.out ?_)
  generalize toS [1, 0, 0, 1, 184] = o1 at *
  generalize (w.alloc (.cells #[Value.int .u8 1, Value.int .u8 0, Value.int .u8 0, Value.int .u8 1, Value.int .u8 184] 5)) = w1 at *
  clear y1
  refine (hash_any (o1 ++ d) _ (by rw [ByteArray.size_append]; omega)).mono ?_
  rintro e w2 ⟨rfl, hB2⟩
  rw [b1.out]
  have HB2 := hid (HB1.out.trans (hB2.mono HB1.out.size))
  have l1 := shaI_len (1 :: 0 :: 0 :: 1 :: 184 :: bts d)
  generalize shaI (1 :: 0 :: 0 :: 1 :: 184 :: bts d) = h1 at *
  clear hB2 HB1 b1 s1
  have y2 := hid (five_byt w2 2)
  have hB3 : Below w2.heap.size w2 (w2.alloc (.cells #[Value.int .u8 2, Value.int .u8 0, Value.int .u8 0, Value.int .u8 1, Value.int .u8 184] 5)) := (Below.refl _ _).alloc (Nat.le_refl _) _
  have HB3 := hid (HB2.out.trans (hB3.mono HB2.out.size))
  clear hB3 HB2
  go_wp2_with (refine wpList_str rfl _ rfl _ [2, 0, 0, 1, 184] rfl y2.out ?_)
  generalize toS [2, 0, 0, 1, 184] = o2 at *
  generalize (w2.alloc (.cells #[Value.int .u8 2, Value.int .u8 0, Value.int .u8 0, Value.int .u8 1, Value.int .u8 184] 5)) = w3 at *
  clear y2
  refine (hash_any (o2 ++ d) _ (by rw [ByteArray.size_append]; omega)).mono ?_
  rintro e w4 ⟨rfl, hB4⟩
  rw [b2.out]
  have HB4 := hid (HB3.out.trans (hB4.mono HB3.out.size))
  have l2 := shaI_len (2 :: 0 :: 0 :: 1 :: 184 :: bts d)
  generalize shaI (2 :: 0 :: 0 :: 1 :: 184 :: bts d) = h2 at *
  clear hB4 HB3 b2 s2
  have z1 : (toS h1).size = 32 := by rw [toS_size, l1]
  have z2 : (toS h2).size = 32 := by rw [toS_size, l2]
  have hcat : Hd ((toS h1 ++ toS h2).extract 0 55 = toS (stretchI (bts d))) := hid (by rw [toS_append, toS_take, hst.out])
  generalize toS h1 = t1 at *
  generalize toS h2 = t2 at *
  go_wp2
  go_ret
  exact ⟨by rw [← hcat.out]; rfl, HB4.out⟩
end Go.Proofs.YtbifmhbkmnofiaaGreat
namespace Go.Proofs.YtbifmhbkmnofiaaGreat
open Go.RowKit
set_option linter.unusedVariables false
set_option linter.unusedSimpArgs false
def padI (b : List Int) : List Int := zeros (55 - b.length) ++ b
theorem padI_len (b : List Int) (h : b.length ≤ 55) : (padI b).length = 55 := by simp [padI, zeros_len]; omega
theorem padI_get (b : List Int) (h : b.length ≤ 55) (k : Nat) (hk : k < 55) : (padI b)[54 - k]?.getD 0 = oAt b k := by
  unfold padI oAt
  by_cases hb : k < b.length
  · rw [if_pos hb, List.getElem?_append_right (by rw [zeros_len]; omega), zeros_len]
    congr 2
    omega
  · rw [if_neg hb, List.getElem?_append_left (by rw [zeros_len]; omega)]
    unfold zeros
    rw [List.getElem?_replicate]
    split <;> rfl
def mzd (V o : List Int) (k : Nat) : List Int := zeros (55 - k) ++ (addI V o).drop (55 - k)
theorem mzd_zero (V o : List Int) : mzd V o 0 = zeros 55 := by
  unfold mzd
  rw [List.drop_of_length_le (by rw [addI_len]; omega), List.append_nil]
theorem mzd_end (V o : List Int) : mzd V o 55 = addI V o := by simp [mzd, zeros]
theorem mzd_len (V o : List Int) (k : Nat) (hk : k ≤ 55) : (mzd V o k).length = 55 := by
  unfold mzd
  rw [List.length_append, zeros_len, List.length_drop, addI_len]; omega
theorem mzd_get (V o : List Int) (k : Nat) (hk : k < 55) : (mzd V o k)[54 - k]?.getD 0 = 0 := by
  unfold mzd
  rw [List.getElem?_append_left (by rw [zeros_len]; omega)]
  unfold zeros
  rw [List.getElem?_replicate, if_pos (by omega)]; rfl
theorem mzd_step (V o : List Int) (k : Nat) (hk : k < 55) : mzd V o (k + 1) = (mzd V o k).set (54 - k) (addAt V o k) := by
  unfold mzd
  rw [List.set_append_left _ _ (by rw [zeros_len]; omega)]
  have e1 : zeros (55 - k) = zeros (55 - (k + 1)) ++ [0] := by
    rw [show 55 - k = (55 - (k + 1)) + 1 by omega, zeros_succ]
  rw [e1, List.set_append_right _ _ (by rw [zeros_len]; omega), zeros_len, show 54 - k - (55 - (k + 1)) = 0 by omega, List.set_cons_zero, List.append_assoc]
  congr 1
  rw [List.drop_eq_getElem_cons (show 55 - (k + 1) < (addI V o).length by rw [addI_len]; omega)]
  rw [show 55 - (k + 1) + 1 = 55 - k by omega]
  simp only [List.singleton_append, List.cons.injEq, and_true]
  simp only [addI, List.getElem_map, List.getElem_range]
  congr 1
  omega
theorem bts_at (A : ByteArray) (i : Nat) (h : i < A.size) : ((A[i]'h).toNat : Int) = (bts A)[i]?.getD 0 := by
  have h2 : i < A.data.toList.length := by rw [bsz2]; exact h
  unfold bts
  rw [List.getElem?_map, List.getElem?_eq_getElem h2]
  simp; rfl
set_option maxRecDepth 20000 in
set_option maxHeartbeats 1000000 in
/-- the sum of two numbers of 55 bytes -/
theorem radded_any (V o : List Int) (w : World) (hV : V.length = 55) (hVB : allB V) (hoB : allB o) (hol : o.length ≤ 55) :
    Calls Tryz.prog 66 #[.string (toS V), .string (toS o)] w fun e w' => e = .returned (.string (toS (addI V o))) ∧ Below w.heap.size w w' := by
  have zV : (toS V).size = 55 := by rw [toS_size, hV]
  have zo : (toS o).size = o.length := by rw [toS_size]
  have zo' : (o.length : Int) ≤ 55 := by omega
  have hpl := padI_len o hol
  have eA : toS (zeros 0) ++ toS V = toS V := by rw [toS_append]; rfl
  have eB : toS (zeros (55 - o.length)) ++ toS o = toS (padI o) := by rw [toS_append]; rfl
  have bA := hid (bts_toS V hVB)
  have bB := hid (bts_toS (padI o) (allB_append (zeros_B _) hoB))
  have zA : (toS V).size = 55 := zV
  have zB : (toS (padI o)).size = 55 := by rw [toS_size, hpl]
  go_enter Tryz.func66, Tryz.ntmps66
  go_wp2_with fail
  refine (zeros_any 0 _ (by omega)).mono ?_
  rintro e w1 ⟨rfl, hB1⟩
  have q0 : (toS (zeros 0)).size = 0 := by rw [toS_size, zeros_len]
  go_wp2_with fail
  refine (zeros_int (55 - (o.length : Int)) _ (by omega) (by omega)).mono ?_
  rintro e w2 ⟨rfl, hB2⟩
  rw [show (55 - (o.length : Int)).toNat = 55 - o.length by omega]
  have hC2 := hid (hB1.trans (hB2.mono hB1.size))
  have q1 : (toS (zeros (55 - o.length))).size = 55 - o.length := by rw [toS_size, zeros_len]
  clear hB1 hB2
  go_wp2_with (refine wpList_makeB rfl _ _ rfl 55 (by omega) rfl rfl ?_)
  have hb3 := al_new w2 (.cells (ints .u8 (zeros 55)) 5)
  have hC3 : Below w.heap.size w (w2.alloc (.cells (ints .u8 (zeros 55)) 5)) := hC2.out.alloc hC2.out.size _
  have hz2 := hC2.out.size
  generalize (w2.alloc (.cells (ints .u8 (zeros 55)) 5)) = w3 at *
  generalize w2.heap.size = gb at *
  generalize toS V = A at *
  generalize toS (padI o) = Bq at *
  clear eA eB q0 q1 zo zV hC2
  go_loopw [6, 7] (fun c i wr => ∃ k : Nat, k ≤ 55 ∧ i = .int .i64 (54 - (k : Int)) ∧ c = .int .i64 (car V o k) ∧ wr.heap[gb]? = some (.cells (ints .u8 (mzd V o k)) 5 (0, 0)) ∧ Below w.heap.size w wr) (fun _ i _ => (intOf i + 1).toNat)
  case atStart => exact ⟨0, by omega, rfl, rfl, by rw [mzd_zero]; exact hb3, hC3⟩
  case round =>
    clear hb3 hC3
    obtain ⟨k, hk, rfl, rfl, hb, hC⟩ := hrel
    by_cases hlt : k < 55
    · have hiA : 54 - k < A.size := by omega
      have hiB : 54 - k < Bq.size := by omega
      have gA := hid ((bts_at A (54 - k) hiA).trans (by rw [bA.out]))
      have gB := hid ((bts_at Bq (54 - k) hiB).trans (by rw [bB.out, padI_get o hol k hlt]))
      have hcs := hid (show car V o (k + 1) = (V[54 - k]?.getD 0 + car V o k + oAt o k) / 256 from rfl)
      have hat := hid (show addAt V o k = (V[54 - k]?.getD 0 + car V o k + oAt o k) % 256 from rfl)
      have b1 := car_B hVB hoB k
      have b2 := getD_B hVB (54 - k)
      have b3 := oAt_B hoB k
      have hml := mzd_len V o k hk
      obtain ⟨hc, hf⟩ := cells_of _ _ _ _ _ hb
      have c1 := hc (54 - k) (by omega)
      have f1 := hf (54 - k)
      rw [mzd_get V o k hlt] at c1
      have hset := hid (setCell_ints _ _ (54 - k) .u8 _ (addAt V o k) _ hb)
      have hst := hid (mzd_step V o k hlt)
      clear hc hf hb
      have q1 : (54 - (k : Int)).toNat = 54 - k := by omega
      have q2 : (0 : Int) ≤ 54 - (k : Int) := by omega
      have b11 := b1.1
      have b12 := b1.2
      have b21 := b2.1
      have b22 := b2.2
      have b31 := b3.1
      have b32 := b3.2
      clear b1 b2 b3
      generalize V[54 - k]?.getD 0 = x at *
      generalize car V o k = c at *
      generalize oAt o k = y at *
      go_wp2
      have gA' := gA.out
      have gB' := gB.out
      go_quiet (fail)
      have e1 : x + c + y = c + x + y := by omega
      have hcs2 : Hd (car V o (k + 1) = (c + x + y) / 256) := hid (by rw [hcs.out, e1])
      have hat2 : Hd (addAt V o k = (c + x + y) % 256) := hid (by rw [hat.out, e1])
      have s0 : 0 ≤ c + x + y := by omega
      have s1 : c + x + y ≤ 511 := by omega
      clear e1 hcs hat gA gB gA' gB'
      generalize c + x + y = t at *
      have c2 : (wr.drewN nq).cell? ⟨gb, 54 - k, none⟩ = some (.int .u8 0) := c1
      have f2 : (wr.drewN nq).frozen? ⟨gb, 54 - k, none⟩ = false := f1
      have hset2 : Hd (((wr.drewN nq).setCell ⟨gb, 54 - k, none⟩ (.int .u8 (addAt V o k))).heap[gb]? = some (.cells (ints .u8 ((mzd V o k).set (54 - k) (addAt V o k))) 5 (0, 0))) := hset
      have hC2 := hid (below_drewN hC nq)
      clear c1 f1 hset hC
      generalize wr.drewN nq = wq at *
      go_wp2
      rw [← hat2.out]
      exact ⟨⟨k + 1, by omega, by go_num, by rw [hcs2.out], by rw [hst.out]; exact hset2.out, hC2.out.setCell (by simp; omega) _⟩, by simp [intOf]; omega⟩
    · obtain rfl : k = 55 := by omega
      rw [mzd_end] at hb
      have Y1 : Hd (Byt wr (.slice (some ⟨gb, 0, none⟩) 55 55) (addI V o)) := hid (by have := byt_block hb 55; rw [addI_len] at this; exact this)
      have HC := hid hC
      clear hb hC
      generalize hadd : addI V o = ad at *
      have Hadd := hid hadd
      clear hadd
      go_wp2_with (refine wpList_str rfl _ rfl _ ad rfl Y1.out ?_)
      go_ret
      exact ⟨by rw [Hadd.out]; rfl, HC.out⟩
end Go.Proofs.YtbifmhbkmnofiaaGreat
namespace Go.Proofs.YtbifmhbkmnofiaaGreat
open Go.RowKit
set_option linter.unusedVariables false
set_option linter.unusedSimpArgs false
def Gen.B : Gen → Prop
  | .m g => g.B
  | .s _ => True
/-- what the document keeps of a source -/
def refOf (f : Fnt) : RS := match f.g with
  | .m g => ⟨1, toS g.k, toS g.v, ⟨#[]⟩, f.r⟩
  | .s g => ⟨2, ⟨#[]⟩, toS g.v, toS g.c, f.r⟩
theorem refOf_m (g : MG) (r : Nat) : refOf ⟨.m g, r⟩ = ⟨1, toS g.k, toS g.v, ⟨#[]⟩, r⟩ := rfl
theorem refOf_s (g : SG) (r : Nat) : refOf ⟨.s g, r⟩ = ⟨2, ⟨#[]⟩, toS g.v, toS g.c, r⟩ := rfl
theorem xor_ones : (zeros 32).map (fun x => bits .xor .u8 x 1) = ones 32 := by decide +kernel
theorem ones_B : allB (ones 32) := by
  intro x hx
  have : ∀ y ∈ ones 32, 0 ≤ y ∧ y < 256 := by decide +kernel
  exact this x hx
theorem Z32_B : allB Z32 := zeros_B' 32
theorem seedG_B (xs : List Int) : (seedG xs).B := by
  unfold seedG
  exact stirG_B (mkB Z32_B ones_B) xs
set_option maxRecDepth 20000 in
set_option maxHeartbeats 1000000 in
theorem made_m (d : ByteArray) (w : World) (hd : d.size ≤ 1000) :
    Calls Tryz.prog 61 #[.int .i64 1, .string d] w fun e w' => ∃ Y, e = .returned (.pointer (some ⟨Y, 0, none⟩)) ∧ w.heap.size ≤ Y ∧ RsAt w' Y ⟨1, toS (seedG (bts d)).k, toS (seedG (bts d)).v, ⟨#[]⟩, 1⟩ ∧ Below w.heap.size w w' := by
  have hS0 : RsAt (w.alloc (.cells #[.int .i64 1, .string ⟨#[]⟩, .string ⟨#[]⟩, .string ⟨#[]⟩, .int .i64 1] 124)) w.heap.size ⟨1, ⟨#[]⟩, ⟨#[]⟩, ⟨#[]⟩, 1⟩ := ⟨124, al_new _ _⟩
  have hB0 : Below w.heap.size w (w.alloc (.cells #[.int .i64 1, .string ⟨#[]⟩, .string ⟨#[]⟩, .string ⟨#[]⟩, .int .i64 1] 124)) := (Below.refl _ _).alloc (Nat.le_refl _) _
  have hsg := hid (show seedG (bts d) = stirG ⟨Z32, ones 32⟩ (bts d) from by simp only [seedG])
  have HS0 := hid hS0
  have HB0 := hid hB0
  clear hS0 hB0
  go_enter Tryz.func61, Tryz.ntmps61
  go_wp2_with fail
  generalize (w.alloc (.cells #[.int .i64 1, .string ⟨#[]⟩, .string ⟨#[]⟩, .string ⟨#[]⟩, .int .i64 1] 124)) = w0 at *
  refine (zeros_any 32 _ (by omega)).mono ?_
  rintro e w1 ⟨rfl, hB1⟩
  have HS1 := hid (HS0.out.below hB1)
  have HB1 := hid (HB0.out.trans (hB1.mono HB0.out.size))
  have c1 := HS1.out.c1
  have f1 := HS1.out.frozen 1
  clear hB1 HS0 HB0
  have hz0 : Hd (bts (toS (zeros 32)) = zeros 32) := hid (bts_toS _ (zeros_B _))
  have hz1 : (toS (zeros 32)).size = 32 := by rw [toS_size, zeros_len]
  have HS2 := hid (HS1.out.setK (toS (zeros 32)))
  have HB2 : Hd (Below w.heap.size w (w1.setCell ⟨w.heap.size, 1, none⟩ (.string (toS (zeros 32))))) := hid (HB1.out.setCell (by simp) _)
  dsimp only at HS2
  go_wp2_with fail
  generalize (w1.setCell ⟨w.heap.size, 1, none⟩ (.string (toS (zeros 32)))) = w2 at *
  refine (zeros_any 32 _ (by omega)).mono ?_
  rintro e w3 ⟨rfl, hB3⟩
  have HS3 := hid (HS2.out.below hB3)
  have HB3 := hid (HB2.out.trans (hB3.mono HB2.out.size))
  clear hB3 HS2 HB2 c1 f1 HS1 HB1
  go_wp2_with fail
  refine (with_any (toS (zeros 32)) 1 _ (by omega)).mono ?_
  rintro e w4 ⟨rfl, hB4⟩
  rw [hz0.out, xor_ones]
  have HS4 := hid (HS3.out.below hB4)
  have HB4 := hid (HB3.out.trans (hB4.mono HB3.out.size))
  have c2 := HS4.out.c2
  have f2 := HS4.out.frozen 2
  clear hB4 HS3 HB3
  have HS5 := hid (HS4.out.setV (toS (ones 32)))
  have HB5 : Hd (Below w.heap.size w (w4.setCell ⟨w.heap.size, 2, none⟩ (.string (toS (ones 32))))) := hid (HB4.out.setCell (by simp) _)
  dsimp only at HS5
  go_wp2_with fail
  generalize (w4.setCell ⟨w.heap.size, 2, none⟩ (.string (toS (ones 32)))) = w5 at *
  refine (rstir_any ⟨Z32, ones 32⟩ 1 d w.heap.size _ (mk_ok (by rfl) (by rfl)) (mkB Z32_B ones_B) HS5.out hd).mono ?_
  rintro e w6 ⟨rfl, hS6, hE6⟩
  rw [← hsg.out] at hS6
  have hz5 := HB5.out.size
  have HB6 := hid (HB5.out.trans (hE6.below (Nat.le_refl _) hz5))
  have HS6 := hid hS6
  clear hS6 hE6 HS5 HB5 HS4 HB4 c2 f2
  go_wp2
  go_ret
  exact ⟨w.heap.size, rfl, Nat.le_refl _, HS6.out, HB6.out⟩

theorem bts_z1 (v : List Int) (hv : allB v) : bts (toS (zeros 1) ++ toS v) = 0 :: v := by
  rw [bts_append, bts_toS _ (zeros_B _), bts_toS v hv]; rfl
set_option maxRecDepth 20000 in
set_option maxHeartbeats 1000000 in
theorem made_s (d : ByteArray) (w : World) (hd : d.size ≤ 1000) :
    Calls Tryz.prog 61 #[.int .i64 2, .string d] w fun e w' => ∃ Y, e = .returned (.pointer (some ⟨Y, 0, none⟩)) ∧ w.heap.size ≤ Y ∧ RsAt w' Y ⟨2, ⟨#[]⟩, toS (beginS (bts d)).v, toS (beginS (bts d)).c, 1⟩ ∧ Below w.heap.size w w' := by
  have hS0 : RsAt (w.alloc (.cells #[.int .i64 2, .string ⟨#[]⟩, .string ⟨#[]⟩, .string ⟨#[]⟩, .int .i64 1] 124)) w.heap.size ⟨2, ⟨#[]⟩, ⟨#[]⟩, ⟨#[]⟩, 1⟩ := ⟨124, al_new _ _⟩
  have hB0 : Below w.heap.size w (w.alloc (.cells #[.int .i64 2, .string ⟨#[]⟩, .string ⟨#[]⟩, .string ⟨#[]⟩, .int .i64 1] 124)) := (Below.refl _ _).alloc (Nat.le_refl _) _
  have hbv : Hd ((beginS (bts d)).v = stretchI (bts d)) := hid (by rw [beginS_eq])
  have hbc : Hd ((beginS (bts d)).c = stretchI (0 :: stretchI (bts d))) := hid (by rw [beginS_eq])
  have HS0 := hid hS0
  have HB0 := hid hB0
  clear hS0 hB0
  go_enter Tryz.func61, Tryz.ntmps61
  go_wp2_with fail
  generalize (w.alloc (.cells #[.int .i64 2, .string ⟨#[]⟩, .string ⟨#[]⟩, .string ⟨#[]⟩, .int .i64 1] 124)) = w0 at *
  refine (rstretch_any d _ hd).mono ?_
  rintro e w1 ⟨rfl, hB1⟩
  have HS1 := hid (HS0.out.below hB1)
  have HB1 := hid (HB0.out.trans (hB1.mono HB0.out.size))
  have c2 := HS1.out.c2
  have f2 := HS1.out.frozen 2
  have hvl := stretchI_len (bts d)
  have hvB := stretchI_B (bts d)
  generalize stretchI (bts d) = V at *
  have hvs : (toS V).size = 55 := by rw [toS_size, hvl]
  have hz1 := hid (bts_z1 V hvB)
  clear hB1 HS0 HB0
  have HS2 := hid (HS1.out.setV (toS V))
  have HB2 : Hd (Below w.heap.size w (w1.setCell ⟨w.heap.size, 2, none⟩ (.string (toS V)))) := hid (HB1.out.setCell (by simp) _)
  dsimp only at HS2
  go_wp2_with fail
  generalize (w1.setCell ⟨w.heap.size, 2, none⟩ (.string (toS V))) = w2 at *
  clear c2 f2 HS1 HB1
  refine wp_region_E (S := fun w' => w'.cell? ⟨w.heap.size, 2, none⟩ = some (.string (toS V))) 10 (by kernel_rfl) HS2.out.c2 (fun hSw => ?_)
  refine wpAnyE_take (i := 0) (v := ?_) rfl (by decide +kernel) (by decide) (by decide +kernel) (by decide +kernel) (by decide +kernel) (fun _ _ _ h => h) (Or.inl ⟨by rfl, ?_⟩) hSw ?_
  rotate_left
  · intro w hw; go_simp; try with_reducible rfl
  simp only [Act.put, List.getElem_toArray, List.getElem_cons_zero, List.getElem_cons_succ, List.setIfInBounds_toArray, List.set_cons_zero, List.set_cons_succ]
  refine wpAnyE_take (i := 2) (v := ?_) rfl (by decide +kernel) (by decide) (by decide +kernel) (by decide +kernel) (by decide +kernel) (fun _ _ _ h => h) (Or.inl ⟨by rfl, ?_⟩) hSw ?_
  rotate_left
  · intro w hw; go_simp; try with_reducible rfl
  simp only [Act.put, List.getElem_toArray, List.getElem_cons_zero, List.getElem_cons_succ, List.setIfInBounds_toArray, List.set_cons_zero, List.set_cons_succ]
  refine wpAnyE_take (i := 3) (v := ?_) rfl (by decide +kernel) (by decide) (by decide +kernel) (by decide +kernel) (by decide +kernel) (fun _ _ _ h => h) (Or.inl ⟨by rfl, ?_⟩) hSw ?_
  rotate_left
  · intro w hw; go_simp; try with_reducible rfl
  simp only [Act.put, List.getElem_toArray, List.getElem_cons_zero, List.getElem_cons_succ, List.setIfInBounds_toArray, List.set_cons_zero, List.set_cons_succ]
  refine wpAnyE_take (i := 4) (v := ?_) rfl (by decide +kernel) (by decide) (by decide +kernel) (by decide +kernel) (by decide +kernel) (fun _ _ _ h => h) (Or.inl ⟨by rfl, ?_⟩) hSw ?_
  rotate_left
  · intro w hw; go_simp; try with_reducible rfl
  simp only [Act.put, List.getElem_toArray, List.getElem_cons_zero, List.getElem_cons_succ, List.setIfInBounds_toArray, List.set_cons_zero, List.set_cons_succ]
  refine wpAnyE_take (i := 5) (v := ?_) rfl (by decide +kernel) (by decide) (by decide +kernel) (by decide +kernel) (by decide +kernel) (fun _ _ _ h => h) (Or.inl ⟨by rfl, ?_⟩) hSw ?_
  rotate_left
  · intro w hw; have hcell := hw; clear hw; go_simp; try with_reducible rfl
  simp only [Act.put, List.getElem_toArray, List.getElem_cons_zero, List.getElem_cons_succ, List.setIfInBounds_toArray, List.set_cons_zero, List.set_cons_succ]
  refine wpAnyE_one (i := 1) (by kernel_rfl) rfl (fun K hK => ?_)
  go_simp
  refine (zeros_any 1 _ (by omega)).mono ?_
  rintro e w3 ⟨rfl, hB3⟩
  have HS3 := hid ((show RsAt w2.drew _ _ from HS2.out).below hB3)
  have HB3 := hid (HB2.out.drew.trans (hB3.mono HB2.out.size))
  refine hK.out _ _ (fun _ => HS3.out.c2) ?_
  replace hSw := HS3.out.c2
  dsimp only at hSw
  clear hK K hB3 HS2 HB2
  have z1 : (toS (zeros 1)).size = 1 := by rw [toS_size, zeros_len]
  have hcz : (toS (zeros 1) ++ toS V).size = 56 := by rw [ByteArray.size_append]; omega
  generalize toS (zeros 1) = zo at *
  refine wpAnyE_take (i := 6) (v := ?_) rfl (by decide +kernel) (by decide) (by decide +kernel) (by decide +kernel) (by decide +kernel) (fun _ _ _ h => h) (Or.inl ⟨by rfl, ?_⟩) hSw ?_
  rotate_left
  · intro w hw; go_simp; try with_reducible rfl
  simp only [Act.put, List.getElem_toArray, List.getElem_cons_zero, List.getElem_cons_succ, List.setIfInBounds_toArray, List.set_cons_zero, List.set_cons_succ]
  refine wpAnyE_one (i := 7) (by kernel_rfl) rfl (fun K hK => ?_)
  go_simp
  refine (rstretch_any (zo ++ toS V) _ (by omega)).mono ?_
  rintro e w4 ⟨rfl, hB4⟩
  rw [hz1.out]
  have HS4 := hid (HS3.out.below hB4)
  have HB4 := hid (HB3.out.trans (hB4.mono HB3.out.size))
  refine hK.out _ _ (fun _ => HS4.out.c2) ?_
  replace hSw := HS4.out.c2
  dsimp only at hSw
  clear hK K hB4 HS3 HB3
  refine wpAnyE_one (i := 8) (by kernel_rfl) rfl (fun K hK => ?_)
  go_simp
  refine hK.out _ _ (fun _ => hSw) ?_
  clear hK K
  refine wpAnyE_one (i := 9) (by kernel_rfl) rfl (fun K hK => ?_)
  go_simp
  refine hK.out _ _ (fun _ => hSw) ?_
  clear hK K
  have f3 := HS4.out.frozen 3
  have cc3 := HS4.out.c3
  refine wpAnyE_one (i := 10) (by kernel_rfl) rfl (fun K hK => ?_)
  go_simp
  have HS5 := hid (HS4.out.setC (toS (stretchI (0 :: V))))
  have HB5 : Hd (Below w.heap.size w (w4.setCell ⟨w.heap.size, 3, none⟩ (.string (toS (stretchI (0 :: V)))))) := hid (HB4.out.setCell (by simp) _)
  dsimp only at HS5
  generalize (w4.setCell ⟨w.heap.size, 3, none⟩ (.string (toS (stretchI (0 :: V))))) = w5 at *
  refine hK.out _ _ (fun h => absurd rfl h) ?_
  clear hK K hSw cc3 f3 HS4 HB4
  refine wpAnyE_done (by kernel_rfl) ?_ _
  go_wp2
  go_ret
  rw [hbv.out, hbc.out]
  exact ⟨w.heap.size, rfl, Nat.le_refl _, HS5.out, HB5.out⟩

end Go.Proofs.YtbifmhbkmnofiaaGreat
