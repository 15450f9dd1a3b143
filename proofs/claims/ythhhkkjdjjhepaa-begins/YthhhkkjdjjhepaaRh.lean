import Derived.Test.YthhhkkjdjjhepaaRf
import Derived.Test.YthhhkkjdjjhepaaRg
namespace Go.Proofs.Ythhhkkjdjjhepaa
open Go.RowKit
set_option linter.unusedVariables false
set_option linter.unusedSimpArgs false
theorem block_list (hs : List Int) (vh : Value) (s : ByteArray) (w : World) (hl : hs.length = 8) (hw : allW hs) (h64 : s.size = 64) (hv : SlV w vh (hs.map (Value.int .i64))) :
    Calls Try.prog 85 #[vh, .string s] w fun e w' => ∃ v, e = .returned v ∧ OwnI w' w.heap.size v (mixI hs (bts s)) ∧ Below w.heap.size w w' := by
  match hs, hl with
  | [a, b, c, d, e, f, g, h], _ => exact block_any a b c d e f g h vh s w hw h64 hv
theorem OwnI.slv {w : World} {N : Nat} {v : Value} {xs : List Int} (h : OwnI w N v xs) (hp : 0 < xs.length) : SlV w v (xs.map (Value.int .i64)) := by
  obtain ⟨g, cap, rfl, _, _, hc⟩ := h.form hp
  refine ⟨some ⟨g, 0, none⟩, cap, by simp, fun _ => ⟨g, 0, rfl, fun j u hu => ?_⟩⟩
  have hj : j < xs.length := by simpa using (List.getElem?_eq_some_iff.1 hu).1
  rw [Nat.zero_add, hc j hj, ← hu]
  simp [List.getElem?_eq_getElem hj]
theorem toS_append (xs ys : List Int) : toS xs ++ toS ys = toS (xs ++ ys) := by
  apply ByteArray.ext
  simp [toS, ByteArray.data_append]
theorem toS_snoc (s : ByteArray) (ys : List Int) : s ++ toS ys = toS (bts s ++ ys) := by
  conv => lhs; rw [← toS_bts s]
  exact toS_append _ _
theorem allB_append {a b : List Int} (ha : allB a) (hb : allB b) : allB (a ++ b) := fun x hx => by
  rcases List.mem_append.1 hx with h | h
  · exact ha x h
  · exact hb x h
theorem zeros_B (k : Nat) : allB (zeros k) := fun x hx => by
  have : x = 0 := List.eq_of_mem_replicate hx
  subst this; decide
theorem padded_B (s : ByteArray) : allB (padded (bts s)) :=
  allB_append (allB_append (allB_append (bts_B s) (fun x hx => by simp at hx; subst hx; decide)) (zeros_B _)) (btI_B _ _)
theorem bts_sub (m : List Int) (hB : allB m) (a : Nat) (h : a + 64 ≤ m.length) : bts ((toS m).extract a (a + 64)) = (m.drop a).take 64 := by
  rw [bts_mid _ _ _ (by rw [toS_size]; exact h), bts_toS m hB]
def strLen : Value → Nat
  | .string s => s.size
  | _ => 0
theorem hAt8 (m : List Int) (k : Nat) : ∃ a b c d e f g h, hAt m k = [a, b, c, d, e, f, g, h] := by
  have hl := hAt_len m k
  match hAt m k, hl with
  | [a, b, c, d, e, f, g, h], _ => exact ⟨a, b, c, d, e, f, g, h, rfl⟩
/-- the string of the first words -/
def outI (hs : List Int) : Nat → List Int
  | 0 => []
  | k + 1 => outI hs k ++ btI (hs[k]?.getD 0) 4
theorem outI_len (hs : List Int) : ∀ k, (outI hs k).length = 4 * k
  | 0 => rfl
  | k + 1 => by rw [outI, List.length_append, outI_len hs k, btI_len]; omega
theorem outI_toB (hs : List Int) (hl : hs.length = 8) : outI hs 8 = toB hs 32 := by
  match hs, hl with
  | [a, b, c, d, e, f, g, h], _ => rw [toB_bt]; rfl
set_option maxRecDepth 20000 in
set_option maxHeartbeats 1000000 in
theorem hash_any (s : ByteArray) (w : World) (hs : s.size ≤ 1125899906842624) :
    Calls Try.prog 62 #[.string s] w fun e w' => e = .returned (.string (toS (shaI (bts s)))) ∧ Below w.heap.size w w' := by
  have Hsha := hid (shaI_hAt (bts s))
  have Hpb := hid (padded_B s)
  have hpl := padded_len (bts s)
  have hpm := padded_mod (bts s)
  rw [bts_len] at hpl
  have hpn := pad_le (s.size + 1)
  have Hpd : Hd (padded (bts s) = bts s ++ [128] ++ zeros (padN (s.size + 1)) ++ btI (8 * (s.size : Int)) 8) := hid (by unfold padded; rw [bts_len])
  have y1 : Byt (w.alloc (.cells (ints .u8 [128]) 5)) (.slice (some ⟨w.heap.size, 0, none⟩) 1 1) [128] := byt_block (al_new w (.cells (ints .u8 [128]) 5)) 1
  have Y1 := hid y1
  clear y1
  have ht1 : (toS [128]).size ≤ 1 := by rw [toS_size]; simp
  go_enter Try.func62, Try.ntmps62
  go_wp2_with (refine wpList_str rfl (.tmp 12) rfl _ [128] rfl Y1.out ?_)
  rw [toS_snoc s [128]]
  have hB1 : Below w.heap.size w (w.alloc (.cells #[Value.int .u8 128] 5)) := (Below.refl _ _).alloc (Nat.le_refl _) _
  clear Y1 ht1
  generalize (w.alloc (.cells #[Value.int .u8 128] 5)) = w1 at *
  have hxl : (bts s ++ [128]).length = s.size + 1 := by rw [List.length_append, bts_len]; rfl
  have Hpd2 : Hd (padded (bts s) = bts s ++ [128] ++ zeros (padN (s.size + 1)) ++ btI (8 * (s.size : Int)) 8) := Hpd
  clear Hpd
  generalize bts s ++ [128] = X at *
  go_loopw [0] (fun v wr => ∃ k : Nat, k ≤ padN (s.size + 1) ∧ v = .string (toS (X ++ zeros k)) ∧ Below w.heap.size w wr) (fun v _ => s.size + 100 - strLen v)
  case atStart => exact ⟨0, by omega, by simp [zeros], hB1⟩
  case round =>
    clear hB1
    obtain ⟨k, hk, rfl, hB⟩ := hrel
    have hsz : (toS (X ++ zeros k)).size = s.size + 1 + k := by rw [toS_size, List.length_append, zeros_len]; omega
    by_cases hlt : k < padN (s.size + 1)
    · have hm := pad_lt _ _ hlt
      have ht : (((s.size : Int) + 1 + k) % 64 != 56) = true := by rw [bne_iff_ne]; omega
      have hz1 : (toS (zeros 1)).size ≤ 1 := by rw [toS_size, zeros_len]; omega
      have hsn : Hd (toS (X ++ zeros k) ++ toS (zeros 1) = toS (X ++ zeros (k + 1))) := hid (by rw [toS_append, List.append_assoc, zeros_succ k]; rfl)
      go_wp2_with (go_at_call 82; refine (zeros_int 1 _ (by omega) (by omega)).mono ?_; rintro e w' ⟨rfl, hB2⟩)
      rw [hsn.out]
      refine ⟨⟨k + 1, by omega, rfl, hB.trans (hB2.mono hB.size)⟩, ?_⟩
      simp only [strLen]
      rw [hsz, toS_size, List.length_append, zeros_len]
      omega
    · obtain rfl : k = padN (s.size + 1) := by omega
      have hm := pad_eq (s.size + 1)
      have ht : (((s.size : Int) + 1 + (padN (s.size + 1) : Int)) % 64 != 56) = false := by rw [bne_eq_false_iff_eq]; omega
      clear hlt hk
      have hbl := btI_len (8 * (s.size : Int)) 8
      have hbs : (toS (btI (8 * (s.size : Int)) 8)).size ≤ 8 := by rw [toS_size, hbl]; omega
      go_wp2_with fail
      refine (bytes_int (8 * (s.size : Int)) 8 _ (by omega) (by omega) (by omega) (by omega)).mono ?_
      rintro e w2 ⟨rfl, hB2⟩
      rw [show Int.toNat 8 = 8 from rfl]
      have hC2 := hB.trans (hB2.mono hB.size)
      clear hB hB2
      go_wp2_with fail
      rw [toS_append, ← Hpd2.out]
      have hps : (toS (padded (bts s))).size = (padded (bts s)).length := toS_size _
      generalize padded (bts s) = P at *
      clear Hpd2 hbl hbs ht hsz hxl
      refine (rfirst_any _).mono ?_
      rintro e w3 ⟨rfl, rfl⟩
      have hz2 := hC2.size
      have fr := OwnI.fresh w2 w.heap.size HT hz2 (by rw [HT_len]; omega)
      rw [HT_len] at fr
      have hC3 : Below w.heap.size w (w2.alloc (.cells (ints .i64 HT) 3)) := hC2.alloc hz2 _
      have Fr : Hd (OwnI (w2.alloc (.cells (ints .i64 HT) 3)) w.heap.size (.slice (some ⟨w2.heap.size, 0, none⟩) 8 8) (hAt P 0)) := hid fr
      clear fr hC2
      generalize (w2.alloc (.cells (ints .i64 HT) 3)) = w3 at *
      have hq : P.length ≤ 1125899906843000 := by omega
      go_wp2
      go_loopw [4, 5] (fun v i wr => ∃ k : Nat, 64 * k ≤ P.length ∧ i = .int .i64 (64 * k) ∧ OwnI wr w.heap.size v (hAt P k) ∧ Below w.heap.size w wr) (fun _ i _ => P.length - (intOf i).toNat)
      case atStart => exact ⟨0, by omega, rfl, Fr.out, hC3⟩
      case round =>
        clear Fr hC3
        obtain ⟨k, hk, rfl, hown, hB⟩ := hrel
        have hal := hAt_len P k
        have haw := hid (hAt_W P k)
        have hsl := hid (hown.slv (by omega))
        by_cases hlt : 64 * k < P.length
        · have h64 : 64 * k + 64 ≤ P.length := by omega
          have hsub := hid (bts_sub P Hpb.out (64 * k) h64)
          have hst : Hd (hAt P (k + 1) = mixI (hAt P k) ((P.drop (64 * k)).take 64)) := hid rfl
          generalize hAt P k = hk8 at *
          go_wp2_with fail
          refine (block_list hk8 u4 _ _ hal haw.out (by rw [ByteArray.size_extract, hps]; omega) hsl.out).mono ?_
          rintro e w4 ⟨v4, rfl, hown4, hB4⟩
          rw [hsub.out] at hown4
          go_wp2
          exact ⟨⟨k + 1, by omega, by go_num, by rw [hst.out]; exact hown4.base hB.size, hB.trans (hB4.mono hB.size)⟩, by simp [intOf]; omega⟩
        · have Hkk : Hd (k = P.length / 64) := hid (by omega)
          obtain ⟨vb, capv, rfl, _, _, hcell⟩ := hown.form (by omega)
          rw [hal] at hcell ⊢
          have Hcell := hid hcell
          have hOut := hid (outI_toB (hAt P k) hal)
          clear hcell hown hsl hal
          have hle : (P.length : Int) ≤ 64 * k := by omega
          generalize hhf : hAt P k = hf at *
          have HF := hid hhf
          clear hhf
          have hps' := hid hps
          clear hpl hpm hm hq hps
          have hps2 : (toS P).size ≤ P.length := by rw [hps'.out]; omega
          have hps3 : ((toS P).size : Int) ≤ 64 * k := by rw [hps'.out]; omega
          clear hk hlt
          obtain ⟨wz, hwz⟩ : ∃ wz, wz = wr := ⟨_, rfl⟩
          subst hwz
          go_wp2
          go_loopw [6, 7] (fun o i wx => ∃ j : Nat, j ≤ 8 ∧ i = .int .i64 j ∧ o = .string (toS (outI hf j)) ∧ Below wz.heap.size wz wx) (fun _ i _ => 8 - (intOf i).toNat)
          case atStart => exact ⟨0, by omega, rfl, rfl, Below.refl _ _⟩
          case round =>
            obtain ⟨j, hj, rfl, rfl, hBx⟩ := hrel
            by_cases hlt : j < 8
            · have hx := Hcell.out j hlt
              have hx2 : wr.cell? ⟨vb, j, none⟩ = _ := (hBx.cell (World.block_lt_of_cell? wz _ hx)).trans hx
              obtain ⟨b0, b1⟩ := allW_get _ haw.out j
              have hst : Hd (outI hf (j + 1) = outI hf j ++ btI (hf[j]?.getD 0) 4) := hid rfl
              have hol := outI_len hf j
              have hos : (toS (outI hf j)).size ≤ 32 := by rw [toS_size, hol]; omega
              clear hx
              generalize hf[j]?.getD 0 = xv at *
              have hbs : (toS (btI xv 4)).size ≤ 4 := by rw [toS_size, btI_len]; omega
              generalize outI hf j = oj at *
              go_wp2_with (go_at_call 83; refine (bytes_int xv 4 _ b0 (by omega) (by omega) (by omega)).mono ?_; rintro e w' ⟨rfl, hB2⟩; rw [show Int.toNat 4 = 4 from rfl])
              rw [toS_append]
              exact ⟨⟨j + 1, by omega, by go_num, by rw [hst.out], hBx.trans (hB2.mono hBx.size)⟩, by simp [intOf]; omega⟩
            · obtain rfl : j = 8 := by omega
              go_wp2
              go_ret
              exact ⟨by rw [Hsha.out, ← Hkk.out, HF.out, ← hOut.out]; rfl, hB.trans (hBx.mono hB.size)⟩
end Go.Proofs.Ythhhkkjdjjhepaa
