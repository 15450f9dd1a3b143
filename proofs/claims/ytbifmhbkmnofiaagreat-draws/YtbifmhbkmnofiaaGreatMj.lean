import Derived.Test.YtbifmhbkmnofiaaGreatMi
import Derived.Test.YtbifmhbkmnofiaaGreatMh
namespace Go.Proofs.YtbifmhbkmnofiaaGreat
open Go.RowKit
set_option linter.unusedVariables false
set_option linter.unusedSimpArgs false
/-- a block that is filled: bytes 0 to j of it are new -/
theorem feed_part (s : DS) (hs : s.ok) (hn : s.n % 64 = 0) (c : List Int) (hc : c.length = 64) : ∀ j, j < 64 → feed s (c.take j) = ⟨s.h, c.take j ++ s.b.drop j, s.n + j⟩
  | 0, _ => by simp [feed]
  | j + 1, h => by
    have ih := feed_part s hs hn c hc j (by omega)
    have hj : j < c.length := by omega
    rw [List.take_succ_eq_append_getElem hj, feed_append, ih]
    show addB _ c[j] = _
    unfold addB
    have hm : (s.n + j) % 64 = j := by omega
    have hm2 : ¬ (s.n + j + 1) % 64 = 0 := by omega
    simp only [hm]
    rw [if_neg hm2]
    have hb : j < s.b.length := by rw [hs.bl]; omega
    congr 1
    rw [List.set_append_right _ _ (by rw [List.length_take]; omega), List.length_take, Nat.min_eq_left (by omega), Nat.sub_self]
    conv => lhs; rw [List.drop_eq_getElem_cons hb]
    rw [List.set_cons_zero]
    have e2 := List.take_succ_eq_append_getElem hj
    simp only [List.append_assoc, List.singleton_append] at e2 ⊢
    first | done | (rw [e2]; simp)
theorem feed_block (s : DS) (hs : s.ok) (hn : s.n % 64 = 0) (c : List Int) (hc : c.length = 64) : feed s c = ⟨mixI s.h c, c, s.n + 64⟩ := by
  have h1 := feed_part s hs hn c hc 63 (by omega)
  have hj : 63 < c.length := by omega
  have e : c = c.take 63 ++ [c[63]] := by
    have := List.take_succ_eq_append_getElem hj
    rw [← this, List.take_of_length_le (by omega)]
  have hb : 63 < s.b.length := by rw [hs.bl]; omega
  have hset : (c.take 63 ++ s.b.drop 63).set 63 c[63] = c := by
    rw [List.set_append_right _ _ (by rw [List.length_take]; omega), List.length_take, Nat.min_eq_left (by omega), Nat.sub_self, List.drop_eq_getElem_cons hb]
    have hd : s.b.drop (63 + 1) = [] := List.drop_of_length_le (by rw [hs.bl]; omega)
    rw [hd]
    simp only [List.set_cons_zero]
    exact e.symm
  have : feed s c = addB (feed s (c.take 63)) c[63] := by
    conv => lhs; rw [e, feed_append]
    rfl
  rw [this, h1]
  unfold addB
  have hm : (s.n + 63) % 64 = 63 := by omega
  have hm2 : (s.n + 63 + 1) % 64 = 0 := by omega
  simp only [hm, hset]
  rw [if_pos hm2]
/-- the words behind k blocks -/
def hAt (m : List Int) : Nat → List Int
  | 0 => HT
  | k + 1 => mixI (hAt m k) ((m.drop (64 * k)).take 64)
theorem hAt_len (m : List Int) : ∀ k, (hAt m k).length = 8
  | 0 => rfl
  | k + 1 => (mixI_len _ _).trans (hAt_len m k)
theorem hAt_W (m : List Int) : ∀ k, allW (hAt m k)
  | 0 => HT_W
  | k + 1 => mixI_W _ _ (hAt_W m k)
theorem feed_hAt (m : List Int) : ∀ k, 64 * k ≤ m.length → (feed DSN (m.take (64 * k))).h = hAt m k ∧ (feed DSN (m.take (64 * k))).n = 64 * k
  | 0, _ => ⟨by simp [feed, hAt, DSN], by simp [feed, DSN]⟩
  | k + 1, h => by
    obtain ⟨i1, i2⟩ := feed_hAt m k (by omega)
    have hc : ((m.drop (64 * k)).take 64).length = 64 := by rw [List.length_take, List.length_drop]; omega
    have e : m.take (64 * (k + 1)) = m.take (64 * k) ++ (m.drop (64 * k)).take 64 := by
      rw [show 64 * (k + 1) = 64 * k + 64 by omega, List.take_add]
    rw [e, feed_append, feed_block _ (feed_ok DSN_ok _) (by rw [i2]; omega) _ hc]
    exact ⟨by rw [i1]; rfl, by show _ + 64 = _; rw [i2]; omega⟩
theorem lenBytes_bt (m : Int) : lenBytes m 8 = btI m 8 := by
  simp only [lenBytes, btI, lenB, List.range, List.range.loop, List.map]
  simp
def padded (xs : List Int) : List Int := xs ++ [128] ++ zeros (padN (xs.length + 1)) ++ btI (8 * (xs.length : Int)) 8
theorem padded_len (xs : List Int) : (padded xs).length = xs.length + 1 + padN (xs.length + 1) + 8 := by simp [padded, zeros_len, btI_len]; omega
theorem padded_mod (xs : List Int) : (padded xs).length % 64 = 0 := by
  rw [padded_len]; have := pad_eq (xs.length + 1); omega
theorem toB_map (hs : List Int) : ∀ k, k ≤ 32 → toB hs k = (List.range k).map (tb hs) ++ zeros (32 - k)
  | 0, _ => rfl
  | k + 1, h => by
    rw [toB, toB_map hs k (by omega), List.set_append_right _ _ (by simp), List.range_succ, List.map_append]
    rw [show 32 - k = (32 - (k + 1)) + 1 by omega]
    simp [zeros, List.replicate_succ]
theorem toB_bt (a b c d e f g h : Int) : toB [a, b, c, d, e, f, g, h] 32 = btI a 4 ++ btI b 4 ++ btI c 4 ++ btI d 4 ++ btI e 4 ++ btI f 4 ++ btI g 4 ++ btI h 4 := by
  rw [toB_map _ 32 (by omega)]
  simp only [btI, tb, List.range, List.range.loop, List.map, zeros]
  simp
theorem shaI_hAt (xs : List Int) : shaI xs = toB (hAt (padded xs) ((padded xs).length / 64)) 32 := by
  have e : finD (feed DSN xs) = feed DSN (padded xs) := by
    unfold finD padded
    rw [feed_append, feed_append, feed_append, feed_n, show DSN.n = 0 from rfl, Nat.zero_add, lenBytes_bt]
    rfl
  have hm := padded_mod xs
  have h := (feed_hAt (padded xs) ((padded xs).length / 64) (by omega)).1
  rw [List.take_of_length_le (by omega)] at h
  unfold shaI sumD
  rw [e, h]
end Go.Proofs.YtbifmhbkmnofiaaGreat
namespace Go.Proofs.YtbifmhbkmnofiaaGreat
open Go.RowKit
set_option linter.unusedVariables false
set_option linter.unusedSimpArgs false
theorem block_list (hs : List Int) (vh : Value) (s : ByteArray) (w : World) (hl : hs.length = 8) (hw : allW hs) (h64 : s.size = 64) (hv : SlV w vh (hs.map (Value.int .i64))) :
    Calls Tryz.prog 57 #[vh, .string s] w fun e w' => ∃ v, e = .returned v ∧ OwnI w' w.heap.size v (mixI hs (bts s)) ∧ Below w.heap.size w w' := by
  match hs, hl with
  | [a, b, c, d, e, f, g, h], _ => exact block_any a b c d e f g h vh s w hw h64 hv
theorem OwnI.slv {w : World} {N : Nat} {v : Value} {xs : List Int} (h : OwnI w N v xs) (hp : 0 < xs.length) : SlV w v (xs.map (Value.int .i64)) := by
  obtain ⟨g, cap, rfl, _, _, hc⟩ := h.form hp
  refine ⟨some ⟨g, 0, none⟩, cap, by simp, fun _ => ⟨g, 0, rfl, fun j u hu => ?_⟩⟩
  have hj : j < xs.length := by simpa using (List.getElem?_eq_some_iff.1 hu).1
  rw [Nat.zero_add, hc j hj, ← hu]
  simp [List.getElem?_eq_getElem hj]
theorem toS_append (xs ys : List Int) : toS xs ++ toS ys = toS (xs ++ ys) := by
  apply ByteArray.ext
  simp [toS, ByteArray.data_append]
theorem toS_snoc (s : ByteArray) (ys : List Int) : s ++ toS ys = toS (bts s ++ ys) := by
  conv => lhs; rw [← toS_bts s]
  exact toS_append _ _
theorem allB_append {a b : List Int} (ha : allB a) (hb : allB b) : allB (a ++ b) := fun x hx => by
  rcases List.mem_append.1 hx with h | h
  · exact ha x h
  · exact hb x h
theorem zeros_B (k : Nat) : allB (zeros k) := fun x hx => by
  have : x = 0 := List.eq_of_mem_replicate hx
  subst this; decide
theorem padded_B (s : ByteArray) : allB (padded (bts s)) :=
  allB_append (allB_append (allB_append (bts_B s) (fun x hx => by simp at hx; subst hx; decide)) (zeros_B _)) (btI_B _ _)
theorem bts_sub (m : List Int) (hB : allB m) (a : Nat) (h : a + 64 ≤ m.length) : bts ((toS m).extract a (a + 64)) = (m.drop a).take 64 := by
  rw [bts_mid _ _ _ (by rw [toS_size]; exact h), bts_toS m hB]
def strLen : Value → Nat
  | .string s => s.size
  | _ => 0
theorem hAt8 (m : List Int) (k : Nat) : ∃ a b c d e f g h, hAt m k = [a, b, c, d, e, f, g, h] := by
  have hl := hAt_len m k
  match hAt m k, hl with
  | [a, b, c, d, e, f, g, h], _ => exact ⟨a, b, c, d, e, f, g, h, rfl⟩
/-- the string of the first words -/
def outI (hs : List Int) : Nat → List Int
  | 0 => []
  | k + 1 => outI hs k ++ btI (hs[k]?.getD 0) 4
theorem outI_len (hs : List Int) : ∀ k, (outI hs k).length = 4 * k
  | 0 => rfl
  | k + 1 => by rw [outI, List.length_append, outI_len hs k, btI_len]; omega
theorem outI_toB (hs : List Int) (hl : hs.length = 8) : outI hs 8 = toB hs 32 := by
  match hs, hl with
  | [a, b, c, d, e, f, g, h], _ => rw [toB_bt]; rfl
set_option maxRecDepth 20000 in
set_option maxHeartbeats 1000000 in
theorem hash_any (s : ByteArray) (w : World) (hs : s.size ≤ 1125899906842624) :
    Calls Tryz.prog 24 #[.string s] w fun e w' => e = .returned (.string (toS (shaI (bts s)))) ∧ Below w.heap.size w w' := by
  have Hsha := hid (shaI_hAt (bts s))
  have Hpb := hid (padded_B s)
  have hpl := padded_len (bts s)
  have hpm := padded_mod (bts s)
  rw [bts_len] at hpl
  have hpn := pad_le (s.size + 1)
  have Hpd : Hd (padded (bts s) = bts s ++ [128] ++ zeros (padN (s.size + 1)) ++ btI (8 * (s.size : Int)) 8) := hid (by unfold padded; rw [bts_len])
  have y1 : Byt (w.alloc (.cells (ints .u8 [128]) 5)) (.slice (some ⟨w.heap.size, 0, none⟩) 1 1) [128] := byt_block (al_new w (.cells (ints .u8 [128]) 5)) 1
  have Y1 := hid y1
  clear y1
  have ht1 : (toS [128]).size ≤ 1 := by rw [toS_size]; simp
  go_enter Tryz.func24, Tryz.ntmps24
  go_wp2_with (refine wpList_str rfl (.tmp 12) rfl _ [128] rfl Y1.out ?_)
  rw [toS_snoc s [128]]
  have hB1 : Below w.heap.size w (w.alloc (.cells #[Value.int .u8 128] 5)) := (Below.refl _ _).alloc (Nat.le_refl _) _
  clear Y1 ht1
  generalize (w.alloc (.cells #[Value.int .u8 128] 5)) = w1 at *
  have hxl : (bts s ++ [128]).length = s.size + 1 := by rw [List.length_append, bts_len]; rfl
  have Hpd2 : Hd (padded (bts s) = bts s ++ [128] ++ zeros (padN (s.size + 1)) ++ btI (8 * (s.size : Int)) 8) := Hpd
  clear Hpd
  generalize bts s ++ [128] = X at *
  go_loopw [0] (fun v wr => ∃ k : Nat, k ≤ padN (s.size + 1) ∧ v = .string (toS (X ++ zeros k)) ∧ Below w.heap.size w wr) (fun v _ => s.size + 100 - strLen v)
  case atStart => exact ⟨0, by omega, by simp [zeros], hB1⟩
  case round =>
    clear hB1
    obtain ⟨k, hk, rfl, hB⟩ := hrel
    have hsz : (toS (X ++ zeros k)).size = s.size + 1 + k := by rw [toS_size, List.length_append, zeros_len]; omega
    by_cases hlt : k < padN (s.size + 1)
    · have hm := pad_lt _ _ hlt
      have ht : (((s.size : Int) + 1 + k) % 64 != 56) = true := by rw [bne_iff_ne]; omega
      have hz1 : (toS (zeros 1)).size ≤ 1 := by rw [toS_size, zeros_len]; omega
      have hsn : Hd (toS (X ++ zeros k) ++ toS (zeros 1) = toS (X ++ zeros (k + 1))) := hid (by rw [toS_append, List.append_assoc, zeros_succ k]; rfl)
      go_wp2_with (go_at_call 54; refine (zeros_int 1 _ (by omega) (by omega)).mono ?_; rintro e w' ⟨rfl, hB2⟩)
      rw [hsn.out]
      refine ⟨⟨k + 1, by omega, rfl, hB.trans (hB2.mono hB.size)⟩, ?_⟩
      simp only [strLen]
      rw [hsz, toS_size, List.length_append, zeros_len]
      omega
    · obtain rfl : k = padN (s.size + 1) := by omega
      have hm := pad_eq (s.size + 1)
      have ht : (((s.size : Int) + 1 + (padN (s.size + 1) : Int)) % 64 != 56) = false := by rw [bne_eq_false_iff_eq]; omega
      clear hlt hk
      have hbl := btI_len (8 * (s.size : Int)) 8
      have hbs : (toS (btI (8 * (s.size : Int)) 8)).size ≤ 8 := by rw [toS_size, hbl]; omega
      go_wp2_with fail
      refine (bytes_int (8 * (s.size : Int)) 8 _ (by omega) (by omega) (by omega) (by omega)).mono ?_
      rintro e w2 ⟨rfl, hB2⟩
      rw [show Int.toNat 8 = 8 from rfl]
      have hC2 := hB.trans (hB2.mono hB.size)
      clear hB hB2
      go_wp2_with fail
      rw [toS_append, ← Hpd2.out]
      have hps : (toS (padded (bts s))).size = (padded (bts s)).length := toS_size _
      generalize padded (bts s) = P at *
      clear Hpd2 hbl hbs ht hsz hxl
      refine (rfirst_any _).mono ?_
      rintro e w3 ⟨rfl, rfl⟩
      have hz2 := hC2.size
      have fr := OwnI.fresh w2 w.heap.size HT hz2 (by rw [HT_len]; omega)
      rw [HT_len] at fr
      have hC3 : Below w.heap.size w (w2.alloc (.cells (ints .i64 HT) 3)) := hC2.alloc hz2 _
      have Fr : Hd (OwnI (w2.alloc (.cells (ints .i64 HT) 3)) w.heap.size (.slice (some ⟨w2.heap.size, 0, none⟩) 8 8) (hAt P 0)) := hid fr
      clear fr hC2
      generalize (w2.alloc (.cells (ints .i64 HT) 3)) = w3 at *
      have hq : P.length ≤ 1125899906843000 := by omega
      go_wp2
      go_loopw [4, 5] (fun v i wr => ∃ k : Nat, 64 * k ≤ P.length ∧ i = .int .i64 (64 * k) ∧ OwnI wr w.heap.size v (hAt P k) ∧ Below w.heap.size w wr) (fun _ i _ => P.length - (intOf i).toNat)
      case atStart => exact ⟨0, by omega, rfl, Fr.out, hC3⟩
      case round =>
        clear Fr hC3
        obtain ⟨k, hk, rfl, hown, hB⟩ := hrel
        have hal := hAt_len P k
        have haw := hid (hAt_W P k)
        have hsl := hid (hown.slv (by omega))
        by_cases hlt : 64 * k < P.length
        · have h64 : 64 * k + 64 ≤ P.length := by omega
          have hsub := hid (bts_sub P Hpb.out (64 * k) h64)
          have hst : Hd (hAt P (k + 1) = mixI (hAt P k) ((P.drop (64 * k)).take 64)) := hid rfl
          generalize hAt P k = hk8 at *
          go_wp2_with fail
          refine (block_list hk8 u4 _ _ hal haw.out (by rw [ByteArray.size_extract, hps]; omega) hsl.out).mono ?_
          rintro e w4 ⟨v4, rfl, hown4, hB4⟩
          rw [hsub.out] at hown4
          go_wp2
          exact ⟨⟨k + 1, by omega, by go_num, by rw [hst.out]; exact hown4.base hB.size, hB.trans (hB4.mono hB.size)⟩, by simp [intOf]; omega⟩
        · have Hkk : Hd (k = P.length / 64) := hid (by omega)
          obtain ⟨vb, capv, rfl, _, _, hcell⟩ := hown.form (by omega)
          rw [hal] at hcell ⊢
          have Hcell := hid hcell
          have hOut := hid (outI_toB (hAt P k) hal)
          clear hcell hown hsl hal
          have hle : (P.length : Int) ≤ 64 * k := by omega
          generalize hhf : hAt P k = hf at *
          have HF := hid hhf
          clear hhf
          have hps' := hid hps
          clear hpl hpm hm hq hps
          have hps2 : (toS P).size ≤ P.length := by rw [hps'.out]; omega
          have hps3 : ((toS P).size : Int) ≤ 64 * k := by rw [hps'.out]; omega
          clear hk hlt
          obtain ⟨wz, hwz⟩ : ∃ wz, wz = wr := ⟨_, rfl⟩
          subst hwz
          go_wp2
          go_loopw [6, 7] (fun o i wx => ∃ j : Nat, j ≤ 8 ∧ i = .int .i64 j ∧ o = .string (toS (outI hf j)) ∧ Below wz.heap.size wz wx) (fun _ i _ => 8 - (intOf i).toNat)
          case atStart => exact ⟨0, by omega, rfl, rfl, Below.refl _ _⟩
          case round =>
            obtain ⟨j, hj, rfl, rfl, hBx⟩ := hrel
            by_cases hlt : j < 8
            · have hx := Hcell.out j hlt
              have hx2 : wr.cell? ⟨vb, j, none⟩ = _ := (hBx.cell (World.block_lt_of_cell? wz _ hx)).trans hx
              obtain ⟨b0, b1⟩ := allW_get _ haw.out j
              have hst : Hd (outI hf (j + 1) = outI hf j ++ btI (hf[j]?.getD 0) 4) := hid rfl
              have hol := outI_len hf j
              have hos : (toS (outI hf j)).size ≤ 32 := by rw [toS_size, hol]; omega
              clear hx
              generalize hf[j]?.getD 0 = xv at *
              have hbs : (toS (btI xv 4)).size ≤ 4 := by rw [toS_size, btI_len]; omega
              generalize outI hf j = oj at *
              go_wp2_with (go_at_call 55; refine (bytes_int xv 4 _ b0 (by omega) (by omega) (by omega)).mono ?_; rintro e w' ⟨rfl, hB2⟩; rw [show Int.toNat 4 = 4 from rfl])
              rw [toS_append]
              exact ⟨⟨j + 1, by omega, by go_num, by rw [hst.out], hBx.trans (hB2.mono hBx.size)⟩, by simp [intOf]; omega⟩
            · obtain rfl : j = 8 := by omega
              go_wp2
              go_ret
              exact ⟨by rw [Hsha.out, ← Hkk.out, HF.out, ← hOut.out]; rfl, hB.trans (hBx.mono hB.size)⟩
end Go.Proofs.YtbifmhbkmnofiaaGreat
namespace Go.Proofs.YtbifmhbkmnofiaaGreat
open Go.RowKit
set_option linter.unusedVariables false
set_option linter.unusedSimpArgs false
/-- one byte, made on the spot, and slices behind it -/
theorem concat_one (m : Int) (ps : List (Value × List Int)) (w : World) (n cap : Nat) (cs : Array Value) (xs : List Int) (hn : ps.length + 1 = n) (hcs : cs = (Value.slice (some ⟨w.heap.size, 0, none⟩) 1 1 :: ps.map (·.1)).toArray) (hs : ∀ p ∈ ps, Src w p.1 p.2) (hx : m :: sizes ps ps.length = xs) (hl : n ≤ 1000) (hxl : xs.length ≤ 1000000) :
    Calls Tryz.prog 113 #[.slice (some ⟨w.heap.size + 1, 0, none⟩) n cap] ((w.alloc (.cells #[Value.int .u8 m] 5)).alloc (.cells cs 41)) fun e w' => ∃ r, e = .returned r ∧ Src w' r xs ∧ Below w.heap.size w w' := by
  have hB : Below w.heap.size w (w.alloc (.cells #[Value.int .u8 m] 5)) := (Below.refl _ _).alloc (Nat.le_refl _) _
  have hz := al_size w (.cells #[Value.int .u8 m] 5)
  have h1 := src_one w m 1
  generalize (w.alloc (.cells #[Value.int .u8 m] 5)) = w1 at *
  rw [← hz]
  refine (concat_new ((Value.slice (some ⟨w.heap.size, 0, none⟩) 1 1, [m]) :: ps) w1 n cap cs xs (by simpa using hn) hcs ?_ ?_ hl hxl).mono ?_
  · intro p hp
    rcases List.mem_cons.1 hp with rfl | hp
    · exact h1
    · exact (hs p hp).mono hB
  · rw [← hx]
    unfold sizes
    simp
  · rintro e w' ⟨r, rfl, hr, hB2⟩
    exact ⟨r, rfl, hr, hB.trans (hB2.mono (by omega))⟩
theorem stretchI_B (xs : List Int) : allB (stretchI xs) := by
  unfold stretchI
  intro x hx
  unfold part at hx
  rw [List.mem_append] at hx
  rcases hx with hx | hx
  · have hx := List.mem_of_mem_take hx
    simp only [rows32, List.nil_append, List.mem_append] at hx
    rcases hx with hx | hx
    · unfold strF at hx; exact shaI_B _ x hx
    · unfold strF at hx; exact shaI_B _ x hx
  · simp [zeros] at hx
def beginS (xs : List Int) : SG := ⟨stretchI xs, stretchI (0 :: stretchI xs)⟩
theorem beginS_eq (xs : List Int) : beginS xs = ⟨stretchI xs, stretchI (0 :: stretchI xs)⟩ := by simp only [beginS]
theorem beginS_ok (xs : List Int) : (beginS xs).ok := by
  rw [beginS_eq]
  exact ⟨stretchI_len xs, stretchI_len (0 :: stretchI xs), stretchI_B xs, stretchI_B (0 :: stretchI xs)⟩
set_option maxRecDepth 20000 in
set_option maxHeartbeats 1000000 in
theorem begin_any (g : SG) (v : Value) (xs : List Int) (B : Nat) (w : World) (hg : g.ok) (hS : SgAt w B g) (hv : Src w v xs) (hx : xs.length ≤ 1000) :
    Calls Tryz.prog 122 #[.pointer (some ⟨B, 0, none⟩), v] w fun e w' => e = .returned (.tuple #[]) ∧ SgAt w' B (beginS xs) ∧ Ex B w w' := by
  have hlt := hS.lt
  have HS := hid hS
  have He := hid (beginS_eq xs)
  clear hS
  go_enter Tryz.func122, Tryz.ntmps122
  go_wp2_with fail
  refine (stretch_any v xs w hv hx).mono ?_
  rintro e w1 ⟨rfl, hB1⟩
  have hl1 := stretchI_len xs
  have hS1 := HS.out.other (hB1.block B hlt)
  generalize hss : stretchI xs = s1 at *
  have Hth := hid (show w1.there B 0 (ints .u8 s1).size from by rw [ints_size, hl1]; exact hS1.v.there hg.vl)
  have hN2 := hS1.v.setCells s1 (by rw [hl1, hg.vl])
  have hE2 := (Ex.of_below (B := B) hB1).setCells 0 (ints .u8 s1).toList
  have Hi : Hd ((Tryz.prog.info? 159).map (·.size) = some (ints .u8 s1).size) := hid (by rw [ints_size, hl1]; exact Tryz.info159)
  have hS2 := SgAt.of_v hN2
  rw [List.length_nil] at hS2
  clear hN2 hS1 hB1 HS
  go_wp2_with (refine wpList_store_mid rfl 159 _ _ rfl B 0 (ints .u8 s1) rfl rfl Hth.out Hi.out (ints_one _ _) ?_)
  generalize (w1.setCells B 0 (ints .u8 s1).toList) = w2 at *
  have hS2' := hid hS2
  have hgo : (⟨s1, g.c⟩ : SG).ok := ⟨hl1, hg.cl, by rw [← hss]; exact stretchI_B xs, hg.cb⟩
  have hsr := hS2.vSrc hgo
  refine (concat_one 0 [(.slice (some ⟨B, 0, none⟩) 55 55, s1)] w2 2 2 _ (0 :: s1) rfl rfl ?_ (by simp [sizes]) (by omega) (by simp [hl1])).mono ?_
  · intro p hp
    simp only [List.mem_cons, List.not_mem_nil, or_false] at hp
    subst hp
    exact hsr
  rintro e w3 ⟨r, rfl, hr3, hB3⟩
  have hlt2 := hS2.lt
  have hS3 := hS2.other (hB3.block B hlt2)
  clear hS2 hS2' hsr Hth Hi
  go_wp2_with fail
  refine (stretch_any r (0 :: s1) w3 hr3 (by simp [hl1])).mono ?_
  rintro e w4 ⟨rfl, hB4⟩
  have hlt3 := hS3.lt
  have hS4 := hS3.other (hB4.block B hlt3)
  have hE4 := (hE2.trans (Ex.of_below hB3)).trans (Ex.of_below hB4)
  have hl4 := stretchI_len (0 :: s1)
  generalize stretchI (0 :: s1) = s4 at *
  have hN4 := hS4.c
  have Hth := hid (show w4.there B 55 (ints .u8 s4).size from by
    have := hN4.there hg.cl
    rw [ints_size, hl4]
    simpa [hl1] using this)
  have Hi : Hd ((Tryz.prog.info? 159).map (·.size) = some (ints .u8 s4).size) := hid (by rw [ints_size, hl4]; exact Tryz.info159)
  have hN5 := hN4.setCells s4 (by rw [hl4]; exact hg.cl.symm)
  have hE5 := hE4.setCells 55 (ints .u8 s4).toList
  have hS5 := SgAt.of_c hN5
  rw [show (List.map (Value.int .u8) (⟨s1, g.c⟩ : SG).v).length = 55 from by simp [hl1]] at hS5
  clear hN4 hN5 hS4 hS3 hB3 hB4 hE2 hE4 hr3
  go_wp2_with (refine wpList_store_mid rfl 159 _ _ rfl B 55 (ints .u8 s4) rfl rfl Hth.out Hi.out (ints_one _ _) ?_)
  go_end0
  rw [He.out]
  exact ⟨rfl, hS5, hE5⟩
end Go.Proofs.YtbifmhbkmnofiaaGreat
namespace Go.Proofs.YtbifmhbkmnofiaaGreat
open Go.RowKit
set_option linter.unusedVariables false
set_option linter.unusedSimpArgs false
set_option maxHeartbeats 400000 in
theorem sseed_any (g : SG) (v : Value) (xs : List Int) (B : Nat) (w : World) (hg : g.ok) (hS : SgAt w B g) (hv : Src w v xs) (hx : xs.length ≤ 1000) :
    Calls Tryz.prog 117 #[.pointer (some ⟨B, 0, none⟩), v] w fun e w' => e = .returned (.tuple #[]) ∧ SgAt w' B (beginS xs) ∧ Ex B w w' := by
  go_enter Tryz.func117, Tryz.ntmps117
  go_wp2_with fail
  refine (begin_any g v xs B _ hg hS hv hx).mono ?_
  rintro e w1 ⟨rfl, hS1, hE1⟩
  go_wp2
  go_end0
  exact ⟨rfl, hS1, hE1⟩
def reseedS (g : SG) (xs : List Int) : SG := beginS (1 :: (g.v ++ xs))
theorem reseedS_eq (g : SG) (xs : List Int) : reseedS g xs = beginS (1 :: (g.v ++ xs)) := by simp only [reseedS]
theorem reseedS_ok (g : SG) (xs : List Int) : (reseedS g xs).ok := by rw [reseedS_eq]; exact beginS_ok _
set_option maxRecDepth 20000 in
set_option maxHeartbeats 1000000 in
theorem sreseed_any (g : SG) (v : Value) (xs : List Int) (B : Nat) (w : World) (hg : g.ok) (hS : SgAt w B g) (hv : Src w v xs) (hx : xs.length ≤ 800) :
    Calls Tryz.prog 116 #[.pointer (some ⟨B, 0, none⟩), v] w fun e w' => e = .returned (.tuple #[]) ∧ SgAt w' B (reseedS g xs) ∧ Ex B w w' := by
  obtain ⟨ao, cp, hve⟩ := hv.form
  rw [hve] at hv
  rw [hve]
  clear hve
  have He := hid (reseedS_eq g xs)
  have HV := hid hv
  have HS := hid hS
  have hsr := hid (hS.vSrc hg)
  have hlt := hS.lt
  clear hS hv
  go_enter Tryz.func116, Tryz.ntmps116
  go_wp2_with fail
  refine (concat_one 1 [(.slice (some ⟨B, 0, none⟩) 55 55, g.v), (.slice ao xs.length cp, xs)] w 3 3 _ (1 :: (g.v ++ xs)) rfl rfl ?_ (by simp [sizes]) (by omega) (by simp [hg.vl]; omega)).mono ?_
  · intro p hp
    simp only [List.mem_cons, List.not_mem_nil, or_false] at hp
    rcases hp with rfl | rfl
    · exact hsr.out
    · exact HV.out
  rintro e w3 ⟨r, rfl, hr3, hB3⟩
  have hS3 := HS.out.other (hB3.block B hlt)
  clear HS HV hsr
  go_wp2_with fail
  refine (begin_any g r _ B _ hg hS3 hr3 (by simp [hg.vl]; omega)).mono ?_
  rintro e w4 ⟨rfl, hS4, hE4⟩
  go_wp2
  go_end0
  rw [He.out]
  exact ⟨rfl, hS4, (Ex.of_below hB3).trans hE4⟩
/-- the sum of a byte, V and some bytes -/
def markI (m : Int) (V xs : List Int) : List Int := shaI (m :: (V ++ xs))
theorem markI_len (m : Int) (V xs : List Int) : (markI m V xs).length = 32 := shaI_len _
theorem markI_B (m : Int) (V xs : List Int) : allB (markI m V xs) := shaI_B _
set_option maxRecDepth 20000 in
set_option maxHeartbeats 1000000 in
theorem marked_any (g : SG) (m : Int) (v : Value) (xs : List Int) (B : Nat) (w : World) (hg : g.ok) (hS : SgAt w B g) (hv : Src w v xs) (hx : xs.length ≤ 1000) :
    Calls Tryz.prog 119 #[.pointer (some ⟨B, 0, none⟩), .int .u8 m, v] w fun e w' => ∃ sb, e = .returned (.slice (some ⟨sb, 0, none⟩) 32 32) ∧ w.heap.size ≤ sb ∧ w'.heap[sb]? = some (.cells (ints .u8 (markI m g.v xs)) 96 (0, 0)) ∧ Below w.heap.size w w' := by
  obtain ⟨ao, cp, hve⟩ := hv.form
  rw [hve] at hv
  rw [hve]
  clear hve
  have He := hid (show markI m g.v xs = shaI (m :: (g.v ++ xs)) from rfl)
  have HV := hid hv
  have hsr := hid (hS.vSrc hg)
  clear hS hv
  go_enter Tryz.func119, Tryz.ntmps119
  go_wp2_with fail
  refine (concat_one m [(.slice (some ⟨B, 0, none⟩) 55 55, g.v), (.slice ao xs.length cp, xs)] w 3 3 _ (m :: (g.v ++ xs)) rfl rfl ?_ (by simp [sizes]) (by omega) (by simp [hg.vl]; omega)).mono ?_
  · intro p hp
    simp only [List.mem_cons, List.not_mem_nil, or_false] at hp
    rcases hp with rfl | rfl
    · exact hsr.out
    · exact HV.out
  rintro e w3 ⟨r, rfl, hr3, hB3⟩
  clear HV hsr
  go_wp2_with fail
  refine (DSum_any r _ _ hr3.byt (by simp [hg.vl]; omega)).mono ?_
  rintro e w4 ⟨rfl, hB4⟩
  rw [← He.out]
  have hC4 := hB3.trans (hB4.mono hB3.size)
  have hz4 := hC4.size
  clear hB3 hB4 hr3
  have hsl := markI_len m g.v xs
  generalize hsk : markI m g.v xs = sk at *
  have Hsk := hid hsk
  clear hsk
  have hi5 : ((w4.alloc (.cells (ints .u8 Z32) 96)).setRow w4.heap.size (ints .u8 sk)).heap[w4.heap.size]? = some (.cells (ints .u8 sk) 96 (0, 0)) := setRow_heap _ _ _ _ _ _ (al_new _ _)
  have hB5 : Below w.heap.size w ((w4.alloc (.cells (ints .u8 Z32) 96)).setRow w4.heap.size (ints .u8 sk)) := below_setRow (hC4.alloc (by omega) _) _ (by omega) _
  have Hi5 := hid hi5
  clear hi5
  go_wp2_with (first
    | refine wpList_alloc_eq rfl 96 rfl (ints .u8 Z32) Tryz.alloc96 ?_
    | refine wpList_store_row rfl 96 _ _ rfl w4.heap.size (ints .u8 sk) rfl rfl 96 (ints .u8 Z32) (al_new _ _) (by rw [ints_size, hsl]; exact Tryz.info96) (by rw [ints_size, ints_size, hsl]; rfl) (ints_one _ _) ?_)
  go_ret
  exact ⟨w4.heap.size, rfl, hz4, by rw [Hsk.out]; exact Hi5.out, hB5⟩
end Go.Proofs.YtbifmhbkmnofiaaGreat
