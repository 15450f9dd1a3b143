import Derived.Test.YthhhkkjdjjhepaaRh
namespace Go.Proofs.Ythhhkkjdjjhepaa
open Go.RowKit
set_option linter.unusedVariables false
set_option linter.unusedSimpArgs false
/-- bytes at the head of a block, which may be written -/
def BR (w : World) (b : Nat) (xs : List Int) : Prop := ∀ j, j < xs.length → w.cell? ⟨b, j, none⟩ = some (.int .u8 (xs[j]?.getD 0)) ∧ w.frozen? ⟨b, j, none⟩ = false
theorem BR.set {w : World} {b : Nat} {xs : List Int} (h : BR w b xs) (j : Nat) (v : Int) : BR (w.setCell ⟨b, j, none⟩ (.int .u8 v)) b (xs.set j v) := fun i hi => by
  rw [List.length_set] at hi
  obtain ⟨h1, h2⟩ := h i hi
  constructor
  · by_cases e : i = j
    · subst e
      rw [World.cell?_setCell_same _ _ _ h1, getD_set_same _ _ _ hi]
    · rw [World.cell?_setCell_other _ _ _ _ (fun e' => e (congrArg Addr.off e').symm), h1, getD_set _ _ _ _ e]
  · rw [World.frozen?_setCell]; exact h2
theorem BR.byt {w : World} {b : Nat} {xs : List Int} (h : BR w b xs) (cap : Nat) : Byt w (.slice (some ⟨b, 0, none⟩) xs.length cap) xs :=
  Or.inr ⟨b, 0, cap, rfl, fun j hj => by rw [Nat.zero_add]; exact (h j hj).1⟩
theorem bytesW_br (w : World) (e : TypeId) (s : ByteArray) : BR (Lib.bytesWorld w e s) w.heap.size (bts s) := fun j hj => by
  rw [bts_len] at hj
  refine ⟨?_, ?_⟩
  · rw [Lib.bytesWorld_cell w e s j hj]; simp [bts, hj, List.getD]
  · have hb := Lib.bytesWorld_at_new w e s
    have hsz : s.size ≤ (Lib.bytesCells w e s).size := by simp [Lib.bytesCells]
    simp [World.frozen?, hb]; omega
theorem wpList_bytes2 {ops : Array Oper} {rest : List Oper} {o : Oper} {a : Act} {w : World} {Q : Exit → Act → World → Prop} (hgd : o.guard = none) (x : Operand) (ho : o.op = .convert 9 38 x) (s : ByteArray) (hx : a.eval x = .string s)
    (h : ∀ w' cap, Below w.heap.size w w' → w'.heap.size = w.heap.size + 1 → Hd (BR w' w.heap.size (bts s)) → s.size ≤ cap → wpList Try.prog ops Q rest (a.put o.dst (.slice (some ⟨w.heap.size, 0, none⟩) s.size cap)) w') : wpList Try.prog ops Q (o :: rest) a w :=
  wpList_plain hgd fun _ hK => by
    unfold Oper.wp execOp
    simp only [ho, hx, Sem.run_bind, Lib.run_convert_string_bytes w 9 38 5 s Try.underlying9 Try.underlying38 Try.underlying5, Result.andThen_ok, Sem.run_pure]
    exact hK _ _ (h _ _ (bytesW_below w 5 s) (Lib.bytesWorld_size w 5 s) ⟨bytesW_br w 5 s⟩ (grownCap_ge _ _ _ _))
/-- each byte with a mask; the first k of them -/
def mk8 (xs : List Int) (m : Int) (k : Nat) : List Int := (xs.take k).map (fun x => bits .xor .u8 x m) ++ xs.drop k
theorem mk8_len (xs : List Int) (m : Int) (k : Nat) : (mk8 xs m k).length = xs.length := by simp [mk8]; omega
theorem mk8_step (xs : List Int) (m : Int) (k : Nat) (h : k < xs.length) : mk8 xs m (k + 1) = (mk8 xs m k).set k (bits .xor .u8 (xs[k]?.getD 0) m) := by
  unfold mk8
  rw [List.set_append_right _ _ (by simp; omega), List.length_map, List.length_take, Nat.min_eq_left (by omega), Nat.sub_self]
  conv => rhs; rw [List.drop_eq_getElem_cons h]
  rw [List.set_cons_zero, List.take_succ_eq_append_getElem h, List.map_append, List.getElem?_eq_getElem h]
  simp
theorem mk8_get (xs : List Int) (m : Int) (k : Nat) (h : k < xs.length) : (mk8 xs m k)[k]?.getD 0 = xs[k]?.getD 0 := by
  unfold mk8
  rw [List.getElem?_append_right (by simp; omega)]
  simp [Nat.min_eq_left (Nat.le_of_lt h)]
theorem maskI_map (ks : List Int) (m : Int) : ∀ k, k ≤ ks.length → maskI ks m k = (ks.take k).map (fun x => bits .xor .u8 x m)
  | 0, _ => rfl
  | k + 1, h => by
    have hk : k < ks.length := by omega
    rw [maskI, maskI_map ks m k (by omega), List.take_succ_eq_append_getElem hk, List.map_append, List.getElem?_eq_getElem hk]; rfl
set_option maxRecDepth 20000 in
set_option maxHeartbeats 400000 in
theorem with_any (s : ByteArray) (m : Int) (w : World) (hs : s.size ≤ 9223372036854775807) :
    Calls Try.prog 95 #[.string s, .int .u8 m] w fun e w' => e = .returned (.string (toS ((bts s).map (fun x => bits .xor .u8 x m)))) ∧ Below w.heap.size w w' := by
  go_enter Try.func95, Try.ntmps95
  go_wp2_with (refine wpList_bytes2 rfl _ rfl s rfl ?_; intro w2 cap hB2 hz2 hb2 hcap)
  have hl := bts_len s
  go_loopw [6] (fun i wr => ∃ k : Nat, k ≤ s.size ∧ i = .int .i64 k ∧ BR wr w.heap.size (mk8 (bts s) m k) ∧ Below w.heap.size w wr) (fun i _ => s.size - (intOf i).toNat)
  case atStart => exact ⟨0, by omega, rfl, hb2.out, hB2⟩
  case round =>
    clear hb2 hB2 hz2
    obtain ⟨k, hk, rfl, hR, hB⟩ := hrel
    by_cases hlt : k < s.size
    · obtain ⟨c0, f0⟩ := hR k (by rw [mk8_len]; omega)
      rw [mk8_get _ _ _ (by omega)] at c0
      have hst := hid (mk8_step (bts s) m k (by omega))
      have HR := hid hR
      clear hR
      generalize mk8 (bts s) m k = l at *
      generalize (bts s)[k]?.getD 0 = x at *
      go_wp2
      exact ⟨⟨k + 1, by omega, by go_num, by rw [hst.out]; exact HR.out.set _ _, hB.setCell (by simp) _⟩, by simp [intOf]; omega⟩
    · obtain rfl : k = s.size := by omega
      have e : mk8 (bts s) m s.size = (bts s).map (fun x => bits .xor .u8 x m) := by
        unfold mk8; rw [List.take_of_length_le (by omega), List.drop_of_length_le (by omega)]; simp
      rw [e] at hR
      have y1 := hR.byt cap
      rw [List.length_map, bts_len] at y1
      have Y1 := hid y1
      clear y1 hR e hlt
      generalize hmm : (bts s).map (fun x => bits .xor .u8 x m) = mm at *
      have Hmm := hid hmm
      clear hmm
      go_wp2_with (refine wpList_str rfl _ rfl _ mm rfl Y1.out ?_)
      go_ret
      exact ⟨by rw [Hmm.out]; rfl, hB⟩
theorem key_bytes (key : ByteArray) (h : ¬ 64 < key.size) : key ++ toS (zeros (64 - key.size)) = toS (keyI (bts key)) := by
  rw [toS_snoc]; unfold keyI; rw [if_neg (by rw [bts_len]; exact h), bts_len]
theorem keyI_B (key : ByteArray) : allB (keyI (bts key)) := by
  unfold keyI
  split
  · exact allB_append (shaI_B _) (zeros_B 32)
  · exact allB_append (bts_B key) (zeros_B _)
theorem mask64 (key : ByteArray) (m : Int) : (keyI (bts key)).map (fun x => bits .xor .u8 x m) = maskI (keyI (bts key)) m 64 := by
  rw [maskI_map _ _ 64 (by rw [keyI_len]; omega), List.take_of_length_le (by rw [keyI_len]; omega)]
set_option maxRecDepth 20000 in
set_option maxHeartbeats 400000 in
/-- 'Keyed' once the key is filled up -/
theorem rkeyed_no (key s : ByteArray) (w : World) (hk : ¬ 64 < key.size) (hs : s.size ≤ 1125899906842000) :
    Calls Try.prog 81 #[.string key, .string s] w fun e w' => e = .returned (.string (toS (macI (bts key) (bts s)))) ∧ Below w.heap.size w w' := by
  have hk' : (key.size : Int) ≤ 64 := by omega
  have hmac : Hd (macI (bts key) (bts s) = shaI (maskI (keyI (bts key)) 92 64 ++ shaI (maskI (keyI (bts key)) 54 64 ++ bts s))) := hid rfl
  have hz : (toS (zeros (64 - key.size))).size ≤ 64 := by rw [toS_size, zeros_len]; omega
  go_enter Try.func81, Try.ntmps81
  go_wp2_with fail
  refine (zeros_int (64 - (key.size : Int)) _ (by omega) (by omega)).mono ?_
  rintro e w1 ⟨rfl, hB1⟩
  rw [show (64 - (key.size : Int)).toNat = 64 - key.size by omega]
  go_wp2_with fail
  rw [key_bytes key hk]
  have hkl : (toS (keyI (bts key))).size = 64 := by rw [toS_size, keyI_len]
  have hbk := hid (bts_toS _ (keyI_B key))
  have h92 := hid (mask64 key 92)
  have h54 := hid (mask64 key 54)
  refine (with_any _ 92 _ (by omega)).mono ?_
  rintro e w2 ⟨rfl, hB2⟩
  rw [hbk.out, h92.out]
  have hC2 := hB1.trans (hB2.mono hB1.size)
  clear hB1 hB2
  go_wp2_with fail
  refine (with_any _ 54 _ (by omega)).mono ?_
  rintro e w3 ⟨rfl, hB3⟩
  rw [hbk.out, h54.out]
  have hC3 := hC2.trans (hB3.mono hC2.size)
  clear hC2 hB3
  have l1 := maskI_len (keyI (bts key)) 54 64
  have l2 := maskI_len (keyI (bts key)) 92 64
  have b1 := hid (maskI_B (keyI (bts key)) 54 64)
  have b2 := hid (maskI_B (keyI (bts key)) 92 64)
  generalize maskI (keyI (bts key)) 54 64 = m1 at *
  generalize maskI (keyI (bts key)) 92 64 = m2 at *
  have t1 : (toS m1).size = 64 := by rw [toS_size, l1]
  have t2 : (toS m2).size = 64 := by rw [toS_size, l2]
  go_wp2_with fail
  refine (hash_any _ _ (by rw [ByteArray.size_append]; omega)).mono ?_
  rintro e w4 ⟨rfl, hB4⟩
  rw [bts_append, bts_toS m1 b1.out]
  have hC4 := hC3.trans (hB4.mono hC3.size)
  clear hC3 hB4
  have s1 := shaI_len (m1 ++ bts s)
  have b3 := hid (shaI_B (m1 ++ bts s))
  generalize shaI (m1 ++ bts s) = ih at *
  have t3 : (toS ih).size = 32 := by rw [toS_size, s1]
  go_wp2_with fail
  refine (hash_any _ _ (by rw [ByteArray.size_append]; omega)).mono ?_
  rintro e w5 ⟨rfl, hB5⟩
  rw [bts_append, bts_toS m2 b2.out, bts_toS ih b3.out, ← hmac.out]
  have hC5 := hC4.trans (hB5.mono hC4.size)
  go_wp2
  go_ret
  exact ⟨rfl, hC5⟩
set_option maxRecDepth 20000 in
set_option maxHeartbeats 400000 in
/-- a long key: its sum stands for it -/
theorem rkeyed_yes (key s : ByteArray) (w : World) (hk : 64 < key.size) (hk2 : key.size ≤ 1125899906842000) (hs : s.size ≤ 1125899906842000) :
    Calls Try.prog 81 #[.string key, .string s] w fun e w' => e = .returned (.string (toS (macI (bts key) (bts s)))) ∧ Below w.heap.size w w' := by
  have hk' : (64 : Int) < key.size := by omega
  have hmac : Hd (macI (bts key) (bts s) = shaI (maskI (keyI (bts key)) 92 64 ++ shaI (maskI (keyI (bts key)) 54 64 ++ bts s))) := hid rfl
  have hz : (toS (zeros 32)).size ≤ 64 := by rw [toS_size, zeros_len]; omega
  have hks : (toS (shaI (bts key))).size = 32 := by rw [toS_size, shaI_len]
  have hkb : Hd (toS (shaI (bts key)) ++ toS (zeros 32) = toS (keyI (bts key))) := hid (by rw [toS_append]; unfold keyI; rw [if_pos (by rw [bts_len]; exact hk)]; rfl)
  go_enter Try.func81, Try.ntmps81
  go_wp2_with fail
  refine (hash_any key _ (by omega)).mono ?_
  rintro e w0 ⟨rfl, hB0⟩
  go_wp2_with fail
  refine (zeros_int 32 _ (by omega) (by omega)).mono ?_
  rintro e w1 ⟨rfl, hB1'⟩
  have hB1 := hB0.trans (hB1'.mono hB0.size)
  clear hB0 hB1'
  rw [show Int.toNat 32 = 32 from rfl]
  go_wp2_with fail
  rw [hkb.out]
  have hkl : (toS (keyI (bts key))).size = 64 := by rw [toS_size, keyI_len]
  have hbk := hid (bts_toS _ (keyI_B key))
  have h92 := hid (mask64 key 92)
  have h54 := hid (mask64 key 54)
  refine (with_any _ 92 _ (by omega)).mono ?_
  rintro e w2 ⟨rfl, hB2⟩
  rw [hbk.out, h92.out]
  have hC2 := hB1.trans (hB2.mono hB1.size)
  clear hB1 hB2
  go_wp2_with fail
  refine (with_any _ 54 _ (by omega)).mono ?_
  rintro e w3 ⟨rfl, hB3⟩
  rw [hbk.out, h54.out]
  have hC3 := hC2.trans (hB3.mono hC2.size)
  clear hC2 hB3
  have l1 := maskI_len (keyI (bts key)) 54 64
  have l2 := maskI_len (keyI (bts key)) 92 64
  have b1 := hid (maskI_B (keyI (bts key)) 54 64)
  have b2 := hid (maskI_B (keyI (bts key)) 92 64)
  generalize maskI (keyI (bts key)) 54 64 = m1 at *
  generalize maskI (keyI (bts key)) 92 64 = m2 at *
  have t1 : (toS m1).size = 64 := by rw [toS_size, l1]
  have t2 : (toS m2).size = 64 := by rw [toS_size, l2]
  go_wp2_with fail
  refine (hash_any _ _ (by rw [ByteArray.size_append]; omega)).mono ?_
  rintro e w4 ⟨rfl, hB4⟩
  rw [bts_append, bts_toS m1 b1.out]
  have hC4 := hC3.trans (hB4.mono hC3.size)
  clear hC3 hB4
  have s1 := shaI_len (m1 ++ bts s)
  have b3 := hid (shaI_B (m1 ++ bts s))
  generalize shaI (m1 ++ bts s) = ih at *
  have t3 : (toS ih).size = 32 := by rw [toS_size, s1]
  go_wp2_with fail
  refine (hash_any _ _ (by rw [ByteArray.size_append]; omega)).mono ?_
  rintro e w5 ⟨rfl, hB5⟩
  rw [bts_append, bts_toS m2 b2.out, bts_toS ih b3.out, ← hmac.out]
  have hC5 := hC4.trans (hB5.mono hC4.size)
  go_wp2
  go_ret
  exact ⟨rfl, hC5⟩
theorem rkeyed_any (key s : ByteArray) (w : World) (hk : key.size ≤ 1125899906842000) (hs : s.size ≤ 1125899906842000) :
    Calls Try.prog 81 #[.string key, .string s] w fun e w' => e = .returned (.string (toS (macI (bts key) (bts s)))) ∧ Below w.heap.size w w' := by
  by_cases h : 64 < key.size
  · exact rkeyed_yes key s w h hk hs
  · exact rkeyed_no key s w h hs
set_option maxHeartbeats 400000 in
theorem rsum_yes (s : ByteArray) (w : World) (hs : s.size ≤ 300) :
    Calls Try.prog 58 #[.string s] w fun e w' => e = .returned (.tuple #[.string (toS (shaI (bts s))), .int .i64 0]) ∧ Below w.heap.size w w' := by
  have hs' : (s.size : Int) ≤ 300 := by omega
  go_enter Try.func58, Try.ntmps58
  go_wp2_with fail
  refine (hash_any s _ (by omega)).mono ?_
  rintro e w1 ⟨rfl, hB1⟩
  go_wp2
  go_ret2
  exact ⟨rfl, hB1⟩
set_option maxHeartbeats 400000 in
theorem rsum_no (s : ByteArray) (w : World) (hs : 300 < s.size) :
    Calls Try.prog 58 #[.string s] w fun e w' => e = .returned (.tuple #[.string ⟨#[]⟩, .int .i64 2]) ∧ w' = w := by
  have hs' : (300 : Int) < s.size := by omega
  go_enter Try.func58, Try.ntmps58
  go_wp2
  go_ret2
  exact ⟨rfl, rfl⟩
set_option maxHeartbeats 400000 in
theorem rmac_yes (k s : ByteArray) (w : World) (hk : k.size ≤ 300) (hs : s.size ≤ 300) :
    Calls Try.prog 60 #[.string k, .string s] w fun e w' => e = .returned (.tuple #[.string (toS (macI (bts k) (bts s))), .int .i64 0]) ∧ Below w.heap.size w w' := by
  have hk' : (k.size : Int) ≤ 300 := by omega
  have hs' : (s.size : Int) ≤ 300 := by omega
  go_enter Try.func60, Try.ntmps60
  go_wp2_with fail
  refine (rkeyed_any k s _ (by omega) (by omega)).mono ?_
  rintro e w1 ⟨rfl, hB1⟩
  go_wp2
  go_ret2
  exact ⟨rfl, hB1⟩
set_option maxHeartbeats 400000 in
theorem rmac_no (k s : ByteArray) (w : World) (hs : 300 < k.size ∨ 300 < s.size) :
    Calls Try.prog 60 #[.string k, .string s] w fun e w' => e = .returned (.tuple #[.string ⟨#[]⟩, .int .i64 2]) ∧ w' = w := by
  by_cases hk : 300 < k.size
  · have hk' : (300 : Int) < k.size := by omega
    go_enter Try.func60, Try.ntmps60
    go_wp2
    go_ret2
    exact ⟨rfl, rfl⟩
  · have hk' : (k.size : Int) ≤ 300 := by omega
    have hs' : (300 : Int) < s.size := by omega
    clear hs hk
    go_enter Try.func60, Try.ntmps60
    go_wp2
    go_ret2
    exact ⟨rfl, rfl⟩
end Go.Proofs.Ythhhkkjdjjhepaa
