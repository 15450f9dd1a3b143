import Derived.Test.YtbifmhbkmnofiaaGreatMj
import Derived.Test.YtbifmhbkmnofiaaGreatMk
namespace Go.Proofs.YtbifmhbkmnofiaaGreat
open Go.RowKit
set_option linter.unusedVariables false
set_option linter.unusedSimpArgs false
/-- bytes at the head of a block, which may be written -/
def BR (w : World) (b : Nat) (xs : List Int) : Prop := ∀ j, j < xs.length → w.cell? ⟨b, j, none⟩ = some (.int .u8 (xs[j]?.getD 0)) ∧ w.frozen? ⟨b, j, none⟩ = false
theorem BR.set {w : World} {b : Nat} {xs : List Int} (h : BR w b xs) (j : Nat) (v : Int) : BR (w.setCell ⟨b, j, none⟩ (.int .u8 v)) b (xs.set j v) := fun i hi => by
  rw [List.length_set] at hi
  obtain ⟨h1, h2⟩ := h i hi
  constructor
  · by_cases e : i = j
    · subst e
      rw [World.cell?_setCell_same _ _ _ h1, getD_set_same _ _ _ hi]
    · rw [World.cell?_setCell_other _ _ _ _ (fun e' => e (congrArg Addr.off e').symm), h1, getD_set _ _ _ _ e]
  · rw [World.frozen?_setCell]; exact h2
theorem BR.byt {w : World} {b : Nat} {xs : List Int} (h : BR w b xs) (cap : Nat) : Byt w (.slice (some ⟨b, 0, none⟩) xs.length cap) xs :=
  Or.inr ⟨b, 0, cap, rfl, fun j hj => by rw [Nat.zero_add]; exact (h j hj).1⟩
theorem bytesW_br (w : World) (e : TypeId) (s : ByteArray) : BR (Lib.bytesWorld w e s) w.heap.size (bts s) := fun j hj => by
  rw [bts_len] at hj
  refine ⟨?_, ?_⟩
  · rw [Lib.bytesWorld_cell w e s j hj]; simp [bts, hj, List.getD]
  · have hb := Lib.bytesWorld_at_new w e s
    have hsz : s.size ≤ (Lib.bytesCells w e s).size := by simp [Lib.bytesCells]
    simp [World.frozen?, hb]; omega
theorem wpList_bytes2 {ops : Array Oper} {rest : List Oper} {o : Oper} {a : Act} {w : World} {Q : Exit → Act → World → Prop} (hgd : o.guard = none) (x : Operand) (ho : o.op = .convert 9 41 x) (s : ByteArray) (hx : a.eval x = .string s)
    (h : ∀ w' cap, Below w.heap.size w w' → w'.heap.size = w.heap.size + 1 → Hd (BR w' w.heap.size (bts s)) → s.size ≤ cap → wpList Tryz.prog ops Q rest (a.put o.dst (.slice (some ⟨w.heap.size, 0, none⟩) s.size cap)) w') : wpList Tryz.prog ops Q (o :: rest) a w :=
  wpList_plain hgd fun _ hK => by
    unfold Oper.wp execOp
    simp only [ho, hx, Sem.run_bind, Lib.run_convert_string_bytes w 9 41 5 s Tryz.underlying9 Tryz.underlying41 Tryz.underlying5, Result.andThen_ok, Sem.run_pure]
    exact hK _ _ (h _ _ (bytesW_below w 5 s) (Lib.bytesWorld_size w 5 s) ⟨bytesW_br w 5 s⟩ (grownCap_ge _ _ _ _))
/-- each byte with a mask; the first k of them -/
def mk8 (xs : List Int) (m : Int) (k : Nat) : List Int := (xs.take k).map (fun x => bits .xor .u8 x m) ++ xs.drop k
theorem mk8_len (xs : List Int) (m : Int) (k : Nat) : (mk8 xs m k).length = xs.length := by simp [mk8]; omega
theorem mk8_step (xs : List Int) (m : Int) (k : Nat) (h : k < xs.length) : mk8 xs m (k + 1) = (mk8 xs m k).set k (bits .xor .u8 (xs[k]?.getD 0) m) := by
  unfold mk8
  rw [List.set_append_right _ _ (by simp; omega), List.length_map, List.length_take, Nat.min_eq_left (by omega), Nat.sub_self]
  conv => rhs; rw [List.drop_eq_getElem_cons h]
  rw [List.set_cons_zero, List.take_succ_eq_append_getElem h, List.map_append, List.getElem?_eq_getElem h]
  simp
theorem mk8_get (xs : List Int) (m : Int) (k : Nat) (h : k < xs.length) : (mk8 xs m k)[k]?.getD 0 = xs[k]?.getD 0 := by
  unfold mk8
  rw [List.getElem?_append_right (by simp; omega)]
  simp [Nat.min_eq_left (Nat.le_of_lt h)]
theorem maskI_map (ks : List Int) (m : Int) : ∀ k, k ≤ ks.length → maskI ks m k = (ks.take k).map (fun x => bits .xor .u8 x m)
  | 0, _ => rfl
  | k + 1, h => by
    have hk : k < ks.length := by omega
    rw [maskI, maskI_map ks m k (by omega), List.take_succ_eq_append_getElem hk, List.map_append, List.getElem?_eq_getElem hk]; rfl
set_option maxRecDepth 20000 in
set_option maxHeartbeats 400000 in
theorem with_any (s : ByteArray) (m : Int) (w : World) (hs : s.size ≤ 9223372036854775807) :
    Calls Tryz.prog 76 #[.string s, .int .u8 m] w fun e w' => e = .returned (.string (toS ((bts s).map (fun x => bits .xor .u8 x m)))) ∧ Below w.heap.size w w' := by
  go_enter Tryz.func76, Tryz.ntmps76
  go_wp2_with (refine wpList_bytes2 rfl _ rfl s rfl ?_; intro w2 cap hB2 hz2 hb2 hcap)
  have hl := bts_len s
  go_loopw [6] (fun i wr => ∃ k : Nat, k ≤ s.size ∧ i = .int .i64 k ∧ BR wr w.heap.size (mk8 (bts s) m k) ∧ Below w.heap.size w wr) (fun i _ => s.size - (intOf i).toNat)
  case atStart => exact ⟨0, by omega, rfl, hb2.out, hB2⟩
  case round =>
    clear hb2 hB2 hz2
    obtain ⟨k, hk, rfl, hR, hB⟩ := hrel
    by_cases hlt : k < s.size
    · obtain ⟨c0, f0⟩ := hR k (by rw [mk8_len]; omega)
      rw [mk8_get _ _ _ (by omega)] at c0
      have hst := hid (mk8_step (bts s) m k (by omega))
      have HR := hid hR
      clear hR
      generalize mk8 (bts s) m k = l at *
      generalize (bts s)[k]?.getD 0 = x at *
      go_wp2
      exact ⟨⟨k + 1, by omega, by go_num, by rw [hst.out]; exact HR.out.set _ _, hB.setCell (by simp) _⟩, by simp [intOf]; omega⟩
    · obtain rfl : k = s.size := by omega
      have e : mk8 (bts s) m s.size = (bts s).map (fun x => bits .xor .u8 x m) := by
        unfold mk8; rw [List.take_of_length_le (by omega), List.drop_of_length_le (by omega)]; simp
      rw [e] at hR
      have y1 := hR.byt cap
      rw [List.length_map, bts_len] at y1
      have Y1 := hid y1
      clear y1 hR e hlt
      generalize hmm : (bts s).map (fun x => bits .xor .u8 x m) = mm at *
      have Hmm := hid hmm
      clear hmm
      go_wp2_with (refine wpList_str rfl _ rfl _ mm rfl Y1.out ?_)
      go_ret
      exact ⟨by rw [Hmm.out]; rfl, hB⟩
theorem key_bytes (key : ByteArray) (h : ¬ 64 < key.size) : key ++ toS (zeros (64 - key.size)) = toS (keyI (bts key)) := by
  rw [toS_snoc]; unfold keyI; rw [if_neg (by rw [bts_len]; exact h), bts_len]
theorem keyI_B (key : ByteArray) : allB (keyI (bts key)) := by
  unfold keyI
  split
  · exact allB_append (shaI_B _) (zeros_B 32)
  · exact allB_append (bts_B key) (zeros_B _)
theorem mask64 (key : ByteArray) (m : Int) : (keyI (bts key)).map (fun x => bits .xor .u8 x m) = maskI (keyI (bts key)) m 64 := by
  rw [maskI_map _ _ 64 (by rw [keyI_len]; omega), List.take_of_length_le (by rw [keyI_len]; omega)]
set_option maxRecDepth 20000 in
set_option maxHeartbeats 400000 in
/-- 'Keyed' once the key is filled up -/
theorem rkeyed_no (key s : ByteArray) (w : World) (hk : ¬ 64 < key.size) (hs : s.size ≤ 1125899906842000) :
    Calls Tryz.prog 51 #[.string key, .string s] w fun e w' => e = .returned (.string (toS (macI (bts key) (bts s)))) ∧ Below w.heap.size w w' := by
  have hk' : (key.size : Int) ≤ 64 := by omega
  have hmac : Hd (macI (bts key) (bts s) = shaI (maskI (keyI (bts key)) 92 64 ++ shaI (maskI (keyI (bts key)) 54 64 ++ bts s))) := hid rfl
  have hz : (toS (zeros (64 - key.size))).size ≤ 64 := by rw [toS_size, zeros_len]; omega
  go_enter Tryz.func51, Tryz.ntmps51
  go_wp2_with fail
  refine (zeros_int (64 - (key.size : Int)) _ (by omega) (by omega)).mono ?_
  rintro e w1 ⟨rfl, hB1⟩
  rw [show (64 - (key.size : Int)).toNat = 64 - key.size by omega]
  go_wp2_with fail
  rw [key_bytes key hk]
  have hkl : (toS (keyI (bts key))).size = 64 := by rw [toS_size, keyI_len]
  have hbk := hid (bts_toS _ (keyI_B key))
  have h92 := hid (mask64 key 92)
  have h54 := hid (mask64 key 54)
  refine (with_any _ 92 _ (by omega)).mono ?_
  rintro e w2 ⟨rfl, hB2⟩
  rw [hbk.out, h92.out]
  have hC2 := hB1.trans (hB2.mono hB1.size)
  clear hB1 hB2
  go_wp2_with fail
  refine (with_any _ 54 _ (by omega)).mono ?_
  rintro e w3 ⟨rfl, hB3⟩
  rw [hbk.out, h54.out]
  have hC3 := hC2.trans (hB3.mono hC2.size)
  clear hC2 hB3
  have l1 := maskI_len (keyI (bts key)) 54 64
  have l2 := maskI_len (keyI (bts key)) 92 64
  have b1 := hid (maskI_B (keyI (bts key)) 54 64)
  have b2 := hid (maskI_B (keyI (bts key)) 92 64)
  generalize maskI (keyI (bts key)) 54 64 = m1 at *
  generalize maskI (keyI (bts key)) 92 64 = m2 at *
  have t1 : (toS m1).size = 64 := by rw [toS_size, l1]
  have t2 : (toS m2).size = 64 := by rw [toS_size, l2]
  go_wp2_with fail
  refine (hash_any _ _ (by rw [ByteArray.size_append]; omega)).mono ?_
  rintro e w4 ⟨rfl, hB4⟩
  rw [bts_append, bts_toS m1 b1.out]
  have hC4 := hC3.trans (hB4.mono hC3.size)
  clear hC3 hB4
  have s1 := shaI_len (m1 ++ bts s)
  have b3 := hid (shaI_B (m1 ++ bts s))
  generalize shaI (m1 ++ bts s) = ih at *
  have t3 : (toS ih).size = 32 := by rw [toS_size, s1]
  go_wp2_with fail
  refine (hash_any _ _ (by rw [ByteArray.size_append]; omega)).mono ?_
  rintro e w5 ⟨rfl, hB5⟩
  rw [bts_append, bts_toS m2 b2.out, bts_toS ih b3.out, ← hmac.out]
  have hC5 := hC4.trans (hB5.mono hC4.size)
  go_wp2
  go_ret
  exact ⟨rfl, hC5⟩
set_option maxRecDepth 20000 in
set_option maxHeartbeats 400000 in
/-- a long key: its sum stands for it -/
theorem rkeyed_yes (key s : ByteArray) (w : World) (hk : 64 < key.size) (hk2 : key.size ≤ 1125899906842000) (hs : s.size ≤ 1125899906842000) :
    Calls Tryz.prog 51 #[.string key, .string s] w fun e w' => e = .returned (.string (toS (macI (bts key) (bts s)))) ∧ Below w.heap.size w w' := by
  have hk' : (64 : Int) < key.size := by omega
  have hmac : Hd (macI (bts key) (bts s) = shaI (maskI (keyI (bts key)) 92 64 ++ shaI (maskI (keyI (bts key)) 54 64 ++ bts s))) := hid rfl
  have hz : (toS (zeros 32)).size ≤ 64 := by rw [toS_size, zeros_len]; omega
  have hks : (toS (shaI (bts key))).size = 32 := by rw [toS_size, shaI_len]
  have hkb : Hd (toS (shaI (bts key)) ++ toS (zeros 32) = toS (keyI (bts key))) := hid (by rw [toS_append]; unfold keyI; rw [if_pos (by rw [bts_len]; exact hk)]; rfl)
  go_enter Tryz.func51, Tryz.ntmps51
  go_wp2_with fail
  refine (hash_any key _ (by omega)).mono ?_
  rintro e w0 ⟨rfl, hB0⟩
  go_wp2_with fail
  refine (zeros_int 32 _ (by omega) (by omega)).mono ?_
  rintro e w1 ⟨rfl, hB1'⟩
  have hB1 := hB0.trans (hB1'.mono hB0.size)
  clear hB0 hB1'
  rw [show Int.toNat 32 = 32 from rfl]
  go_wp2_with fail
  rw [hkb.out]
  have hkl : (toS (keyI (bts key))).size = 64 := by rw [toS_size, keyI_len]
  have hbk := hid (bts_toS _ (keyI_B key))
  have h92 := hid (mask64 key 92)
  have h54 := hid (mask64 key 54)
  refine (with_any _ 92 _ (by omega)).mono ?_
  rintro e w2 ⟨rfl, hB2⟩
  rw [hbk.out, h92.out]
  have hC2 := hB1.trans (hB2.mono hB1.size)
  clear hB1 hB2
  go_wp2_with fail
  refine (with_any _ 54 _ (by omega)).mono ?_
  rintro e w3 ⟨rfl, hB3⟩
  rw [hbk.out, h54.out]
  have hC3 := hC2.trans (hB3.mono hC2.size)
  clear hC2 hB3
  have l1 := maskI_len (keyI (bts key)) 54 64
  have l2 := maskI_len (keyI (bts key)) 92 64
  have b1 := hid (maskI_B (keyI (bts key)) 54 64)
  have b2 := hid (maskI_B (keyI (bts key)) 92 64)
  generalize maskI (keyI (bts key)) 54 64 = m1 at *
  generalize maskI (keyI (bts key)) 92 64 = m2 at *
  have t1 : (toS m1).size = 64 := by rw [toS_size, l1]
  have t2 : (toS m2).size = 64 := by rw [toS_size, l2]
  go_wp2_with fail
  refine (hash_any _ _ (by rw [ByteArray.size_append]; omega)).mono ?_
  rintro e w4 ⟨rfl, hB4⟩
  rw [bts_append, bts_toS m1 b1.out]
  have hC4 := hC3.trans (hB4.mono hC3.size)
  clear hC3 hB4
  have s1 := shaI_len (m1 ++ bts s)
  have b3 := hid (shaI_B (m1 ++ bts s))
  generalize shaI (m1 ++ bts s) = ih at *
  have t3 : (toS ih).size = 32 := by rw [toS_size, s1]
  go_wp2_with fail
  refine (hash_any _ _ (by rw [ByteArray.size_append]; omega)).mono ?_
  rintro e w5 ⟨rfl, hB5⟩
  rw [bts_append, bts_toS m2 b2.out, bts_toS ih b3.out, ← hmac.out]
  have hC5 := hC4.trans (hB5.mono hC4.size)
  go_wp2
  go_ret
  exact ⟨rfl, hC5⟩
theorem rkeyed_any (key s : ByteArray) (w : World) (hk : key.size ≤ 1125899906842000) (hs : s.size ≤ 1125899906842000) :
    Calls Tryz.prog 51 #[.string key, .string s] w fun e w' => e = .returned (.string (toS (macI (bts key) (bts s)))) ∧ Below w.heap.size w w' := by
  by_cases h : 64 < key.size
  · exact rkeyed_yes key s w h hk hs
  · exact rkeyed_no key s w h hs
set_option maxHeartbeats 400000 in
theorem rsum_yes (s : ByteArray) (w : World) (hs : s.size ≤ 300) :
    Calls Tryz.prog 17 #[.string s] w fun e w' => e = .returned (.tuple #[.string (toS (shaI (bts s))), .int .i64 0]) ∧ Below w.heap.size w w' := by
  have hs' : (s.size : Int) ≤ 300 := by omega
  go_enter Tryz.func17, Tryz.ntmps17
  go_wp2_with fail
  refine (hash_any s _ (by omega)).mono ?_
  rintro e w1 ⟨rfl, hB1⟩
  go_wp2
  go_ret2
  exact ⟨rfl, hB1⟩
set_option maxHeartbeats 400000 in
theorem rsum_no (s : ByteArray) (w : World) (hs : 300 < s.size) :
    Calls Tryz.prog 17 #[.string s] w fun e w' => e = .returned (.tuple #[.string ⟨#[]⟩, .int .i64 2]) ∧ w' = w := by
  have hs' : (300 : Int) < s.size := by omega
  go_enter Tryz.func17, Tryz.ntmps17
  go_wp2
  go_ret2
  exact ⟨rfl, rfl⟩
set_option maxHeartbeats 400000 in
theorem rmac_yes (k s : ByteArray) (w : World) (hk : k.size ≤ 300) (hs : s.size ≤ 300) :
    Calls Tryz.prog 20 #[.string k, .string s] w fun e w' => e = .returned (.tuple #[.string (toS (macI (bts k) (bts s))), .int .i64 0]) ∧ Below w.heap.size w w' := by
  have hk' : (k.size : Int) ≤ 300 := by omega
  have hs' : (s.size : Int) ≤ 300 := by omega
  go_enter Tryz.func20, Tryz.ntmps20
  go_wp2_with fail
  refine (rkeyed_any k s _ (by omega) (by omega)).mono ?_
  rintro e w1 ⟨rfl, hB1⟩
  go_wp2
  go_ret2
  exact ⟨rfl, hB1⟩
set_option maxHeartbeats 400000 in
theorem rmac_no (k s : ByteArray) (w : World) (hs : 300 < k.size ∨ 300 < s.size) :
    Calls Tryz.prog 20 #[.string k, .string s] w fun e w' => e = .returned (.tuple #[.string ⟨#[]⟩, .int .i64 2]) ∧ w' = w := by
  by_cases hk : 300 < k.size
  · have hk' : (300 : Int) < k.size := by omega
    go_enter Tryz.func20, Tryz.ntmps20
    go_wp2
    go_ret2
    exact ⟨rfl, rfl⟩
  · have hk' : (k.size : Int) ≤ 300 := by omega
    have hs' : (300 : Int) < s.size := by omega
    clear hs hk
    go_enter Tryz.func20, Tryz.ntmps20
    go_wp2
    go_ret2
    exact ⟨rfl, rfl⟩
end Go.Proofs.YtbifmhbkmnofiaaGreat
namespace Go.Proofs.YtbifmhbkmnofiaaGreat
open Go.RowKit
set_option linter.unusedVariables false
set_option linter.unusedSimpArgs false
/-- a generator of one of the two kinds -/
inductive Gen where
  | m (g : MG)
  | s (g : SG)
def Gen.ok : Gen → Prop
  | .m g => g.ok
  | .s g => g.ok
def Gen.kind : Gen → TypeId
  | .m _ => 154
  | .s _ => 157
def GenAt (w : World) (B : Nat) : Gen → Prop
  | .m g => MgAt w B g
  | .s g => SgAt w B g
theorem GenAt.lt {w : World} {B : Nat} {g : Gen} (h : GenAt w B g) : B < w.heap.size := by
  cases g with
  | m g => exact MgAt.lt h
  | s g => exact SgAt.lt h
theorem GenAt.other {w w' : World} {B : Nat} {g : Gen} (h : GenAt w B g) (he : w'.heap[B]? = w.heap[B]?) : GenAt w' B g := by
  cases g with
  | m g => exact MgAt.other h he
  | s g => exact SgAt.other h he
def MG0 : MG := ⟨Z32, Z32⟩
def SG0 : SG := ⟨zeros 55, zeros 55⟩
theorem MG0_ok : MG0.ok := mk_ok (by rfl) (by rfl)
theorem zeros_B' (n : Nat) : allB (zeros n) := by
  intro x hx
  have : x = 0 := List.eq_of_mem_replicate hx
  subst this; omega
theorem SG0_ok : SG0.ok := ⟨by rfl, by rfl, zeros_B' _, zeros_B' _⟩
set_option maxRecDepth 20000 in
set_option maxHeartbeats 400000 in
theorem unseeded_m (w : World) : Calls Tryz.prog 59 #[.int .i64 1] w fun e w' => e = .returned (.iface 154 (.pointer (some ⟨w.heap.size, 0, none⟩))) ∧ MgAt w' w.heap.size MG0 ∧ Below w.heap.size w w' := by
  go_enter Tryz.func59, Tryz.ntmps59
  go_wp2_with (refine wpList_build_eq rfl 156 _ rfl (ints .u8 (Z32 ++ Z32)) (by kernel_rfl) ?_)
  go_ret
  exact ⟨rfl, MgAt.of_row (al_new _ _), (Below.refl _ _).alloc (Nat.le_refl _) _⟩
set_option maxRecDepth 20000 in
set_option maxHeartbeats 400000 in
theorem unseeded_s (w : World) : Calls Tryz.prog 59 #[.int .i64 2] w fun e w' => e = .returned (.iface 157 (.pointer (some ⟨w.heap.size, 0, none⟩))) ∧ SgAt w' w.heap.size SG0 ∧ Below w.heap.size w w' := by
  go_enter Tryz.func59, Tryz.ntmps59
  go_wp2_with (refine wpList_build_eq rfl 161 _ rfl (ints .u8 (zeros 55 ++ zeros 55)) (by kernel_rfl) ?_)
  go_ret
  refine ⟨rfl, ⟨161, (al_new _ _).trans ?_⟩, (Below.refl _ _).alloc (Nat.le_refl _) _⟩
  simp [ints, SG0]
set_option maxHeartbeats 400000 in
theorem unseeded_no (k : Int) (w : World) (h1 : k ≠ 1) (h2 : k ≠ 2) : Calls Tryz.prog 59 #[.int .i64 k] w fun e w' => e = .returned .nilIface ∧ w' = w := by
  go_enter Tryz.func59, Tryz.ntmps59
  go_wp2
  go_ret
  exact ⟨rfl, rfl⟩
/-- is entropy as long as a seeding wants it? -/
def may (s : ByteArray) : Bool := decide (16 ≤ s.size ∧ s.size ≤ 64)
set_option maxHeartbeats 400000 in
theorem maySeed_any (s : ByteArray) (w : World) (hs : s.size ≤ 9223372036854775807) : Calls Tryz.prog 60 #[.string s] w fun e w' => e = .returned (.bool (may s)) ∧ w' = w := by
  by_cases h1 : 16 ≤ s.size
  · have h1' : (16 : Int) ≤ s.size := by omega
    by_cases h2 : s.size ≤ 64
    · have h2' : (s.size : Int) ≤ 64 := by omega
      have hd := hid (show may s = true from decide_eq_true ⟨h1, h2⟩)
      go_enter Tryz.func60, Tryz.ntmps60
      go_wp2
      go_ret
      exact ⟨by rw [hd.out]; rfl, rfl⟩
    · have h2' : ¬ (s.size : Int) ≤ 64 := by omega
      have hd := hid (show may s = false from decide_eq_false (fun h => h2 h.2))
      go_enter Tryz.func60, Tryz.ntmps60
      go_wp2
      go_ret
      exact ⟨by rw [hd.out]; rfl, rfl⟩
  · have h1' : ¬ (16 : Int) ≤ s.size := by omega
    have hd := hid (show may s = false from decide_eq_false (fun h => h1 h.1))
    go_enter Tryz.func60, Tryz.ntmps60
    go_wp2
    go_ret
    exact ⟨by rw [hd.out]; rfl, rfl⟩
/-- all but two blocks is as it was -/
structure Ex2 (A B : Nat) (w w' : World) : Prop where
  os : w'.os = w.os
  tape : w'.tape = w.tape
  output : w'.output = w.output
  size : w.heap.size ≤ w'.heap.size
  block : ∀ k, k < w.heap.size → k ≠ A → k ≠ B → w'.heap[k]? = w.heap[k]?
theorem Ex2.refl (A B : Nat) (w : World) : Ex2 A B w w := ⟨rfl, rfl, rfl, Nat.le_refl _, fun _ _ _ _ => rfl⟩
theorem Ex2.trans {A B : Nat} {a b c : World} (h : Ex2 A B a b) (k : Ex2 A B b c) : Ex2 A B a c :=
  ⟨k.os.trans h.os, k.tape.trans h.tape, k.output.trans h.output, Nat.le_trans h.size k.size, fun i hi hA hB => (k.block i (Nat.lt_of_lt_of_le hi h.size) hA hB).trans (h.block i hi hA hB)⟩
theorem Ex2.of_below {A B : Nat} {w w' : World} (h : Below w.heap.size w w') : Ex2 A B w w' := ⟨h.os, h.tape, h.output, h.size, fun k hk _ _ => h.block k hk⟩
theorem Ex2.of_l {A B : Nat} {w w' : World} (h : Ex A w w') : Ex2 A B w w' := ⟨h.os, h.tape, h.output, h.size, fun k hk hA _ => h.block k hk hA⟩
theorem Ex2.of_r {A B : Nat} {w w' : World} (h : Ex B w w') : Ex2 A B w w' := ⟨h.os, h.tape, h.output, h.size, fun k hk _ hB => h.block k hk hB⟩
theorem Ex2.below {A B N : Nat} {w w' : World} (h : Ex2 A B w w') (h1 : N ≤ A) (h2 : N ≤ B) (h3 : N ≤ w.heap.size) : Below N w w' := ⟨h.os, h.tape, h.output, h.size, fun k hk => h.block k (by omega) (by omega) (by omega)⟩
theorem Ex2.drew {A B : Nat} {a w : World} (h : Ex2 A B a w) : Ex2 A B a w.drew := ⟨h.1, h.2, h.3, h.4, h.5⟩
/-- a source: its generator, how often it may still be read -/
structure Fnt where
  g : Gen
  r : Nat
structure FtAt (w : World) (A B : Nat) (f : Fnt) : Prop where
  cells : ∃ t, w.heap[A]? = some (.cells #[.iface f.g.kind (.pointer (some ⟨B, 0, none⟩)), .int .u64 (f.r : Int)] t (0, 0))
  gen : GenAt w B f.g
  ne : A ≠ B
  ok : f.g.ok
theorem FtAt.lt {w : World} {A B : Nat} {f : Fnt} (h : FtAt w A B f) : A < w.heap.size := by
  obtain ⟨t, h⟩ := h.cells
  exact (Array.getElem?_eq_some_iff.1 h).1
theorem FtAt.other {w w' : World} {A B : Nat} {f : Fnt} (h : FtAt w A B f) (h1 : w'.heap[A]? = w.heap[A]?) (h2 : w'.heap[B]? = w.heap[B]?) : FtAt w' A B f := by
  obtain ⟨t, hc⟩ := h.cells
  exact ⟨⟨t, h1.trans hc⟩, h.gen.other h2, h.ne, h.ok⟩
theorem FtAt.below {w w' : World} {A B : Nat} {f : Fnt} (h : FtAt w A B f) (hb : Below w.heap.size w w') : FtAt w' A B f :=
  h.other (hb.block A h.lt) (hb.block B h.gen.lt)
theorem FtAt.cell0 {w : World} {A B : Nat} {f : Fnt} (h : FtAt w A B f) : w.cell? ⟨A, 0, none⟩ = some (.iface f.g.kind (.pointer (some ⟨B, 0, none⟩))) := by
  obtain ⟨t, h⟩ := h.cells
  rw [cell_of_row w A 0 _ t _ h]; rfl
theorem FtAt.cell1 {w : World} {A B : Nat} {f : Fnt} (h : FtAt w A B f) : w.cell? ⟨A, 1, none⟩ = some (.int .u64 (f.r : Int)) := by
  obtain ⟨t, h⟩ := h.cells
  rw [cell_of_row w A 1 _ t _ h]; rfl
theorem FtAt.frozen {w : World} {A B : Nat} {f : Fnt} (h : FtAt w A B f) (j : Nat) : w.frozen? ⟨A, j, none⟩ = false := by
  obtain ⟨t, h⟩ := h.cells
  simp [World.frozen?, h]
theorem FtAt.setR {w : World} {A B : Nat} {f : Fnt} (h : FtAt w A B f) (r : Nat) : FtAt (w.setCell ⟨A, 1, none⟩ (.int .u64 (r : Int))) A B ⟨f.g, r⟩ := by
  obtain ⟨t, hc⟩ := h.cells
  refine ⟨⟨t, ?_⟩, h.gen.other (Below.heap_setCell _ _ _ _ (by simpa using h.ne.symm)), h.ne, h.ok⟩
  simp only [World.setCell, Array.getElem?_modify, if_pos, hc, Option.map_some]
  rfl
def seedOf (k : Int) (xs : List Int) : Gen := if k = 1 then .m (seedG xs) else .s (beginS xs)
theorem seedOf_ok (k : Int) (xs : List Int) : (seedOf k xs).ok := by
  unfold seedOf
  split
  · exact seedG_ok xs
  · exact beginS_ok xs
theorem bts3 (a b c : ByteArray) : bts (a ++ b ++ c) = bts a ++ bts b ++ bts c := by rw [bts_append, bts_append]
theorem Tryz.mSeed1 (a : Option Addr) (w : World) : Sem.run Tryz.prog (method 299 154 (.pointer a) "Seed") w = .ok (109, .pointer a) w := by kernel_rfl
theorem Tryz.mSeed2 (a : Option Addr) (w : World) : Sem.run Tryz.prog (method 299 157 (.pointer a) "Seed") w = .ok (117, .pointer a) w := by kernel_rfl
theorem Tryz.mReseed1 (a : Option Addr) (w : World) : Sem.run Tryz.prog (method 299 154 (.pointer a) "Reseed") w = .ok (108, .pointer a) w := by kernel_rfl
theorem Tryz.mReseed2 (a : Option Addr) (w : World) : Sem.run Tryz.prog (method 299 157 (.pointer a) "Reseed") w = .ok (116, .pointer a) w := by kernel_rfl
theorem Tryz.mRead1 (a : Option Addr) (w : World) : Sem.run Tryz.prog (method 299 154 (.pointer a) "Read") w = .ok (107, .pointer a) w := by kernel_rfl
theorem Tryz.mRead2 (a : Option Addr) (w : World) : Sem.run Tryz.prog (method 299 157 (.pointer a) "Read") w = .ok (115, .pointer a) w := by kernel_rfl
set_option maxRecDepth 20000 in
set_option maxHeartbeats 1000000 in
theorem new_m (e n m : ByteArray) (w : World) (he : may e = true) (hn : n.size ≤ 64) (hm : m.size ≤ 64) :
    Calls Tryz.prog 29 #[.int .i64 1, .string e, .string n, .string m] w fun en w' => ∃ A B, en = .returned (.tuple #[.pointer (some ⟨A, 0, none⟩), .int .i64 0]) ∧ w.heap.size ≤ A ∧ w.heap.size ≤ B ∧ FtAt w' A B ⟨seedOf 1 (bts e ++ bts n ++ bts m), 1⟩ ∧ Below w.heap.size w w' := by
  have hes : 16 ≤ e.size ∧ e.size ≤ 64 := of_decide_eq_true he
  have hsz : (e ++ n ++ m).size ≤ 200 := by rw [ByteArray.size_append, ByteArray.size_append]; omega
  have hbt := hid (bts3 e n m)
  have hsd := hid (show seedOf 1 (bts e ++ bts n ++ bts m) = .m (seedG (bts e ++ bts n ++ bts m)) from by unfold seedOf; rw [if_pos rfl])
  have hme := Tryz.mSeed1
  go_enter Tryz.func29, Tryz.ntmps29
  go_wp2_with fail
  refine (unseeded_m _).mono ?_
  rintro en w1 ⟨rfl, hS1, hB1⟩
  go_wp2_with fail
  refine (maySeed_any e _ (by omega)).mono ?_
  rintro en w1' ⟨rfl, rfl⟩
  rw [he]
  have hn' : (n.size : Int) ≤ 64 := by omega
  have hm' : (m.size : Int) ≤ 64 := by omega
  go_wp2_with (refine wpList_bytes rfl _ rfl (e ++ n ++ m) rfl ?_; intro w2 cap hB2 hz2 hb2)
  have hz0 : w.heap.size < w1'.heap.size := hS1.lt
  have hbb : Byt w2 (.slice (some ⟨w1'.heap.size, 0, none⟩) (e.size + n.size + m.size) cap) (bts e ++ bts n ++ bts m) := by
    have := hb2.out
    rw [hbt.out, ByteArray.size_append, ByteArray.size_append] at this
    exact this
  have hS2 := hS1.other (hB2.block _ hS1.lt)
  refine (mseed_any MG0 _ _ _ _ MG0_ok hS2 hbb.src (by simp only [List.length_append, bts_len]; omega) (fun ad n' c h _ => by simp at h; rw [← h.1]; simp; omega)).mono ?_
  rintro en w3 ⟨rfl, hS3, hE3⟩
  have hB3 : Below w.heap.size w w3 := (hB1.trans (hB2.mono hB1.size)).trans (hE3.below (Nat.le_refl _) (by omega))
  have hlt3 := hS3.lt
  clear hS2 hbb hb2 hB2 hE3 hS1 hB1
  go_wp2_with (refine wpList_build_eq rfl 121 _ rfl #[.iface 154 (.pointer (some ⟨w.heap.size, 0, none⟩)), .int .u64 1] (by kernel_rfl) ?_)
  go_ret2
  refine ⟨w3.heap.size, w.heap.size, rfl, hB3.size, Nat.le_refl _, ?_, hB3.alloc hB3.size _⟩
  rw [hsd.out]
  exact ⟨⟨121, al_new _ _⟩, hS3.other (Below.heap_alloc _ _ _ hlt3), by omega, seedG_ok _⟩
set_option maxRecDepth 20000 in
set_option maxHeartbeats 1000000 in
theorem new_s (e n m : ByteArray) (w : World) (he : may e = true) (hn : n.size ≤ 64) (hm : m.size ≤ 64) :
    Calls Tryz.prog 29 #[.int .i64 2, .string e, .string n, .string m] w fun en w' => ∃ A B, en = .returned (.tuple #[.pointer (some ⟨A, 0, none⟩), .int .i64 0]) ∧ w.heap.size ≤ A ∧ w.heap.size ≤ B ∧ FtAt w' A B ⟨seedOf 2 (bts e ++ bts n ++ bts m), 1⟩ ∧ Below w.heap.size w w' := by
  have hes : 16 ≤ e.size ∧ e.size ≤ 64 := of_decide_eq_true he
  have hsz : (e ++ n ++ m).size ≤ 200 := by rw [ByteArray.size_append, ByteArray.size_append]; omega
  have hbt := hid (bts3 e n m)
  have hsd := hid (show seedOf 2 (bts e ++ bts n ++ bts m) = .s (beginS (bts e ++ bts n ++ bts m)) from by unfold seedOf; rw [if_neg (by decide)])
  have hme := Tryz.mSeed2
  go_enter Tryz.func29, Tryz.ntmps29
  go_wp2_with fail
  refine (unseeded_s _).mono ?_
  rintro en w1 ⟨rfl, hS1, hB1⟩
  go_wp2_with fail
  refine (maySeed_any e _ (by omega)).mono ?_
  rintro en w1' ⟨rfl, rfl⟩
  rw [he]
  have hn' : (n.size : Int) ≤ 64 := by omega
  have hm' : (m.size : Int) ≤ 64 := by omega
  go_wp2_with (refine wpList_bytes rfl _ rfl (e ++ n ++ m) rfl ?_; intro w2 cap hB2 hz2 hb2)
  have hz0 : w.heap.size < w1'.heap.size := hS1.lt
  have hbb : Byt w2 (.slice (some ⟨w1'.heap.size, 0, none⟩) (e.size + n.size + m.size) cap) (bts e ++ bts n ++ bts m) := by
    have := hb2.out
    rw [hbt.out, ByteArray.size_append, ByteArray.size_append] at this
    exact this
  have hS2 := hS1.other (hB2.block _ hS1.lt)
  refine (sseed_any SG0 _ _ _ _ SG0_ok hS2 hbb.src (by simp only [List.length_append, bts_len]; omega)).mono ?_
  rintro en w3 ⟨rfl, hS3, hE3⟩
  have hB3 : Below w.heap.size w w3 := (hB1.trans (hB2.mono hB1.size)).trans (hE3.below (Nat.le_refl _) (by omega))
  have hlt3 := hS3.lt
  clear hS2 hbb hb2 hB2 hE3 hS1 hB1
  go_wp2_with (refine wpList_build_eq rfl 121 _ rfl #[.iface 157 (.pointer (some ⟨w.heap.size, 0, none⟩)), .int .u64 1] (by kernel_rfl) ?_)
  go_ret2
  refine ⟨w3.heap.size, w.heap.size, rfl, hB3.size, Nat.le_refl _, ?_, hB3.alloc hB3.size _⟩
  rw [hsd.out]
  exact ⟨⟨121, al_new _ _⟩, hS3.other (Below.heap_alloc _ _ _ hlt3), by omega, beginS_ok _⟩
set_option maxHeartbeats 1000000 in
theorem new_kind (k : Int) (e n m : ByteArray) (w : World) (h1 : k ≠ 1) (h2 : k ≠ 2) :
    Calls Tryz.prog 29 #[.int .i64 k, .string e, .string n, .string m] w fun en w' => en = .returned (.tuple #[.pointer none, .int .i64 1]) ∧ w' = w := by
  go_enter Tryz.func29, Tryz.ntmps29
  go_wp2_with fail
  refine (unseeded_no k _ h1 h2).mono ?_
  rintro en w1 ⟨rfl, rfl⟩
  go_wp2
  go_ret2
  exact ⟨rfl, rfl⟩
set_option maxHeartbeats 1000000 in
/-- behind the kind: what is too short or too long -/
theorem new_arg (k : Int) (e n m : ByteArray) (w : World) (hk : k = 1 ∨ k = 2) (h : may e = false ∨ 64 < n.size ∨ 64 < m.size) (he : e.size ≤ 9223372036854775807) (hn : n.size ≤ 9223372036854775807) (hm : m.size ≤ 9223372036854775807) :
    Calls Tryz.prog 29 #[.int .i64 k, .string e, .string n, .string m] w fun en w' => en = .returned (.tuple #[.pointer none, .int .i64 2]) ∧ Below w.heap.size w w' := by
  go_enter Tryz.func29, Tryz.ntmps29
  go_wp2_with fail
  have hun : Calls Tryz.prog 59 #[.int .i64 k] w fun en w' => ∃ t, en = .returned (.iface t (.pointer (some ⟨w.heap.size, 0, none⟩))) ∧ Below w.heap.size w w' := by
    rcases hk with rfl | rfl
    · exact (unseeded_m w).mono fun en w' ⟨a, _, b⟩ => ⟨_, a, b⟩
    · exact (unseeded_s w).mono fun en w' ⟨a, _, b⟩ => ⟨_, a, b⟩
  refine hun.mono ?_
  rintro en w1 ⟨t, rfl, hB1⟩
  clear hun hk
  go_wp2_with fail
  refine (maySeed_any e _ he).mono ?_
  rintro en w1' ⟨rfl, rfl⟩
  cases hme : may e with
  | false =>
    go_wp2
    go_ret2
    exact ⟨rfl, hB1⟩
  | true =>
    rw [hme] at h
    by_cases h2 : 64 < n.size
    · have h2' : (64 : Int) < n.size := by omega
      clear h
      go_wp2
      go_ret2
      exact ⟨rfl, hB1⟩
    · have h2' : ¬ (64 : Int) < n.size := by omega
      have h3' : (64 : Int) < m.size := by
        rcases h with h | h | h
        · simp at h
        · omega
        · omega
      clear h
      go_wp2
      go_ret2
      exact ⟨rfl, hB1⟩
end Go.Proofs.YtbifmhbkmnofiaaGreat
