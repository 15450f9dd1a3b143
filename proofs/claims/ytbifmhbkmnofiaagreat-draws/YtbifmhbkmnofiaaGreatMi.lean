import Derived.Test.YtbifmhbkmnofiaaGreatMh
import Derived.Deep.AppendLies
namespace Go.Proofs.YtbifmhbkmnofiaaGreat
open Go.RowKit
set_option linter.unusedVariables false
set_option linter.unusedSimpArgs false
theorem getD_set (xs : List Int) (i j : Nat) (v : Int) (h : j ≠ i) : (xs.set i v)[j]?.getD 0 = xs[j]?.getD 0 := by
  rw [List.getElem?_set]; simp [Ne.symm h]
theorem getD_set_same (xs : List Int) (i : Nat) (v : Int) (h : i < xs.length) : (xs.set i v)[i]?.getD 0 = v := by
  rw [List.getElem?_set]; simp [h]
theorem ext_stable (xs : List Int) (k : Nat) : ∀ d j, j < 16 + k → (ext xs (k + d))[j]?.getD 0 = (ext xs k)[j]?.getD 0
  | 0, j, _ => rfl
  | d + 1, j, h => by
    rw [show k + (d + 1) = (k + d) + 1 by omega, ext, getD_set _ _ _ _ (by omega)]
    exact ext_stable xs k d j h
theorem exv_congr (xs ys : List Int) (t : Nat) (ht : 16 ≤ t) (h : ∀ j, j < t → xs[j]?.getD 0 = ys[j]?.getD 0) : exv xs t = exv ys t := by
  unfold exv
  rw [h (t - 16) (by omega), h (t - 15) (by omega), h (t - 7) (by omega), h (t - 2) (by omega)]
theorem sched_hi (bs : List Int) (t : Nat) (h1 : 16 ≤ t) (h2 : t < 64) : (sched bs)[t]?.getD 0 = exv (sched bs) t := by
  unfold sched
  obtain ⟨k, rfl⟩ : ∃ k, t = 16 + k := ⟨t - 16, by omega⟩
  have e1 : (48 : Nat) = (k + 1) + (47 - k) := by omega
  have e2 : (48 : Nat) = k + (48 - k) := by omega
  have s1 : (ext (pack bs 64) 48)[16 + k]?.getD 0 = (ext (pack bs 64) (k + 1))[16 + k]?.getD 0 := by
    conv => lhs; rw [e1]
    exact ext_stable _ _ _ _ (by omega)
  rw [s1, ext, getD_set_same _ _ _ (by rw [ext_len, pack_len]; omega)]
  refine exv_congr _ _ _ (by omega) (fun j hj => ?_)
  conv => rhs; rw [e2]
  exact (ext_stable _ _ _ _ hj).symm
theorem pack_zero (bs : List Int) (t : Nat) : ∀ k, k ≤ 4 * t → (pack bs k)[t]?.getD 0 = 0
  | 0, _ => by
    show Z64[t]?.getD 0 = 0
    unfold Z64
    rw [List.getElem?_replicate]
    split <;> rfl
  | k + 1, h => by
    rw [pack, pk, getD_set _ _ _ _ (by omega)]
    exact pack_zero bs t k (by omega)
theorem pack_stable (bs : List Int) (t k : Nat) (h : 4 * t + 4 ≤ k) : ∀ d, (pack bs (k + d))[t]?.getD 0 = (pack bs k)[t]?.getD 0
  | 0 => rfl
  | d + 1 => by
    rw [show k + (d + 1) = (k + d) + 1 by omega, pack, pk, getD_set _ _ _ _ (by omega)]
    exact pack_stable bs t k h d
theorem or_byte (x b : Int) (hx : 0 ≤ x) (hx' : x < 16777216) (hb : 0 ≤ b) (hb' : b < 256) : bits .or .u32 (x * 256 % 4294967296) (b % 4294967296) = 256 * x + b := by
  obtain ⟨m, rfl⟩ := Int.eq_ofNat_of_zero_le hx
  obtain ⟨c, rfl⟩ := Int.eq_ofNat_of_zero_le hb
  have e1 : ((m : Int) * 256 % 4294967296) = ((m * 256 : Nat) : Int) := by omega
  have e2 : ((c : Int) % 4294967296) = (c : Int) := by omega
  rw [e1, e2, or32 _ _ (by omega) (by omega)]
  have : m * 256 ||| c = 2 ^ 8 * m + c := by rw [Nat.two_pow_add_eq_or_of_lt (by omega), Nat.mul_comm]
  rw [this]; omega
theorem pack_part (bs : List Int) (hB : allB bs) (t : Nat) (ht : t < 16) (hl : bs.length = 64) : ∀ j, j ≤ 4 → (pack bs (4 * t + j))[t]?.getD 0 = numI ((bs.drop (4 * t)).take j)
  | 0, _ => by rw [pack_zero bs t _ (by omega)]; simp [numI]
  | j + 1, h => by
    have ih := pack_part bs hB t ht hl j (by omega)
    have hlen : 4 * t + j < bs.length := by omega
    rw [show 4 * t + (j + 1) = (4 * t + j) + 1 by omega, pack, pk, show (4 * t + j) / 4 = t by omega, getD_set_same _ _ _ (by rw [pack_len]; omega), ih]
    have hk : j < (bs.drop (4 * t)).length := by rw [List.length_drop]; omega
    rw [List.take_succ_eq_append_getElem hk, numI_snoc, List.getElem_drop]
    have hb := numI_bd _ (allB_take (fun x hx => hB x (List.mem_of_mem_drop hx) : allB (bs.drop (4 * t))) j)
    have hlt : ((bs.drop (4 * t)).take j).length = j := by rw [List.length_take, List.length_drop]; omega
    rw [hlt] at hb
    have hp : (256 : Int) ^ j ≤ 256 ^ 3 := by
      have := Nat.pow_le_pow_right (n := 256) (by decide) (show j ≤ 3 by omega)
      have e : ((256 : Int) ^ j) = ((256 ^ j : Nat) : Int) := by simp
      rw [e]; omega
    have hbb := hB bs[4 * t + j] (List.getElem_mem hlen)
    rw [List.getElem?_eq_getElem hlen, Option.getD_some]
    exact or_byte _ _ hb.1 (by have := hb.2; omega) hbb.1 hbb.2
theorem sched_lo (bs : List Int) (hB : allB bs) (hl : bs.length = 64) (t : Nat) (ht : t < 16) : (sched bs)[t]?.getD 0 = numI ((bs.drop (4 * t)).take 4) := by
  unfold sched
  have s1 : (ext (pack bs 64) 48)[t]?.getD 0 = (pack bs 64)[t]?.getD 0 := by
    have := ext_stable (pack bs 64) 0 48 t (by omega)
    rw [Nat.zero_add] at this
    exact this
  rw [s1]
  have s2 := pack_stable bs t (4 * t + 4) (Nat.le_refl _) (60 - 4 * t)
  rw [show 4 * t + 4 + (60 - 4 * t) = 64 by omega] at s2
  rw [s2]
  exact pack_part bs hB t ht hl 4 (by omega)
/-- one round, by numbers -/
theorem rstep_ref (a b c d e f g h k x : Int) (hw : allW [a, b, c, d, e, f, g, h]) :
    rstep [a, b, c, d, e, f, g, h] k x = [((h + bits .xor .u32 (bits .xor .u32 (rotI e 6) (rotI e 11)) (rotI e 25) + bits .or .u32 (bits .and .u32 e f) (bits .and .u32 (4294967295 - e) g) + k + x) + (bits .xor .u32 (bits .xor .u32 (rotI a 2) (rotI a 13)) (rotI a 22) + bits .or .u32 (bits .or .u32 (bits .and .u32 a b) (bits .and .u32 a c)) (bits .and .u32 b c))) % 4294967296, a, b, c,
      (d + (h + bits .xor .u32 (bits .xor .u32 (rotI e 6) (rotI e 11)) (rotI e 25) + bits .or .u32 (bits .and .u32 e f) (bits .and .u32 (4294967295 - e) g) + k + x)) % 4294967296, e, f, g] := by
  have hn := not_eq e (hw e (by simp))
  simp only [rstep, t1v, t2v, hn]
  congr 1
  · omega
  · congr 4
    omega
theorem addw8 (a b c d e f g h A B C D E F G H : Int) : addw [a, b, c, d, e, f, g, h] [A, B, C, D, E, F, G, H] 8 = [(a + A) % 4294967296, (b + B) % 4294967296, (c + C) % 4294967296, (d + D) % 4294967296, (e + E) % 4294967296, (f + F) % 4294967296, (g + G) % 4294967296, (h + H) % 4294967296] := by
  simp [addw]
theorem rnds_eight (ks xs : List Int) (a b c d e f g h : Int) (hw : allW [a, b, c, d, e, f, g, h]) : ∀ k, ∃ A B C D E F G H, rnds ks xs [a, b, c, d, e, f, g, h] k = [A, B, C, D, E, F, G, H] ∧ allW [A, B, C, D, E, F, G, H]
  | 0 => ⟨a, b, c, d, e, f, g, h, rfl, hw⟩
  | k + 1 => by
    obtain ⟨A, B, C, D, E, F, G, H, hr, hW⟩ := rnds_eight ks xs a b c d e f g h hw k
    refine ⟨_, _, _, _, _, _, _, _, by rw [rnds, hr]; rfl, allW_step A B C D E F G H _ _ hW⟩
end Go.Proofs.YtbifmhbkmnofiaaGreat
namespace Go.Proofs.YtbifmhbkmnofiaaGreat
open Go.RowKit
set_option linter.unusedVariables false
set_option linter.unusedSimpArgs false
theorem Tryz.infoI : (Tryz.prog.info? 3).map (fun i => (i.zero, i.size, i.bytes)) = some (some (.int .i64 0), 1, 8) := by kernel_rfl
/-- a list of numbers that the call owns -/
def OwnI (w : World) (N : Nat) (v : Value) (xs : List Int) : Prop := w.ownsRow N 3 1 v xs.length (xs.map (Value.int .i64))
theorem OwnI.form {w : World} {N : Nat} {v : Value} {xs : List Int} (h : OwnI w N v xs) (hp : 0 < xs.length) : ∃ g cap, v = .slice (some ⟨g, 0, none⟩) xs.length cap ∧ N ≤ g ∧ g < w.heap.size ∧ ∀ j, j < xs.length → w.cell? ⟨g, j, none⟩ = some (.int .i64 (xs[j]?.getD 0)) := by
  rcases h.2 with ⟨rfl, h0⟩ | ⟨g, cap, cur, rfl, hN, hgg, _, _, _, htake⟩
  · omega
  · refine ⟨g, cap, rfl, hN, (Array.getElem?_eq_some_iff.1 hgg).1, fun j hj => ?_⟩
    have := World.ownsRow.cells h (g := g) rfl j (.int .i64 (xs[j]?.getD 0)) (by simp [List.getElem?_eq_getElem hj])
    rw [Addr.add_mid, Nat.zero_add] at this
    exact this
theorem OwnI.step {w wr w1 : World} {N : Nat} {xs : List Int} {b v' : Value} {x : Int} {o : Obj} (hown : OwnI wr N b xs) (hB : Below N w wr) (hN : N ≤ wr.heap.size)
    (hown' : w1.ownsRow N 3 1 v' (xs.length + 1) (xs.map (Value.int .i64) ++ [Value.int .i64 x])) (hg : (wr.alloc o).grownBy w1 b.ownBlock) : OwnI w1 N v' (xs ++ [x]) ∧ Below N w w1 :=
  ⟨by unfold OwnI; simpa using hown', (hB.alloc hN o).grown hg (by simp; omega) (fun k hk => (World.ownsRow.lt hown k hk).1)⟩
theorem OwnI.step3 {w w3 w4 : World} {N n : Nat} {St : List Int} {b v' : Value} {x : Int} {o : Obj} (hown : w3.ownsRow N 3 1 b n (St.map (Value.int .i64))) (hB : Below N w w3) (hN : N ≤ w3.heap.size) (hl : St.length = n)
    (hown' : w4.ownsRow N 3 1 v' (n + 1) (St.map (Value.int .i64) ++ [Value.int .i64 x])) (hg : (w3.alloc o).drew.grownBy w4 b.ownBlock) : OwnI w4 N v' (St ++ [x]) ∧ Below N w w4 := by
  subst hl
  exact ⟨by unfold OwnI; simpa using hown', (hB.alloc hN o).drew.grown hg (by simp; omega) (fun k hk => (World.ownsRow.lt hown k hk).1)⟩
theorem OwnI.fresh (w : World) (N : Nat) (xs : List Int) (hN : N ≤ w.heap.size) (hl : xs.length ≤ 100) : OwnI (w.alloc (.cells (ints .i64 xs) 3)) N (.slice (some ⟨w.heap.size, 0, none⟩) xs.length xs.length) xs :=
  ⟨by simp, .inr ⟨w.heap.size, xs.length, ints .i64 xs, rfl, hN, al_new _ _, Nat.le_refl _, by unfold maxLen; omega, by rw [ints_size]; omega, by
    simp [ints, List.take_of_length_le]⟩⟩
theorem OwnI.base {w : World} {N N' : Nat} {v : Value} {xs : List Int} (h : OwnI w N v xs) (hN : N' ≤ N) : OwnI w N' v xs := by
  refine ⟨h.1, ?_⟩
  rcases h.2 with hn | ⟨g, cap, cur, hv, hb, rest⟩
  · exact .inl hn
  · exact .inr ⟨g, cap, cur, hv, Nat.le_trans hN hb, rest⟩
theorem OwnI.drewN {w : World} {N : Nat} {v : Value} {xs : List Int} (h : OwnI w N v xs) (n : Nat) : OwnI (w.drewN n) N v xs := h
theorem take_snoc_get (xs : List Int) (k : Nat) (h : k < xs.length) : xs.take (k + 1) = xs.take k ++ [xs[k]?.getD 0] := by
  rw [List.take_succ_eq_append_getElem h, List.getElem?_eq_getElem h]; rfl
theorem getD_take (xs : List Int) (k j : Nat) (h : j < k) : (xs.take k)[j]?.getD 0 = xs[j]?.getD 0 := by
  rw [List.getElem?_take]; simp [h]
theorem wrap_small (x : Int) (h0 : -9223372036854775808 ≤ x) (h1 : x ≤ 9223372036854775807) : IntKind.i64.wrap x = x := by
  rw [IntKind.wrap_i64]; omega
def V8 (wx : World) (vb kb g t : Nat) (A B C D E F G H k x : Int) : Prop :=
  wx.cell? ⟨vb, 0, none⟩ = some (.int .i64 A) ∧ wx.cell? ⟨vb, 1, none⟩ = some (.int .i64 B) ∧ wx.cell? ⟨vb, 2, none⟩ = some (.int .i64 C) ∧ wx.cell? ⟨vb, 3, none⟩ = some (.int .i64 D) ∧
  wx.cell? ⟨vb, 4, none⟩ = some (.int .i64 E) ∧ wx.cell? ⟨vb, 5, none⟩ = some (.int .i64 F) ∧ wx.cell? ⟨vb, 6, none⟩ = some (.int .i64 G) ∧ wx.cell? ⟨vb, 7, none⟩ = some (.int .i64 H) ∧
  wx.cell? ⟨kb, t, none⟩ = some (.int .i64 k) ∧ wx.cell? ⟨g, t, none⟩ = some (.int .i64 x)
theorem ch64 (E F G : Int) (hE : W32 E) (hF : W32 F) (hG : W32 G) : bits .or .i64 (bits .and .i64 E F) (bits .and .i64 (4294967295 - E) G) = bits .or .u32 (bits .and .u32 E F) (bits .and .u32 (4294967295 - E) G) := by
  have hn : W32 (4294967295 - E) := ⟨by have := hE.2; omega, by have := hE.1; omega⟩
  rw [and_w hE hF, and_w hn hG, or_w (bits_u32 _ _ _ (by simp)) (bits_u32 _ _ _ (by simp))]
theorem maj64 (A B C : Int) (hA : W32 A) (hB : W32 B) (hC : W32 C) : bits .or .i64 (bits .or .i64 (bits .and .i64 A B) (bits .and .i64 A C)) (bits .and .i64 B C) = bits .or .u32 (bits .or .u32 (bits .and .u32 A B) (bits .and .u32 A C)) (bits .and .u32 B C) := by
  rw [and_w hA hB, and_w hA hC, and_w hB hC, or_w (bits_u32 _ _ _ (by simp)) (bits_u32 _ _ _ (by simp)), or_w (bits_u32 _ _ _ (by simp)) (bits_u32 _ _ _ (by simp))]
theorem rot3 (x a b c : Int) : bits .xor .i64 (bits .xor .i64 (rotI x a) (rotI x b)) (rotI x c) = bits .xor .u32 (bits .xor .u32 (rotI x a) (rotI x b)) (rotI x c) := by
  rw [xor_w (rot_W _ _) (rot_W _ _), xor_w (bits_u32 _ _ _ (by simp)) (rot_W _ _)]
theorem KT_W : allW KT := by
  intro x hx
  have : ∀ y ∈ KT, 0 ≤ y ∧ y ≤ 4294967295 := by decide +kernel
  exact this x hx
theorem w64 (x : Int) (h0 : -9223372036854775808 ≤ x) (h1 : x ≤ 9223372036854775807) : wrap64 x = x := by
  unfold wrap64; omega
theorem div8_W (x : Int) (k : Int) (h : W32 x) (hk : 0 < k) : W32 (x / k) := ⟨Int.ediv_nonneg h.1 (by omega), Int.le_trans (Int.ediv_le_self _ h.1) h.2⟩
theorem sg0_64 (x : Int) (h : W32 x) : bits .xor .i64 (bits .xor .i64 (rotI x 7) (rotI x 18)) (x / 8) = sg0 x := by
  rw [xor_w (rot_W _ _) (rot_W _ _), xor_w (bits_u32 _ _ _ (by simp)) (div8_W x 8 h (by decide))]; rfl
theorem sg1_64 (x : Int) (h : W32 x) : bits .xor .i64 (bits .xor .i64 (rotI x 17) (rotI x 19)) (x / 1024) = sg1 x := by
  rw [xor_w (rot_W _ _) (rot_W _ _), xor_w (bits_u32 _ _ _ (by simp)) (div8_W x 1024 h (by decide))]; rfl
theorem sg0_W (x : Int) : W32 (sg0 x) := bits_u32 _ _ _ (by simp)
theorem sg1_W (x : Int) : W32 (sg1 x) := bits_u32 _ _ _ (by simp)
set_option maxRecDepth 20000 in
set_option maxHeartbeats 2000000 in
theorem block_any (a0 b0 c0 d0 e0 f0 g0 h0 : Int) (vh : Value) (s : ByteArray) (w : World) (hw : allW [a0, b0, c0, d0, e0, f0, g0, h0]) (hs : s.size = 64)
    (hv : SlV w vh ([a0, b0, c0, d0, e0, f0, g0, h0].map (Value.int .i64))) :
    Calls Tryz.prog 57 #[vh, .string s] w fun e w' => ∃ v, e = .returned v ∧ OwnI w' w.heap.size v (mixI [a0, b0, c0, d0, e0, f0, g0, h0] (bts s)) ∧ Below w.heap.size w w' := by
  obtain ⟨i0, hi, hz0, hz1, hz2⟩ := info_parts Tryz.infoI
  obtain ⟨ah, caph, rfl, hcl⟩ := hv
  obtain ⟨hb, ho, rfl, hcl2⟩ := hcl (by simp)
  have Hcl := hid hcl2
  clear hcl hcl2
  simp only [List.map_cons, List.map_nil, List.length_cons, List.length_nil]
  have hS := bts_len s
  have HLo := hid (sched_lo (bts s) (bts_B s) (by omega))
  have HHi := hid (sched_hi (bts s))
  have hsl := sched_len (bts s)
  have hsw := sched_W (bts s)
  have Hmix : Hd (mixI [a0, b0, c0, d0, e0, f0, g0, h0] (bts s) = addw [a0, b0, c0, d0, e0, f0, g0, h0] (rnds KT (sched (bts s)) [a0, b0, c0, d0, e0, f0, g0, h0] 64) 8) := hid rfl
  generalize sched (bts s) = S at *
  go_enter Tryz.func57, Tryz.ntmps57
  go_wp2
  go_loopw [5, 6] (fun v i wr => ∃ t : Nat, t ≤ 64 ∧ i = .int .i64 t ∧ OwnI wr w.heap.size v (S.take t) ∧ Below w.heap.size w wr) (fun _ i _ => 64 - (intOf i).toNat)
  case atStart => exact ⟨0, by omega, rfl, World.ownsRow_nil _ _ _ _, Below.refl _ _⟩
  case round =>
    obtain ⟨t, ht, rfl, hown, hB⟩ := hrel
    have htl : (S.take t).length = t := by rw [List.length_take]; omega
    by_cases hlt : t < 64
    · have hsn := hid (take_snoc_get S t (by omega))
      by_cases h16 : t < 16
      · have e1 := hid (HLo.out t h16)
        generalize S.take t = St at *
        have hle : St.length ≤ 64 := by omega
        clear htl
        go_wp2_with fail
        refine (number_any _ _ (by rw [ByteArray.size_extract]; omega)).mono ?_
        rintro e w2 ⟨rfl, rfl⟩
        rw [bts_mid s (4 * t) 4 (by omega), ← e1.out]
        generalize S[t]?.getD 0 = x at *
        go_wp2_with (at_builtin; refine wpList_append_own _ rfl _ _ 32 rfl w.heap.size 3 i0 (.int .i64 0) 1 8 Tryz.underlying32 hi hz0 hz1 hz2 rfl (by decide) _ _ _ rfl (World.ownsRow.alloc hown _) ⟨w2.heap.size, 0, none⟩ 1 1 [_] rfl rfl (cell_one_new _ _ _) (fun u hu => by simp at hu; subst hu; rfl) (by unfold maxLen; omega) (by omega) (by have := hB.size; simp; omega) ?_)
        intro v' w1 hown' hgrow _
        have R := OwnI.step hown hB hB.size hown' hgrow
        clear hown' hgrow hown
        go_wp2
        exact ⟨⟨t + 1, by omega, by go_num, by rw [hsn.out]; exact R.1, R.2⟩, by simp [intOf]; omega⟩
      · obtain ⟨g, cap, rfl, hgN, hgl, hcell⟩ := hown.form (by omega)
        rw [htl] at hcell
        have c15 := hcell (t - 15) (by omega)
        have c2 := hcell (t - 2) (by omega)
        have c16 := hcell (t - 16) (by omega)
        have c7 := hcell (t - 7) (by omega)
        rw [getD_take _ _ _ (by omega)] at c15 c2 c16 c7
        have hx := allW_get S hsw (t - 15)
        have hy := allW_get S hsw (t - 2)
        have hz := allW_get S hsw (t - 16)
        have hq := allW_get S hsw (t - 7)
        have HE : Hd (S[t]?.getD 0 = (S[t - 16]?.getD 0 + sg0 (S[t - 15]?.getD 0) + S[t - 7]?.getD 0 + sg1 (S[t - 2]?.getD 0)) % 4294967296) := hid (HHi.out t (by omega) hlt)
        have i15 : (15 : Int) ≤ (t : Int) := by omega
        have i2 : (2 : Int) ≤ (t : Int) := by omega
        have i7 : (7 : Int) ≤ (t : Int) := by omega
        have i16 : (16 : Int) ≤ (t : Int) := by omega
        have j2 : ((t : Int) - 2).toNat = t - 2 := by omega
        have j7 : ((t : Int) - 7).toNat = t - 7 := by omega
        have j16 : ((t : Int) - 16).toNat = t - 16 := by omega
        have j15 : ((t : Int) - 15).toNat = t - 15 := by omega
        rw [htl] at hown ⊢
        have Hown := hid hown
        clear hown hcell
        generalize S[t - 15]?.getD 0 = x15 at *
        generalize S[t - 2]?.getD 0 = x2 at *
        generalize S[t - 16]?.getD 0 = x16 at *
        generalize S[t - 7]?.getD 0 = x7 at *
        obtain ⟨hx0, hx1⟩ := hx
        obtain ⟨hy0, hy1⟩ := hy
        go_wp2_with fail
        refine (turned_int x15 7 _ ⟨hx0, hx1⟩ (by omega) (by omega)).mono ?_
        rintro e w' ⟨rfl, m1, rfl⟩
        go_wp2_with fail
        refine (turned_int x15 18 _ ⟨hx0, hx1⟩ (by omega) (by omega)).mono ?_
        rintro e w' ⟨rfl, m2, rfl⟩
        go_wp2_with fail
        refine (low_int x15 3 _ hx0 hx1 (by omega) (by omega)).mono ?_
        rintro e w' ⟨rfl, rfl⟩
        go_wp2_with fail
        refine (turned_int x2 17 _ ⟨hy0, hy1⟩ (by omega) (by omega)).mono ?_
        rintro e w' ⟨rfl, m3, rfl⟩
        go_wp2_with fail
        refine (turned_int x2 19 _ ⟨hy0, hy1⟩ (by omega) (by omega)).mono ?_
        rintro e w' ⟨rfl, m4, rfl⟩
        go_wp2_with fail
        refine (low_int x2 10 _ hy0 hy1 (by omega) (by omega)).mono ?_
        rintro e w' ⟨rfl, rfl⟩
        go_wp2
        rw [sg0_64 x15 ⟨hx0, hx1⟩, sg1_64 x2 ⟨hy0, hy1⟩]
        obtain ⟨k0, k1⟩ := sg0_W x15
        obtain ⟨l0, l1⟩ := sg1_W x2
        obtain ⟨hz0', hz1'⟩ := hz
        obtain ⟨hq0', hq1'⟩ := hq
        generalize sg0 x15 = y0 at *
        generalize sg1 x2 = y1 at *
        have d16 : (wr.drewN (m1 + m2 + m3 + m4)).cell? ⟨g, t - 16, none⟩ = some (.int .i64 x16) := c16
        have d7 : (wr.drewN (m1 + m2 + m3 + m4)).cell? ⟨g, t - 7, none⟩ = some (.int .i64 x7) := c7
        have hB2 : Below w.heap.size w (wr.drewN (m1 + m2 + m3 + m4)) := below_drewN hB _
        have Hown2 : Hd (OwnI (wr.drewN (m1 + m2 + m3 + m4)) w.heap.size (.slice (some ⟨g, 0, none⟩) t cap) (S.take t)) := Hown
        clear c15 c2 c16 c7 Hown hB
        generalize wr.drewN (m1 + m2 + m3 + m4) = w3 at *
        generalize S.take t = St at *
        have Htl := hid htl
        have hle : St.length ≤ 64 := by omega
        clear htl
        have hN3 := hB2.size
        have own3 := Hown2.out
        unfold OwnI at own3
        rw [Htl.out] at own3
        have Own3 := hid own3
        clear own3
        have a1 := wrap_small ((t : Int) - 16) (by omega) (by omega)
        have a2 := wrap_small ((t : Int) - 7) (by omega) (by omega)
        have a3 := wrap_small (x16 + y0) (by omega) (by omega)
        have a4 := wrap_small (x16 + y0 + x7) (by omega) (by omega)
        have a5 := wrap_small (x16 + y0 + x7 + y1) (by omega) (by omega)
        have a6 : (x16 + y0 + x7 + y1).tmod 4294967296 = (x16 + y0 + x7 + y1) % 4294967296 := Int.tmod_eq_emod_of_nonneg (by omega)
        have a7 := wrap_small ((x16 + y0 + x7 + y1) % 4294967296) (by omega) (by omega)
        have o1 : (0 : Int) ≤ (t : Int) - 16 := by omega
        have o2 : (t : Int) - 16 < t := by omega
        have o3 : (0 : Int) ≤ (t : Int) - 7 := by omega
        have o4 : (t : Int) - 7 < t := by omega
        go_region_law ((refine step_append_lies _ (by rfl) (.tmp 65) (.tmp 82) 32 (by rfl) w.heap.size 3 i0 (.int .i64 0) 1 8 Tryz.underlying32 hi hz0 hz1 hz2 rfl (by decide) (.slice (some ⟨g, 0, none⟩) t cap) t _ (by rfl) (by exact World.ownsRow.alloc Own3.out _) ⟨w3.heap.size, 0, none⟩ 1 1 [_] (by rfl) rfl (by exact cell_one_new _ _ _) (fun u hu => by simp at hu; subst hu; rfl) (by decide) (by unfold maxLen; omega) (by omega) (by simp; omega) _ rfl ?_; intro g2 cap2 w4 hown2 hgrow2 hat2 hlt2))
        all_goals
          have R := OwnI.step3 Own3.out hB2 hN3 Htl.out hown2 hgrow2
          clear hown2 hgrow2 hat2 hlt2
          go_wp2
          exact ⟨⟨t + 1, by omega, by go_num, by rw [hsn.out, HE.out]; exact R.1, R.2⟩, by simp [intOf]; omega⟩
    · obtain rfl : t = 64 := by omega
      rw [List.take_of_length_le (by omega)] at hown htl
      clear hlt ht HLo HHi
      obtain ⟨g, cap, rfl, hgN, hgl, hcell⟩ := hown.form (by omega)
      have Hcell := hid hcell
      rw [htl]
      clear hcell hown htl
      go_wp2_with fail
      refine (rtable_any _).mono ?_
      rintro e w2 ⟨rfl, rfl⟩
      have hzw := hB.size
      have Hg6 : Hd (∀ j, j < S.length → (wr.alloc (.cells (ints .i64 KT) 3)).cell? ⟨g, j, none⟩ = some (.int .i64 (S[j]?.getD 0))) := hid (fun j hj => by
        have := Hcell.out j hj
        rw [World.cell?_alloc_lt _ _ _ (World.block_lt_of_cell? wr _ this)]; exact this)
      have Hk6 : Hd ((wr.alloc (.cells (ints .i64 KT) 3)).heap[wr.heap.size]? = some (.cells (ints .i64 KT) 3 (0, 0))) := hid (al_new _ _)
      have hB6 : Below w.heap.size w (wr.alloc (.cells (ints .i64 KT) 3)) := hB.alloc hzw _
      have Hnew : Hd (∀ j u, ([a0, b0, c0, d0, e0, f0, g0, h0].map (Value.int .i64))[j]? = some u → (wr.alloc (.cells (ints .i64 KT) 3)).cell? ((⟨hb, ho, none⟩ : Addr).add j) = some u) := hid (fun j u hu => by
        have := Hcl.out j u hu
        rw [Addr.add_mid, hB6.cell (World.block_lt_of_cell? w _ this)]; exact this)
      clear Hcell hB
      generalize hkt : KT = kt at *
      have hkl : kt.length = 64 := by rw [← hkt]; rfl
      have hkw : allW kt := by rw [← hkt]; exact KT_W
      have Hkt := hid hkt
      clear hkt
      generalize wr.heap.size = kb at *
      generalize (wr.alloc (.cells (ints .i64 kt) 3)) = w6 at *
      have hN6 := hB6.size
      go_wp2_with (at_builtin; refine wpList_append_own _ rfl (.tmp 85) (.tmp 86) 32 rfl w.heap.size 3 i0 (.int .i64 0) 1 8 Tryz.underlying32 hi hz0 hz1 hz2 rfl (by decide) (.slice none 0 0) 0 [] rfl (World.ownsRow_nil _ _ _ _) ⟨hb, ho, none⟩ 8 caph ([a0, b0, c0, d0, e0, f0, g0, h0].map (Value.int .i64)) rfl rfl Hnew.out (one_ints _ _) (by unfold maxLen; omega) (by omega) (by omega) ?_; intro v7 w7 hown7 hgrow7 _)
      have own7 : OwnI w7 w.heap.size v7 [a0, b0, c0, d0, e0, f0, g0, h0] := by unfold OwnI; simpa using hown7
      have gb : ∀ k, k < w6.heap.size → w7.heap[k]? = w6.heap[k]? := fun k hk => hgrow7.block k hk (by simp [Value.ownBlock])
      have hB7 : Below w.heap.size w w7 := hB6.trans ⟨hgrow7.os, hgrow7.tape, hgrow7.output, hgrow7.size, fun k hk => gb k (by omega)⟩
      have Hg7 : Hd (∀ j, j < 64 → w7.cell? ⟨g, j, none⟩ = some (.int .i64 (S[j]?.getD 0))) := hid (fun j hj => by
        have := Hg6.out j (by omega)
        rw [World.cell?_of_block (w := w6) (gb g (World.block_lt_of_cell? w6 _ this))]; exact this)
      have Hk7 : Hd (∀ j, j < 64 → w7.cell? ⟨kb, j, none⟩ = some (.int .i64 (kt[j]?.getD 0))) := hid (fun j hj => by
        have hlt := (Array.getElem?_eq_some_iff.1 Hk6.out).1
        rw [World.cell?_of_block (w := w6) (gb kb hlt)]; exact (cells_of _ _ _ _ _ Hk6.out).1 j (by omega))
      have Hh7 : Hd (∀ j, j < 8 → w7.cell? ⟨hb, ho + j, none⟩ = some (.int .i64 ([a0, b0, c0, d0, e0, f0, g0, h0][j]?.getD 0))) := hid (fun j hj => by
        have := Hcl.out j (.int .i64 ([a0, b0, c0, d0, e0, f0, g0, h0][j]?.getD 0)) (by rw [List.getElem?_map, List.getElem?_eq_getElem (by simpa using hj)]; rfl)
        rw [hB7.cell (World.block_lt_of_cell? w _ this)]; exact this)
      have own7' := hid own7
      have HB7 := hid hB7
      clear Hg6 Hk6 Hnew hB6 hown7 hgrow7 gb own7 hB7 Hcl hN6
      go_loopw [12, 13] (fun v i wx => ∃ t : Nat, t ≤ 64 ∧ i = .int .i64 t ∧ ∃ A B C D E F G H : Int, rnds kt S [a0, b0, c0, d0, e0, f0, g0, h0] t = [A, B, C, D, E, F, G, H] ∧ allW [A, B, C, D, E, F, G, H] ∧ OwnI wx w.heap.size v [A, B, C, D, E, F, G, H] ∧ Below w7.heap.size w7 wx) (fun _ i _ => 64 - (intOf i).toNat)
      case atStart => exact ⟨0, by omega, rfl, _, _, _, _, _, _, _, _, rfl, hw, own7'.out, Below.refl _ _⟩
      case round =>
        obtain ⟨t, ht, rfl, A, B, C, D, E, F, G, H, hR, hW, hown, hBx⟩ := hrel
        obtain ⟨vb, capv, rfl, hvN, hvl, hcell⟩ := hown.form (by simp)
        have h8 : [A, B, C, D, E, F, G, H].length = 8 := rfl
        rw [h8] at hcell ⊢
        clear h8
        by_cases hlt : t < 64
        · have kx := Hk7.out t hlt
          have gx := Hg7.out t hlt
          have hV : V8 wr vb kb g t A B C D E F G H (kt[t]?.getD 0) (S[t]?.getD 0) := ⟨hcell 0 (by omega), hcell 1 (by omega), hcell 2 (by omega), hcell 3 (by omega), hcell 4 (by omega), hcell 5 (by omega), hcell 6 (by omega), hcell 7 (by omega),
            by rw [hBx.cell (World.block_lt_of_cell? w7 _ kx)]; exact kx, by rw [hBx.cell (World.block_lt_of_cell? w7 _ gx)]; exact gx⟩
          have HV := hid hV
          obtain ⟨q0, q1, q2, q3, q4, q5, q6, q7, q8, q9⟩ := hV
          have HR := hid hR
          clear hR hcell kx gx
          have wA := hW A (by simp)
          have wB := hW B (by simp)
          have wC := hW C (by simp)
          have wD := hW D (by simp)
          have wE := hW E (by simp)
          have wF := hW F (by simp)
          have wG := hW G (by simp)
          have wH := hW H (by simp)
          have wX := allW_get S hsw t
          have wK := allW_get kt hkw t
          have Hst : Hd (rnds kt S [a0, b0, c0, d0, e0, f0, g0, h0] (t + 1) = rstep [A, B, C, D, E, F, G, H] (kt[t]?.getD 0) (S[t]?.getD 0)) := hid (by rw [rnds, HR.out])
          generalize kt[t]?.getD 0 = kv at *
          generalize S[t]?.getD 0 = xv at *
          rw [rstep_ref A B C D E F G H kv xv hW] at Hst
          obtain ⟨hA0, hA1⟩ := wA
          obtain ⟨hB0, hB1⟩ := wB
          obtain ⟨hC0, hC1⟩ := wC
          obtain ⟨hD0, hD1⟩ := wD
          obtain ⟨hE0, hE1⟩ := wE
          obtain ⟨hF0, hF1⟩ := wF
          obtain ⟨hG0, hG1⟩ := wG
          obtain ⟨hH0, hH1⟩ := wH
          obtain ⟨hX0, hX1⟩ := wX
          obtain ⟨hK0, hK1⟩ := wK
          go_wp2
          go_quiet (fail)
          go_wp2
          rw [ch64 E F G ⟨hE0, hE1⟩ ⟨hF0, hF1⟩ ⟨hG0, hG1⟩]
          obtain ⟨y0, y1⟩ := bits_u32 .or (bits .and .u32 E F) (bits .and .u32 (4294967295 - E) G) (by simp)
          generalize bits .or .u32 (bits .and .u32 E F) (bits .and .u32 (4294967295 - E) G) = ch at *
          have HV2 : Hd (V8 (wr.drewN nq) vb kb g t A B C D E F G H kv xv) := HV
          have hB2 : Below w7.heap.size w7 (wr.drewN nq) := below_drewN hBx _
          clear q0 q1 q2 q3 q4 q5 q6 q7 q8 q9 hBx HV hown
          generalize wr.drewN nq = w8 at *
          obtain ⟨q0, q1, q2, q3, q4, q5, q6, q7, q8, q9⟩ := HV2.out
          go_quiet ((go_at_call 81; exact Calls.quiet_of (turned_int E _ _ ⟨hE0, hE1⟩ (by omega) (by omega))))
          go_wp2
          rw [rot3 E 6 11 25]
          have z0 := rot_W E 6
          obtain ⟨r0, r1⟩ := bits_u32 .xor (bits .xor .u32 (rotI E 6) (rotI E 11)) (rotI E 25) (by simp)
          generalize bits .xor .u32 (bits .xor .u32 (rotI E 6) (rotI E 11)) (rotI E 25) = s1v at *
          clear z0
          have HV3 : Hd (V8 (w8.drewN nq) vb kb g t A B C D E F G H kv xv) := HV2
          have hB3 : Below w7.heap.size w7 (w8.drewN nq) := below_drewN hB2 _
          clear q0 q1 q2 q3 q4 q5 q6 q7 q8 q9 hB2 HV2
          generalize w8.drewN nq = w9 at *
          obtain ⟨q0, q1, q2, q3, q4, q5, q6, q7, q8, q9⟩ := HV3.out
          go_quiet (fail)
          go_wp2_with fail
          refine (turned_int A 2 _ ⟨hA0, hA1⟩ (by omega) (by omega)).mono ?_
          rintro e w' ⟨rfl, m1, rfl⟩
          go_wp2_with fail
          refine (turned_int A 13 _ ⟨hA0, hA1⟩ (by omega) (by omega)).mono ?_
          rintro e w' ⟨rfl, m2, rfl⟩
          go_wp2_with fail
          refine (turned_int A 22 _ ⟨hA0, hA1⟩ (by omega) (by omega)).mono ?_
          rintro e w' ⟨rfl, m3, rfl⟩
          go_wp2
          rw [rot3 A 2 13 22, maj64 A B C ⟨hA0, hA1⟩ ⟨hB0, hB1⟩ ⟨hC0, hC1⟩]
          obtain ⟨r2, r3⟩ := bits_u32 .xor (bits .xor .u32 (rotI A 2) (rotI A 13)) (rotI A 22) (by simp)
          generalize bits .xor .u32 (bits .xor .u32 (rotI A 2) (rotI A 13)) (rotI A 22) = s2v at *
          obtain ⟨r4, r5⟩ := bits_u32 .or (bits .or .u32 (bits .and .u32 A B) (bits .and .u32 A C)) (bits .and .u32 B C) (by simp)
          generalize bits .or .u32 (bits .or .u32 (bits .and .u32 A B) (bits .and .u32 A C)) (bits .and .u32 B C) = mj at *
          rw [w64 (H + s1v) (by omega) (by omega), w64 (H + s1v + ch) (by omega) (by omega), w64 (H + s1v + ch + kv) (by omega) (by omega), w64 (H + s1v + ch + kv + xv) (by omega) (by omega), w64 (s2v + mj) (by omega) (by omega)]
          have u1 : 0 ≤ H + s1v + ch + kv + xv := by omega
          have u2 : H + s1v + ch + kv + xv ≤ 21474836475 := by omega
          have u3 : 0 ≤ s2v + mj := by omega
          have u4 : s2v + mj ≤ 8589934590 := by omega
          generalize H + s1v + ch + kv + xv = T1 at *
          generalize s2v + mj = T2 at *
          have HV4 : Hd (V8 (w9.drewN (nq + m1 + m2 + m3)) vb kb g t A B C D E F G H kv xv) := HV3
          have hB4 : Below w7.heap.size w7 (w9.drewN (nq + m1 + m2 + m3)) := below_drewN hB3 _
          clear q0 q1 q2 q3 q4 q5 q6 q7 q8 q9 hB3 HV3
          generalize w9.drewN (nq + m1 + m2 + m3) = w10 at *
          obtain ⟨q0, q1, q2, q3, q4, q5, q6, q7, q8, q9⟩ := HV4.out
          clear q8 q9
          have a1 := wrap_small (T1 + T2) (by omega) (by omega)
          have a2 : (T1 + T2).tmod 4294967296 = (T1 + T2) % 4294967296 := Int.tmod_eq_emod_of_nonneg (by omega)
          have a3 := wrap_small ((T1 + T2) % 4294967296) (by omega) (by omega)
          have a4 := wrap_small (D + T1) (by omega) (by omega)
          have a5 : (D + T1).tmod 4294967296 = (D + T1) % 4294967296 := Int.tmod_eq_emod_of_nonneg (by omega)
          have a6 := wrap_small ((D + T1) % 4294967296) (by omega) (by omega)
          have hN10 : w.heap.size ≤ w10.heap.size := Nat.le_trans HB7.out.size hB4.size
          go_region
          go_wp2
          have fr := OwnI.fresh w10 w.heap.size [(T1 + T2) % 4294967296, A, B, C, (D + T1) % 4294967296, E, F, G] hN10 (by simp)
          refine ⟨⟨t + 1, by omega, by go_num, _, _, _, _, _, _, _, _, Hst.out, allW_step A B C D E F G H _ _ hW, fr, (hB4.alloc hB4.size _).drew⟩, by simp [intOf]; omega⟩
        · obtain rfl : t = 64 := by omega
          clear hlt ht
          rw [show ((64 : Nat) : Int) = 64 from rfl]
          have HR := hid hR
          have Hmx : Hd (mixI [a0, b0, c0, d0, e0, f0, g0, h0] (bts s) = [(a0 + A) % 4294967296, (b0 + B) % 4294967296, (c0 + C) % 4294967296, (d0 + D) % 4294967296, (e0 + E) % 4294967296, (f0 + F) % 4294967296, (g0 + G) % 4294967296, (h0 + H) % 4294967296]) :=
            hid (by rw [Hmix.out, hR, addw8])
          have Hv := hid hcell
          have HW := hid hW
          have Hw := hid hw
          clear hR hcell hown hW hw Hg7 Hk7 Hmix
          have hml : (mixI [a0, b0, c0, d0, e0, f0, g0, h0] (bts s)).length = 8 := mixI_len _ _
          generalize hMM : mixI [a0, b0, c0, d0, e0, f0, g0, h0] (bts s) = M at *
          have HM := hid hMM
          clear hMM
          obtain ⟨wz, hwz⟩ : ∃ wz, wz = wr := ⟨_, rfl⟩
          subst hwz
          go_wp2
          have hBr := HB7.out.trans (hBx.mono HB7.out.size)
          have hMi : Hd (∀ i, i < 8 → M[i]?.getD 0 = ([a0, b0, c0, d0, e0, f0, g0, h0][i]?.getD 0 + [A, B, C, D, E, F, G, H][i]?.getD 0) % 4294967296) := hid (fun i hi => by
            rw [Hmx.out]
            have : i = 0 ∨ i = 1 ∨ i = 2 ∨ i = 3 ∨ i = 4 ∨ i = 5 ∨ i = 6 ∨ i = 7 := by omega
            rcases this with rfl | rfl | rfl | rfl | rfl | rfl | rfl | rfl <;> rfl)
          go_loopw [20, 21] (fun v i wx => ∃ j : Nat, j ≤ 8 ∧ i = .int .i64 j ∧ OwnI wx wz.heap.size v (M.take j) ∧ Below wz.heap.size wz wx) (fun _ i _ => 8 - (intOf i).toNat)
          case atStart => exact ⟨0, by omega, rfl, World.ownsRow_nil _ _ _ _, Below.refl _ _⟩
          case round =>
            obtain ⟨j, hj, rfl, hown, hBy⟩ := hrel
            have hjl : (M.take j).length = j := by rw [List.length_take]; omega
            by_cases hlt : j < 8
            · have hx := Hh7.out j hlt
              have hx1 : wz.cell? ⟨hb, ho + j, none⟩ = _ := (hBx.cell (World.block_lt_of_cell? w7 _ hx)).trans hx
              have hx2 : wr.cell? ⟨hb, ho + j, none⟩ = _ := (hBy.cell (World.block_lt_of_cell? wz _ hx1)).trans hx1
              have hy := Hv.out j hlt
              have hy2 : wr.cell? ⟨vb, j, none⟩ = _ := (hBy.cell (World.block_lt_of_cell? wz _ hy)).trans hy
              have HMj := hid (hMi.out j hlt)
              have hsn := hid (take_snoc_get M j (by omega))
              have b1 := allW_get _ Hw.out j
              have b2 := allW_get _ HW.out j
              clear hx hx1 hy
              generalize [a0, b0, c0, d0, e0, f0, g0, h0][j]?.getD 0 = xh at *
              generalize [A, B, C, D, E, F, G, H][j]?.getD 0 = xv at *
              obtain ⟨b3, b4⟩ := b1
              obtain ⟨b5, b6⟩ := b2
              generalize M.take j = Mt at *
              have Htl := hid hjl
              have hle : Mt.length ≤ 8 := by omega
              have own3 : wr.ownsRow wz.heap.size 3 1 u20 j (Mt.map (Value.int .i64)) := by have := hown; unfold OwnI at this; rw [hjl] at this; exact this
              have Own3 := hid own3
              clear own3 hown hjl
              have hN3 := hBy.size
              have a1 := wrap_small (xh + xv) (by omega) (by omega)
              have a2 : (xh + xv).tmod 4294967296 = (xh + xv) % 4294967296 := Int.tmod_eq_emod_of_nonneg (by omega)
              have a3 := wrap_small ((xh + xv) % 4294967296) (by omega) (by omega)
              have o1 : (j : Int) < 8 := by omega
              go_wp2
              go_region_law ((refine step_append_lies _ (by rfl) (.tmp 192) (.tmp 203) 32 (by rfl) wz.heap.size 3 i0 (.int .i64 0) 1 8 Tryz.underlying32 hi hz0 hz1 hz2 rfl (by decide) u20 j _ (by rfl) (by exact World.ownsRow.alloc Own3.out _) ⟨wr.heap.size, 0, none⟩ 1 1 [_] (by rfl) rfl (by exact cell_one_new _ _ _) (fun u hu => by simp at hu; subst hu; rfl) (by decide) (by unfold maxLen; omega) (by omega) (by simp; omega) _ rfl ?_; intro g2 cap2 w4 hown2 hgrow2 hat2 hlt2))
              all_goals
                have R := OwnI.step3 Own3.out hBy hN3 Htl.out hown2 hgrow2
                clear hown2 hgrow2 hat2 hlt2
                go_wp2
                exact ⟨⟨j + 1, by omega, by go_num, by rw [hsn.out, HMj.out]; exact R.1, R.2⟩, by simp [intOf]; omega⟩
            · obtain rfl : j = 8 := by omega
              rw [List.take_of_length_le (by omega)] at hown
              go_wp2
              go_ret
              exact ⟨_, rfl, by rw [HM.out]; exact hown.base hBr.size, hBr.trans (hBy.mono hBr.size)⟩
end Go.Proofs.YtbifmhbkmnofiaaGreat
