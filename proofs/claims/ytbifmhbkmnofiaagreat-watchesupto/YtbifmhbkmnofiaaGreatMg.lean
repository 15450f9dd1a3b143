import Derived.Test.YtbifmhbkmnofiaaGreatMf
import Derived.Deep.OwnRows
namespace Go.Proofs.YtbifmhbkmnofiaaGreat
open Go.RowKit
set_option linter.unusedVariables false
set_option linter.unusedSimpArgs false
theorem toNat_W {x : Int} (h : W32 x) : ∃ n : Nat, x = n ∧ n < 4294967296 := ⟨x.toNat, by have := h.1; omega, by have := h.2; omega⟩
theorem and32 (a b : Nat) (ha : a < 4294967296) (hb : b < 4294967296) : bits .and .u32 (a : Int) (b : Int) = ((a &&& b : Nat) : Int) := by
  show IntKind.u32.wrap ((BitVec.ofInt 32 (a : Int) &&& BitVec.ofInt 32 (b : Int)).toNat : Int) = _
  rw [BitVec.toNat_and, ofInt_u32 a ha, ofInt_u32 b hb, IntKind.wrap_u32']
  have : a &&& b < 2 ^ 32 := Nat.and_lt_two_pow _ (by omega)
  omega
theorem or32 (a b : Nat) (ha : a < 4294967296) (hb : b < 4294967296) : bits .or .u32 (a : Int) (b : Int) = ((a ||| b : Nat) : Int) := by
  show IntKind.u32.wrap ((BitVec.ofInt 32 (a : Int) ||| BitVec.ofInt 32 (b : Int)).toNat : Int) = _
  rw [BitVec.toNat_or, ofInt_u32 a ha, ofInt_u32 b hb, IntKind.wrap_u32']
  have : a ||| b < 2 ^ 32 := Nat.or_lt_two_pow (by omega) (by omega)
  omega
theorem xor32 (a b : Nat) (ha : a < 4294967296) (hb : b < 4294967296) : bits .xor .u32 (a : Int) (b : Int) = ((a ^^^ b : Nat) : Int) := by
  show IntKind.u32.wrap ((BitVec.ofInt 32 (a : Int) ^^^ BitVec.ofInt 32 (b : Int)).toNat : Int) = _
  rw [BitVec.toNat_xor, ofInt_u32 a ha, ofInt_u32 b hb, IntKind.wrap_u32']
  have : a ^^^ b < 2 ^ 32 := Nat.xor_lt_two_pow (by omega) (by omega)
  omega
theorem wrapi64 (n : Nat) (h : n < 4294967296) : IntKind.i64.wrap (n : Int) = n := by
  simp [IntKind.wrap, IntKind.bits, IntKind.signed]; omega
theorem and64 (a b : Nat) (ha : a < 4294967296) (hb : b < 4294967296) : bits .and .i64 (a : Int) (b : Int) = ((a &&& b : Nat) : Int) := by
  show IntKind.i64.wrap ((BitVec.ofInt 64 (a : Int) &&& BitVec.ofInt 64 (b : Int)).toNat : Int) = _
  rw [BitVec.toNat_and, ofInt_u64 a (by omega), ofInt_u64 b (by omega)]
  exact wrapi64 _ (by have : a &&& b < 2 ^ 32 := Nat.and_lt_two_pow _ (by omega); omega)
theorem or64 (a b : Nat) (ha : a < 4294967296) (hb : b < 4294967296) : bits .or .i64 (a : Int) (b : Int) = ((a ||| b : Nat) : Int) := by
  show IntKind.i64.wrap ((BitVec.ofInt 64 (a : Int) ||| BitVec.ofInt 64 (b : Int)).toNat : Int) = _
  rw [BitVec.toNat_or, ofInt_u64 a (by omega), ofInt_u64 b (by omega)]
  exact wrapi64 _ (by have : a ||| b < 2 ^ 32 := Nat.or_lt_two_pow (by omega) (by omega); omega)
theorem xor64 (a b : Nat) (ha : a < 4294967296) (hb : b < 4294967296) : bits .xor .i64 (a : Int) (b : Int) = ((a ^^^ b : Nat) : Int) := by
  show IntKind.i64.wrap ((BitVec.ofInt 64 (a : Int) ^^^ BitVec.ofInt 64 (b : Int)).toNat : Int) = _
  rw [BitVec.toNat_xor, ofInt_u64 a (by omega), ofInt_u64 b (by omega)]
  exact wrapi64 _ (by have : a ^^^ b < 2 ^ 32 := Nat.xor_lt_two_pow (by omega) (by omega); omega)
/-- on words the two widths agree -/
theorem and_w {a b : Int} (ha : W32 a) (hb : W32 b) : bits .and .i64 a b = bits .and .u32 a b := by
  obtain ⟨m, rfl, hm⟩ := toNat_W ha; obtain ⟨n, rfl, hn⟩ := toNat_W hb; rw [and32 m n hm hn, and64 m n hm hn]
theorem or_w {a b : Int} (ha : W32 a) (hb : W32 b) : bits .or .i64 a b = bits .or .u32 a b := by
  obtain ⟨m, rfl, hm⟩ := toNat_W ha; obtain ⟨n, rfl, hn⟩ := toNat_W hb; rw [or32 m n hm hn, or64 m n hm hn]
theorem xor_w {a b : Int} (ha : W32 a) (hb : W32 b) : bits .xor .i64 a b = bits .xor .u32 a b := by
  obtain ⟨m, rfl, hm⟩ := toNat_W ha; obtain ⟨n, rfl, hn⟩ := toNat_W hb; rw [xor32 m n hm hn, xor64 m n hm hn]
theorem rot_W (x n : Int) : W32 (rotI x n) := bits_u32 _ _ _ (by simp)
/-- a rotation by products and quotients -/
theorem rot_eq (x : Int) (h : W32 x) (k : Nat) (h1 : 1 ≤ k) (h2 : k ≤ 31) : x / 2 ^ k + x % 2 ^ k * 2 ^ (32 - k) = rotI x k := by
  obtain ⟨m, rfl, hm⟩ := toNat_W h
  unfold rotI
  have e1 : (32 - (k : Int)).toNat = 32 - k := by omega
  have e2 : ((k : Int)).toNat = k := by omega
  rw [e1, e2]
  have hp : 2 ^ k * 2 ^ (32 - k) = 4294967296 := by rw [← Nat.pow_add, show k + (32 - k) = 32 by omega]
  have hm2 : m * 2 ^ (32 - k) % 4294967296 = m % 2 ^ k * 2 ^ (32 - k) := by
    rw [← hp, Nat.mul_mod_mul_right]
  have hA : ((m : Int) * 2 ^ (32 - k) % 4294967296) = ((m % 2 ^ k * 2 ^ (32 - k) : Nat) : Int) := by
    rw [← hm2]; simp
  have hB : ((m : Int) / 2 ^ k) = ((m / 2 ^ k : Nat) : Int) := by simp
  have hlt1 : m % 2 ^ k * 2 ^ (32 - k) < 4294967296 := by rw [← hm2]; exact Nat.mod_lt _ (by decide)
  have hlt2 : m / 2 ^ k < 2 ^ (32 - k) := Nat.div_lt_of_lt_mul (by rw [hp]; exact hm)
  have hlt3 : m / 2 ^ k < 4294967296 := Nat.lt_of_le_of_lt (Nat.div_le_self _ _) hm
  rw [hA, hB, or32 _ _ hlt1 hlt3]
  have hor : m % 2 ^ k * 2 ^ (32 - k) ||| m / 2 ^ k = m % 2 ^ k * 2 ^ (32 - k) + m / 2 ^ k := by
    rw [Nat.mul_comm, Nat.two_pow_add_eq_or_of_lt hlt2]
  rw [hor]
  simp
  omega
theorem not_eq (e : Int) (h : W32 e) : bits .xor .u32 (if IntKind.u32.signed = true then -1 else IntKind.u32.max) e = 4294967295 - e := by
  obtain ⟨m, rfl, hm⟩ := toNat_W h
  have h1 : (if IntKind.u32.signed = true then (-1 : Int) else IntKind.u32.max) = ((4294967295 : Nat) : Int) := by decide
  rw [h1, xor32 4294967295 m (by decide) hm]
  have h2 : 4294967295 ^^^ m = 4294967295 - m := by
    have h3 := BitVec.toNat_not (x := BitVec.ofNat 32 m)
    rw [← BitVec.allOnes_xor, BitVec.toNat_xor, BitVec.toNat_allOnes, BitVec.toNat_ofNat, Nat.mod_eq_of_lt (show m < 2 ^ 32 by omega)] at h3
    exact h3
  rw [h2]; omega
theorem pow_bd (n : Nat) (h : n ≤ 32) : (1 : Int) ≤ 2 ^ n ∧ (2 : Int) ^ n ≤ 4294967296 := by
  constructor
  · have := Nat.one_le_two_pow (n := n)
    have e : ((2 : Int) ^ n) = ((2 ^ n : Nat) : Int) := by simp
    rw [e]; omega
  · have := Nat.pow_le_pow_right (n := 2) (by decide) h
    have e : ((2 : Int) ^ n) = ((2 ^ n : Nat) : Int) := by simp
    rw [e]; omega
theorem wrap_pow (n : Nat) (h : n ≤ 32) : IntKind.i64.wrap (2 ^ n) = 2 ^ n := by
  obtain ⟨h1, h2⟩ := pow_bd n h
  generalize (2 : Int) ^ n = y at *
  simp [IntKind.wrap, IntKind.bits, IntKind.signed]; omega
set_option maxHeartbeats 400000 in
theorem low_any (x : Int) (n : Nat) (w : World) (hx : 0 ≤ x) (hx' : x ≤ 4294967295) (hn : n ≤ 32) :
    Calls Tryz.prog 82 #[.int .i64 x, .int .i64 n] w fun e w' => e = .returned (.int .i64 (x / 2 ^ n)) ∧ w' = w := by
  have hw := wrap_pow n hn
  have hpos : (0 : Int) < 2 ^ n := (pow_bd n hn).1
  go_enter Tryz.func82, Tryz.ntmps82
  go_wp2
  go_ret
  exact ⟨rfl, rfl⟩
theorem div_pow (n : Nat) (h : n ≤ 32) : (4294967296 : Int) / 2 ^ n = 2 ^ (32 - n) := by
  have hp : (2 : Int) ^ n * 2 ^ (32 - n) = 4294967296 := by rw [← Int.pow_add, show n + (32 - n) = 32 by omega]; rfl
  rw [← hp]
  exact Int.mul_ediv_cancel_left _ (by have := (pow_bd n h).1; omega)
theorem rot_raw (x : Int) (h : W32 x) (n : Nat) (h1 : 1 ≤ n) (h2 : n ≤ 31) : x / 2 ^ n + x % 2 ^ n * (4294967296 / 2 ^ n) = rotI x n := by
  rw [div_pow n (by omega)]; exact rot_eq x h n h1 h2
theorem rot_part (x : Int) (h : W32 x) (n : Nat) (h1 : 1 ≤ n) (h2 : n ≤ 31) : 0 ≤ x % 2 ^ n * (4294967296 / 2 ^ n) ∧ x % 2 ^ n * (4294967296 / 2 ^ n) ≤ 4294967295 ∧ 0 ≤ x / 2 ^ n ∧ x / 2 ^ n ≤ 4294967295 := by
  have e := rot_raw x h n h1 h2
  have r := rot_W x n
  have hb := pow_bd n (by omega)
  have d1 : 0 ≤ x / 2 ^ n := Int.ediv_nonneg h.1 (by omega)
  have d2 : x / 2 ^ n ≤ x := Int.ediv_le_self _ h.1
  have m1 : 0 ≤ x % 2 ^ n := Int.emod_nonneg _ (by omega)
  have m2 : 0 ≤ (4294967296 : Int) / 2 ^ n := Int.ediv_nonneg (by decide) (by omega)
  have m3 := Int.mul_nonneg m1 m2
  have := r.2
  have := h.2
  refine ⟨m3, by omega, d1, by omega⟩
set_option maxHeartbeats 400000 in
theorem turned_any (x : Int) (n : Nat) (w : World) (hx : W32 x) (hn1 : 1 ≤ n) (hn2 : n ≤ 31) :
    Calls Tryz.prog 81 #[.int .i64 x, .int .i64 n] w fun e w' => e = .returned (.int .i64 (rotI x n)) ∧ ∃ m, w' = w.drewN m := by
  have hw := wrap_pow n (by omega)
  have hpos : (0 : Int) < 2 ^ n := (pow_bd n (by omega)).1
  have hle : (2 : Int) ^ n ≤ 4294967296 := (pow_bd n (by omega)).2
  obtain ⟨p1, p2, p3, p4⟩ := rot_part x hx n hn1 hn2
  have hx0 := hx.1
  have hx1 := hx.2
  have HR := hid (rot_raw x hx n hn1 hn2)
  go_enter Tryz.func81, Tryz.ntmps81
  go_wp2
  go_quiet ((go_at_call 82; exact Calls.quiet_of_same (low_any _ _ _ hx0 hx1 (by omega))))
  go_wp2
  go_ret
  exact ⟨by rw [← HR.out]; rfl, nq, rfl⟩
end Go.Proofs.YtbifmhbkmnofiaaGreat
namespace Go.Proofs.YtbifmhbkmnofiaaGreat
open Go.RowKit
set_option linter.unusedVariables false
set_option linter.unusedSimpArgs false
theorem low_int (x n : Int) (w : World) (hx : 0 ≤ x) (hx' : x ≤ 4294967295) (h0 : 0 ≤ n) (hn : n ≤ 32) :
    Calls Tryz.prog 82 #[.int .i64 x, .int .i64 n] w fun e w' => e = .returned (.int .i64 (x / 2 ^ n.toNat)) ∧ w' = w := by
  obtain ⟨k, rfl⟩ := Int.eq_ofNat_of_zero_le h0
  rw [Int.toNat_natCast]
  exact low_any x k w hx hx' (by omega)
theorem turned_int (x n : Int) (w : World) (hx : W32 x) (hn1 : 1 ≤ n) (hn2 : n ≤ 31) :
    Calls Tryz.prog 81 #[.int .i64 x, .int .i64 n] w fun e w' => e = .returned (.int .i64 (rotI x n)) ∧ ∃ m, w' = w.drewN m := by
  obtain ⟨k, rfl⟩ := Int.eq_ofNat_of_zero_le (show 0 ≤ n by omega)
  exact turned_any x k w hx (by omega) (by omega)
def numI (l : List Int) : Int := l.foldl (fun n b => 256 * n + b) 0
theorem numI_snoc (l : List Int) (b : Int) : numI (l ++ [b]) = 256 * numI l + b := by simp [numI]
theorem num_fold (l : List Int) : ∀ n : Int, 0 ≤ n → allB l → 0 ≤ l.foldl (fun n b => 256 * n + b) n ∧ l.foldl (fun n b => 256 * n + b) n < (n + 1) * 256 ^ l.length := by
  induction l with
  | nil => intro n hn _; simp; omega
  | cons b l ih =>
    intro n hn h
    have hb := h b (by simp)
    obtain ⟨i1, i2⟩ := ih (256 * n + b) (by omega) (fun x hx => h x (by simp [hx]))
    refine ⟨i1, Int.lt_of_lt_of_le i2 ?_⟩
    rw [List.length_cons, Int.pow_succ, Int.mul_comm (256 ^ l.length) 256, ← Int.mul_assoc]
    exact Int.mul_le_mul_of_nonneg_right (by omega) (Int.pow_nonneg (by decide))
theorem numI_bd (l : List Int) (h : allB l) : 0 ≤ numI l ∧ numI l < 256 ^ l.length := by
  have := num_fold l 0 (by decide) h
  simpa [numI] using this
theorem take_snoc_bts (s : ByteArray) (k : Nat) (h : k < s.size) : (bts s).take (k + 1) = (bts s).take k ++ [((s[k]).toNat : Int)] := by
  have hk : k < (bts s).length := by rw [bts_len]; exact h
  rw [List.take_succ_eq_append_getElem hk]
  have := bts_get s k h
  rw [List.getElem?_eq_getElem hk] at this
  simp at this
  rw [this]
theorem allB_take {l : List Int} (h : allB l) (k : Nat) : allB (l.take k) := fun x hx => h x (List.mem_of_mem_take hx)
set_option maxHeartbeats 400000 in
theorem number_any (s : ByteArray) (w : World) (hs : s.size ≤ 4) :
    Calls Tryz.prog 80 #[.string s] w fun e w' => e = .returned (.int .i64 (numI (bts s))) ∧ w' = w := by
  go_enter Tryz.func80, Tryz.ntmps80
  go_wp2
  go_loop [3, 4] (fun n i => ∃ k : Nat, k ≤ s.size ∧ i = .int .i64 k ∧ n = .int .i64 (numI ((bts s).take k))) (fun _ i => s.size - (intOf i).toNat)
  case atStart => exact ⟨0, Nat.zero_le _, rfl, rfl⟩
  case round =>
    obtain ⟨k, hk, rfl, rfl⟩ := hrel
    have hb := numI_bd _ (allB_take (bts_B s) k)
    have hl : ((bts s).take k).length = k := by rw [List.length_take, bts_len]; omega
    rw [hl] at hb
    have hp : (256 : Int) ^ k ≤ 256 ^ 4 := by
      have := Nat.pow_le_pow_right (n := 256) (by decide) (show k ≤ 4 by omega)
      have e : ((256 : Int) ^ k) = ((256 ^ k : Nat) : Int) := by simp
      rw [e]; omega
    have hb1 : 0 ≤ numI ((bts s).take k) := hb.1
    have hb2 : numI ((bts s).take k) ≤ 4294967296 := by have := hb.2; omega
    clear hb hp hl
    by_cases hlt : k < s.size
    · have hsn := hid (take_snoc_bts s k hlt)
      have hu := (s[k]).toNat_lt
      have hu1 : ((s[k]).toNat : Int) < 256 := by omega
      generalize (bts s).take k = l at *
      go_wp2
      go_round
      case rel => exact ⟨k + 1, by omega, by go_num, by rw [hsn.out, numI_snoc]⟩
      case measure => simp [intOf]; omega
    · go_wp2
      go_ret
      exact ⟨by rw [List.take_of_length_le (by rw [bts_len]; omega)]; rfl, rfl⟩
theorem madeCells_zeros (n : Nat) : madeCells #[Value.int .u8 0] n = ints .u8 (zeros n) := by
  apply Array.ext
  · simp [madeCells, ints, zeros]
  · intro i h1 h2
    simp [madeCells, ints, zeros, Nat.mod_one]
theorem wpList_makeB {ops : Array Oper} {rest : List Oper} {o : Oper} {a : Act} {w : World} {Q : Exit → Act → World → Prop} (hgd : o.guard = none) (x y : Operand) (ho : o.op = .makeSlice 41 x y) (n : Nat) (hn : n ≤ 1099511627776) (hx : a.eval x = .int .i64 n) (hy : a.eval y = .int .i64 n)
    (h : wpList Tryz.prog ops Q rest (a.put o.dst (.slice (some ⟨w.heap.size, 0, none⟩) n n)) (w.alloc (.cells (ints .u8 (zeros n)) 5))) : wpList Tryz.prog ops Q (o :: rest) a w :=
  wpList_plain hgd fun _ hK => by
    unfold Oper.wp execOp
    simp only [ho, hx, hy, Sem.run_bind, run_make_row' 41 5 (.int .u8 0) 1 Tryz.underlying41 Tryz.infoB rfl .i64 .i64 n (by omega) (by omega) w, Result.andThen_ok, Sem.run_pure]
    rw [madeCells_zeros]
    exact hK _ _ h
set_option maxHeartbeats 400000 in
theorem zeros_any (n : Nat) (w : World) (hn : n ≤ 1000) :
    Calls Tryz.prog 54 #[.int .i64 n] w fun e w' => e = .returned (.string (toS (zeros n))) ∧ Below w.heap.size w w' := by
  have hB : Below w.heap.size w (w.alloc (.cells (ints .u8 (zeros n)) 5)) := (Below.refl _ _).alloc (Nat.le_refl _) _
  have y1 : Byt (w.alloc (.cells (ints .u8 (zeros n)) 5)) (.slice (some ⟨w.heap.size, 0, none⟩) n n) (zeros n) := by
    have := byt_block (al_new w (.cells (ints .u8 (zeros n)) 5)) n; rw [zeros_len] at this; exact this
  have Y1 := hid y1
  have HB := hid hB
  clear y1 hB
  go_enter Tryz.func54, Tryz.ntmps54
  go_wp2_with (first
    | refine wpList_makeB rfl _ _ rfl n (by omega) rfl rfl ?_
    | refine wpList_str rfl _ rfl _ _ rfl Y1.out ?_)
  go_ret
  exact ⟨rfl, HB.out⟩
theorem zeros_int (n : Int) (w : World) (h0 : 0 ≤ n) (hn : n ≤ 1000) :
    Calls Tryz.prog 54 #[.int .i64 n] w fun e w' => e = .returned (.string (toS (zeros n.toNat))) ∧ Below w.heap.size w w' := by
  obtain ⟨k, rfl⟩ := Int.eq_ofNat_of_zero_le h0
  rw [Int.toNat_natCast]
  exact zeros_any k w (by omega)
end Go.Proofs.YtbifmhbkmnofiaaGreat
namespace Go.Proofs.YtbifmhbkmnofiaaGreat
open Go.RowKit
set_option linter.unusedVariables false
set_option linter.unusedSimpArgs false
def stepN (g : MG) : Nat → MG
  | 0 => g
  | k + 1 => stepG (stepN g k)
theorem stepN_ok {g : MG} (h : g.ok) : ∀ k, (stepN g k).ok
  | 0 => h
  | k + 1 => by rw [stepN]; exact stepG_ok (stepN_ok h k)
/-- rows of 32, one behind the other -/
def rows32 (f : Nat → List Int) : Nat → List Int
  | 0 => []
  | k + 1 => rows32 f k ++ f k
theorem rows32_len (f : Nat → List Int) (hf : ∀ k, (f k).length = 32) : ∀ k, (rows32 f k).length = 32 * k
  | 0 => rfl
  | k + 1 => by rw [rows32, List.length_append, rows32_len f hf k, hf k]; omega
theorem rows32_add (f : Nat → List Int) (a : Nat) : ∀ d, ∃ ys, rows32 f (a + d) = rows32 f a ++ ys
  | 0 => ⟨[], by simp⟩
  | d + 1 => by
    obtain ⟨ys, h⟩ := rows32_add f a d
    exact ⟨ys ++ f (a + d), by rw [← Nat.add_assoc, rows32, h, List.append_assoc]⟩
def outG (g : MG) (k : Nat) : List Int := rows32 (fun j => (stepN g (j + 1)).v) k
theorem stepN_vl {g : MG} (h : g.ok) (k : Nat) : (stepN g k).v.length = 32 := (stepN_ok h k).vl
def blk (n : Nat) : Nat := (n + 31) / 32
/-- n bytes of which the first k rows are written -/
def part (f : Nat → List Int) (n k : Nat) : List Int := (rows32 f k).take n ++ zeros (n - 32 * k)
theorem part_zero (f : Nat → List Int) (n : Nat) : part f n 0 = zeros n := by simp [part, rows32]
theorem part_len (f : Nat → List Int) (hf : ∀ k, (f k).length = 32) (n k : Nat) : (part f n k).length = n := by
  unfold part
  rw [List.length_append, List.length_take, rows32_len f hf, zeros_len]; omega
theorem part_end (f : Nat → List Int) (n : Nat) : part f n (blk n) = (rows32 f (blk n)).take n := by
  unfold part blk
  rw [show n - 32 * ((n + 31) / 32) = 0 by omega]; simp [zeros]
theorem part_step (f : Nat → List Int) (hf : ∀ k, (f k).length = 32) (n k : Nat) (h : 32 * k < n) (cs : List Value) (hcs : cs = ((f k).take (n - 32 * k)).map (Value.int .u8)) :
    splice ((part f n k).map (Value.int .u8)) (32 * k) cs = (part f n (k + 1)).map (Value.int .u8) := by
  subst hcs
  have hl := rows32_len f hf k
  unfold splice part
  rw [rows32, List.take_of_length_le (l := rows32 f k) (by omega), List.map_append, List.take_append_of_le_length (by simp [hl]), List.take_of_length_le (by simp [hl])]
  rw [List.drop_append]
  simp only [List.length_map, List.length_take, hl, hf]
  rw [List.drop_of_length_le (by simp [hl]), List.nil_append]
  rw [List.take_append, hl, List.take_of_length_le (l := rows32 f k) (by omega)]
  simp only [List.map_append, List.append_assoc]
  congr 2
  unfold zeros
  rw [← List.map_drop, List.drop_replicate]
  congr 2
  omega
def readG (g : MG) (xs : List Int) : MG := if xs = [] then g else stirG g xs
theorem readG_ok {g : MG} (h : g.ok) (xs : List Int) : (readG g xs).ok := by
  unfold readG
  split
  · exact h
  · exact stirG_ok h xs
def bytesM (g : MG) (n : Nat) (xs : List Int) : List Int := (outG (readG g xs) (blk n)).take n
def behindM (g : MG) (n : Nat) (xs : List Int) : MG := stirG (stepN (readG g xs) (blk n)) xs
theorem behindM_ok {g : MG} (h : g.ok) (n : Nat) (xs : List Int) : (behindM g n xs).ok := stirG_ok (stepN_ok (readG_ok h xs) _) xs
theorem bytesM_len {g : MG} (h : g.ok) (n : Nat) (xs : List Int) : (bytesM g n xs).length = n := by
  unfold bytesM outG
  rw [List.length_take, rows32_len _ (fun k => stepN_vl (readG_ok h xs) (k + 1))]
  unfold blk; omega
theorem bytesM_few {g : MG} (h : g.ok) (n m : Nat) (xs : List Int) (hnm : n ≤ m) : bytesM g n xs = (bytesM g m xs).take n := by
  unfold bytesM outG
  rw [List.take_take, Nat.min_eq_left hnm]
  have hf : ∀ k, (stepN (readG g xs) (k + 1)).v.length = 32 := fun k => stepN_vl (readG_ok h xs) (k + 1)
  have hb : blk n ≤ blk m := by unfold blk; omega
  obtain ⟨d, hd⟩ := Nat.exists_eq_add_of_le hb
  obtain ⟨ys, hy⟩ := rows32_add (fun j => (stepN (readG g xs) (j + 1)).v) (blk n) d
  rw [hd, hy, List.take_append_of_le_length]
  rw [rows32_len _ hf]; unfold blk; omega
set_option maxRecDepth 20000 in
set_option maxHeartbeats 1000000 in
theorem mread_any (g : MG) (n : Nat) (r : Int) (v : Value) (xs : List Int) (B : Nat) (w : World) (hg : g.ok) (hS : MgAt w B g) (hv : Src w v xs) (hx : xs.length ≤ 1000) (ho : Off v B) (hn : n ≤ 100000) :
    Calls Tryz.prog 107 #[.pointer (some ⟨B, 0, none⟩), .int .i64 n, v, .int .u64 r] w fun e w' => ∃ gb, e = .returned (.slice (some ⟨gb, 0, none⟩) n n) ∧ w.heap.size ≤ gb ∧ w'.heap[gb]? = some (.cells (ints .u8 (bytesM g n xs)) 5 (0, 0)) ∧ MgAt w' B (behindM g n xs) ∧ Ex B w w' := by
  obtain ⟨ao, cp, hve⟩ := hv.form
  rw [hve] at hv ho
  rw [hve]
  clear hve
  have HV := hid hv
  have HO := hid ho
  have hg1 := readG_ok hg xs
  have Hr := hid (show bytesM g n xs = (outG (readG g xs) (blk n)).take n from rfl)
  have Hb := hid (show behindM g n xs = stirG (stepN (readG g xs) (blk n)) xs from rfl)
  clear hv ho
  go_enter Tryz.func107, Tryz.ntmps107
  by_cases h0 : xs = []
  · subst h0
    have e1 : readG g [] = g := by unfold readG; rw [if_pos rfl]
    rw [← e1] at hS
    generalize readG g [] = g1 at *
    have hE1 := Ex.refl B w
    have hS1 := hS
    clear hS e1
    -- state: w, hS1 : MgAt w B g1, hE1 : Ex B w w, HV1 : Hd (Src w v xs)
    have hlt1 := hS1.lt
    have hz1 := hE1.size
    go_wp2_with (refine wpList_makeB rfl _ _ rfl n (by omega) rfl rfl ?_)
    have hr2 := al_new w (.cells (ints .u8 (zeros n)) 5)
    have hS2 := hS1.other (((Below.refl w.heap.size w).alloc (Nat.le_refl _) (.cells (ints .u8 (zeros n)) 5)).block B hlt1)
    have hE2 : Ex B w (w.alloc (.cells (ints .u8 (zeros n)) 5)) := hE1.trans (Ex.of_below ((Below.refl _ _).alloc (Nat.le_refl _) _))
    generalize (w.alloc (.cells (ints .u8 (zeros n)) 5)) = w2 at *
    generalize hgb : w.heap.size = gb at *
    have hgb1 : w.heap.size ≤ gb := by omega
    have hgb2 : B < gb := by omega
    clear hgb hE1 hS1 hlt1 hz1
    go_loopw [10] (fun i wr => ∃ k : Nat, k ≤ blk n ∧ i = .int .i64 ((32 * k : Nat) : Int) ∧ MgAt wr B (stepN g1 k) ∧ wr.heap[gb]? = some (.cells (ints .u8 (part (fun j => (stepN g1 (j + 1)).v) n k)) 5 (0, 0)) ∧ Ex B w wr) (fun i _ => 32 * blk n - (intOf i).toNat)
    case atStart => exact ⟨0, by omega, rfl, hS2, by rw [part_zero]; exact hr2, hE2⟩
    case round =>
      clear hS2 hr2 hE2
      obtain ⟨k, hk, rfl, hS3, hr3, hE3⟩ := hrel
      have hbn : blk n = (n + 31) / 32 := rfl
      have hbn2 : 32 * blk n ≤ n + 31 := by omega
      by_cases hlt : 32 * k < n
      · have hkb : k < blk n := by omega
        have hps := hid (part_step (fun j => (stepN g1 (j + 1)).v) (fun j => stepN_vl hg1 (j + 1)) n k hlt)
        have hpl := hid (part_len (fun j => (stepN g1 (j + 1)).v) (fun j => stepN_vl hg1 (j + 1)) n k)
        have hok := stepN_ok hg1 k
        have hok2 := stepN_ok hg1 (k + 1)
        have hlt' : ((32 * k : Nat) : Int) < n := by omega
        have hsn := hid (show stepN g1 (k + 1) = stepG (stepN g1 k) from by simp only [stepN])
        generalize stepN g1 k = gk at *
        generalize hgk1 : stepN g1 (k + 1) = gk1 at *
        have Hgk1 := hid hgk1
        generalize hP0 : part (fun j => (stepN g1 (j + 1)).v) n k = P0 at *
        generalize hP1 : part (fun j => (stepN g1 (j + 1)).v) n (k + 1) = P1 at *
        have HP1 := hid hP1
        clear hgk1 hP0 hP1
        have HS3 := hid hS3
        have Hr3 := hid hr3
        have HE3 := hid hE3
        have hglt : gb < wr.heap.size := (Array.getElem?_eq_some_iff.1 hr3).1
        clear hS3 hr3 hE3
        go_wp2_with fail
        refine (mstep_any _ B _ hok HS3.out).mono ?_
        rintro e w4 ⟨rfl, hS4, hE4⟩
        have Hr4 := hid ((hE4.block gb hglt (by omega)).trans Hr3.out)
        have HE5 := hid (HE3.out.trans hE4)
        rw [← hsn.out] at hS4
        have HS5 := hid hS4
        have hvb := hid ((hS4.vByt hok2))
        have hvk := hok2.vl
        clear hS4 HS3 Hr3 HE3 hE4 hok
        generalize hcs : (gk1.v.take (n - 32 * k)).map (Value.int .u8) = cs at *
        have hps2 := hid (hps.out cs rfl)
        have hcl : cs.length = Nat.min 32 (n - 32 * k) := by rw [← hcs, List.length_map, List.length_take, hvk]; exact Nat.min_comm _ _
        have Hfit : Hd (32 * k + cs.length ≤ (P0.map (Value.int .u8)).length) := hid (by rw [hcl, List.length_map, hpl.out]; have : Nat.min 32 (n - 32 * k) ≤ n - 32 * k := Nat.min_le_right 32 (n - 32 * k); omega)
        have Hone : Hd (∀ v ∈ cs, v.oneCell' = true) := hid (by rw [← hcs]; exact one_ints _ _)
        have Hcl := hid hcl
        have hcs' := hid hcs
        clear hcs hps hcl hpl
        have q1 : (0 : Int) ≤ 32 * (k : Int) := by omega
        have q2 : 32 * (k : Int) ≤ (n : Int) := by omega
        have q3 : (32 * (k : Int)).toNat = 32 * k := by omega
        have q4 : ¬ n = 32 * k := by omega
        go_wp2_with fail
        have Hpos : Hd (0 < cs.length → some (⟨gb, 32 * k, none⟩ : Addr) = some ⟨gb, 32 * k, none⟩ ∧ ∃ ad, some (⟨B, 32, none⟩ : Addr) = some ad ∧ ∀ j u, cs[j]? = some u → w4.drew.cell? (ad.add j) = some u) :=
          hid fun _ => ⟨rfl, _, rfl, fun j u hu => by
            rw [← hcs'.out] at hu
            have hj : j < 32 := by have := (List.getElem?_eq_some_iff.1 hu).1; rw [List.length_map, List.length_take] at this; omega
            have hu2 : (gk1.v.map (Value.int .u8))[j]? = some u := by
              rw [← hu, List.getElem?_map, List.getElem?_map, List.getElem?_take]
              have := (List.getElem?_eq_some_iff.1 hu).1
              rw [List.length_map, List.length_take] at this
              rw [if_pos (by omega)]
            rcases hvb.out.src with ⟨h1, h2⟩ | ⟨ad, cp, h2, h3⟩
            · simp at h2
            · simp only [Value.slice.injEq, Option.some.injEq] at h2
              obtain ⟨rfl, _, _⟩ := h2
              exact h3 j u hu2⟩
        clear hvb hvk hcs'
        go_region_law ((refine step_copy_splice rfl (.tmp 28) (.tmp 32) 41 41 rfl 5 Tryz.underlying41 Tryz.info5 (some ⟨gb, 32 * k, none⟩) (some ⟨B, 32, none⟩) (n - 32 * k) (n - 32 * k) 32 32 (by simp [Act.eval, Act.put]) (by simp [Act.eval, Act.put]) gb (32 * k) _ 5 Hr4.out cs Hcl.out Hpos.out Hfit.out Hone.out gb _ (Below.refl _ _) (by omega) ?_; intro w5 hg5 hb5))
        rw [hps2.out] at hg5
        have hS6 := HS5.out.other (hb5.block B hgb2)
        have hE6 : Ex B w w5 := by
          refine ⟨hb5.os.trans HE5.out.os, hb5.tape.trans HE5.out.tape, hb5.output.trans HE5.out.output, ?_, fun j hj hjB => ?_⟩
          · exact Nat.le_trans HE5.out.size hb5.size
          · exact (hb5.block j (by omega)).trans (HE5.out.block j hj hjB)
        have hg6 := hid (show w5.heap[gb]? = some (.cells (ints .u8 P1) 5 (0, 0)) from hg5)
        clear hg5 hb5 HS5 HE5 Hr4
        go_wp2
        refine ⟨⟨k + 1, by omega, by go_num, ?_, ?_, hE6⟩, by simp [intOf]; omega⟩
        · rw [Hgk1.out]; exact hS6
        · rw [HP1.out]; exact hg6.out
      · obtain rfl : k = blk n := by omega
        rw [part_end] at hr3
        have hV3 := hid (HV.out.ex hE3 HO.out)
        have hok := stepN_ok hg1 (blk n)
        rw [show rows32 (fun j => (stepN g1 (j + 1)).v) (blk n) = outG g1 (blk n) from rfl] at hr3
        rw [← Hr.out] at hr3
        have Hr3 := hid hr3
        have HE3 := hid hE3
        generalize stepN g1 (blk n) = gk at *
        clear hr3 hE3 Hr
        have hnl : ¬ ((32 * blk n : Nat) : Int) < n := by omega
        go_wp2_with fail
        refine (stir_any gk _ _ B _ hok hS3 hV3.out hx HO.out).mono ?_
        rintro e w6 ⟨rfl, hS6, hE6⟩
        have hglt : gb < wr.heap.size := (Array.getElem?_eq_some_iff.1 Hr3.out).1
        have Hr6 := hid ((hE6.block gb hglt (by omega)).trans Hr3.out)
        have HE6 := hid (HE3.out.trans hE6)
        rw [← Hb.out] at hS6
        have HS6 := hid hS6
        clear hS6 Hr3 HE3 hE6 hS3 hV3
        go_wp2
        go_ret
        exact ⟨gb, rfl, hgb1, Hr6.out, HS6.out, HE6.out⟩
  · have hp : 0 < xs.length := List.length_pos_iff.2 h0
    have hp' : (0 : Int) < xs.length := by omega
    have e1 : readG g xs = stirG g xs := by unfold readG; rw [if_neg h0]
    go_wp2_with fail
    refine (stir_any g _ xs B _ hg hS HV.out hx HO.out).mono ?_
    rintro e w1 ⟨rfl, hS1, hE1⟩
    rw [← e1] at hS1
    generalize readG g xs = g1 at *
    clear hS e1
    -- state: w1, hS1 : MgAt w1 B g1, hE1 : Ex B w w1, HV1 : Hd (Src w1 v xs)
    have hlt1 := hS1.lt
    have hz1 := hE1.size
    go_wp2_with (refine wpList_makeB rfl _ _ rfl n (by omega) rfl rfl ?_)
    have hr2 := al_new w1 (.cells (ints .u8 (zeros n)) 5)
    have hS2 := hS1.other (((Below.refl w1.heap.size w1).alloc (Nat.le_refl _) (.cells (ints .u8 (zeros n)) 5)).block B hlt1)
    have hE2 : Ex B w (w1.alloc (.cells (ints .u8 (zeros n)) 5)) := hE1.trans (Ex.of_below ((Below.refl _ _).alloc (Nat.le_refl _) _))
    generalize (w1.alloc (.cells (ints .u8 (zeros n)) 5)) = w2 at *
    generalize hgb : w1.heap.size = gb at *
    have hgb1 : w.heap.size ≤ gb := by omega
    have hgb2 : B < gb := by omega
    clear hgb hE1 hS1 hlt1 hz1
    go_loopw [10] (fun i wr => ∃ k : Nat, k ≤ blk n ∧ i = .int .i64 ((32 * k : Nat) : Int) ∧ MgAt wr B (stepN g1 k) ∧ wr.heap[gb]? = some (.cells (ints .u8 (part (fun j => (stepN g1 (j + 1)).v) n k)) 5 (0, 0)) ∧ Ex B w wr) (fun i _ => 32 * blk n - (intOf i).toNat)
    case atStart => exact ⟨0, by omega, rfl, hS2, by rw [part_zero]; exact hr2, hE2⟩
    case round =>
      clear hS2 hr2 hE2
      obtain ⟨k, hk, rfl, hS3, hr3, hE3⟩ := hrel
      have hbn : blk n = (n + 31) / 32 := rfl
      have hbn2 : 32 * blk n ≤ n + 31 := by omega
      by_cases hlt : 32 * k < n
      · have hkb : k < blk n := by omega
        have hps := hid (part_step (fun j => (stepN g1 (j + 1)).v) (fun j => stepN_vl hg1 (j + 1)) n k hlt)
        have hpl := hid (part_len (fun j => (stepN g1 (j + 1)).v) (fun j => stepN_vl hg1 (j + 1)) n k)
        have hok := stepN_ok hg1 k
        have hok2 := stepN_ok hg1 (k + 1)
        have hlt' : ((32 * k : Nat) : Int) < n := by omega
        have hsn := hid (show stepN g1 (k + 1) = stepG (stepN g1 k) from by simp only [stepN])
        generalize stepN g1 k = gk at *
        generalize hgk1 : stepN g1 (k + 1) = gk1 at *
        have Hgk1 := hid hgk1
        generalize hP0 : part (fun j => (stepN g1 (j + 1)).v) n k = P0 at *
        generalize hP1 : part (fun j => (stepN g1 (j + 1)).v) n (k + 1) = P1 at *
        have HP1 := hid hP1
        clear hgk1 hP0 hP1
        have HS3 := hid hS3
        have Hr3 := hid hr3
        have HE3 := hid hE3
        have hglt : gb < wr.heap.size := (Array.getElem?_eq_some_iff.1 hr3).1
        clear hS3 hr3 hE3
        go_wp2_with fail
        refine (mstep_any _ B _ hok HS3.out).mono ?_
        rintro e w4 ⟨rfl, hS4, hE4⟩
        have Hr4 := hid ((hE4.block gb hglt (by omega)).trans Hr3.out)
        have HE5 := hid (HE3.out.trans hE4)
        rw [← hsn.out] at hS4
        have HS5 := hid hS4
        have hvb := hid ((hS4.vByt hok2))
        have hvk := hok2.vl
        clear hS4 HS3 Hr3 HE3 hE4 hok
        generalize hcs : (gk1.v.take (n - 32 * k)).map (Value.int .u8) = cs at *
        have hps2 := hid (hps.out cs rfl)
        have hcl : cs.length = Nat.min 32 (n - 32 * k) := by rw [← hcs, List.length_map, List.length_take, hvk]; exact Nat.min_comm _ _
        have Hfit : Hd (32 * k + cs.length ≤ (P0.map (Value.int .u8)).length) := hid (by rw [hcl, List.length_map, hpl.out]; have : Nat.min 32 (n - 32 * k) ≤ n - 32 * k := Nat.min_le_right 32 (n - 32 * k); omega)
        have Hone : Hd (∀ v ∈ cs, v.oneCell' = true) := hid (by rw [← hcs]; exact one_ints _ _)
        have Hcl := hid hcl
        have hcs' := hid hcs
        clear hcs hps hcl hpl
        have q1 : (0 : Int) ≤ 32 * (k : Int) := by omega
        have q2 : 32 * (k : Int) ≤ (n : Int) := by omega
        have q3 : (32 * (k : Int)).toNat = 32 * k := by omega
        have q4 : ¬ n = 32 * k := by omega
        go_wp2_with fail
        have Hpos : Hd (0 < cs.length → some (⟨gb, 32 * k, none⟩ : Addr) = some ⟨gb, 32 * k, none⟩ ∧ ∃ ad, some (⟨B, 32, none⟩ : Addr) = some ad ∧ ∀ j u, cs[j]? = some u → w4.drew.cell? (ad.add j) = some u) :=
          hid fun _ => ⟨rfl, _, rfl, fun j u hu => by
            rw [← hcs'.out] at hu
            have hj : j < 32 := by have := (List.getElem?_eq_some_iff.1 hu).1; rw [List.length_map, List.length_take] at this; omega
            have hu2 : (gk1.v.map (Value.int .u8))[j]? = some u := by
              rw [← hu, List.getElem?_map, List.getElem?_map, List.getElem?_take]
              have := (List.getElem?_eq_some_iff.1 hu).1
              rw [List.length_map, List.length_take] at this
              rw [if_pos (by omega)]
            rcases hvb.out.src with ⟨h1, h2⟩ | ⟨ad, cp, h2, h3⟩
            · simp at h2
            · simp only [Value.slice.injEq, Option.some.injEq] at h2
              obtain ⟨rfl, _, _⟩ := h2
              exact h3 j u hu2⟩
        clear hvb hvk hcs'
        go_region_law ((refine step_copy_splice rfl (.tmp 28) (.tmp 32) 41 41 rfl 5 Tryz.underlying41 Tryz.info5 (some ⟨gb, 32 * k, none⟩) (some ⟨B, 32, none⟩) (n - 32 * k) (n - 32 * k) 32 32 (by simp [Act.eval, Act.put]) (by simp [Act.eval, Act.put]) gb (32 * k) _ 5 Hr4.out cs Hcl.out Hpos.out Hfit.out Hone.out gb _ (Below.refl _ _) (by omega) ?_; intro w5 hg5 hb5))
        rw [hps2.out] at hg5
        have hS6 := HS5.out.other (hb5.block B hgb2)
        have hE6 : Ex B w w5 := by
          refine ⟨hb5.os.trans HE5.out.os, hb5.tape.trans HE5.out.tape, hb5.output.trans HE5.out.output, ?_, fun j hj hjB => ?_⟩
          · exact Nat.le_trans HE5.out.size hb5.size
          · exact (hb5.block j (by omega)).trans (HE5.out.block j hj hjB)
        have hg6 := hid (show w5.heap[gb]? = some (.cells (ints .u8 P1) 5 (0, 0)) from hg5)
        clear hg5 hb5 HS5 HE5 Hr4
        go_wp2
        refine ⟨⟨k + 1, by omega, by go_num, ?_, ?_, hE6⟩, by simp [intOf]; omega⟩
        · rw [Hgk1.out]; exact hS6
        · rw [HP1.out]; exact hg6.out
      · obtain rfl : k = blk n := by omega
        rw [part_end] at hr3
        have hV3 := hid (HV.out.ex hE3 HO.out)
        have hok := stepN_ok hg1 (blk n)
        rw [show rows32 (fun j => (stepN g1 (j + 1)).v) (blk n) = outG g1 (blk n) from rfl] at hr3
        rw [← Hr.out] at hr3
        have Hr3 := hid hr3
        have HE3 := hid hE3
        generalize stepN g1 (blk n) = gk at *
        clear hr3 hE3 Hr
        have hnl : ¬ ((32 * blk n : Nat) : Int) < n := by omega
        go_wp2_with fail
        refine (stir_any gk _ _ B _ hok hS3 hV3.out hx HO.out).mono ?_
        rintro e w6 ⟨rfl, hS6, hE6⟩
        have hglt : gb < wr.heap.size := (Array.getElem?_eq_some_iff.1 Hr3.out).1
        have Hr6 := hid ((hE6.block gb hglt (by omega)).trans Hr3.out)
        have HE6 := hid (HE3.out.trans hE6)
        rw [← Hb.out] at hS6
        have HS6 := hid hS6
        clear hS6 Hr3 HE3 hE6 hS3 hV3
        go_wp2
        go_ret
        exact ⟨gb, rfl, hgb1, Hr6.out, HS6.out, HE6.out⟩
end Go.Proofs.YtbifmhbkmnofiaaGreat
