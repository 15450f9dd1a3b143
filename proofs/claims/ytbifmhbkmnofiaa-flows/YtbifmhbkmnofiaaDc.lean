import Derived.Test.YtbifmhbkmnofiaaDb
namespace Go.Proofs.Ytbifmhbkmnofiaa
open Go.RowKit
set_option linter.unusedVariables false
def pk (xs : List Int) (i : Nat) (b : Int) : List Int := xs.set (i / 4) (bits .or .u32 ((xs[i / 4]?.getD 0) * 256 % 4294967296) (b % 4294967296))
def pack (bs : List Int) : Nat → List Int
  | 0 => Z64
  | k + 1 => pk (pack bs k) k (bs[k]?.getD 0)
theorem pack_len (bs : List Int) (k : Nat) : (pack bs k).length = 64 := by
  induction k with
  | zero => rfl
  | succ k ih => simp [pack, pk, ih]
theorem pack_step (bs : List Int) (k : Nat) (hk : k < bs.length) : pack bs (k + 1) = (pack bs k).set (k / 4) (bits .or .u32 ((pack bs k)[k / 4]?.getD 0 * 256 % 4294967296) (bs[k] % 4294967296)) := by
  simp [pack, pk, List.getElem?_eq_getElem hk]
/-- a word of 32 bits -/
def W32 (x : Int) : Prop := 0 ≤ x ∧ x ≤ 4294967295
theorem bits_u32 (o : BinOp) (x y : Int) (h : o = .and ∨ o = .or ∨ o = .xor) : W32 (bits o .u32 x y) := by
  rcases h with rfl | rfl | rfl <;> (constructor <;> simp [bits, IntKind.wrap, IntKind.bits, IntKind.signed] <;> omega)
def allW (xs : List Int) : Prop := ∀ x ∈ xs, W32 x
theorem allW_get (xs : List Int) (h : allW xs) (j : Nat) : W32 (xs[j]?.getD 0) := by
  by_cases hj : j < xs.length
  · rw [List.getElem?_eq_getElem hj]; exact h _ (List.getElem_mem hj)
  · rw [List.getElem?_eq_none (by omega)]; exact ⟨by decide, by decide⟩
theorem allW_set (xs : List Int) (h : allW xs) (j : Nat) (v : Int) (hv : W32 v) : allW (xs.set j v) := fun x hx => by
  rcases List.mem_or_eq_of_mem_set hx with h1 | h1
  · exact h x h1
  · rw [h1]; exact hv
theorem pack_W (bs : List Int) (k : Nat) : allW (pack bs k) := by
  induction k with
  | zero => intro x hx; have : x = 0 := List.eq_of_mem_replicate hx; subst this; exact ⟨by decide, by decide⟩
  | succ k ih => exact allW_set _ ih _ _ (bits_u32 _ _ _ (by simp))
def sg0 (x : Int) : Int := bits .xor .u32 (bits .xor .u32 (rotI x 7) (rotI x 18)) (x / 8)
def sg1 (x : Int) : Int := bits .xor .u32 (bits .xor .u32 (rotI x 17) (rotI x 19)) (x / 1024)
def exv (xs : List Int) (t : Nat) : Int := (xs[t - 16]?.getD 0 + sg0 (xs[t - 15]?.getD 0) + xs[t - 7]?.getD 0 + sg1 (xs[t - 2]?.getD 0)) % 4294967296
def ext (xs : List Int) : Nat → List Int
  | 0 => xs
  | k + 1 => (ext xs k).set (16 + k) (exv (ext xs k) (16 + k))
theorem ext_len (xs : List Int) (k : Nat) : (ext xs k).length = xs.length := by
  induction k with
  | zero => rfl
  | succ k ih => simp [ext, ih]
theorem wrap_W (x : Int) : W32 (x % 4294967296) := by constructor <;> omega
theorem ext_W (xs : List Int) (h : allW xs) (k : Nat) : allW (ext xs k) := by
  induction k with
  | zero => exact h
  | succ k ih => exact allW_set _ ih _ _ (wrap_W _)
theorem ext_step (xs : List Int) (t : Nat) (h : 16 ≤ t) : ext xs (t + 1 - 16) = (ext xs (t - 16)).set t (exv (ext xs (t - 16)) t) := by
  obtain ⟨k, rfl⟩ : ∃ k, t = 16 + k := ⟨t - 16, by omega⟩
  rw [show 16 + k + 1 - 16 = k + 1 by omega, show 16 + k - 16 = k by omega]; rfl
def sched (bs : List Int) : List Int := ext (pack bs 64) 48
theorem sched_len (bs : List Int) : (sched bs).length = 64 := (ext_len _ _).trans (pack_len _ _)
theorem sched_W (bs : List Int) : allW (sched bs) := ext_W _ (pack_W _ _) _
/-- 'spread''s loop: the world behind some rounds -/
def Sp (w wx : World) (xs : List Int) : Prop := wx.heap[w.heap.size + 1 + 1]? = some (.cells (ints .u32 xs) 129 (0, 0)) ∧ wx.heap.size = w.heap.size + 3 ∧ wx.heap[w.heap.size + 1]? = some (.cells (ints .u32 Z64) 129 (0, 0)) ∧ Below w.heap.size w wx
theorem Sp.drewN {w wx : World} {xs : List Int} (h : Sp w wx xs) (n : Nat) : Sp w (wx.drewN n) xs := ⟨h.1, h.2.1, h.2.2.1, h.2.2.2.1, h.2.2.2.2, h.2.2.2.3, h.2.2.2.4, h.2.2.2.5⟩
theorem Sp.drew {w wx : World} {xs : List Int} (h : Sp w wx xs) : Sp w wx.drew xs := ⟨h.1, h.2.1, h.2.2.1, h.2.2.2.drew⟩
theorem Sp.set {w wx : World} {xs : List Int} (h : Sp w wx xs) (j : Nat) (v : Int) : Sp w (wx.setCell ⟨w.heap.size + 1 + 1, j, none⟩ (.int .u32 v)) (xs.set j v) :=
  ⟨setCell_ints _ _ _ _ _ _ _ h.1, by simp [h.2.1], by rw [Below.heap_setCell _ _ _ _ (by simp)]; exact h.2.2.1, h.2.2.2.setCell (by simp; omega) _⟩
theorem Sp.cell {w wx : World} {xs : List Int} (h : Sp w wx xs) (hl : xs.length = 64) (j : Nat) (hj : j < 64) : wx.cell? ⟨w.heap.size + 1 + 1, j, none⟩ = some (.int .u32 (xs[j]?.getD 0)) := (cells_of _ _ _ _ _ h.1).1 j (by omega)
theorem Sp.frozen {w wx : World} {xs : List Int} (h : Sp w wx xs) (j : Nat) : wx.frozen? ⟨w.heap.size + 1 + 1, j, none⟩ = false := (cells_of _ _ _ _ _ h.1).2 j
set_option maxRecDepth 20000 in
set_option maxHeartbeats 400000 in
theorem spread_n (bs : List Int) (w : World) (n m : Nat) (hn0 : n ≤ 64) (hn1 : 64 ≤ n) (hm0 : m ≤ 48) (hm1 : 48 ≤ m) (hl : bs.length = 64) :
    Calls Try.prog 61 #[.agg (ints .u8 bs)] w fun e w' => e = .returned (.agg (ints .u32 (ext (pack bs n) m))) ∧ Below w.heap.size w w' := by
  go_enter Try.func61, Try.ntmps61
  go_wp2_with (first
    | refine wpList_load_row rfl 73 _ rfl w.heap.size rfl 73 (ints .u8 bs) (0,0) _ (two_blocks w _ _ _) Try.underlying73 rfl (by rw [ints_size, hl]; exact Try.info73) ?_
    | refine wpList_alloc_eq rfl 129 rfl (ints .u32 Z64) Try.alloc129 ?_)
  go_loopw [10] (fun i wr => ∃ k : Nat, k ≤ 64 ∧ i = .int .i64 k ∧ Sp w wr (pack bs k)) (fun i _ => 64 - (intOf i).toNat)
  case atStart => exact ⟨0, by omega, rfl, al3_3 _ _ _ _, by simp, al3_2 _ _ _ _, (((Below.refl _ _).alloc (Nat.le_refl _) _).alloc (by simp) _).alloc (by simp; omega) _⟩
  case round =>
    obtain ⟨k, hk, rfl, hS⟩ := hrel
    by_cases hlt : k < 64
    · have ix := Try.index73 bs k wr hl hlt
      have hc1 := hS.cell (pack_len _ _) (k / 4) (by omega)
      have hf1 := hS.frozen (k / 4)
      go_wp2
      exact ⟨⟨k + 1, by omega, by go_num, by rw [pack_step bs k (by omega)]; exact hS.set _ _⟩, by simp [intOf]; omega⟩
    · obtain rfl : k = n := by omega
      clear hlt hk
      go_wp2
      have hpl := pack_len bs k
      have hpw := pack_W bs k
      generalize hps : pack bs k = ps at *
      have Hps := hid hps
      clear hps
      go_loopw [6] (fun i wx => ∃ k : Nat, 16 ≤ k ∧ k ≤ 64 ∧ i = .int .i64 k ∧ Sp w wx (ext ps (k - 16))) (fun i _ => 64 - (intOf i).toNat)
      case atStart => exact ⟨16, by omega, by omega, rfl, hS⟩
      case round =>
        clear hS
        obtain ⟨k, hk0, hk, rfl, hS⟩ := hrel
        by_cases hlt : k < 64
        · have hst := hid (ext_step ps k hk0)
          have hyl := (ext_len ps (k - 16)).trans hpl
          have hyw := ext_W ps hpw (k - 16)
          generalize ext ps (k - 16) = ys at *
          have c15 := hS.cell hyl (k - 15) (by omega)
          obtain ⟨hx, hx'⟩ := allW_get _ hyw (k - 15)
          obtain ⟨hy, hy'⟩ := allW_get _ hyw (k - 2)
          have i15 : (15 : Int) ≤ (k : Int) := by omega
          have i2 : (2 : Int) ≤ (k : Int) := by omega
          have i7 : (7 : Int) ≤ (k : Int) := by omega
          have i16 : (16 : Int) ≤ (k : Int) := by omega
          have j2 : ((k : Int) - 2).toNat = k - 2 := by omega
          have j7 : ((k : Int) - 7).toNat = k - 7 := by omega
          have j16 : ((k : Int) - 16).toNat = k - 16 := by omega
          have j15 : ((k : Int) - 15).toNat = k - 15 := by omega
          clear hpl hpw
          generalize hex : exv ys k = ev at *
          have Hex := hid hex
          clear hex
          generalize e15 : ys[k - 15]?.getD 0 = x15 at *
          have E15 := hid e15
          clear e15
          generalize e2 : ys[k - 2]?.getD 0 = x2 at *
          have E2 := hid e2
          clear e2
          go_wp2
          go_quiet ((go_at_call 62; exact Calls.quiet_of_same (turn_any _ _ _ hx hx' (by omega) (by omega))))
          go_wp2
          have hS2 := hS.drewN nq
          clear hS c15
          generalize wr.drewN nq = w2 at *
          have c2 := hS2.cell hyl (k - 2) (by omega)
          rw [E2.out] at c2
          go_quiet ((go_at_call 62; exact Calls.quiet_of_same (turn_any _ _ _ hy hy' (by omega) (by omega))))
          go_wp2
          have hS3 := hS2.drewN nq
          clear hS2 c2
          generalize w2.drewN nq = w3 at *
          have c16 := hS3.cell hyl (k - 16) (by omega)
          have c7 := hS3.cell hyl (k - 7) (by omega)
          have c0 := hS3.cell hyl k (by omega)
          have f0 := hS3.frozen k
          go_region
          go_wp2
          refine ⟨⟨k + 1, by omega, by omega, by go_num, ?_⟩, by simp [intOf]; omega⟩
          rw [hst.out, ← Hex.out]
          unfold exv sg0 sg1
          rw [E15.out, E2.out]
          exact (hS3.set _ _).drew
        · obtain rfl : k = 64 := by omega
          clear hlt hk hk0
          obtain rfl : m = 64 - 16 := by omega
          clear hm0 hm1
          have hyl := (ext_len ps (64 - 16)).trans hpl
          generalize hys : ext ps (64 - 16) = ys at *
          have Hys := hid hys
          clear hys
          go_wp2_with (first
            | refine wpList_load_row rfl 129 _ rfl (w.heap.size + 1 + 1) rfl 129 (ints .u32 ys) (0,0) _ hS.1 Try.underlying129 rfl (by rw [ints_size, hyl]; exact Try.info129) ?_
            | refine wpList_store_row rfl 129 _ _ rfl (w.heap.size + 1) (ints .u32 ys) rfl rfl 129 (ints .u32 Z64) hS.2.2.1 (by rw [ints_size, hyl]; exact Try.info129) (by rw [ints_size, ints_size, hyl]; rfl) (ints_one _ _) ?_)
          exact bodyPost_ret (results_cell_row (fn := Try.f61) Try.results61 _ _ (w.heap.size + 1) 129 (ints .u32 ys) (0,0) _ rfl (setRow_heap _ _ _ _ _ _ hS.2.2.1) Try.underlying129 rfl (by rw [ints_size, hyl]; exact Try.info129)) rfl ⟨by rw [Hps.out, Hys.out], below_setRow hS.2.2.2 _ (by omega) _⟩
theorem spread_any (bs : List Int) (w : World) (hl : bs.length = 64) :
    Calls Try.prog 61 #[.agg (ints .u8 bs)] w fun e w' => e = .returned (.agg (ints .u32 (sched bs))) ∧ Below w.heap.size w w' := spread_n bs w 64 48 (by omega) (by omega) (by omega) (by omega) hl
end Go.Proofs.Ytbifmhbkmnofiaa
