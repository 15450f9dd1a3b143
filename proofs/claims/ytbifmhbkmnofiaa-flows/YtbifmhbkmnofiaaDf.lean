import Derived.Test.YtbifmhbkmnofiaaDe
namespace Go.Proofs.Ytbifmhbkmnofiaa
open Go.RowKit
set_option linter.unusedVariables false
theorem addw_W (hs vs : List Int) (h : allW hs) (k : Nat) : allW (addw hs vs k) := by
  induction k with
  | zero => exact h
  | succ k ih => exact allW_set _ ih _ _ (wrap_W _)
theorem mixI_len (hs bs : List Int) : (mixI hs bs).length = hs.length := addw_len _ _ _
theorem mixI_W (hs bs : List Int) (h : allW hs) : allW (mixI hs bs) := addw_W _ _ h _
theorem HT_len : HT.length = 8 := rfl
theorem HT_W : allW HT := by
  intro x hx
  have : ∀ y ∈ HT, 0 ≤ y ∧ y ≤ 4294967295 := by decide +kernel
  exact this x hx
def tb (hs : List Int) (i : Nat) : Int := hs[i / 4]?.getD 0 / 2 ^ (24 - 8 * (i % 4)) % 256
def toB (hs : List Int) : Nat → List Int
  | 0 => Z32
  | k + 1 => (toB hs k).set k (tb hs k)
theorem toB_len (hs : List Int) (k : Nat) : (toB hs k).length = 32 := by
  induction k with
  | zero => rfl
  | succ k ih => simp [toB, ih]
/-- three blocks of the call's own -/
def B3 (w wx : World) (o1 o2 o3 : Obj) : Prop := wx.heap[w.heap.size]? = some o1 ∧ wx.heap[w.heap.size + 1]? = some o2 ∧ wx.heap[w.heap.size + 1 + 1]? = some o3 ∧ Below w.heap.size w wx
theorem B3.set {w wx : World} {o1 o2 : Obj} {k : IntKind} {xs : List Int} {t : TypeId} (h : B3 w wx o1 o2 (.cells (ints k xs) t (0, 0))) (j : Nat) (v : Int) : B3 w (wx.setCell ⟨w.heap.size + 1 + 1, j, none⟩ (.int k v)) o1 o2 (.cells (ints k (xs.set j v)) t (0, 0)) :=
  ⟨by rw [Below.heap_setCell _ _ _ _ (by simp; omega)]; exact h.1, by rw [Below.heap_setCell _ _ _ _ (by simp)]; exact h.2.1, setCell_ints _ _ _ _ _ _ _ h.2.2.1, h.2.2.2.setCell (by simp; omega) _⟩
theorem B3.new (w : World) (o1 o2 o3 : Obj) : B3 w (((w.alloc o1).alloc o2).alloc o3) o1 o2 o3 := ⟨al3_1 _ _ _ _, al3_2 _ _ _ _, al3_3 _ _ _ _, (((Below.refl _ _).alloc (Nat.le_refl _) _).alloc (by simp) _).alloc (by simp; omega) _⟩
set_option maxRecDepth 20000 in
set_option maxHeartbeats 400000 in
theorem toBytes_n (hs : List Int) (w : World) (n : Nat) (hn0 : n ≤ 32) (hn1 : 32 ≤ n) (hl : hs.length = 8) (hw : allW hs) :
    Calls Try.prog 55 #[.agg (ints .u32 hs)] w fun e w' => e = .returned (.agg (ints .u8 (toB hs n))) ∧ Below w.heap.size w w' := by
  go_enter Try.func55, Try.ntmps55
  go_wp2_with (first
    | refine wpList_alloc_eq rfl 68 rfl (ints .u8 Z32) Try.alloc68 ?_)
  have hM := B3.new w (.cells (ints .u32 hs) 72) (.cells (ints .u8 Z32) 68) (.cells (ints .u8 Z32) 68)
  generalize (((w.alloc (.cells (ints .u32 hs) 72)).alloc (.cells (ints .u8 Z32) 68)).alloc (.cells (ints .u8 Z32) 68)) = w1 at *
  go_loopw [5] (fun i wr => ∃ k : Nat, k ≤ 32 ∧ i = .int .i64 k ∧ B3 w wr (.cells (ints .u32 hs) 72) (.cells (ints .u8 Z32) 68) (.cells (ints .u8 (toB hs k)) 68)) (fun i _ => 32 - (intOf i).toNat)
  case atStart => exact ⟨0, by omega, rfl, hM⟩
  case round =>
    clear hM
    obtain ⟨k, hk, rfl, hM⟩ := hrel
    by_cases hlt : k < 32
    · have c1 := (cells_of _ _ _ _ _ hM.1).1 (k / 4) (by omega)
      have c0 := (cells_of _ _ _ _ _ hM.2.2.1).1 k (by rw [toB_len]; exact hlt)
      have f0 := (cells_of _ _ _ _ _ hM.2.2.1).2 k
      have st : Hd (toB hs (k + 1) = (toB hs k).set k (tb hs k)) := hid rfl
      generalize toB hs k = ys at *
      obtain ⟨hx, hx'⟩ := allW_get _ hw (k / 4)
      generalize hy : hs[k / 4]?.getD 0 = y at *
      have Hy := hid hy
      clear hy
      go_wp2
      refine ⟨⟨k + 1, by omega, by go_num, ?_⟩, by simp [intOf]; omega⟩
      rw [st.out, tb, Hy.out]
      exact hM.set _ _
    · obtain rfl : k = n := by omega
      clear hlt hk
      have hal := toB_len hs k
      generalize hys : toB hs k = ys at *
      have Hys := hid hys
      clear hys
      go_wp2_with (first
        | refine wpList_load_row rfl 68 _ rfl (w.heap.size + 1 + 1) rfl 68 (ints .u8 ys) (0,0) _ hM.2.2.1 Try.underlying68 rfl (by rw [ints_size, hal]; exact Try.info68) ?_
        | refine wpList_store_row rfl 68 _ _ rfl (w.heap.size + 1) (ints .u8 ys) rfl rfl 68 (ints .u8 Z32) hM.2.1 (by rw [ints_size, hal]; exact Try.info68) (by rw [ints_size, ints_size, hal]; rfl) (ints_one _ _) ?_)
      exact bodyPost_ret (results_cell_row (fn := Try.f55) Try.results55 _ _ (w.heap.size + 1) 68 (ints .u8 ys) (0,0) _ rfl (setRow_heap _ _ _ _ _ _ hM.2.1) Try.underlying68 rfl (by rw [ints_size, hal]; exact Try.info68)) rfl ⟨by rw [Hys.out], below_setRow hM.2.2.2 _ (by omega) _⟩
theorem toBytes_any (hs : List Int) (w : World) (hl : hs.length = 8) (hw : allW hs) :
    Calls Try.prog 55 #[.agg (ints .u32 hs)] w fun e w' => e = .returned (.agg (ints .u8 (toB hs 32))) ∧ Below w.heap.size w w' := toBytes_n hs w 32 (by omega) (by omega) hl hw
end Go.Proofs.Ytbifmhbkmnofiaa
