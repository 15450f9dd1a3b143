import Derived.Test.YtbifmhbkmnofiaaDh
namespace Go.Proofs.Ytbifmhbkmnofiaa
open Go.RowKit
set_option linter.unusedVariables false
set_option linter.unusedSimpArgs false
/-- 'State.Sum': the world: the result's cell, the copy -/
def F2 (w wx : World) (s : DS) : Prop := wx.heap[w.heap.size]? = some (.cells (ints .u8 Z32) 68 (0, 0)) ∧ StAt wx (w.heap.size + 1) s ∧ Below w.heap.size w wx
theorem F2.ex {w wx wy : World} {s s' : DS} (h : F2 w wx s) (hS : StAt wy (w.heap.size + 1) s') (hE : Ex (w.heap.size + 1) wx wy) : F2 w wy s' := by
  have hz := h.2.1.lt
  exact ⟨(hE.block _ (by omega) (by omega)).trans h.1, hS, h.2.2.trans (hE.below (by omega) (by omega))⟩
/-- the count in the copy: a loop's measure -/
def cnt (wx : World) (b : Nat) : Nat := match wx.cell? ⟨b, 72, none⟩ with
  | some (.int _ n) => n.toNat
  | _ => 0
theorem cnt_of {wx : World} {b : Nat} {s : DS} (hs : s.ok) (h : StAt wx b s) : cnt wx b = s.n := by
  unfold cnt; rw [h.cell, DS.count hs]; simp
theorem pad_lt (n k : Nat) (h : k < padN n) : ¬ (n + k) % 64 = 56 := by unfold padN at h; omega
theorem pad_eq (n : Nat) : (n + padN n) % 64 = 56 := by unfold padN; omega
theorem pad_le (n : Nat) : padN n < 64 := by unfold padN; omega
set_option maxRecDepth 20000 in
set_option maxHeartbeats 400000 in
theorem Sum_n (s : DS) (B : Nat) (w : World) (hs : s.ok) (hS : StAt w B s) (hn : s.n < 1152921504606846976) (m : Nat) (hm0 : m ≤ 8) (hm1 : 8 ≤ m) :
    Calls Try.prog 41 #[.pointer (some ⟨B, 0, none⟩)] w fun e w' => e = .returned (.agg (ints .u8 (toB (feed (feed (addB s 128) (zeros (padN (s.n + 1)))) (lenBytes (8 * (s.n : Int)) m)).h 32))) ∧ Below w.heap.size w w' := by
  obtain ⟨t, hb⟩ := hS
  have hlt : B < w.heap.size := (Array.getElem?_eq_some_iff.1 hb).1
  have HS : Hd (StAt w B s) := hid ⟨t, hb⟩
  have HO : Hd (DS0.cells.toArray.size = s.cells.toArray.size) := hid (by rw [List.size_toArray, List.size_toArray, cells_len hs, cells_len DS0_ok])
  have HZ := hid (size_cells hs)
  go_enter Try.func41, Try.ntmps41
  go_wp2_with (first
    | refine wpList_alloc_eq rfl 68 rfl (ints .u8 Z32) Try.alloc68 ?_
    | refine wpList_alloc_eq rfl 76 rfl DS0.cells.toArray Try.alloc76 ?_
    | refine wpList_load_row rfl 76 _ rfl B rfl t s.cells.toArray (0,0) _ (al_old _ _ _ _ hb) Try.underlying76 rfl (size_cells hs) ?_
    | refine wpList_store_row rfl 76 _ _ rfl (w.alloc (.cells (ints .u8 Z32) 68)).heap.size s.cells.toArray rfl rfl 76 DS0.cells.toArray (al_new _ _) HZ.out HO.out (one_cells s) ?_)
  have hF : F2 w (((w.alloc (.cells (ints .u8 Z32) 68)).alloc (.cells DS0.cells.toArray 76)).setRow (w.heap.size + 1) s.cells.toArray) s :=
    ⟨(heap_setRow _ _ _ _ (by omega)).trans (al2_1 _ _ _), ⟨76, setRow_heap _ _ _ _ _ _ (al2_2 _ _ _)⟩, below_setRow (((Below.refl _ _).alloc (Nat.le_refl _) _).alloc (by simp) _) _ (by omega) _⟩
  generalize (((w.alloc (.cells (ints .u8 Z32) 68)).alloc (.cells DS0.cells.toArray 76)).setRow (w.heap.size + 1) s.cells.toArray) = w1 at *
  clear HO HZ hb
  refine (addByte_any s 128 _ _ hs hF.2.1 (by omega)).mono ?_
  rintro e w2 ⟨rfl, hS2, hE2⟩
  have hF2 := hF.ex hS2 hE2
  clear hF hS2 hE2
  have hok2 := addB_ok hs 128
  have hn2 := addB_n s 128
  generalize hs2 : addB s 128 = s2 at *
  have Hs2 := hid hs2
  clear hs2
  have hn2a : s2.n ≤ s.n + 1 := by omega
  have hn2b : s.n + 1 ≤ s2.n := by omega
  have Hn2 := hid hn2
  clear hn2
  go_wp2
  go_loopw [] (fun wr => ∃ k : Nat, k ≤ padN (s.n + 1) ∧ F2 w wr (feed s2 (zeros k))) (fun wr => s.n + 70 - cnt wr (w.heap.size + 1))
  case atStart => exact ⟨0, by omega, hF2⟩
  case round =>
    clear hF2
    obtain ⟨k, hk, hF⟩ := hrel
    have hok := feed_ok hok2 (zeros k)
    have hfn := feed_n s2 (zeros k)
    rw [zeros_len] at hfn
    have hp := pad_le (s.n + 1)
    have c1 : wr.cell? ⟨w.heap.size + 1, 72, none⟩ = some (.int .u64 ((feed s2 (zeros k)).n : Int)) := by rw [hF.2.1.cell, DS.count hok]
    by_cases hlt2 : k < padN (s.n + 1)
    · have hmod := pad_lt _ _ hlt2
      have ht : ((((feed s2 (zeros k)).n : Int)) % 64 != 56) = true := by rw [bne_iff_ne]; omega
      have hst : Hd (feed s2 (zeros (k + 1)) = addB (feed s2 (zeros k)) 0) := hid (by rw [zeros_succ, feed_append]; rfl)
      have hb2 : (feed s2 (zeros k)).n < 4611686018427387904 := by omega
      have Hfn := hid hfn
      clear hfn hmod
      generalize feed s2 (zeros k) = sk at *
      go_wp2_with (go_at_call 54; refine (addByte_any sk _ _ _ hok hF.2.1 hb2).mono ?_; rintro e w' ⟨rfl, hS2, hE2⟩)
      refine ⟨⟨k + 1, by omega, by rw [hst.out]; exact hF.ex hS2 hE2⟩, ?_⟩
      rw [cnt_of hok hF.2.1, cnt_of (addB_ok hok 0) hS2, addB_n]
      have := Hfn.out
      omega
    · obtain rfl : k = padN (s.n + 1) := by omega
      have hmod := pad_eq (s.n + 1)
      have ht : ((((feed s2 (zeros (padN (s.n + 1)))).n : Int)) % 64 != 56) = false := by
        rw [bne_eq_false_iff_eq]; omega
      have c2 : wr.cell? ⟨B, 72, none⟩ = some (.int .u64 (s.n : Int)) := by rw [hF.2.2.cell hlt, HS.out.cell, DS.count hs]
      have Hfn := hid hfn
      clear hfn hmod hlt2 hk
      generalize hs3 : feed s2 (zeros (padN (s.n + 1))) = s3 at *
      have Hs3 := hid hs3
      clear hs3
      go_wp2
      have hn3 : s3.n < 1152921504606847076 := by have := Hfn.out; omega
      clear c1 c2 ht
      go_loopw [5] (fun i wx => ∃ j : Nat, j ≤ 8 ∧ i = .int .i64 (56 - 8 * j) ∧ F2 w wx (feed s3 (lenBytes (8 * (s.n : Int)) j))) (fun i _ => ((intOf i) + 8).toNat)
      case atStart => exact ⟨0, by omega, rfl, hF⟩
      case round =>
        clear hF
        obtain ⟨j, hj, rfl, hF⟩ := hrel
        have hok4 := feed_ok hok (lenBytes (8 * (s.n : Int)) j)
        have hfn4 := feed_n s3 (lenBytes (8 * (s.n : Int)) j)
        rw [lenBytes_len] at hfn4
        by_cases hlt2 : j < 8
        · have hst : Hd (feed s3 (lenBytes (8 * (s.n : Int)) (j + 1)) = addB (feed s3 (lenBytes (8 * (s.n : Int)) j)) (lenB (8 * (s.n : Int)) j)) := hid (by rw [lenBytes, feed_append]; rfl)
          have hb2 : (feed s3 (lenBytes (8 * (s.n : Int)) j)).n < 4611686018427387904 := by omega
          have e56 : (56 - 8 * (j : Int)).toNat = 56 - 8 * j := by omega
          clear hfn4
          generalize feed s3 (lenBytes (8 * (s.n : Int)) j) = sk at *
          go_wp2_with fail
          refine (addByte_any sk _ _ _ hok4 hF.2.1 hb2).mono ?_
          rintro e w' ⟨rfl, hS2, hE2⟩
          go_wp2
          refine ⟨⟨j + 1, by omega, ?_, by rw [hst.out]; exact hF.ex hS2 hE2⟩, ?_⟩
          · go_num
          · simp [intOf]; omega
        · obtain rfl : j = m := by omega
          clear hlt2 hj hfn4
          generalize hs5 : feed s3 (lenBytes (8 * (s.n : Int)) j) = s5 at *
          have Hs5 := hid hs5
          clear hs5
          have hr := hF.2.1.hRange
          have Hi : Hd ((Try.prog.info? 72).map (·.size) = some (s5.h.map (Value.int .u32)).length) := hid (by rw [List.length_map, hok4.hl]; exact Try.info72)
          go_wp2_with (refine wpList_load_mid rfl 72 _ rfl (w.heap.size + 1) 0 rfl (s5.h.map (Value.int .u32)) _ hr Try.underlying72 rfl Hi.out ?_)
          change Calls Try.prog 55 #[.agg (ints .u32 s5.h)] _ _
          refine (toBytes_any s5.h _ hok4.hl hok4.hw).mono ?_
          rintro e w6 ⟨rfl, hB6⟩
          have hz := hF.2.1.lt
          have hb6 := (hB6.block w.heap.size (by omega)).trans hF.1
          have hB7 := hF.2.2.trans (hB6.mono (by omega))
          have htl := toB_len s5.h 32
          generalize hts : toB s5.h 32 = ts at *
          have Hts := hid hts
          clear hts
          go_wp2_with (refine wpList_store_row rfl 68 _ _ rfl w.heap.size (ints .u8 ts) rfl rfl 68 (ints .u8 Z32) hb6 (by rw [ints_size, htl]; exact Try.info68) (by rw [ints_size, ints_size, htl]; rfl) (ints_one _ _) ?_)
          exact bodyPost_ret (results_cell_row (fn := Try.f41) Try.results41 _ _ w.heap.size 68 (ints .u8 ts) (0,0) _ rfl (setRow_heap _ _ _ _ _ _ hb6) Try.underlying68 rfl (by rw [ints_size, htl]; exact Try.info68)) rfl ⟨by rw [Hs2.out, Hs3.out, Hs5.out, Hts.out], below_setRow hB7 _ (by omega) _⟩
theorem Sum_any (s : DS) (B : Nat) (w : World) (hs : s.ok) (hS : StAt w B s) (hn : s.n < 1152921504606846976) :
    Calls Try.prog 41 #[.pointer (some ⟨B, 0, none⟩)] w fun e w' => e = .returned (.agg (ints .u8 (sumD s))) ∧ Below w.heap.size w w' :=
  Sum_n s B w hs hS hn 8 (by omega) (by omega)
end Go.Proofs.Ytbifmhbkmnofiaa
