import Derived.Test.YtbifmhbkmnofiaaDj
import Derived.Laws.CopyOwn
import Derived.Deep.RegionLaw
namespace Go.Proofs.Ytbifmhbkmnofiaa
open Go.RowKit
set_option linter.unusedVariables false
set_option linter.unusedSimpArgs false
theorem Try.alloc73 (w : World) : Sem.run Try.prog (Instr.alloc 73 true (Value.tuple #[])) w = .ok (.pointer (some ⟨w.heap.size, 0, none⟩)) (w.alloc (.cells (ints .u8 Z64) 73)) := by kernel_rfl
theorem Try.info5 : (Try.prog.info? 5).map (·.size) = some 1 := by kernel_rfl
theorem Byt.form {w : World} {v : Value} {xs : List Int} (h : Byt w v xs) : ∃ a cap, v = .slice a xs.length cap ∧ (0 < xs.length → ∃ ad, a = some ad ∧ ∀ j u, (xs.map (Value.int .u8))[j]? = some u → w.cell? (ad.add j) = some u) := by
  rcases h with ⟨rfl, a, cap, rfl⟩ | ⟨db, off, cap, rfl, hc⟩
  · exact ⟨a, cap, rfl, fun h => by simp at h⟩
  · refine ⟨_, cap, rfl, fun _ => ⟨_, rfl, fun j u hu => ?_⟩⟩
    have hj : j < xs.length := by simpa using (List.getElem?_eq_some_iff.1 hu).1
    rw [Addr.add_mid, hc j hj, ← hu]
    simp [List.getElem?_eq_getElem hj]
def keyI (xs : List Int) : List Int := if 64 < xs.length then shaI xs ++ Z32 else xs ++ zeros (64 - xs.length)
theorem keyI_len (xs : List Int) : (keyI xs).length = 64 := by
  unfold keyI
  split
  · simp [shaI_len, Z32]
  · simp [zeros]; omega
theorem splice_key (xs : List Int) (hn : xs.length ≤ 64) : (splice (Z64.map (Value.int .u8)) 0 (xs.map (Value.int .u8))).toArray = ints .u8 (xs ++ zeros (64 - xs.length)) := by
  unfold splice ints zeros Z64
  rw [List.take_zero, List.nil_append, List.length_map, Nat.zero_add, List.map_replicate, List.drop_replicate, List.map_append, List.map_replicate]
set_option maxRecDepth 20000 in
set_option maxHeartbeats 400000 in
theorem fillKey_no (v : Value) (xs : List Int) (w : World) (hv : Byt w v xs) (hn : xs.length ≤ 64) :
    Calls Try.prog 51 #[v] w fun e w' => e = .returned (.agg (ints .u8 (xs ++ zeros (64 - xs.length)))) ∧ Below w.heap.size w w' := by
  have hB2 : Below w.heap.size w ((w.alloc (.cells (ints .u8 Z64) 73)).alloc (.cells (ints .u8 Z64) 73)) := ((Below.refl _ _).alloc (Nat.le_refl _) _).alloc (by simp) _
  have hv2 := hv.mono hB2
  obtain ⟨a, cap, rfl, hsrc⟩ := hv2.form
  have Hpos : Hd (0 < (xs.map (Value.int .u8)).length → some (⟨w.heap.size + 1, 0, none⟩ : Addr) = some ⟨w.heap.size + 1, 0, none⟩ ∧ ∃ ad, a = some ad ∧ ∀ j u, (xs.map (Value.int .u8))[j]? = some u → ((w.alloc (.cells (ints .u8 Z64) 73)).alloc (.cells (ints .u8 Z64) 73)).cell? (ad.add j) = some u) :=
    hid fun h => ⟨rfl, hsrc (by simpa using h)⟩
  have Hmin : Hd ((xs.map (Value.int .u8)).length = Nat.min xs.length 64) := hid (by rw [List.length_map]; exact (Nat.min_eq_left hn).symm)
  have Hfit : Hd (0 + (xs.map (Value.int .u8)).length ≤ (Z64.map (Value.int .u8)).length) := hid (by simp [Z64]; omega)
  have HS := hid (splice_key xs hn)
  have hkl : Hd ((xs ++ zeros (64 - xs.length)).length = 64) := hid (by simp [zeros]; omega)
  have HB2 := hid hB2
  clear hsrc hv hv2 hB2
  go_enter Try.func51, Try.ntmps51
  go_wp2_with (first
    | refine wpList_alloc_eq rfl 73 rfl (ints .u8 Z64) Try.alloc73 ?_
    | (refine wpList_copy_splice rfl _ _ 35 35 rfl 5 Try.underlying35 Try.info5 (some ⟨w.heap.size + 1, 0, none⟩) a 64 64 xs.length cap rfl rfl (w.heap.size + 1) 0 (Z64.map (Value.int .u8)) 73 (al2_2 _ _ _) (xs.map (Value.int .u8)) Hmin.out Hpos.out Hfit.out (one_ints _ _) (w.heap.size + 1) _ (Below.refl _ _) (by omega) ?_; intro w3 hg3 hb3; rw [HS.out] at hg3; have hr3 := hid ((hb3.block w.heap.size (by omega)).trans (al2_1 _ _ _)); have HB3 := hid (HB2.out.trans (hb3.mono (by omega))); clear hb3)
    | refine wpList_load_row rfl 73 _ rfl (w.heap.size + 1) rfl 73 _ (0,0) _ hg3.out Try.underlying73 rfl (by rw [ints_size, hkl.out]; exact Try.info73) ?_
    | refine wpList_store_row rfl 73 _ _ rfl w.heap.size _ rfl rfl 73 _ hr3.out (by rw [ints_size, hkl.out]; exact Try.info73) (by rw [ints_size, ints_size, hkl.out]; rfl) (ints_one _ _) ?_)
  exact bodyPost_ret (results_cell_row (fn := Try.f51) Try.results51 _ _ w.heap.size 73 _ (0,0) _ rfl (setRow_heap _ _ _ _ _ _ hr3.out) Try.underlying73 rfl (by rw [ints_size, hkl.out]; exact Try.info73)) rfl ⟨rfl, below_setRow HB3.out _ (by omega) _⟩
set_option maxRecDepth 20000 in
set_option maxHeartbeats 400000 in
theorem fillKey_yes (v : Value) (xs : List Int) (w : World) (hv : Byt w v xs) (hn : 64 < xs.length) (hn2 : xs.length < 1152921504606846976) :
    Calls Try.prog 51 #[v] w fun e w' => e = .returned (.agg (ints .u8 (shaI xs ++ zeros 32))) ∧ Below w.heap.size w w' := by
  have hB2 : Below w.heap.size w ((w.alloc (.cells (ints .u8 Z64) 73)).alloc (.cells (ints .u8 Z64) 73)) := ((Below.refl _ _).alloc (Nat.le_refl _) _).alloc (by simp) _
  have hv2 := hv.mono hB2
  obtain ⟨a, cap, rfl, hsrc⟩ := hv2.form
  clear hsrc hv
  have HB2 := hid hB2
  clear hB2
  go_enter Try.func51, Try.ntmps51
  go_wp2_with (refine wpList_alloc_eq rfl 73 rfl (ints .u8 Z64) Try.alloc73 ?_)
  have hr2 := al2_1 w (.cells (ints .u8 Z64) 73) (.cells (ints .u8 Z64) 73)
  have hg2 := al2_2 w (.cells (ints .u8 Z64) 73) (.cells (ints .u8 Z64) 73)
  have hz2 : ((w.alloc (.cells (ints .u8 Z64) 73)).alloc (.cells (ints .u8 Z64) 73)).heap.size = w.heap.size + 2 := by simp
  generalize ((w.alloc (.cells (ints .u8 Z64) 73)).alloc (.cells (ints .u8 Z64) 73)) = w2 at *
  refine (DSum_any _ _ _ hv2 hn2).mono ?_
  rintro e w3 ⟨rfl, hB3⟩
  have hr3 := (hB3.block w.heap.size (by omega)).trans hr2
  have hg3 := (hB3.block (w.heap.size + 1) (by omega)).trans hg2
  have hB4 := HB2.out.trans (hB3.mono (by omega))
  have hz3 : w.heap.size + 2 ≤ w3.heap.size := by have := hB3.size; omega
  clear hr2 hg2 hz2 HB2 hB3 hv2
  have hsl := shaI_len xs
  generalize hss : shaI xs = ss at *
  have Hss := hid hss
  clear hss
  have hr4 : ((w3.alloc (.cells (ints .u8 Z32) 68)).setRow w3.heap.size (ints .u8 ss)).heap[w.heap.size]? = some (.cells (ints .u8 Z64) 73 (0, 0)) := (heap_setRow _ _ _ _ (by omega)).trans (al_old _ _ _ _ hr3)
  have hg4 : ((w3.alloc (.cells (ints .u8 Z32) 68)).setRow w3.heap.size (ints .u8 ss)).heap[w.heap.size + 1]? = some (.cells (ints .u8 Z64) 73 (0, 0)) := (heap_setRow _ _ _ _ (by omega)).trans (al_old _ _ _ _ hg3)
  have hk4 : ((w3.alloc (.cells (ints .u8 Z32) 68)).setRow w3.heap.size (ints .u8 ss)).heap[w3.heap.size]? = some (.cells (ints .u8 ss) 68 (0, 0)) := setRow_heap _ _ _ _ _ _ (al_new _ _)
  have hB5 : Below w.heap.size w ((w3.alloc (.cells (ints .u8 Z32) 68)).setRow w3.heap.size (ints .u8 ss)) := below_setRow (hB4.alloc (by omega) _) _ (by omega) _
  clear hr3 hg3 hB4
  go_wp2_with (first
    | refine wpList_alloc_eq rfl 68 rfl (ints .u8 Z32) Try.alloc68 ?_
    | refine wpList_store_row rfl 68 _ _ rfl w3.heap.size (ints .u8 ss) rfl rfl 68 (ints .u8 Z32) (al_new _ _) (by rw [ints_size, hsl]; exact Try.info68) (by rw [ints_size, ints_size, hsl]; rfl) (ints_one _ _) ?_)
  generalize ((w3.alloc (.cells (ints .u8 Z32) 68)).setRow w3.heap.size (ints .u8 ss)) = w4 at *
  generalize w3.heap.size = sb at *
  have Hmin : Hd ((ss.map (Value.int .u8)).length = Nat.min 32 64) := hid (by rw [List.length_map, hsl]; rfl)
  have Hfit : Hd (0 + (ss.map (Value.int .u8)).length ≤ (Z64.map (Value.int .u8)).length) := hid (by simp [Z64]; omega)
  have Hpos : Hd (0 < (ss.map (Value.int .u8)).length → some (⟨w.heap.size + 1, 0, none⟩ : Addr) = some ⟨w.heap.size + 1, 0, none⟩ ∧ ∃ ad, some (⟨sb, 0, none⟩ : Addr) = some ad ∧ ∀ j u, (ss.map (Value.int .u8))[j]? = some u → w4.drew.cell? (ad.add j) = some u) :=
    hid fun _ => ⟨rfl, _, rfl, fun j u hu => by
      have hj : j < ss.length := by simpa using (List.getElem?_eq_some_iff.1 hu).1
      rw [Addr.add_mid, Nat.zero_add, World.cell?_drew, (cells_of _ _ _ _ _ hk4).1 j hj, ← hu]
      simp [List.getElem?_eq_getElem hj]⟩
  have HS : Hd ((splice (Z64.map (Value.int .u8)) 0 (ss.map (Value.int .u8))).toArray = ints .u8 (ss ++ zeros 32)) := hid (by have := splice_key ss (by omega); rw [hsl] at this; exact this)
  have hkl : Hd ((ss ++ zeros 32).length = 64) := hid (by simp [zeros]; omega)
  have Hg4 := hid hg4
  have Hr4 := hid hr4
  have HB5 := hid hB5
  clear hg4 hr4 hB5 hk4
  go_region_law ((refine step_copy_splice rfl (.tmp 10) (.tmp 11) 35 35 rfl 5 Try.underlying35 Try.info5 (some ⟨w.heap.size + 1, 0, none⟩) (some ⟨sb, 0, none⟩) 64 64 32 32 (by simp [Act.eval, Act.put]) (by simp [Act.eval, Act.put]) (w.heap.size + 1) 0 (Z64.map (Value.int .u8)) 73 Hg4.out (ss.map (Value.int .u8)) Hmin.out Hpos.out Hfit.out (one_ints _ _) (w.heap.size + 1) _ (Below.refl _ _) (by omega) ?_; intro w5 hg5 hb5))
  rw [HS.out] at hg5
  have hr5 := hid ((hb5.block w.heap.size (by omega)).trans Hr4.out)
  have HB6 := hid (HB5.out.drew.trans (hb5.mono (by omega)))
  clear hb5
  go_wp2_with (first
    | refine wpList_load_row rfl 73 _ rfl (w.heap.size + 1) rfl 73 _ (0,0) _ hg5.out Try.underlying73 rfl (by rw [ints_size, hkl.out]; exact Try.info73) ?_
    | refine wpList_store_row rfl 73 _ _ rfl w.heap.size _ rfl rfl 73 _ hr5.out (by rw [ints_size, hkl.out]; exact Try.info73) (by rw [ints_size, ints_size, hkl.out]; rfl) (ints_one _ _) ?_)
  exact bodyPost_ret (results_cell_row (fn := Try.f51) Try.results51 _ _ w.heap.size 73 _ (0,0) _ rfl (setRow_heap _ _ _ _ _ _ hr5.out) Try.underlying73 rfl (by rw [ints_size, hkl.out]; exact Try.info73)) rfl ⟨by rw [Hss.out], below_setRow HB6.out _ (by omega) _⟩
theorem fillKey_any (v : Value) (xs : List Int) (w : World) (hv : Byt w v xs) (hn2 : xs.length < 1152921504606846976) :
    Calls Try.prog 51 #[v] w fun e w' => e = .returned (.agg (ints .u8 (keyI xs))) ∧ Below w.heap.size w w' := by
  unfold keyI
  split
  · rename_i h
    exact fillKey_yes v xs w hv h hn2
  · exact fillKey_no v xs w hv (by omega)
def maskI (ks : List Int) (m : Int) : Nat → List Int
  | 0 => []
  | k + 1 => maskI ks m k ++ [bits .xor .u8 (ks[k]?.getD 0) m]
theorem maskI_len (ks : List Int) (m : Int) (k : Nat) : (maskI ks m k).length = k := by
  induction k with
  | zero => rfl
  | succ k ih => simp [maskI, ih]
/-- 'sumBehind': the world: the key's box, the result's cell -/
def S2 (w wx : World) (ks : List Int) : Prop := wx.heap[w.heap.size]? = some (.cells (ints .u8 ks) 73 (0, 0)) ∧ wx.heap[w.heap.size + 1]? = some (.cells (ints .u8 Z32) 68 (0, 0)) ∧ Below w.heap.size w wx
theorem S2.ex {w wx wy : World} {ks : List Int} {B : Nat} (h : S2 w wx ks) (hB : w.heap.size + 1 < B) (hE : Ex B wx wy) : S2 w wy ks := by
  have hz := (Array.getElem?_eq_some_iff.1 h.2.1).1
  exact ⟨(hE.block _ (by omega) (by omega)).trans h.1, (hE.block _ (by omega) (by omega)).trans h.2.1, h.2.2.trans (hE.below (by omega) (by omega))⟩
theorem S2.below {w wx wy : World} {ks : List Int} (h : S2 w wx ks) (hE : Below wx.heap.size wx wy) : S2 w wy ks := by
  have hz := (Array.getElem?_eq_some_iff.1 h.2.1).1
  exact ⟨(hE.block _ (by omega)).trans h.1, (hE.block _ (by omega)).trans h.2.1, h.2.2.trans (hE.mono (by omega))⟩
theorem S2.size {w wx : World} {ks : List Int} (h : S2 w wx ks) : w.heap.size + 1 < wx.heap.size := (Array.getElem?_eq_some_iff.1 h.2.1).1
set_option maxRecDepth 20000 in
set_option maxHeartbeats 400000 in
theorem sumBehind_n (ks : List Int) (m : Int) (v : Value) (xs : List Int) (w : World) (n : Nat) (hn0 : n ≤ 64) (hn1 : 64 ≤ n) (hkl : ks.length = 64) (hv : Byt w v xs) (hn2 : xs.length < 1152921504606846000) :
    Calls Try.prog 52 #[.agg (ints .u8 ks), .int .u8 m, v] w fun e w' => e = .returned (.agg (ints .u8 (sumD (feed (feed DSN (maskI ks m n)) xs)))) ∧ Below w.heap.size w w' := by
  have Hv := hid hv
  clear hv
  go_enter Try.func52, Try.ntmps52
  go_wp2_with (refine wpList_alloc_eq rfl 68 rfl (ints .u8 Z32) Try.alloc68 ?_)
  have hS : S2 w ((w.alloc (.cells (ints .u8 ks) 73)).alloc (.cells (ints .u8 Z32) 68)) ks := ⟨al2_1 _ _ _, al2_2 _ _ _, ((Below.refl _ _).alloc (Nat.le_refl _) _).alloc (by simp) _⟩
  generalize ((w.alloc (.cells (ints .u8 ks) 73)).alloc (.cells (ints .u8 Z32) 68)) = w1 at *
  refine (New_any _).mono ?_
  rintro e w2 ⟨rfl, hB2⟩
  have hS2 := hS.below hB2
  clear hS hB2
  have HO : Hd (DS0.cells.toArray.size = DSN.cells.toArray.size) := hid (by rw [List.size_toArray, List.size_toArray, cells_len DSN_ok, cells_len DS0_ok])
  have HZ := hid (size_cells DSN_ok)
  have hT3 : StAt ((w2.alloc (.cells DS0.cells.toArray 76)).setRow w2.heap.size DSN.cells.toArray) w2.heap.size DSN := ⟨76, setRow_heap _ _ _ _ _ _ (al_new _ _)⟩
  have hz2 := hS2.size
  have hS3 : S2 w ((w2.alloc (.cells DS0.cells.toArray 76)).setRow w2.heap.size DSN.cells.toArray) ks :=
    ⟨(heap_setRow _ _ _ _ (by omega)).trans (al_old _ _ _ _ hS2.1), (heap_setRow _ _ _ _ (by omega)).trans (al_old _ _ _ _ hS2.2.1), below_setRow (hS2.2.2.alloc (by omega) _) _ (by omega) _⟩
  clear hS2
  have hok := DSN_ok
  generalize hds : DSN = ds at *
  have hds0 : ds.n = 0 := by rw [← hds]; rfl
  have Hds := hid hds
  clear hds
  go_wp2_with (first
    | refine wpList_alloc_eq rfl 76 rfl DS0.cells.toArray Try.alloc76 ?_
    | refine wpList_store_row rfl 76 _ _ rfl w2.heap.size ds.cells.toArray rfl rfl 76 DS0.cells.toArray (al_new _ _) HZ.out HO.out (one_cells _) ?_
    | refine wpList_load_row rfl 73 _ rfl w.heap.size rfl 73 _ (0,0) _ hS3.1 Try.underlying73 rfl (by rw [ints_size, hkl]; exact Try.info73) ?_)
  generalize ((w2.alloc (.cells DS0.cells.toArray 76)).setRow w2.heap.size ds.cells.toArray) = w3 at *
  generalize w2.heap.size = B at *
  go_loopw [12] (fun i wr => ∃ k : Nat, k ≤ 64 ∧ i = .int .i64 k ∧ StAt wr B (feed ds (maskI ks m k)) ∧ S2 w wr ks) (fun i _ => 64 - (intOf i).toNat)
  case atStart => exact ⟨0, by omega, rfl, hT3, hS3⟩
  case round =>
    clear hT3 hS3
    obtain ⟨k, hk, rfl, hT, hS⟩ := hrel
    have hok4 := feed_ok hok (maskI ks m k)
    have hfn4 := feed_n ds (maskI ks m k)
    rw [maskI_len] at hfn4
    by_cases hlt : k < 64
    · have ix := Try.index73 ks k wr hkl hlt
      have hst : Hd (feed ds (maskI ks m (k + 1)) = addB (feed ds (maskI ks m k)) (bits .xor .u8 (ks[k]?.getD 0) m)) := hid (by rw [maskI, feed_append]; rfl)
      have hb2 : (feed ds (maskI ks m k)).n < 4611686018427387904 := by omega
      clear hfn4
      generalize feed ds (maskI ks m k) = sk at *
      generalize ks[k]?.getD 0 = y at *
      go_wp2_with (go_at_call 54; refine (addByte_any sk _ _ _ hok4 hT hb2).mono ?_; rintro e w' ⟨rfl, hT2, hE2⟩)
      exact ⟨⟨k + 1, by omega, by go_num, by rw [hst.out]; exact hT2, hS.ex (by omega) hE2⟩, by simp [intOf]; omega⟩
    · obtain rfl : k = n := by omega
      clear hlt hk
      generalize hs5 : feed ds (maskI ks m k) = s5 at *
      have Hs5 := hid hs5
      clear hs5
      go_wp2_with fail
      refine (Add_byt s5 xs B v w _ hok4 hT Hv.out hS.2.2 (by omega) (by omega)).mono ?_
      rintro e w5 ⟨rfl, hT5, hE5⟩
      have hS5 := hS.ex (by omega) hE5
      have hfn5 := feed_n s5 xs
      have hok5 := feed_ok hok4 xs
      clear hT hS hE5
      go_wp2_with fail
      refine (Sum_any _ _ _ hok5 hT5 (by omega)).mono ?_
      rintro e w6 ⟨rfl, hB6⟩
      have hS6 := hS5.below hB6
      clear hS5 hB6
      have htl := sumD_len (feed s5 xs)
      generalize hts : sumD (feed s5 xs) = ts at *
      have Hts := hid hts
      clear hts
      go_wp2_with (refine wpList_store_row rfl 68 _ _ rfl (w.heap.size + 1) (ints .u8 ts) rfl rfl 68 (ints .u8 Z32) hS6.2.1 (by rw [ints_size, htl]; exact Try.info68) (by rw [ints_size, ints_size, htl]; rfl) (ints_one _ _) ?_)
      exact bodyPost_ret (results_cell_row (fn := Try.f52) Try.results52 _ _ (w.heap.size + 1) 68 (ints .u8 ts) (0,0) _ rfl (setRow_heap _ _ _ _ _ _ hS6.2.1) Try.underlying68 rfl (by rw [ints_size, htl]; exact Try.info68)) rfl ⟨by rw [Hds.out, Hs5.out, Hts.out], below_setRow hS6.2.2 _ (by omega) _⟩
end Go.Proofs.Ytbifmhbkmnofiaa
