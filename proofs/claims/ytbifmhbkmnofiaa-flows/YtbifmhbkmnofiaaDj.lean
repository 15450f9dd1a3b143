import Derived.Test.YtbifmhbkmnofiaaDi
namespace Go.Proofs.Ytbifmhbkmnofiaa
open Go.RowKit
set_option linter.unusedVariables false
set_option linter.unusedSimpArgs false
/-- bytes that a slice holds -/
def Byt (w : World) (v : Value) (xs : List Int) : Prop :=
  (xs = [] ∧ ∃ a cap, v = .slice a 0 cap) ∨ (∃ db off cap, v = .slice (some ⟨db, off, none⟩) xs.length cap ∧ ∀ j, j < xs.length → w.cell? ⟨db, off + j, none⟩ = some (.int .u8 (xs[j]?.getD 0)))
theorem Byt.mono {w w' : World} {v : Value} {xs : List Int} (h : Byt w v xs) (hb : Below w.heap.size w w') : Byt w' v xs := by
  rcases h with h | ⟨db, off, cap, rfl, hc⟩
  · exact Or.inl h
  · refine Or.inr ⟨db, off, cap, rfl, fun j hj => ?_⟩
    have := hc j hj
    rw [hb.cell (World.block_lt_of_cell? w _ this)]; exact this
theorem Add_byt (s : DS) (xs : List Int) (B : Nat) (v : Value) (w0 w : World) (hs : s.ok) (hS : StAt w B s) (hv : Byt w0 v xs) (hb : Below w0.heap.size w0 w) (hB : w0.heap.size ≤ B) (hn : s.n + xs.length < 4611686018427387904) :
    Calls Try.prog 40 #[.pointer (some ⟨B, 0, none⟩), v] w fun e w' => e = .returned (.tuple #[]) ∧ StAt w' B (feed s xs) ∧ Ex B w w' := by
  rcases hv with ⟨rfl, a, cap, rfl⟩ | ⟨db, off, cap, rfl, hc⟩
  · exact (Add_empty s B cap a w).mono fun e w' ⟨h1, h2⟩ => ⟨h1, by rw [h2]; exact hS, by rw [h2]; exact Ex.refl _ _⟩
  · by_cases h0 : xs = []
    · subst h0
      exact (Add_empty s B cap _ w).mono fun e w' ⟨h1, h2⟩ => ⟨h1, by rw [h2]; exact hS, by rw [h2]; exact Ex.refl _ _⟩
    · have hp : 0 < xs.length := List.length_pos_iff.2 h0
      have hlt := World.block_lt_of_cell? w0 _ (hc 0 hp)
      refine Add_any s xs B db off cap w hs hS (by simp at hlt; omega) (fun j hj => ?_) hn
      rw [hb.cell (by exact hlt)]; exact hc j hj
set_option maxRecDepth 20000 in
set_option maxHeartbeats 400000 in
theorem New_any (w : World) : Calls Try.prog 39 #[] w fun e w' => e = .returned (.agg DSN.cells.toArray) ∧ Below w.heap.size w w' := by
  go_enter Try.func39, Try.ntmps39
  go_wp2_with (refine wpList_alloc_eq rfl 76 rfl DS0.cells.toArray Try.alloc76 ?_)
  refine (startTable_any _).mono ?_
  rintro e w2 ⟨rfl, hB2⟩
  have hb2 := (hB2.block w.heap.size (by simp)).trans (al_new w (.cells DS0.cells.toArray 76))
  have hB3 : Below w.heap.size w w2 := ((Below.refl _ _).alloc (Nat.le_refl _) (.cells DS0.cells.toArray 76)).trans (hB2.mono (by simp))
  clear hB2
  have HO : Hd (DS0.cells.toArray.size = DSN.cells.toArray.size) := hid (by rw [List.size_toArray, List.size_toArray, cells_len DSN_ok, cells_len DS0_ok])
  have HZ := hid (size_cells DSN_ok)
  go_wp2_with (first
    | refine wpList_build_eq rfl 76 _ rfl DSN.cells.toArray (by kernel_rfl) ?_
    | refine wpList_store_row rfl 76 _ _ rfl w.heap.size DSN.cells.toArray rfl rfl 76 DS0.cells.toArray hb2 HZ.out HO.out (one_cells _) ?_)
  exact bodyPost_ret (results_cell_row (fn := Try.f39) Try.results39 _ _ w.heap.size 76 DSN.cells.toArray (0,0) _ rfl (setRow_heap _ _ _ _ _ _ hb2) Try.underlying76 rfl HZ.out) rfl ⟨rfl, below_setRow hB3 _ (Nat.le_refl _) _⟩
def shaI (xs : List Int) : List Int := sumD (feed DSN xs)
theorem shaI_len (xs : List Int) : (shaI xs).length = 32 := sumD_len _
set_option maxRecDepth 20000 in
set_option maxHeartbeats 400000 in
theorem DSum_any (v : Value) (xs : List Int) (w : World) (hv : Byt w v xs) (hn : xs.length < 1152921504606846976) :
    Calls Try.prog 37 #[v] w fun e w' => e = .returned (.agg (ints .u8 (shaI xs))) ∧ Below w.heap.size w w' := by
  go_enter Try.func37, Try.ntmps37
  go_wp2_with (refine wpList_alloc_eq rfl 68 rfl (ints .u8 Z32) Try.alloc68 ?_)
  refine (New_any _).mono ?_
  rintro e w2 ⟨rfl, hB2⟩
  have hb2 := (hB2.block w.heap.size (by simp)).trans (al_new w (.cells (ints .u8 Z32) 68))
  have hB3 : Below w.heap.size w w2 := ((Below.refl _ _).alloc (Nat.le_refl _) (.cells (ints .u8 Z32) 68)).trans (hB2.mono (by simp))
  have hz2 : w.heap.size + 1 ≤ w2.heap.size := by have := hB2.size; simpa using this
  clear hB2
  have HO : Hd (DS0.cells.toArray.size = DSN.cells.toArray.size) := hid (by rw [List.size_toArray, List.size_toArray, cells_len DSN_ok, cells_len DS0_ok])
  have HZ := hid (size_cells DSN_ok)
  have hS3 : StAt ((w2.alloc (.cells DS0.cells.toArray 76)).setRow w2.heap.size DSN.cells.toArray) w2.heap.size DSN := ⟨76, setRow_heap _ _ _ _ _ _ (al_new _ _)⟩
  have hB4 : Below w.heap.size w ((w2.alloc (.cells DS0.cells.toArray 76)).setRow w2.heap.size DSN.cells.toArray) := below_setRow (hB3.alloc (by omega) _) _ (by omega) _
  have hb4 : ((w2.alloc (.cells DS0.cells.toArray 76)).setRow w2.heap.size DSN.cells.toArray).heap[w.heap.size]? = some (.cells (ints .u8 Z32) 68 (0, 0)) := (heap_setRow _ _ _ _ (by omega)).trans (al_old _ _ _ _ hb2)
  clear hb2 hB3
  have hok := DSN_ok
  generalize hds : DSN = ds at *
  have hds0 : ds.n = 0 := by rw [← hds]; rfl
  have Hds := hid hds
  clear hds
  go_wp2_with (first
    | refine wpList_alloc_eq rfl 76 rfl DS0.cells.toArray Try.alloc76 ?_
    | refine wpList_store_row rfl 76 _ _ rfl w2.heap.size ds.cells.toArray rfl rfl 76 DS0.cells.toArray (al_new _ _) HZ.out HO.out (one_cells _) ?_)
  generalize ((w2.alloc (.cells DS0.cells.toArray 76)).setRow w2.heap.size ds.cells.toArray) = w3 at *
  refine (Add_byt ds xs _ v w _ hok hS3 hv hB4 (by omega) (by omega)).mono ?_
  rintro e w5 ⟨rfl, hS5, hE5⟩
  have hlt3 := hS3.lt
  have hb5 := (hE5.block w.heap.size (by omega) (by omega)).trans hb4
  have hB5 := hB4.trans (hE5.below (by omega) (by omega))
  have hfn := feed_n ds xs
  have hok5 := feed_ok hok xs
  clear hS3 hB4 hb4 hE5
  go_wp2_with fail
  refine (Sum_any _ _ _ hok5 hS5 (by omega)).mono ?_
  rintro e w6 ⟨rfl, hB6⟩
  have hlt5 := hS5.lt
  have hb6 := (hB6.block w.heap.size (by omega)).trans hb5
  have hB7 := hB5.trans (hB6.mono (by omega))
  have htl := sumD_len (feed ds xs)
  generalize hts : sumD (feed ds xs) = ts at *
  have Hts := hid hts
  clear hts
  go_wp2_with (refine wpList_store_row rfl 68 _ _ rfl w.heap.size (ints .u8 ts) rfl rfl 68 (ints .u8 Z32) hb6 (by rw [ints_size, htl]; exact Try.info68) (by rw [ints_size, ints_size, htl]; rfl) (ints_one _ _) ?_)
  exact bodyPost_ret (results_cell_row (fn := Try.f37) Try.results37 _ _ w.heap.size 68 (ints .u8 ts) (0,0) _ rfl (setRow_heap _ _ _ _ _ _ hb6) Try.underlying68 rfl (by rw [ints_size, htl]; exact Try.info68)) rfl ⟨by rw [shaI, Hds.out, Hts.out], below_setRow hB7 _ (by omega) _⟩
end Go.Proofs.Ytbifmhbkmnofiaa
