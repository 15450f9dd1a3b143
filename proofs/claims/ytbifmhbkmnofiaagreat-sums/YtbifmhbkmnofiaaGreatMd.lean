import Derived.Test.YtbifmhbkmnofiaaGreatMc
import Derived.Laws.CopyOwn
import Derived.Deep.RegionLaw
namespace Go.Proofs.YtbifmhbkmnofiaaGreat
open Go.RowKit
set_option linter.unusedVariables false
set_option linter.unusedSimpArgs false
/-- bytes that a slice holds -/
def Byt (w : World) (v : Value) (xs : List Int) : Prop :=
  (xs = [] ∧ ∃ a cap, v = .slice a 0 cap) ∨ (∃ db off cap, v = .slice (some ⟨db, off, none⟩) xs.length cap ∧ ∀ j, j < xs.length → w.cell? ⟨db, off + j, none⟩ = some (.int .u8 (xs[j]?.getD 0)))
theorem Byt.mono {w w' : World} {v : Value} {xs : List Int} (h : Byt w v xs) (hb : Below w.heap.size w w') : Byt w' v xs := by
  rcases h with h | ⟨db, off, cap, rfl, hc⟩
  · exact Or.inl h
  · refine Or.inr ⟨db, off, cap, rfl, fun j hj => ?_⟩
    have := hc j hj
    rw [hb.cell (World.block_lt_of_cell? w _ this)]; exact this
theorem Add_byt (s : DS) (xs : List Int) (B : Nat) (v : Value) (w0 w : World) (hs : s.ok) (hS : StAt w B s) (hv : Byt w0 v xs) (hb : Below w0.heap.size w0 w) (hB : w0.heap.size ≤ B) (hn : s.n + xs.length < 4611686018427387904) :
    Calls Tryz.prog 58 #[.pointer (some ⟨B, 0, none⟩), v] w fun e w' => e = .returned (.tuple #[]) ∧ StAt w' B (feed s xs) ∧ Ex B w w' := by
  rcases hv with ⟨rfl, a, cap, rfl⟩ | ⟨db, off, cap, rfl, hc⟩
  · exact (Add_empty s B cap a w).mono fun e w' ⟨h1, h2⟩ => ⟨h1, by rw [h2]; exact hS, by rw [h2]; exact Ex.refl _ _⟩
  · by_cases h0 : xs = []
    · subst h0
      exact (Add_empty s B cap _ w).mono fun e w' ⟨h1, h2⟩ => ⟨h1, by rw [h2]; exact hS, by rw [h2]; exact Ex.refl _ _⟩
    · have hp : 0 < xs.length := List.length_pos_iff.2 h0
      have hlt := World.block_lt_of_cell? w0 _ (hc 0 hp)
      refine Add_any s xs B db off cap w hs hS (by simp at hlt; omega) (fun j hj => ?_) hn
      rw [hb.cell (by exact hlt)]; exact hc j hj
set_option maxRecDepth 20000 in
set_option maxHeartbeats 400000 in
theorem New_any (w : World) : Calls Tryz.prog 52 #[] w fun e w' => e = .returned (.agg DSN.cells.toArray) ∧ Below w.heap.size w w' := by
  go_enter Tryz.func52, Tryz.ntmps52
  go_wp2_with (refine wpList_alloc_eq rfl 105 rfl DS0.cells.toArray Tryz.alloc105 ?_)
  refine (startTable_any _).mono ?_
  rintro e w2 ⟨rfl, hB2⟩
  have hb2 := (hB2.block w.heap.size (by simp)).trans (al_new w (.cells DS0.cells.toArray 105))
  have hB3 : Below w.heap.size w w2 := ((Below.refl _ _).alloc (Nat.le_refl _) (.cells DS0.cells.toArray 105)).trans (hB2.mono (by simp))
  clear hB2
  have HO : Hd (DS0.cells.toArray.size = DSN.cells.toArray.size) := hid (by rw [List.size_toArray, List.size_toArray, cells_len DSN_ok, cells_len DS0_ok])
  have HZ := hid (size_cells DSN_ok)
  go_wp2_with (first
    | refine wpList_build_eq rfl 105 _ rfl DSN.cells.toArray (by kernel_rfl) ?_
    | refine wpList_store_row rfl 105 _ _ rfl w.heap.size DSN.cells.toArray rfl rfl 105 DS0.cells.toArray hb2 HZ.out HO.out (one_cells _) ?_)
  exact bodyPost_ret (results_cell_row (fn := Tryz.f52) Tryz.results52 _ _ w.heap.size 105 DSN.cells.toArray (0,0) _ rfl (setRow_heap _ _ _ _ _ _ hb2) Tryz.underlying105 rfl HZ.out) rfl ⟨rfl, below_setRow hB3 _ (Nat.le_refl _) _⟩
def shaI (xs : List Int) : List Int := sumD (feed DSN xs)
theorem shaI_len (xs : List Int) : (shaI xs).length = 32 := sumD_len _
set_option maxRecDepth 20000 in
set_option maxHeartbeats 400000 in
theorem DSum_any (v : Value) (xs : List Int) (w : World) (hv : Byt w v xs) (hn : xs.length < 1152921504606846976) :
    Calls Tryz.prog 49 #[v] w fun e w' => e = .returned (.agg (ints .u8 (shaI xs))) ∧ Below w.heap.size w w' := by
  go_enter Tryz.func49, Tryz.ntmps49
  go_wp2_with (refine wpList_alloc_eq rfl 96 rfl (ints .u8 Z32) Tryz.alloc96 ?_)
  refine (New_any _).mono ?_
  rintro e w2 ⟨rfl, hB2⟩
  have hb2 := (hB2.block w.heap.size (by simp)).trans (al_new w (.cells (ints .u8 Z32) 96))
  have hB3 : Below w.heap.size w w2 := ((Below.refl _ _).alloc (Nat.le_refl _) (.cells (ints .u8 Z32) 96)).trans (hB2.mono (by simp))
  have hz2 : w.heap.size + 1 ≤ w2.heap.size := by have := hB2.size; simpa using this
  clear hB2
  have HO : Hd (DS0.cells.toArray.size = DSN.cells.toArray.size) := hid (by rw [List.size_toArray, List.size_toArray, cells_len DSN_ok, cells_len DS0_ok])
  have HZ := hid (size_cells DSN_ok)
  have hS3 : StAt ((w2.alloc (.cells DS0.cells.toArray 105)).setRow w2.heap.size DSN.cells.toArray) w2.heap.size DSN := ⟨105, setRow_heap _ _ _ _ _ _ (al_new _ _)⟩
  have hB4 : Below w.heap.size w ((w2.alloc (.cells DS0.cells.toArray 105)).setRow w2.heap.size DSN.cells.toArray) := below_setRow (hB3.alloc (by omega) _) _ (by omega) _
  have hb4 : ((w2.alloc (.cells DS0.cells.toArray 105)).setRow w2.heap.size DSN.cells.toArray).heap[w.heap.size]? = some (.cells (ints .u8 Z32) 96 (0, 0)) := (heap_setRow _ _ _ _ (by omega)).trans (al_old _ _ _ _ hb2)
  clear hb2 hB3
  have hok := DSN_ok
  generalize hds : DSN = ds at *
  have hds0 : ds.n = 0 := by rw [← hds]; rfl
  have Hds := hid hds
  clear hds
  go_wp2_with (first
    | refine wpList_alloc_eq rfl 105 rfl DS0.cells.toArray Tryz.alloc105 ?_
    | refine wpList_store_row rfl 105 _ _ rfl w2.heap.size ds.cells.toArray rfl rfl 105 DS0.cells.toArray (al_new _ _) HZ.out HO.out (one_cells _) ?_)
  generalize ((w2.alloc (.cells DS0.cells.toArray 105)).setRow w2.heap.size ds.cells.toArray) = w3 at *
  refine (Add_byt ds xs _ v w _ hok hS3 hv hB4 (by omega) (by omega)).mono ?_
  rintro e w5 ⟨rfl, hS5, hE5⟩
  have hlt3 := hS3.lt
  have hb5 := (hE5.block w.heap.size (by omega) (by omega)).trans hb4
  have hB5 := hB4.trans (hE5.below (by omega) (by omega))
  have hfn := feed_n ds xs
  have hok5 := feed_ok hok xs
  clear hS3 hB4 hb4 hE5
  go_wp2_with fail
  refine (Sum_any _ _ _ hok5 hS5 (by omega)).mono ?_
  rintro e w6 ⟨rfl, hB6⟩
  have hlt5 := hS5.lt
  have hb6 := (hB6.block w.heap.size (by omega)).trans hb5
  have hB7 := hB5.trans (hB6.mono (by omega))
  have htl := sumD_len (feed ds xs)
  generalize hts : sumD (feed ds xs) = ts at *
  have Hts := hid hts
  clear hts
  go_wp2_with (refine wpList_store_row rfl 96 _ _ rfl w.heap.size (ints .u8 ts) rfl rfl 96 (ints .u8 Z32) hb6 (by rw [ints_size, htl]; exact Tryz.info96) (by rw [ints_size, ints_size, htl]; rfl) (ints_one _ _) ?_)
  exact bodyPost_ret (results_cell_row (fn := Tryz.f49) Tryz.results49 _ _ w.heap.size 96 (ints .u8 ts) (0,0) _ rfl (setRow_heap _ _ _ _ _ _ hb6) Tryz.underlying96 rfl (by rw [ints_size, htl]; exact Tryz.info96)) rfl ⟨by rw [shaI, Hds.out, Hts.out], below_setRow hB7 _ (by omega) _⟩
end Go.Proofs.YtbifmhbkmnofiaaGreat
namespace Go.Proofs.YtbifmhbkmnofiaaGreat
open Go.RowKit
set_option linter.unusedVariables false
set_option linter.unusedSimpArgs false
theorem Tryz.alloc102 (w : World) : Sem.run Tryz.prog (Instr.alloc 102 true (Value.tuple #[])) w = .ok (.pointer (some ⟨w.heap.size, 0, none⟩)) (w.alloc (.cells (ints .u8 Z64) 102)) := by kernel_rfl
theorem Tryz.info5 : (Tryz.prog.info? 5).map (·.size) = some 1 := by kernel_rfl
theorem Byt.form {w : World} {v : Value} {xs : List Int} (h : Byt w v xs) : ∃ a cap, v = .slice a xs.length cap ∧ (0 < xs.length → ∃ ad, a = some ad ∧ ∀ j u, (xs.map (Value.int .u8))[j]? = some u → w.cell? (ad.add j) = some u) := by
  rcases h with ⟨rfl, a, cap, rfl⟩ | ⟨db, off, cap, rfl, hc⟩
  · exact ⟨a, cap, rfl, fun h => by simp at h⟩
  · refine ⟨_, cap, rfl, fun _ => ⟨_, rfl, fun j u hu => ?_⟩⟩
    have hj : j < xs.length := by simpa using (List.getElem?_eq_some_iff.1 hu).1
    rw [Addr.add_mid, hc j hj, ← hu]
    simp [List.getElem?_eq_getElem hj]
def keyI (xs : List Int) : List Int := if 64 < xs.length then shaI xs ++ Z32 else xs ++ zeros (64 - xs.length)
theorem keyI_len (xs : List Int) : (keyI xs).length = 64 := by
  unfold keyI
  split
  · simp [shaI_len, Z32]
  · simp [zeros]; omega
theorem splice_key (xs : List Int) (hn : xs.length ≤ 64) : (splice (Z64.map (Value.int .u8)) 0 (xs.map (Value.int .u8))).toArray = ints .u8 (xs ++ zeros (64 - xs.length)) := by
  unfold splice ints zeros Z64
  rw [List.take_zero, List.nil_append, List.length_map, Nat.zero_add, List.map_replicate, List.drop_replicate, List.map_append, List.map_replicate]
set_option maxRecDepth 20000 in
set_option maxHeartbeats 400000 in
theorem fillKey_no (v : Value) (xs : List Int) (w : World) (hv : Byt w v xs) (hn : xs.length ≤ 64) :
    Calls Tryz.prog 74 #[v] w fun e w' => e = .returned (.agg (ints .u8 (xs ++ zeros (64 - xs.length)))) ∧ Below w.heap.size w w' := by
  have hB2 : Below w.heap.size w ((w.alloc (.cells (ints .u8 Z64) 102)).alloc (.cells (ints .u8 Z64) 102)) := ((Below.refl _ _).alloc (Nat.le_refl _) _).alloc (by simp) _
  have hv2 := hv.mono hB2
  obtain ⟨a, cap, rfl, hsrc⟩ := hv2.form
  have Hpos : Hd (0 < (xs.map (Value.int .u8)).length → some (⟨w.heap.size + 1, 0, none⟩ : Addr) = some ⟨w.heap.size + 1, 0, none⟩ ∧ ∃ ad, a = some ad ∧ ∀ j u, (xs.map (Value.int .u8))[j]? = some u → ((w.alloc (.cells (ints .u8 Z64) 102)).alloc (.cells (ints .u8 Z64) 102)).cell? (ad.add j) = some u) :=
    hid fun h => ⟨rfl, hsrc (by simpa using h)⟩
  have Hmin : Hd ((xs.map (Value.int .u8)).length = Nat.min xs.length 64) := hid (by rw [List.length_map]; exact (Nat.min_eq_left hn).symm)
  have Hfit : Hd (0 + (xs.map (Value.int .u8)).length ≤ (Z64.map (Value.int .u8)).length) := hid (by simp [Z64]; omega)
  have HS := hid (splice_key xs hn)
  have hkl : Hd ((xs ++ zeros (64 - xs.length)).length = 64) := hid (by simp [zeros]; omega)
  have HB2 := hid hB2
  clear hsrc hv hv2 hB2
  go_enter Tryz.func74, Tryz.ntmps74
  go_wp2_with (first
    | refine wpList_alloc_eq rfl 102 rfl (ints .u8 Z64) Tryz.alloc102 ?_
    | (refine wpList_copy_splice rfl _ _ 41 41 rfl 5 Tryz.underlying41 Tryz.info5 (some ⟨w.heap.size + 1, 0, none⟩) a 64 64 xs.length cap rfl rfl (w.heap.size + 1) 0 (Z64.map (Value.int .u8)) 102 (al2_2 _ _ _) (xs.map (Value.int .u8)) Hmin.out Hpos.out Hfit.out (one_ints _ _) (w.heap.size + 1) _ (Below.refl _ _) (by omega) ?_; intro w3 hg3 hb3; rw [HS.out] at hg3; have hr3 := hid ((hb3.block w.heap.size (by omega)).trans (al2_1 _ _ _)); have HB3 := hid (HB2.out.trans (hb3.mono (by omega))); clear hb3)
    | refine wpList_load_row rfl 102 _ rfl (w.heap.size + 1) rfl 102 _ (0,0) _ hg3.out Tryz.underlying102 rfl (by rw [ints_size, hkl.out]; exact Tryz.info102) ?_
    | refine wpList_store_row rfl 102 _ _ rfl w.heap.size _ rfl rfl 102 _ hr3.out (by rw [ints_size, hkl.out]; exact Tryz.info102) (by rw [ints_size, ints_size, hkl.out]; rfl) (ints_one _ _) ?_)
  exact bodyPost_ret (results_cell_row (fn := Tryz.f74) Tryz.results74 _ _ w.heap.size 102 _ (0,0) _ rfl (setRow_heap _ _ _ _ _ _ hr3.out) Tryz.underlying102 rfl (by rw [ints_size, hkl.out]; exact Tryz.info102)) rfl ⟨rfl, below_setRow HB3.out _ (by omega) _⟩
set_option maxRecDepth 20000 in
set_option maxHeartbeats 400000 in
theorem fillKey_yes (v : Value) (xs : List Int) (w : World) (hv : Byt w v xs) (hn : 64 < xs.length) (hn2 : xs.length < 1152921504606846976) :
    Calls Tryz.prog 74 #[v] w fun e w' => e = .returned (.agg (ints .u8 (shaI xs ++ zeros 32))) ∧ Below w.heap.size w w' := by
  have hB2 : Below w.heap.size w ((w.alloc (.cells (ints .u8 Z64) 102)).alloc (.cells (ints .u8 Z64) 102)) := ((Below.refl _ _).alloc (Nat.le_refl _) _).alloc (by simp) _
  have hv2 := hv.mono hB2
  obtain ⟨a, cap, rfl, hsrc⟩ := hv2.form
  clear hsrc hv
  have HB2 := hid hB2
  clear hB2
  go_enter Tryz.func74, Tryz.ntmps74
  go_wp2_with (refine wpList_alloc_eq rfl 102 rfl (ints .u8 Z64) Tryz.alloc102 ?_)
  have hr2 := al2_1 w (.cells (ints .u8 Z64) 102) (.cells (ints .u8 Z64) 102)
  have hg2 := al2_2 w (.cells (ints .u8 Z64) 102) (.cells (ints .u8 Z64) 102)
  have hz2 : ((w.alloc (.cells (ints .u8 Z64) 102)).alloc (.cells (ints .u8 Z64) 102)).heap.size = w.heap.size + 2 := by simp
  generalize ((w.alloc (.cells (ints .u8 Z64) 102)).alloc (.cells (ints .u8 Z64) 102)) = w2 at *
  refine (DSum_any _ _ _ hv2 hn2).mono ?_
  rintro e w3 ⟨rfl, hB3⟩
  have hr3 := (hB3.block w.heap.size (by omega)).trans hr2
  have hg3 := (hB3.block (w.heap.size + 1) (by omega)).trans hg2
  have hB4 := HB2.out.trans (hB3.mono (by omega))
  have hz3 : w.heap.size + 2 ≤ w3.heap.size := by have := hB3.size; omega
  clear hr2 hg2 hz2 HB2 hB3 hv2
  have hsl := shaI_len xs
  generalize hss : shaI xs = ss at *
  have Hss := hid hss
  clear hss
  have hr4 : ((w3.alloc (.cells (ints .u8 Z32) 96)).setRow w3.heap.size (ints .u8 ss)).heap[w.heap.size]? = some (.cells (ints .u8 Z64) 102 (0, 0)) := (heap_setRow _ _ _ _ (by omega)).trans (al_old _ _ _ _ hr3)
  have hg4 : ((w3.alloc (.cells (ints .u8 Z32) 96)).setRow w3.heap.size (ints .u8 ss)).heap[w.heap.size + 1]? = some (.cells (ints .u8 Z64) 102 (0, 0)) := (heap_setRow _ _ _ _ (by omega)).trans (al_old _ _ _ _ hg3)
  have hk4 : ((w3.alloc (.cells (ints .u8 Z32) 96)).setRow w3.heap.size (ints .u8 ss)).heap[w3.heap.size]? = some (.cells (ints .u8 ss) 96 (0, 0)) := setRow_heap _ _ _ _ _ _ (al_new _ _)
  have hB5 : Below w.heap.size w ((w3.alloc (.cells (ints .u8 Z32) 96)).setRow w3.heap.size (ints .u8 ss)) := below_setRow (hB4.alloc (by omega) _) _ (by omega) _
  clear hr3 hg3 hB4
  go_wp2_with (first
    | refine wpList_alloc_eq rfl 96 rfl (ints .u8 Z32) Tryz.alloc96 ?_
    | refine wpList_store_row rfl 96 _ _ rfl w3.heap.size (ints .u8 ss) rfl rfl 96 (ints .u8 Z32) (al_new _ _) (by rw [ints_size, hsl]; exact Tryz.info96) (by rw [ints_size, ints_size, hsl]; rfl) (ints_one _ _) ?_)
  generalize ((w3.alloc (.cells (ints .u8 Z32) 96)).setRow w3.heap.size (ints .u8 ss)) = w4 at *
  generalize w3.heap.size = sb at *
  have Hmin : Hd ((ss.map (Value.int .u8)).length = Nat.min 32 64) := hid (by rw [List.length_map, hsl]; rfl)
  have Hfit : Hd (0 + (ss.map (Value.int .u8)).length ≤ (Z64.map (Value.int .u8)).length) := hid (by simp [Z64]; omega)
  have Hpos : Hd (0 < (ss.map (Value.int .u8)).length → some (⟨w.heap.size + 1, 0, none⟩ : Addr) = some ⟨w.heap.size + 1, 0, none⟩ ∧ ∃ ad, some (⟨sb, 0, none⟩ : Addr) = some ad ∧ ∀ j u, (ss.map (Value.int .u8))[j]? = some u → w4.drew.cell? (ad.add j) = some u) :=
    hid fun _ => ⟨rfl, _, rfl, fun j u hu => by
      have hj : j < ss.length := by simpa using (List.getElem?_eq_some_iff.1 hu).1
      rw [Addr.add_mid, Nat.zero_add, World.cell?_drew, (cells_of _ _ _ _ _ hk4).1 j hj, ← hu]
      simp [List.getElem?_eq_getElem hj]⟩
  have HS : Hd ((splice (Z64.map (Value.int .u8)) 0 (ss.map (Value.int .u8))).toArray = ints .u8 (ss ++ zeros 32)) := hid (by have := splice_key ss (by omega); rw [hsl] at this; exact this)
  have hkl : Hd ((ss ++ zeros 32).length = 64) := hid (by simp [zeros]; omega)
  have Hg4 := hid hg4
  have Hr4 := hid hr4
  have HB5 := hid hB5
  clear hg4 hr4 hB5 hk4
  go_region_law ((refine step_copy_splice rfl (.tmp 10) (.tmp 11) 41 41 rfl 5 Tryz.underlying41 Tryz.info5 (some ⟨w.heap.size + 1, 0, none⟩) (some ⟨sb, 0, none⟩) 64 64 32 32 (by simp [Act.eval, Act.put]) (by simp [Act.eval, Act.put]) (w.heap.size + 1) 0 (Z64.map (Value.int .u8)) 102 Hg4.out (ss.map (Value.int .u8)) Hmin.out Hpos.out Hfit.out (one_ints _ _) (w.heap.size + 1) _ (Below.refl _ _) (by omega) ?_; intro w5 hg5 hb5))
  rw [HS.out] at hg5
  have hr5 := hid ((hb5.block w.heap.size (by omega)).trans Hr4.out)
  have HB6 := hid (HB5.out.drew.trans (hb5.mono (by omega)))
  clear hb5
  go_wp2_with (first
    | refine wpList_load_row rfl 102 _ rfl (w.heap.size + 1) rfl 102 _ (0,0) _ hg5.out Tryz.underlying102 rfl (by rw [ints_size, hkl.out]; exact Tryz.info102) ?_
    | refine wpList_store_row rfl 102 _ _ rfl w.heap.size _ rfl rfl 102 _ hr5.out (by rw [ints_size, hkl.out]; exact Tryz.info102) (by rw [ints_size, ints_size, hkl.out]; rfl) (ints_one _ _) ?_)
  exact bodyPost_ret (results_cell_row (fn := Tryz.f74) Tryz.results74 _ _ w.heap.size 102 _ (0,0) _ rfl (setRow_heap _ _ _ _ _ _ hr5.out) Tryz.underlying102 rfl (by rw [ints_size, hkl.out]; exact Tryz.info102)) rfl ⟨by rw [Hss.out], below_setRow HB6.out _ (by omega) _⟩
theorem fillKey_any (v : Value) (xs : List Int) (w : World) (hv : Byt w v xs) (hn2 : xs.length < 1152921504606846976) :
    Calls Tryz.prog 74 #[v] w fun e w' => e = .returned (.agg (ints .u8 (keyI xs))) ∧ Below w.heap.size w w' := by
  unfold keyI
  split
  · rename_i h
    exact fillKey_yes v xs w hv h hn2
  · exact fillKey_no v xs w hv (by omega)
def maskI (ks : List Int) (m : Int) : Nat → List Int
  | 0 => []
  | k + 1 => maskI ks m k ++ [bits .xor .u8 (ks[k]?.getD 0) m]
theorem maskI_len (ks : List Int) (m : Int) (k : Nat) : (maskI ks m k).length = k := by
  induction k with
  | zero => rfl
  | succ k ih => simp [maskI, ih]
/-- 'sumBehind': the world: the key's box, the result's cell -/
def S2 (w wx : World) (ks : List Int) : Prop := wx.heap[w.heap.size]? = some (.cells (ints .u8 ks) 102 (0, 0)) ∧ wx.heap[w.heap.size + 1]? = some (.cells (ints .u8 Z32) 96 (0, 0)) ∧ Below w.heap.size w wx
theorem S2.ex {w wx wy : World} {ks : List Int} {B : Nat} (h : S2 w wx ks) (hB : w.heap.size + 1 < B) (hE : Ex B wx wy) : S2 w wy ks := by
  have hz := (Array.getElem?_eq_some_iff.1 h.2.1).1
  exact ⟨(hE.block _ (by omega) (by omega)).trans h.1, (hE.block _ (by omega) (by omega)).trans h.2.1, h.2.2.trans (hE.below (by omega) (by omega))⟩
theorem S2.below {w wx wy : World} {ks : List Int} (h : S2 w wx ks) (hE : Below wx.heap.size wx wy) : S2 w wy ks := by
  have hz := (Array.getElem?_eq_some_iff.1 h.2.1).1
  exact ⟨(hE.block _ (by omega)).trans h.1, (hE.block _ (by omega)).trans h.2.1, h.2.2.trans (hE.mono (by omega))⟩
theorem S2.size {w wx : World} {ks : List Int} (h : S2 w wx ks) : w.heap.size + 1 < wx.heap.size := (Array.getElem?_eq_some_iff.1 h.2.1).1
set_option maxRecDepth 20000 in
set_option maxHeartbeats 400000 in
theorem sumBehind_n (ks : List Int) (m : Int) (v : Value) (xs : List Int) (w : World) (n : Nat) (hn0 : n ≤ 64) (hn1 : 64 ≤ n) (hkl : ks.length = 64) (hv : Byt w v xs) (hn2 : xs.length < 1152921504606846000) :
    Calls Tryz.prog 75 #[.agg (ints .u8 ks), .int .u8 m, v] w fun e w' => e = .returned (.agg (ints .u8 (sumD (feed (feed DSN (maskI ks m n)) xs)))) ∧ Below w.heap.size w w' := by
  have Hv := hid hv
  clear hv
  go_enter Tryz.func75, Tryz.ntmps75
  go_wp2_with (refine wpList_alloc_eq rfl 96 rfl (ints .u8 Z32) Tryz.alloc96 ?_)
  have hS : S2 w ((w.alloc (.cells (ints .u8 ks) 102)).alloc (.cells (ints .u8 Z32) 96)) ks := ⟨al2_1 _ _ _, al2_2 _ _ _, ((Below.refl _ _).alloc (Nat.le_refl _) _).alloc (by simp) _⟩
  generalize ((w.alloc (.cells (ints .u8 ks) 102)).alloc (.cells (ints .u8 Z32) 96)) = w1 at *
  refine (New_any _).mono ?_
  rintro e w2 ⟨rfl, hB2⟩
  have hS2 := hS.below hB2
  clear hS hB2
  have HO : Hd (DS0.cells.toArray.size = DSN.cells.toArray.size) := hid (by rw [List.size_toArray, List.size_toArray, cells_len DSN_ok, cells_len DS0_ok])
  have HZ := hid (size_cells DSN_ok)
  have hT3 : StAt ((w2.alloc (.cells DS0.cells.toArray 105)).setRow w2.heap.size DSN.cells.toArray) w2.heap.size DSN := ⟨105, setRow_heap _ _ _ _ _ _ (al_new _ _)⟩
  have hz2 := hS2.size
  have hS3 : S2 w ((w2.alloc (.cells DS0.cells.toArray 105)).setRow w2.heap.size DSN.cells.toArray) ks :=
    ⟨(heap_setRow _ _ _ _ (by omega)).trans (al_old _ _ _ _ hS2.1), (heap_setRow _ _ _ _ (by omega)).trans (al_old _ _ _ _ hS2.2.1), below_setRow (hS2.2.2.alloc (by omega) _) _ (by omega) _⟩
  clear hS2
  have hok := DSN_ok
  generalize hds : DSN = ds at *
  have hds0 : ds.n = 0 := by rw [← hds]; rfl
  have Hds := hid hds
  clear hds
  go_wp2_with (first
    | refine wpList_alloc_eq rfl 105 rfl DS0.cells.toArray Tryz.alloc105 ?_
    | refine wpList_store_row rfl 105 _ _ rfl w2.heap.size ds.cells.toArray rfl rfl 105 DS0.cells.toArray (al_new _ _) HZ.out HO.out (one_cells _) ?_
    | refine wpList_load_row rfl 102 _ rfl w.heap.size rfl 102 _ (0,0) _ hS3.1 Tryz.underlying102 rfl (by rw [ints_size, hkl]; exact Tryz.info102) ?_)
  generalize ((w2.alloc (.cells DS0.cells.toArray 105)).setRow w2.heap.size ds.cells.toArray) = w3 at *
  generalize w2.heap.size = B at *
  go_loopw [12] (fun i wr => ∃ k : Nat, k ≤ 64 ∧ i = .int .i64 k ∧ StAt wr B (feed ds (maskI ks m k)) ∧ S2 w wr ks) (fun i _ => 64 - (intOf i).toNat)
  case atStart => exact ⟨0, by omega, rfl, hT3, hS3⟩
  case round =>
    clear hT3 hS3
    obtain ⟨k, hk, rfl, hT, hS⟩ := hrel
    have hok4 := feed_ok hok (maskI ks m k)
    have hfn4 := feed_n ds (maskI ks m k)
    rw [maskI_len] at hfn4
    by_cases hlt : k < 64
    · have ix := Tryz.index102 ks k wr hkl hlt
      have hst : Hd (feed ds (maskI ks m (k + 1)) = addB (feed ds (maskI ks m k)) (bits .xor .u8 (ks[k]?.getD 0) m)) := hid (by rw [maskI, feed_append]; rfl)
      have hb2 : (feed ds (maskI ks m k)).n < 4611686018427387904 := by omega
      clear hfn4
      generalize feed ds (maskI ks m k) = sk at *
      generalize ks[k]?.getD 0 = y at *
      go_wp2_with (go_at_call 78; refine (addByte_any sk _ _ _ hok4 hT hb2).mono ?_; rintro e w' ⟨rfl, hT2, hE2⟩)
      exact ⟨⟨k + 1, by omega, by go_num, by rw [hst.out]; exact hT2, hS.ex (by omega) hE2⟩, by simp [intOf]; omega⟩
    · obtain rfl : k = n := by omega
      clear hlt hk
      generalize hs5 : feed ds (maskI ks m k) = s5 at *
      have Hs5 := hid hs5
      clear hs5
      go_wp2_with fail
      refine (Add_byt s5 xs B v w _ hok4 hT Hv.out hS.2.2 (by omega) (by omega)).mono ?_
      rintro e w5 ⟨rfl, hT5, hE5⟩
      have hS5 := hS.ex (by omega) hE5
      have hfn5 := feed_n s5 xs
      have hok5 := feed_ok hok4 xs
      clear hT hS hE5
      go_wp2_with fail
      refine (Sum_any _ _ _ hok5 hT5 (by omega)).mono ?_
      rintro e w6 ⟨rfl, hB6⟩
      have hS6 := hS5.below hB6
      clear hS5 hB6
      have htl := sumD_len (feed s5 xs)
      generalize hts : sumD (feed s5 xs) = ts at *
      have Hts := hid hts
      clear hts
      go_wp2_with (refine wpList_store_row rfl 96 _ _ rfl (w.heap.size + 1) (ints .u8 ts) rfl rfl 96 (ints .u8 Z32) hS6.2.1 (by rw [ints_size, htl]; exact Tryz.info96) (by rw [ints_size, ints_size, htl]; rfl) (ints_one _ _) ?_)
      exact bodyPost_ret (results_cell_row (fn := Tryz.f75) Tryz.results75 _ _ (w.heap.size + 1) 96 (ints .u8 ts) (0,0) _ rfl (setRow_heap _ _ _ _ _ _ hS6.2.1) Tryz.underlying96 rfl (by rw [ints_size, htl]; exact Tryz.info96)) rfl ⟨by rw [Hds.out, Hs5.out, Hts.out], below_setRow hS6.2.2 _ (by omega) _⟩
end Go.Proofs.YtbifmhbkmnofiaaGreat
namespace Go.Proofs.YtbifmhbkmnofiaaGreat
open Go.RowKit
set_option linter.unusedVariables false
set_option linter.unusedSimpArgs false
theorem sumBehind_any (ks : List Int) (m : Int) (v : Value) (xs : List Int) (w : World) (hkl : ks.length = 64) (hv : Byt w v xs) (hn2 : xs.length < 1152921504606846000) :
    Calls Tryz.prog 75 #[.agg (ints .u8 ks), .int .u8 m, v] w fun e w' => e = .returned (.agg (ints .u8 (shaI (maskI ks m 64 ++ xs)))) ∧ Below w.heap.size w w' := by
  unfold shaI
  rw [feed_append]
  exact sumBehind_n ks m v xs w 64 (by omega) (by omega) hkl hv hn2
def macI (ks xs : List Int) : List Int := shaI (maskI (keyI ks) 92 64 ++ shaI (maskI (keyI ks) 54 64 ++ xs))
theorem macI_len (ks xs : List Int) : (macI ks xs).length = 32 := shaI_len _
theorem byt_block {w : World} {b : Nat} {xs : List Int} {t : TypeId} (h : w.heap[b]? = some (.cells (ints .u8 xs) t (0, 0))) (cap : Nat) : Byt w (.slice (some ⟨b, 0, none⟩) xs.length cap) xs :=
  Or.inr ⟨b, 0, cap, rfl, fun j hj => by rw [Nat.zero_add]; exact (cells_of _ _ _ _ _ h).1 j hj⟩
set_option maxRecDepth 20000 in
set_option maxHeartbeats 400000 in
theorem DMac_any (vk v : Value) (ks xs : List Int) (w : World) (hvk : Byt w vk ks) (hv : Byt w v xs) (hn1 : ks.length < 1152921504606846976) (hn2 : xs.length < 1152921504606846000) :
    Calls Tryz.prog 50 #[vk, v] w fun e w' => e = .returned (.agg (ints .u8 (macI ks xs))) ∧ Below w.heap.size w w' := by
  have Hv := hid hv
  have Hvk := hid hvk
  clear hv hvk
  go_enter Tryz.func50, Tryz.ntmps50
  go_wp2_with (refine wpList_alloc_eq rfl 96 rfl (ints .u8 Z32) Tryz.alloc96 ?_)
  have hB1 : Below w.heap.size w (w.alloc (.cells (ints .u8 Z32) 96)) := (Below.refl _ _).alloc (Nat.le_refl _) _
  have hr1 := al_new w (.cells (ints .u8 Z32) 96)
  have hz1 := al_size w (.cells (ints .u8 Z32) 96)
  generalize (w.alloc (.cells (ints .u8 Z32) 96)) = w1 at *
  refine (fillKey_any _ _ _ (Hvk.out.mono hB1) hn1).mono ?_
  rintro e w2 ⟨rfl, hB2⟩
  have hB3 := hB1.trans (hB2.mono (by omega))
  have hr2 := (hB2.block w.heap.size (by omega)).trans hr1
  have hz2 : w.heap.size + 1 ≤ w2.heap.size := by have := hB2.size; omega
  clear hB1 hr1 hz1 hB2
  have hkl := keyI_len ks
  generalize hks : keyI ks = kk at *
  have Hks := hid hks
  clear hks
  have hr3 : ((w2.alloc (.cells (ints .u8 Z64) 102)).setRow w2.heap.size (ints .u8 kk)).heap[w.heap.size]? = some (.cells (ints .u8 Z32) 96 (0, 0)) := (heap_setRow _ _ _ _ (by omega)).trans (al_old _ _ _ _ hr2)
  have hk3 : ((w2.alloc (.cells (ints .u8 Z64) 102)).setRow w2.heap.size (ints .u8 kk)).heap[w2.heap.size]? = some (.cells (ints .u8 kk) 102 (0, 0)) := setRow_heap _ _ _ _ _ _ (al_new _ _)
  have hB4 : Below w.heap.size w ((w2.alloc (.cells (ints .u8 Z64) 102)).setRow w2.heap.size (ints .u8 kk)) := below_setRow (hB3.alloc (by omega) _) _ (by omega) _
  clear hr2 hB3
  go_wp2_with (first
    | refine wpList_alloc_eq rfl 102 rfl (ints .u8 Z64) Tryz.alloc102 ?_
    | refine wpList_store_row rfl 102 _ _ rfl w2.heap.size (ints .u8 kk) rfl rfl 102 (ints .u8 Z64) (al_new _ _) (by rw [ints_size, hkl]; exact Tryz.info102) (by rw [ints_size, ints_size, hkl]; rfl) (ints_one _ _) ?_
    | refine wpList_load_row rfl 102 _ rfl w2.heap.size rfl 102 _ (0,0) _ hk3 Tryz.underlying102 rfl (by rw [ints_size, hkl]; exact Tryz.info102) ?_)
  generalize ((w2.alloc (.cells (ints .u8 Z64) 102)).setRow w2.heap.size (ints .u8 kk)) = w3 at *
  generalize w2.heap.size = kb at *
  refine (sumBehind_any kk 54 v xs _ hkl (Hv.out.mono hB4) hn2).mono ?_
  rintro e w4 ⟨rfl, hB5⟩
  have hlt1 := (Array.getElem?_eq_some_iff.1 hr3).1
  have hlt2 := (Array.getElem?_eq_some_iff.1 hk3).1
  have hr4 := (hB5.block _ hlt1).trans hr3
  have hk4 := (hB5.block _ hlt2).trans hk3
  have hB6 := hB4.trans (hB5.mono (by omega))
  have hz4 := hB5.size
  clear hr3 hk3 hB4 hB5
  have hil := shaI_len (maskI kk 54 64 ++ xs)
  generalize hin : shaI (maskI kk 54 64 ++ xs) = inn at *
  have Hin := hid hin
  clear hin
  have hr5 : ((w4.alloc (.cells (ints .u8 Z32) 96)).setRow w4.heap.size (ints .u8 inn)).heap[w.heap.size]? = some (.cells (ints .u8 Z32) 96 (0, 0)) := (heap_setRow _ _ _ _ (by omega)).trans (al_old _ _ _ _ hr4)
  have hk5 : ((w4.alloc (.cells (ints .u8 Z32) 96)).setRow w4.heap.size (ints .u8 inn)).heap[kb]? = some (.cells (ints .u8 kk) 102 (0, 0)) := (heap_setRow _ _ _ _ (by omega)).trans (al_old _ _ _ _ hk4)
  have hi5 : ((w4.alloc (.cells (ints .u8 Z32) 96)).setRow w4.heap.size (ints .u8 inn)).heap[w4.heap.size]? = some (.cells (ints .u8 inn) 96 (0, 0)) := setRow_heap _ _ _ _ _ _ (al_new _ _)
  have hB7 : Below w.heap.size w ((w4.alloc (.cells (ints .u8 Z32) 96)).setRow w4.heap.size (ints .u8 inn)) := below_setRow (hB6.alloc (by omega) _) _ (by omega) _
  clear hr4 hk4 hB6
  go_wp2_with (first
    | refine wpList_alloc_eq rfl 96 rfl (ints .u8 Z32) Tryz.alloc96 ?_
    | refine wpList_store_row rfl 96 _ _ rfl w4.heap.size (ints .u8 inn) rfl rfl 96 (ints .u8 Z32) (al_new _ _) (by rw [ints_size, hil]; exact Tryz.info96) (by rw [ints_size, ints_size, hil]; rfl) (ints_one _ _) ?_)
  generalize ((w4.alloc (.cells (ints .u8 Z32) 96)).setRow w4.heap.size (ints .u8 inn)) = w5 at *
  generalize w4.heap.size = ib at *
  clear Hv Hvk
  have Hr5 := hid hr5
  have Hk5 := hid hk5
  have Hi5 := hid hi5
  have HB7 := hid hB7
  clear hr5 hk5 hi5 hB7
  refine wp_region_any (by kernel_rfl) ?_
  change wpAny _ _ _ _ _ _ _ (World.drew _)
  refine wpAny_take (i := 1) (v := ?_) rfl (by decide +kernel) (by decide +kernel) (by decide +kernel) (fun _ _ _ h => h) (Or.inl ⟨by rfl, ?_⟩) ?_
  rotate_left
  · intro w; go_simp; try with_reducible rfl
  simp only [Act.put, List.getElem_toArray, List.getElem_cons_zero, List.getElem_cons_succ, List.setIfInBounds_toArray, List.set_cons_zero, List.set_cons_succ]
  refine wpAny_ready (rs := [0]) (by kernel_rfl) (by simp) ?_
  refine AllReady.cons rfl (fun K hK => ?_) AllReady.nil
  rw [if_pos (by rfl)]
  refine wp_load_row 102 _ rfl kb rfl 102 (ints .u8 kk) (0,0) _ Hk5.out Tryz.underlying102 rfl (by rw [ints_size, hkl]; exact Tryz.info102) (hK _ _ ?_)
  clear hK K
  simp only [Act.put, List.getElem_toArray, List.getElem_cons_zero, List.getElem_cons_succ, List.setIfInBounds_toArray, List.set_cons_zero, List.set_cons_succ]
  refine wpAny_ready (rs := [2]) (by kernel_rfl) (by simp) ?_
  refine AllReady.cons rfl (fun K hK => ?_) AllReady.nil
  go_simp
  have hbi : Byt w5.drew (.slice (some ⟨ib, 0, none⟩) 32 32) inn := by have := byt_block Hi5.out 32; rw [hil] at this; exact this
  refine (sumBehind_any kk 92 _ inn _ hkl hbi (by omega)).mono ?_
  rintro e w6 ⟨rfl, hB8⟩
  refine hK _ _ ?_
  clear hK K
  have hlt5 := (Array.getElem?_eq_some_iff.1 Hr5.out).1
  have Hr6 := hid ((hB8.block w.heap.size hlt5).trans Hr5.out)
  have HB9 := hid (HB7.out.drew.trans (hB8.mono (Nat.le_of_lt hlt5)))
  clear hB8 hbi
  have htl := shaI_len (maskI kk 92 64 ++ inn)
  generalize hts : shaI (maskI kk 92 64 ++ inn) = ts at *
  have Hts := hid hts
  clear hts
  refine wpAny_ready (rs := [3]) (by kernel_rfl) (by simp) ?_
  refine AllReady.cons rfl (fun K hK => ?_) AllReady.nil
  rw [if_pos (by rfl)]
  refine wp_store_row 96 _ _ rfl w.heap.size (ints .u8 ts) rfl rfl 96 (ints .u8 Z32) Hr6.out (by rw [ints_size, htl]; exact Tryz.info96) (by rw [ints_size, ints_size, htl]; rfl) (ints_one _ _) (hK _ _ ?_)
  clear hK K
  refine wpAny_done (by kernel_rfl) ?_ _
  go_wp2
  exact bodyPost_ret (results_cell_row (fn := Tryz.f50) Tryz.results50 _ _ w.heap.size 96 (ints .u8 ts) (0,0) _ rfl (setRow_heap _ _ _ _ _ _ Hr6.out) Tryz.underlying96 rfl (by rw [ints_size, htl]; exact Tryz.info96)) rfl ⟨by rw [macI, Hks.out, Hin.out, Hts.out], below_setRow HB9.out _ (Nat.le_refl _) _⟩
end Go.Proofs.YtbifmhbkmnofiaaGreat
