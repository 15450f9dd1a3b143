import Derived.Test.YtbifmhbkmnofiaaDk
namespace Go.Proofs.Ytbifmhbkmnofiaa
open Go.RowKit
set_option linter.unusedVariables false
set_option linter.unusedSimpArgs false
theorem sumBehind_any (ks : List Int) (m : Int) (v : Value) (xs : List Int) (w : World) (hkl : ks.length = 64) (hv : Byt w v xs) (hn2 : xs.length < 1152921504606846000) :
    Calls Try.prog 52 #[.agg (ints .u8 ks), .int .u8 m, v] w fun e w' => e = .returned (.agg (ints .u8 (shaI (maskI ks m 64 ++ xs)))) ∧ Below w.heap.size w w' := by
  unfold shaI
  rw [feed_append]
  exact sumBehind_n ks m v xs w 64 (by omega) (by omega) hkl hv hn2
def macI (ks xs : List Int) : List Int := shaI (maskI (keyI ks) 92 64 ++ shaI (maskI (keyI ks) 54 64 ++ xs))
theorem macI_len (ks xs : List Int) : (macI ks xs).length = 32 := shaI_len _
theorem byt_block {w : World} {b : Nat} {xs : List Int} {t : TypeId} (h : w.heap[b]? = some (.cells (ints .u8 xs) t (0, 0))) (cap : Nat) : Byt w (.slice (some ⟨b, 0, none⟩) xs.length cap) xs :=
  Or.inr ⟨b, 0, cap, rfl, fun j hj => by rw [Nat.zero_add]; exact (cells_of _ _ _ _ _ h).1 j hj⟩
set_option maxRecDepth 20000 in
set_option maxHeartbeats 400000 in
theorem DMac_any (vk v : Value) (ks xs : List Int) (w : World) (hvk : Byt w vk ks) (hv : Byt w v xs) (hn1 : ks.length < 1152921504606846976) (hn2 : xs.length < 1152921504606846000) :
    Calls Try.prog 38 #[vk, v] w fun e w' => e = .returned (.agg (ints .u8 (macI ks xs))) ∧ Below w.heap.size w w' := by
  have Hv := hid hv
  have Hvk := hid hvk
  clear hv hvk
  go_enter Try.func38, Try.ntmps38
  go_wp2_with (refine wpList_alloc_eq rfl 68 rfl (ints .u8 Z32) Try.alloc68 ?_)
  have hB1 : Below w.heap.size w (w.alloc (.cells (ints .u8 Z32) 68)) := (Below.refl _ _).alloc (Nat.le_refl _) _
  have hr1 := al_new w (.cells (ints .u8 Z32) 68)
  have hz1 := al_size w (.cells (ints .u8 Z32) 68)
  generalize (w.alloc (.cells (ints .u8 Z32) 68)) = w1 at *
  refine (fillKey_any _ _ _ (Hvk.out.mono hB1) hn1).mono ?_
  rintro e w2 ⟨rfl, hB2⟩
  have hB3 := hB1.trans (hB2.mono (by omega))
  have hr2 := (hB2.block w.heap.size (by omega)).trans hr1
  have hz2 : w.heap.size + 1 ≤ w2.heap.size := by have := hB2.size; omega
  clear hB1 hr1 hz1 hB2
  have hkl := keyI_len ks
  generalize hks : keyI ks = kk at *
  have Hks := hid hks
  clear hks
  have hr3 : ((w2.alloc (.cells (ints .u8 Z64) 73)).setRow w2.heap.size (ints .u8 kk)).heap[w.heap.size]? = some (.cells (ints .u8 Z32) 68 (0, 0)) := (heap_setRow _ _ _ _ (by omega)).trans (al_old _ _ _ _ hr2)
  have hk3 : ((w2.alloc (.cells (ints .u8 Z64) 73)).setRow w2.heap.size (ints .u8 kk)).heap[w2.heap.size]? = some (.cells (ints .u8 kk) 73 (0, 0)) := setRow_heap _ _ _ _ _ _ (al_new _ _)
  have hB4 : Below w.heap.size w ((w2.alloc (.cells (ints .u8 Z64) 73)).setRow w2.heap.size (ints .u8 kk)) := below_setRow (hB3.alloc (by omega) _) _ (by omega) _
  clear hr2 hB3
  go_wp2_with (first
    | refine wpList_alloc_eq rfl 73 rfl (ints .u8 Z64) Try.alloc73 ?_
    | refine wpList_store_row rfl 73 _ _ rfl w2.heap.size (ints .u8 kk) rfl rfl 73 (ints .u8 Z64) (al_new _ _) (by rw [ints_size, hkl]; exact Try.info73) (by rw [ints_size, ints_size, hkl]; rfl) (ints_one _ _) ?_
    | refine wpList_load_row rfl 73 _ rfl w2.heap.size rfl 73 _ (0,0) _ hk3 Try.underlying73 rfl (by rw [ints_size, hkl]; exact Try.info73) ?_)
  generalize ((w2.alloc (.cells (ints .u8 Z64) 73)).setRow w2.heap.size (ints .u8 kk)) = w3 at *
  generalize w2.heap.size = kb at *
  refine (sumBehind_any kk 54 v xs _ hkl (Hv.out.mono hB4) hn2).mono ?_
  rintro e w4 ⟨rfl, hB5⟩
  have hlt1 := (Array.getElem?_eq_some_iff.1 hr3).1
  have hlt2 := (Array.getElem?_eq_some_iff.1 hk3).1
  have hr4 := (hB5.block _ hlt1).trans hr3
  have hk4 := (hB5.block _ hlt2).trans hk3
  have hB6 := hB4.trans (hB5.mono (by omega))
  have hz4 := hB5.size
  clear hr3 hk3 hB4 hB5
  have hil := shaI_len (maskI kk 54 64 ++ xs)
  generalize hin : shaI (maskI kk 54 64 ++ xs) = inn at *
  have Hin := hid hin
  clear hin
  have hr5 : ((w4.alloc (.cells (ints .u8 Z32) 68)).setRow w4.heap.size (ints .u8 inn)).heap[w.heap.size]? = some (.cells (ints .u8 Z32) 68 (0, 0)) := (heap_setRow _ _ _ _ (by omega)).trans (al_old _ _ _ _ hr4)
  have hk5 : ((w4.alloc (.cells (ints .u8 Z32) 68)).setRow w4.heap.size (ints .u8 inn)).heap[kb]? = some (.cells (ints .u8 kk) 73 (0, 0)) := (heap_setRow _ _ _ _ (by omega)).trans (al_old _ _ _ _ hk4)
  have hi5 : ((w4.alloc (.cells (ints .u8 Z32) 68)).setRow w4.heap.size (ints .u8 inn)).heap[w4.heap.size]? = some (.cells (ints .u8 inn) 68 (0, 0)) := setRow_heap _ _ _ _ _ _ (al_new _ _)
  have hB7 : Below w.heap.size w ((w4.alloc (.cells (ints .u8 Z32) 68)).setRow w4.heap.size (ints .u8 inn)) := below_setRow (hB6.alloc (by omega) _) _ (by omega) _
  clear hr4 hk4 hB6
  go_wp2_with (first
    | refine wpList_alloc_eq rfl 68 rfl (ints .u8 Z32) Try.alloc68 ?_
    | refine wpList_store_row rfl 68 _ _ rfl w4.heap.size (ints .u8 inn) rfl rfl 68 (ints .u8 Z32) (al_new _ _) (by rw [ints_size, hil]; exact Try.info68) (by rw [ints_size, ints_size, hil]; rfl) (ints_one _ _) ?_)
  generalize ((w4.alloc (.cells (ints .u8 Z32) 68)).setRow w4.heap.size (ints .u8 inn)) = w5 at *
  generalize w4.heap.size = ib at *
  clear Hv Hvk
  have Hr5 := hid hr5
  have Hk5 := hid hk5
  have Hi5 := hid hi5
  have HB7 := hid hB7
  clear hr5 hk5 hi5 hB7
  refine wp_region_any (by kernel_rfl) ?_
  change wpAny _ _ _ _ _ _ _ (World.drew _)
  refine wpAny_take (i := 1) (v := ?_) rfl (by decide +kernel) (by decide +kernel) (by decide +kernel) (fun _ _ _ h => h) (Or.inl ⟨by rfl, ?_⟩) ?_
  rotate_left
  · intro w; go_simp; try with_reducible rfl
  simp only [Act.put, List.getElem_toArray, List.getElem_cons_zero, List.getElem_cons_succ, List.setIfInBounds_toArray, List.set_cons_zero, List.set_cons_succ]
  refine wpAny_ready (rs := [0]) (by kernel_rfl) (by simp) ?_
  refine AllReady.cons rfl (fun K hK => ?_) AllReady.nil
  rw [if_pos (by rfl)]
  refine wp_load_row 73 _ rfl kb rfl 73 (ints .u8 kk) (0,0) _ Hk5.out Try.underlying73 rfl (by rw [ints_size, hkl]; exact Try.info73) (hK _ _ ?_)
  clear hK K
  simp only [Act.put, List.getElem_toArray, List.getElem_cons_zero, List.getElem_cons_succ, List.setIfInBounds_toArray, List.set_cons_zero, List.set_cons_succ]
  refine wpAny_ready (rs := [2]) (by kernel_rfl) (by simp) ?_
  refine AllReady.cons rfl (fun K hK => ?_) AllReady.nil
  go_simp
  have hbi : Byt w5.drew (.slice (some ⟨ib, 0, none⟩) 32 32) inn := by have := byt_block Hi5.out 32; rw [hil] at this; exact this
  refine (sumBehind_any kk 92 _ inn _ hkl hbi (by omega)).mono ?_
  rintro e w6 ⟨rfl, hB8⟩
  refine hK _ _ ?_
  clear hK K
  have hlt5 := (Array.getElem?_eq_some_iff.1 Hr5.out).1
  have Hr6 := hid ((hB8.block w.heap.size hlt5).trans Hr5.out)
  have HB9 := hid (HB7.out.drew.trans (hB8.mono (Nat.le_of_lt hlt5)))
  clear hB8 hbi
  have htl := shaI_len (maskI kk 92 64 ++ inn)
  generalize hts : shaI (maskI kk 92 64 ++ inn) = ts at *
  have Hts := hid hts
  clear hts
  refine wpAny_ready (rs := [3]) (by kernel_rfl) (by simp) ?_
  refine AllReady.cons rfl (fun K hK => ?_) AllReady.nil
  rw [if_pos (by rfl)]
  refine wp_store_row 68 _ _ rfl w.heap.size (ints .u8 ts) rfl rfl 68 (ints .u8 Z32) Hr6.out (by rw [ints_size, htl]; exact Try.info68) (by rw [ints_size, ints_size, htl]; rfl) (ints_one _ _) (hK _ _ ?_)
  clear hK K
  refine wpAny_done (by kernel_rfl) ?_ _
  go_wp2
  exact bodyPost_ret (results_cell_row (fn := Try.f38) Try.results38 _ _ w.heap.size 68 (ints .u8 ts) (0,0) _ rfl (setRow_heap _ _ _ _ _ _ Hr6.out) Try.underlying68 rfl (by rw [ints_size, htl]; exact Try.info68)) rfl ⟨by rw [macI, Hks.out, Hin.out, Hts.out], below_setRow HB9.out _ (Nat.le_refl _) _⟩
end Go.Proofs.Ytbifmhbkmnofiaa
