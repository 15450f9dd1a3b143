import Derived.Test.YtbifmhbkmnofiaaGreatNa
import Derived.Test.YtbifmhbkmnofiaaGreatMv
namespace Go.Proofs.YtbifmhbkmnofiaaGreat
open Go.RowKit
set_option linter.unusedVariables false
set_option linter.unusedSimpArgs false
/-- the generator behind a seeding -/
def seedW (x : Wel) : Fnt := match x.s with
  | none => ⟨seedOf x.k (shaI x.kept ++ bts x.nm), 1⟩
  | some f => ⟨reseedOf f.g (shaI x.kept), 1⟩
theorem bts0' : bts ⟨#[]⟩ = [] := rfl
/-- a well behind the blocks of others -/
theorem WlAt.other {w w' : World} {N A : Nat} {bs : List Nat} {x : Wel} {sv pv : Value} (h : WlAt w N A bs x sv pv) (hs : w.heap.size ≤ w'.heap.size) (he : ∀ b ∈ bs, w'.heap[b]? = w.heap[b]?) : WlAt w' N A bs x sv pv :=
  ⟨h.gw.other (he A h.mem), h.own.other (fun b hb => he b (h.ob b hb).1), h.ob, h.src.other (fun b hb _ => he b hb), h.mem, fun b hb => ⟨(h.lo b hb).1, by have := (h.lo b hb).2; omega⟩⟩
/-- its samples are gone -/
theorem WlAt.gone {w : World} {N A : Nat} {bs : List Nat} {x : Wel} {sv pv : Value} (h : WlAt w N A bs x sv pv) : WlAt (w.setCell ⟨A, 11, none⟩ (.slice none 0 0)) N A bs ⟨x.k, x.nm, x.g, [], x.s⟩ (.slice none 0 0) pv := by
  have hF := (Ex.refl A w).setCell 11 (.slice none 0 0)
  exact ⟨h.gw.set0 _, World.ownsRow_nil _ _ _ _, fun b hb => by simp [Value.ownBlock] at hb, (h.src.other (fun b hb hA => hF.block b (h.lo b hb).2 hA)).mono (fun b hb => hb) (.inr (fun b hb => by simp [Value.ownBlock] at hb)), h.mem, fun b hb => ⟨(h.lo b hb).1, by have := (h.lo b hb).2; have := hF.size; omega⟩⟩
set_option maxRecDepth 20000 in
set_option maxHeartbeats 1000000 in
theorem wseed_none (N A : Nat) (bs : List Nat) (k : Int) (nm : ByteArray) (g : Gd) (kept inn : List Int) (sv : Value) (w : World) (h : WlAt w N A bs ⟨k, nm, g, kept, none⟩ sv (.pointer none)) (hk : k = 1 ∨ k = 2) (hn : nm.size ≤ 64) (hkp : kept.length ≤ 200) (hinn : shaI kept = inn) (hil : inn.length = 32) (hib : allB inn) :
    Calls Tryz.prog 73 #[.pointer (some ⟨A, 0, none⟩)] w fun e w' => e = .returned (.tuple #[]) ∧ ∃ bs', WellAt w' N A bs' ⟨k, nm, g, [], some ⟨seedOf k (inn ++ bts nm), 1⟩⟩ ∧ Turns w w' bs bs' := by
  obtain ⟨sa, scap, hsv, _, _⟩ := h.own.slice
  obtain ⟨_, _, c11, _⟩ := h.gw.rest
  have hby := h.own.src.byt
  have H := hid h
  subst hsv
  have D := hid (DSum_any _ _ w hby (by show kept.length < _; omega))
  clear hby h
  dsimp only at *
  rw [hinn] at D
  clear hinn
  go_enter Tryz.func73, Tryz.ntmps73
  go_wp2_with fail
  refine D.out.mono ?_
  rintro e w3 ⟨rfl, hB3⟩
  have hz3 := hB3.size
  have hi5 : ((w3.alloc (.cells (ints .u8 Z32) 96)).setRow w3.heap.size (ints .u8 inn)).heap[w3.heap.size]? = some (.cells (ints .u8 inn) 96 (0, 0)) := setRow_heap _ _ _ _ _ _ (al_new _ _)
  have hb5 : Byt ((w3.alloc (.cells (ints .u8 Z32) 96)).setRow w3.heap.size (ints .u8 inn)) (.slice (some ⟨w3.heap.size, 0, none⟩) 32 32) inn := by have := byt_block hi5 32; rw [hil] at this; exact this
  have hB5 : Below w.heap.size w ((w3.alloc (.cells (ints .u8 Z32) 96)).setRow w3.heap.size (ints .u8 inn)) := below_setRow (hB3.alloc (by omega) _) _ (by omega) _
  have Hb5 := hid hb5
  have hW5 : WlAt ((w3.alloc (.cells (ints .u8 Z32) 96)).setRow w3.heap.size (ints .u8 inn)) N A bs ⟨k, nm, g, kept, none⟩ (.slice sa kept.length scap) (.pointer none) := H.out.other hB5.size (fun b hb => hB5.block b (H.out.lo b hb).2)
  have HW5 := hid hW5
  have HB5 := hid hB5
  clear hb5 hi5 D c11 hB3 hW5 hB5
  go_wp2_with (first
    | refine wpList_alloc_eq rfl 96 rfl (ints .u8 Z32) Tryz.alloc96 ?_
    | refine wpList_store_row rfl 96 _ _ rfl w3.heap.size (ints .u8 inn) rfl rfl 96 (ints .u8 Z32) (al_new _ _) (by rw [ints_size, hil]; exact Tryz.info96) (by rw [ints_size, ints_size, hil]; rfl) (ints_one _ _) ?_
    | (refine wpList_str rfl _ rfl _ inn rfl Hb5.out ?_
       generalize ((w3.alloc (.cells (ints .u8 Z32) 96)).setRow w3.heap.size (ints .u8 inn)) = w5 at *
       have hW6 := HW5.out.gone
       obtain ⟨d0, d1, d11, d12⟩ := HW5.out.gw.rest
       obtain ⟨e0, e1, e11, e12⟩ := hW6.gw.rest
       have f11 := HW5.out.gw.frozen 11
       have f12 := hW6.gw.frozen 12
       have HW6 := hid hW6
       clear hW6
       dsimp only at d0 d1 d11 d12 e0 e1 e11 e12))
  have hz5 := HB5.out.size
  have hx6 : A < (w5.setCell ⟨A, 11, none⟩ (.slice none 0 0)).heap.size := HW6.out.gw.lt
  have HF6 := hid (Fr.of_ex ((Ex.refl A w5).setCell 11 (.slice none 0 0)))
  have Hmay : Hd (may (toS inn) = true) := hid (decide_eq_true (by rw [toS_size, hil]; exact ⟨by decide, by decide⟩))
  clear d0 d1 d11 d12 e11 f11
  generalize (w5.setCell ⟨A, 11, none⟩ (.slice none 0 0)) = w6 at *
  refine wp_region_held_drew (S := fun w => w.cell? ⟨A, 0, none⟩ = some (.int .i64 k) ∧ w.cell? ⟨A, 1, none⟩ = some (.string nm)) (by kernel_rfl) ⟨e0, e1⟩ (fun hSw => ?_)
  refine wpAnyH_take (i := 0) (v := ?_) rfl (by decide +kernel) (by decide +kernel) (by decide +kernel) (fun _ _ _ h => h) (Or.inl ⟨by rfl, ?_⟩) hSw ?_
  rotate_left
  · intro w hw; go_simp; try with_reducible rfl
  simp only [Act.put, List.getElem_toArray, List.getElem_cons_zero, List.getElem_cons_succ, List.setIfInBounds_toArray, List.set_cons_zero, List.set_cons_succ]
  refine wpAnyH_take (i := 1) (v := ?_) rfl (by decide +kernel) (by decide +kernel) (by decide +kernel) (fun _ _ _ h => h) (Or.inl ⟨by rfl, ?_⟩) hSw ?_
  rotate_left
  · intro w hw; go_simp; try with_reducible rfl
  simp only [Act.put, List.getElem_toArray, List.getElem_cons_zero, List.getElem_cons_succ, List.setIfInBounds_toArray, List.set_cons_zero, List.set_cons_succ]
  refine wpAnyH_take (i := 2) (v := ?_) rfl (by decide +kernel) (by decide +kernel) (by decide +kernel) (fun _ _ _ h => h) (Or.inl ⟨by rfl, ?_⟩) hSw ?_
  rotate_left
  · intro w hw; go_simp; try with_reducible rfl
  simp only [Act.put, List.getElem_toArray, List.getElem_cons_zero, List.getElem_cons_succ, List.setIfInBounds_toArray, List.set_cons_zero, List.set_cons_succ]
  refine wpAnyH_take (i := 3) (v := ?_) rfl (by decide +kernel) (by decide +kernel) (by decide +kernel) (fun _ _ _ h => h) (Or.inl ⟨by rfl, ?_⟩) hSw ?_
  rotate_left
  · intro w hw; go_simp; try with_reducible rfl
  simp only [Act.put, List.getElem_toArray, List.getElem_cons_zero, List.getElem_cons_succ, List.setIfInBounds_toArray, List.set_cons_zero, List.set_cons_succ]
  refine wpAnyH_take (i := 4) (v := ?_) rfl (by decide +kernel) (by decide +kernel) (by decide +kernel) (fun _ _ _ h => h) (Or.inl ⟨by rfl, ?_⟩) hSw ?_
  rotate_left
  · intro w hw; have hcell := hw.1; clear hw; go_simp; try with_reducible rfl
  simp only [Act.put, List.getElem_toArray, List.getElem_cons_zero, List.getElem_cons_succ, List.setIfInBounds_toArray, List.set_cons_zero, List.set_cons_succ]
  refine wpAnyH_take (i := 5) (v := ?_) rfl (by decide +kernel) (by decide +kernel) (by decide +kernel) (fun _ _ _ h => h) (Or.inl ⟨by rfl, ?_⟩) hSw ?_
  rotate_left
  · intro w hw; go_simp; try with_reducible rfl
  simp only [Act.put, List.getElem_toArray, List.getElem_cons_zero, List.getElem_cons_succ, List.setIfInBounds_toArray, List.set_cons_zero, List.set_cons_succ]
  refine wpAnyH_take (i := 6) (v := ?_) rfl (by decide +kernel) (by decide +kernel) (by decide +kernel) (fun _ _ _ h => h) (Or.inl ⟨by rfl, ?_⟩) hSw ?_
  rotate_left
  · intro w hw; go_simp; try with_reducible rfl
  simp only [Act.put, List.getElem_toArray, List.getElem_cons_zero, List.getElem_cons_succ, List.setIfInBounds_toArray, List.set_cons_zero, List.set_cons_succ]
  refine wpAnyH_take (i := 7) (v := ?_) rfl (by decide +kernel) (by decide +kernel) (by decide +kernel) (fun _ _ _ h => h) (Or.inl ⟨by rfl, ?_⟩) hSw ?_
  rotate_left
  · intro w hw; go_simp; try with_reducible rfl
  simp only [Act.put, List.getElem_toArray, List.getElem_cons_zero, List.getElem_cons_succ, List.setIfInBounds_toArray, List.set_cons_zero, List.set_cons_succ]
  refine wpAnyH_take (i := 8) (v := ?_) rfl (by decide +kernel) (by decide +kernel) (by decide +kernel) (fun _ _ _ h => h) (Or.inl ⟨by rfl, ?_⟩) hSw ?_
  rotate_left
  · intro w hw; go_simp; try with_reducible rfl
  simp only [Act.put, List.getElem_toArray, List.getElem_cons_zero, List.getElem_cons_succ, List.setIfInBounds_toArray, List.set_cons_zero, List.set_cons_succ]
  refine wpAnyH_take (i := 9) (v := ?_) rfl (by decide +kernel) (by decide +kernel) (by decide +kernel) (fun _ _ _ h => h) (Or.inl ⟨by rfl, ?_⟩) hSw ?_
  rotate_left
  · intro w hw; have hcell := hw.2; clear hw; go_simp; try with_reducible rfl
  simp only [Act.put, List.getElem_toArray, List.getElem_cons_zero, List.getElem_cons_succ, List.setIfInBounds_toArray, List.set_cons_zero, List.set_cons_succ]
  refine wpAnyH_ready (rs := [10]) (by kernel_rfl) (by simp) ?_
  refine AllReadyH.cons rfl (fun K hK => ?_) AllReadyH.nil
  go_simp
  refine (new_any k (toS inn) ⟨#[]⟩ nm _ hk Hmay.out (by decide) hn).mono ?_
  rintro en w7 ⟨SA, SB, rfl, hSA, hSB, hF7, hB7⟩
  have hB7' : Below w6.heap.size w6 w7 := (Below.refl _ w6).drew.trans hB7
  have hW7 := HW6.out.other hB7'.size (fun b hb => hB7'.block b (HW6.out.lo b hb).2)
  obtain ⟨g0, g1, g11, g12⟩ := hW7.gw.rest
  have k12 := hW7.gw.frozen 12
  dsimp only at g0 g1 g11 g12
  refine hK.out _ _ ⟨g0, g1⟩ (fun hSw => ?_)
  clear hK K
  refine wpAnyH_take (i := 11) (v := ?_) rfl (by decide +kernel) (by decide +kernel) (by decide +kernel) (fun _ _ _ h => h) (Or.inl ⟨by rfl, ?_⟩) hSw ?_
  rotate_left
  · intro w hw; go_simp; try with_reducible rfl
  simp only [Act.put, List.getElem_toArray, List.getElem_cons_zero, List.getElem_cons_succ, List.setIfInBounds_toArray, List.set_cons_zero, List.set_cons_succ]
  refine wpAnyH_take (i := 12) (v := ?_) rfl (by decide +kernel) (by decide +kernel) (by decide +kernel) (fun _ _ _ h => h) (Or.inl ⟨by rfl, ?_⟩) hSw ?_
  rotate_left
  · intro w hw; go_simp; try with_reducible rfl
  simp only [Act.put, List.getElem_toArray, List.getElem_cons_zero, List.getElem_cons_succ, List.setIfInBounds_toArray, List.set_cons_zero, List.set_cons_succ]
  refine wpAnyH_take (i := 13) (v := ?_) rfl (by decide +kernel) (by decide +kernel) (by decide +kernel) (fun _ _ _ h => h) (Or.inl ⟨by rfl, ?_⟩) hSw ?_
  rotate_left
  · intro w hw; go_simp; try with_reducible rfl
  simp only [Act.put, List.getElem_toArray, List.getElem_cons_zero, List.getElem_cons_succ, List.setIfInBounds_toArray, List.set_cons_zero, List.set_cons_succ]
  refine wpAnyH_take (i := 14) (v := ?_) rfl (by decide +kernel) (by decide +kernel) (by decide +kernel) (fun _ _ _ h => h) (Or.inl ⟨by rfl, ?_⟩) hSw ?_
  rotate_left
  · intro w hw; go_simp; try with_reducible rfl
  simp only [Act.put, List.getElem_toArray, List.getElem_cons_zero, List.getElem_cons_succ, List.setIfInBounds_toArray, List.set_cons_zero, List.set_cons_succ]
  refine wpAnyH_take (i := 15) (v := ?_) rfl (by decide +kernel) (by decide +kernel) (by decide +kernel) (fun _ _ _ h => h) (Or.inl ⟨by rfl, ?_⟩) hSw ?_
  rotate_left
  · intro w hw; go_simp; try with_reducible rfl
  simp only [Act.put, List.getElem_toArray, List.getElem_cons_zero, List.getElem_cons_succ, List.setIfInBounds_toArray, List.set_cons_zero, List.set_cons_succ]
  refine wpAnyH_ready (rs := [16]) (by kernel_rfl) (by simp) ?_
  refine AllReadyH.cons rfl (fun K hK => ?_) AllReadyH.nil
  have G8 := hW7.gw.set1 (.pointer (some ⟨SA, 0, none⟩))
  have hF8 := (Ex.refl A w7).setCell 12 (.pointer (some ⟨SA, 0, none⟩))
  obtain ⟨l0, l1, _, _⟩ := G8.rest
  dsimp only at l0 l1
  have hA6 := hx6
  have hSAl := hF7.lt
  have hSBl := hF7.gen.lt
  have hz6 : w6.drew.heap.size = w6.heap.size := rfl
  have Hend : Hd (∃ bs', WellAt (w7.setCell ⟨A, 12, none⟩ (.pointer (some ⟨SA, 0, none⟩))) N A bs' ⟨k, nm, g, [], some ⟨seedOf k (inn ++ bts nm), 1⟩⟩ ∧ Turns w (w7.setCell ⟨A, 12, none⟩ (.pointer (some ⟨SA, 0, none⟩))) bs bs') := by
    have hF9 : FtAt (w7.setCell ⟨A, 12, none⟩ (.pointer (some ⟨SA, 0, none⟩))) SA SB ⟨seedOf k (inn ++ bts nm), 1⟩ := by
      have := hF7.other (hF8.block SA hSAl (by omega)) (hF8.block SB hSBl (by omega))
      rw [bts_toS inn hib, bts0', List.append_nil] at this
      exact this
    have hFr : Fr (fun k => k ∈ bs) w (w7.setCell ⟨A, 12, none⟩ (.pointer (some ⟨SA, 0, none⟩))) := ((Fr.of_below (HB5.out.mono (Nat.le_refl _))).trans (HF6.out.mono (fun k _ e => by rw [e]; exact H.out.mem))).trans ((Fr.of_below hB7').trans ((Fr.of_ex hF8).mono (fun k _ e => by rw [e]; exact H.out.mem)))
    have hz8 := hF8.size
    refine hid ⟨SA :: SB :: bs, ⟨.slice none 0 0, .pointer (some ⟨SA, 0, none⟩), G8, World.ownsRow_nil _ _ _ _, fun b hb => by simp [Value.ownBlock] at hb, ⟨SA, SB, rfl, hF9, by simp, by simp, by omega, by omega, by simp [Value.ownBlock], by simp [Value.ownBlock]⟩, by simp [H.out.mem], fun b hb => ?_⟩, hFr, fun b hb => ?_⟩
    · rcases List.mem_cons.1 hb with rfl | hb
      · exact ⟨by have := (H.out.lo A H.out.mem).1; have := (H.out.lo A H.out.mem).2; omega, by omega⟩
      · rcases List.mem_cons.1 hb with rfl | hb
        · exact ⟨by have := (H.out.lo A H.out.mem).1; have := (H.out.lo A H.out.mem).2; omega, by omega⟩
        · exact ⟨(H.out.lo b hb).1, by have := (H.out.lo b hb).2; have := hB7'.size; have := HF6.out.size; omega⟩
    · have := HF6.out.size
      rcases List.mem_cons.1 hb with rfl | hb
      · exact .inr (by omega)
      · rcases List.mem_cons.1 hb with rfl | hb
        · exact .inr (by omega)
        · exact .inl hb
  clear hF7 hB7 hB7' hW7 G8 hF8 g0 g1 g11
  go_simp
  refine hK.out _ _ ⟨l0, l1⟩ (fun hSw => ?_)
  clear hK K
  refine wpAnyH_done (by kernel_rfl) ?_ _
  go_wp2
  exact bodyPost_ret (results_none (by rfl) _ _ _) rfl ⟨rfl, Hend.out⟩
set_option maxRecDepth 20000 in
set_option maxHeartbeats 1000000 in
theorem wseed_some (N A : Nat) (bs : List Nat) (k : Int) (nm : ByteArray) (g : Gd) (kept inn : List Int) (f : Fnt) (SA : Nat) (sv : Value) (w : World) (h : WlAt w N A bs ⟨k, nm, g, kept, some f⟩ sv (.pointer (some ⟨SA, 0, none⟩))) (hkp : kept.length ≤ 200) (hinn : shaI kept = inn) (hil : inn.length = 32) (hib : allB inn) :
    Calls Tryz.prog 73 #[.pointer (some ⟨A, 0, none⟩)] w fun e w' => e = .returned (.tuple #[]) ∧ ∃ bs', WellAt w' N A bs' ⟨k, nm, g, [], some ⟨reseedOf f.g inn, 1⟩⟩ ∧ Turns w w' bs bs' := by
  obtain ⟨sa, scap, hsv, _, _⟩ := h.own.slice
  obtain ⟨_, _, c11, _⟩ := h.gw.rest
  have hby := h.own.src.byt
  have H := hid h
  subst hsv
  have D := hid (DSum_any _ _ w hby (by show kept.length < _; omega))
  clear hby h
  dsimp only at *
  rw [hinn] at D
  clear hinn
  go_enter Tryz.func73, Tryz.ntmps73
  go_wp2_with fail
  refine D.out.mono ?_
  rintro e w3 ⟨rfl, hB3⟩
  have hz3 := hB3.size
  have hi5 : ((w3.alloc (.cells (ints .u8 Z32) 96)).setRow w3.heap.size (ints .u8 inn)).heap[w3.heap.size]? = some (.cells (ints .u8 inn) 96 (0, 0)) := setRow_heap _ _ _ _ _ _ (al_new _ _)
  have hb5 : Byt ((w3.alloc (.cells (ints .u8 Z32) 96)).setRow w3.heap.size (ints .u8 inn)) (.slice (some ⟨w3.heap.size, 0, none⟩) 32 32) inn := by have := byt_block hi5 32; rw [hil] at this; exact this
  have hB5 : Below w.heap.size w ((w3.alloc (.cells (ints .u8 Z32) 96)).setRow w3.heap.size (ints .u8 inn)) := below_setRow (hB3.alloc (by omega) _) _ (by omega) _
  have Hb5 := hid hb5
  have hW5 : WlAt ((w3.alloc (.cells (ints .u8 Z32) 96)).setRow w3.heap.size (ints .u8 inn)) N A bs ⟨k, nm, g, kept, some f⟩ (.slice sa kept.length scap) (.pointer (some ⟨SA, 0, none⟩)) := H.out.other hB5.size (fun b hb => hB5.block b (H.out.lo b hb).2)
  have HW5 := hid hW5
  have HB5 := hid hB5
  clear hb5 hi5 D c11 hB3 hW5 hB5
  go_wp2_with (first
    | refine wpList_alloc_eq rfl 96 rfl (ints .u8 Z32) Tryz.alloc96 ?_
    | refine wpList_store_row rfl 96 _ _ rfl w3.heap.size (ints .u8 inn) rfl rfl 96 (ints .u8 Z32) (al_new _ _) (by rw [ints_size, hil]; exact Tryz.info96) (by rw [ints_size, ints_size, hil]; rfl) (ints_one _ _) ?_
    | (refine wpList_str rfl _ rfl _ inn rfl Hb5.out ?_
       generalize ((w3.alloc (.cells (ints .u8 Z32) 96)).setRow w3.heap.size (ints .u8 inn)) = w5 at *
       have hW6 := HW5.out.gone
       obtain ⟨d0, d1, d11, d12⟩ := HW5.out.gw.rest
       obtain ⟨e0, e1, e11, e12⟩ := hW6.gw.rest
       have f11 := HW5.out.gw.frozen 11
       have f12 := hW6.gw.frozen 12
       have HW6 := hid hW6
       clear hW6
       dsimp only at d0 d1 d11 d12 e0 e1 e11 e12))
  have hz5 := HB5.out.size
  have HF6 := hid (Fr.of_ex ((Ex.refl A w5).setCell 11 (.slice none 0 0)))
  clear d0 d1 d11 d12 e11 f11 f12 e0 e1 e12
  generalize (w5.setCell ⟨A, 11, none⟩ (.slice none 0 0)) = w6 at *
  obtain ⟨SA', SB, hpv, hF6, hSAm, hSBm, hSA, hSB, hoA, hoB⟩ := HW6.out.src
  cases hpv
  refine (reseed_any f (toS inn) ⟨#[]⟩ SA SB w6 hF6 (decide_eq_true (by rw [toS_size, hil]; exact ⟨by decide, by decide⟩)) (by decide)).mono ?_
  rintro en w7 ⟨rfl, hF7, hE7⟩
  have Hend : Hd (WellAt w7 N A bs ⟨k, nm, g, [], some ⟨reseedOf f.g inn, 1⟩⟩ ∧ Turns w w7 bs bs) := by
    have hF8 : FtAt w7 SA SB ⟨reseedOf f.g inn, 1⟩ := by
      rw [bts_toS inn hib, bts0', List.append_nil] at hF7
      exact hF7
    have hz7 := hE7.size
    have hz6 := HF6.out.size
    have hG7 := HW6.out.gw.other (hE7.block A HW6.out.gw.lt hSA.symm hSB.symm)
    refine hid ⟨⟨.slice none 0 0, .pointer (some ⟨SA, 0, none⟩), hG7, World.ownsRow_nil _ _ _ _, fun b hb => by simp [Value.ownBlock] at hb, ⟨SA, SB, rfl, hF8, hSAm, hSBm, hSA, hSB, hoA, hoB⟩, H.out.mem, fun b hb => ⟨(H.out.lo b hb).1, by have := (H.out.lo b hb).2; omega⟩⟩, ((Fr.of_below (HB5.out.mono (Nat.le_refl _))).trans (HF6.out.mono (fun k _ e => by rw [e]; exact H.out.mem))).trans ((Fr.of_ex2 hE7).mono (fun k _ e => e.elim (fun e => by rw [e]; exact hSAm) (fun e => by rw [e]; exact hSBm))), fun b hb => .inl hb⟩
  clear hF7 hE7 hF6
  go_wp2
  go_end0
  exact ⟨rfl, bs, Hend.out⟩
theorem wseed_any (N A : Nat) (bs : List Nat) (x : Wel) (w : World) (h : WellAt w N A bs x) (hk : x.k = 1 ∨ x.k = 2) (hn : x.nm.size ≤ 64) (hkp : x.kept.length ≤ 200) :
    Calls Tryz.prog 73 #[.pointer (some ⟨A, 0, none⟩)] w fun e w' => e = .returned (.tuple #[]) ∧ ∃ bs', WellAt w' N A bs' ⟨x.k, x.nm, x.g, [], some (seedW x)⟩ ∧ Turns w w' bs bs' := by
  obtain ⟨k, nm, g, kept, s⟩ := x
  obtain ⟨sv, pv, h⟩ := h
  cases s with
  | none =>
    obtain rfl : pv = .pointer none := h.src
    exact wseed_none N A bs k nm g kept _ sv w h hk hn hkp rfl (shaI_len _) (shaI_B _)
  | some f =>
    obtain ⟨SA, SB, hpv, _⟩ := h.src
    subst hpv
    exact wseed_some N A bs k nm g kept _ f SA sv w h hkp rfl (shaI_len _) (shaI_B _)
end Go.Proofs.YtbifmhbkmnofiaaGreat
namespace Go.Proofs.YtbifmhbkmnofiaaGreat
open Go.RowKit
set_option linter.unusedVariables false
set_option linter.unusedSimpArgs false
/-- does a draw need a seeding? -/
def needs (x : Wel) : Bool := match x.s with
  | none => true
  | some f => decide (8 < f.r)
set_option maxHeartbeats 1000000 in
theorem wdraw_arg (n : Int) (ex : ByteArray) (A : Nat) (w : World) (h : n < 0 ∨ 200 < n ∨ 64 < ex.size) (hx : ex.size ≤ 9223372036854775807) :
    Calls Tryz.prog 46 #[.pointer (some ⟨A, 0, none⟩), .int .i64 n, .string ex] w fun en w' => en = .returned (.tuple #[.slice none 0 0, .int .i64 2]) ∧ w' = w := by
  have hm := mayR_no h
  go_enter Tryz.func46, Tryz.ntmps46
  go_wp2_with fail
  refine (mayRead_any n ex _ hx).mono ?_
  rintro en w0 ⟨rfl, rfl⟩
  rw [hm]
  go_wp2
  go_ret2
  exact ⟨rfl, rfl⟩
set_option maxHeartbeats 1000000 in
theorem wdraw_dead (n : Nat) (ex : ByteArray) (N A : Nat) (bs : List Nat) (x : Wel) (w : World) (h : WellAt w N A bs x) (hb : x.g.br = true) (hx : ex.size ≤ 64) (hn : n ≤ 200) :
    Calls Tryz.prog 46 #[.pointer (some ⟨A, 0, none⟩), .int .i64 n, .string ex] w fun en w' => en = .returned (.tuple #[.slice none 0 0, .int .i64 6]) ∧ w' = w := by
  have hm := mayR_yes (n := (n : Int)) (x := ex) (by omega) (by omega) hx
  obtain ⟨sv, pv, h⟩ := h
  obtain ⟨_, _, _, _, _, _, _, _, c10⟩ := h.gw.lims
  rw [hb] at c10
  clear h
  go_enter Tryz.func46, Tryz.ntmps46
  go_wp2_with fail
  refine (mayRead_any (n : Int) ex _ (by omega)).mono ?_
  rintro en w0 ⟨rfl, rfl⟩
  rw [hm]
  go_wp2
  go_ret2
  exact ⟨rfl, rfl⟩
set_option maxHeartbeats 1000000 in
theorem wdraw_little (n : Nat) (ex : ByteArray) (N A : Nat) (bs : List Nat) (x : Wel) (w : World) (h : WellAt w N A bs x) (hb : x.g.br = false) (hx : ex.size ≤ 64) (hn : n ≤ 200) (hs : needs x = true) (hk : x.kept.length < 32) :
    Calls Tryz.prog 46 #[.pointer (some ⟨A, 0, none⟩), .int .i64 n, .string ex] w fun en w' => en = .returned (.tuple #[.slice none 0 0, .int .i64 7]) ∧ w' = w := by
  have hm := mayR_yes (n := (n : Int)) (x := ex) (by omega) (by omega) hx
  obtain ⟨k, nm, g, kept, s⟩ := x
  obtain ⟨sv, pv, h⟩ := h
  obtain ⟨_, _, _, _, _, _, _, _, c10⟩ := h.gw.lims
  obtain ⟨_, _, c11, c12⟩ := h.gw.rest
  obtain ⟨sa, scap, hsv, _, _⟩ := h.own.slice
  dsimp only at *
  rw [hb] at c10
  subst hsv
  have hk' : (kept.length : Int) < 32 := by omega
  cases s with
  | none =>
    obtain rfl : pv = .pointer none := h.src
    clear h
    go_enter Tryz.func46, Tryz.ntmps46
    go_wp2_with fail
    refine (mayRead_any (n : Int) ex _ (by omega)).mono ?_
    rintro en w0 ⟨rfl, rfl⟩
    rw [hm]
    go_wp2
    go_ret2
    exact ⟨rfl, rfl⟩
  | some f =>
    obtain ⟨SA, SB, hpv, hF, _⟩ := h.src
    subst hpv
    have hr : 8 < f.r := of_decide_eq_true hs
    have HF := hid hF
    clear h hF
    go_enter Tryz.func46, Tryz.ntmps46
    go_wp2_with fail
    refine (mayRead_any (n : Int) ex _ (by omega)).mono ?_
    rintro en w0 ⟨rfl, rfl⟩
    rw [hm]
    go_wp2_with fail
    refine (spent_any f SA SB _ HF.out).mono ?_
    rintro en w0 ⟨rfl, rfl⟩
    rw [decide_eq_true hr]
    go_wp2
    go_ret2
    exact ⟨rfl, rfl⟩
/-- a well that has read -/
theorem WlAt.read {w w' : World} {N A SA SB : Nat} {bs : List Nat} {k : Int} {nm : ByteArray} {g : Gd} {kept : List Int} {f f' : Fnt} {sv : Value} (h : WlAt w N A bs ⟨k, nm, g, kept, some f⟩ sv (.pointer (some ⟨SA, 0, none⟩))) (hs : SrcAt w bs A sv.ownBlock (.pointer (some ⟨SA, 0, none⟩)) (some f)) (hm : SB ∈ bs) (hA : SB ≠ A) (hob : sv.ownBlock ≠ some SB) (hF : FtAt w' SA SB f') (hE : Ex2 SA SB w w') : WellAt w' N A bs ⟨k, nm, g, kept, some f'⟩ ∧ Turns w w' bs bs := by
  obtain ⟨SA', SB', hpv, hF0, h1, h2, h3, h4, h5, h6⟩ := hs
  cases hpv
  refine ⟨⟨sv, .pointer (some ⟨SA, 0, none⟩), h.gw.other (hE.block A h.gw.lt h3.symm hA.symm), h.own.other (fun b hb => hE.block b (h.lo b (h.ob b hb).1).2 (fun e => h5 (by rw [hb, e])) (fun e => hob (by rw [hb, e]))), h.ob, ⟨SA, SB, rfl, hF, h1, hm, h3, hA, h5, hob⟩, h.mem, fun b hb => ⟨(h.lo b hb).1, by have := (h.lo b hb).2; have := hE.size; omega⟩⟩, (Fr.of_ex2 hE).mono (fun k _ e => e.elim (fun e => by rw [e]; exact h1) (fun e => by rw [e]; exact hm)), fun b hb => .inl hb⟩
set_option maxRecDepth 20000 in
set_option maxHeartbeats 1000000 in
theorem wdraw_read (n : Nat) (ex : ByteArray) (N A : Nat) (bs : List Nat) (k : Int) (nm : ByteArray) (g : Gd) (kept : List Int) (f : Fnt) (w : World) (h : WellAt w N A bs ⟨k, nm, g, kept, some f⟩) (hb : g.br = false) (hx : ex.size ≤ 64) (hn : n ≤ 200) (hr : f.r ≤ 8) :
    Calls Tryz.prog 46 #[.pointer (some ⟨A, 0, none⟩), .int .i64 n, .string ex] w fun en w' => ∃ gb, en = .returned (.tuple #[.slice (some ⟨gb, 0, none⟩) n n, .int .i64 0]) ∧ w.heap.size ≤ gb ∧ w'.heap[gb]? = some (.cells (ints .u8 (bytesF f.g n (bts ex))) 5 (0, 0)) ∧ WellAt w' N A bs ⟨k, nm, g, kept, some ⟨behindF f.g f.r n (bts ex), f.r + 1⟩⟩ ∧ Turns w w' bs bs := by
  have hm := mayR_yes (n := (n : Int)) (x := ex) (by omega) (by omega) hx
  obtain ⟨sv, pv, h⟩ := h
  obtain ⟨_, _, _, _, _, _, _, _, c10⟩ := h.gw.lims
  obtain ⟨_, _, c11, c12⟩ := h.gw.rest
  dsimp only at *
  rw [hb] at c10
  have hs := h.src
  obtain ⟨SA, SB, hpv, hF, h1, h2, h3, h4, h5, h6⟩ := hs
  have hs := h.src
  subst hpv
  have R := hid (read_any f n ex SA SB w hF hx hn hr)
  have HF := hid hF
  have H := hid h
  have Hs := hid hs
  clear h hF hs
  go_enter Tryz.func46, Tryz.ntmps46
  go_wp2_with fail
  refine (mayRead_any (n : Int) ex _ (by omega)).mono ?_
  rintro en w0 ⟨rfl, hw0⟩
  have hw1 := hw0.symm
  subst hw1
  clear hw0
  rw [hm]
  go_wp2_with fail
  refine (spent_any f SA SB _ HF.out).mono ?_
  rintro en w0 ⟨rfl, hw0⟩
  have hw1 := hw0.symm
  subst hw1
  clear hw0
  rw [decide_eq_false (by omega)]
  go_wp2_with fail
  refine R.out.mono ?_
  rintro en w1 ⟨gb, rfl, hgb, hr1, hF1, hE1⟩
  have Hend := hid (H.out.read Hs.out h2 h4 h6 hF1 hE1)
  have Hr1 := hid hr1
  clear hF1 hE1 hr1 R HF H Hs
  go_wp2
  go_ret2
  exact ⟨gb, rfl, hgb, Hr1.out, Hend.out⟩
set_option maxRecDepth 20000 in
set_option maxHeartbeats 1000000 in
theorem wdraw_seed (n : Nat) (ex : ByteArray) (N A : Nat) (bs : List Nat) (x : Wel) (f : Fnt) (w : World) (h : WellAt w N A bs x) (hb : x.g.br = false) (hx : ex.size ≤ 64) (hn : n ≤ 200) (hs : needs x = true) (hk : 32 ≤ x.kept.length) (hk2 : x.kept.length ≤ 200) (hki : x.k = 1 ∨ x.k = 2) (hnm : x.nm.size ≤ 64) (hf : seedW x = f) (hr : f.r ≤ 8) :
    Calls Tryz.prog 46 #[.pointer (some ⟨A, 0, none⟩), .int .i64 n, .string ex] w fun en w' => ∃ gb, en = .returned (.tuple #[.slice (some ⟨gb, 0, none⟩) n n, .int .i64 0]) ∧ w.heap.size ≤ gb ∧ w'.heap[gb]? = some (.cells (ints .u8 (bytesF f.g n (bts ex))) 5 (0, 0)) ∧ ∃ bs', WellAt w' N A bs' ⟨x.k, x.nm, x.g, [], some ⟨behindF f.g f.r n (bts ex), f.r + 1⟩⟩ ∧ Turns w w' bs bs' := by
  have hm := mayR_yes (n := (n : Int)) (x := ex) (by omega) (by omega) hx
  have W := hid (wseed_any N A bs x w h hki hnm hk2)
  rw [hf] at W
  clear hf
  obtain ⟨k, nm, g, kept, s⟩ := x
  obtain ⟨sv, pv, h⟩ := h
  obtain ⟨_, _, _, _, _, _, _, _, c10⟩ := h.gw.lims
  obtain ⟨_, _, c11, c12⟩ := h.gw.rest
  obtain ⟨sa, scap, hsv, _, _⟩ := h.own.slice
  dsimp only at *
  rw [hb] at c10
  subst hsv
  have hk' : ¬ (kept.length : Int) < 32 := by omega
  cases s with
  | none =>
    obtain rfl : pv = .pointer none := h.src
    clear h
    go_enter Tryz.func46, Tryz.ntmps46
    go_wp2_with fail
    refine (mayRead_any (n : Int) ex _ (by omega)).mono ?_
    rintro en w0 ⟨rfl, hw0⟩
    have hw1 := hw0.symm
    subst hw1
    clear hw0
    rw [hm]
    go_wp2_with fail
    refine W.out.mono ?_
    rintro en w1 ⟨rfl, bs1, ⟨sv1, pv1, h1⟩, hT1⟩
    obtain ⟨SA, SB, hpv, hF, m1, m2, m3, m4, m5, m6⟩ := h1.src
    have hs1 := h1.src
    subst hpv
    obtain ⟨_, _, d11, d12⟩ := h1.gw.rest
    have R := hid (read_any f n ex SA SB w1 hF hx hn hr)
    have H := hid h1
    have Hs := hid hs1
    have HT := hid hT1
    clear h1 hs1 hF hT1 W
    go_wp2_with fail
    refine R.out.mono ?_
    rintro en w2 ⟨gb, rfl, hgb, hr1, hF1, hE1⟩
    obtain ⟨q1, q2⟩ := H.out.read Hs.out m2 m4 m6 hF1 hE1
    have Hq1 := hid q1
    have Hq2 := hid q2
    have Hr1 := hid hr1
    clear hF1 hE1 hr1 R H Hs q1 q2
    go_wp2
    go_ret2
    have hz := HT.out.fr.size
    exact ⟨gb, rfl, by omega, Hr1.out, bs1, Hq1.out, ⟨⟨Hq2.out.fr.os.trans HT.out.fr.os, Hq2.out.fr.tape.trans HT.out.fr.tape, Hq2.out.fr.output.trans HT.out.fr.output, Nat.le_trans HT.out.fr.size Hq2.out.fr.size, fun b hb hnb => (Hq2.out.fr.block b (by omega) (fun hh => (HT.out.grow b hh).elim hnb (fun hh => by omega))).trans (HT.out.fr.block b hb hnb)⟩, HT.out.grow⟩⟩
  | some f0 =>
    obtain ⟨SA0, SB0, hpv, hF0, _⟩ := h.src
    subst hpv
    have hr0 : 8 < f0.r := of_decide_eq_true hs
    have HF0 := hid hF0
    clear h hF0
    go_enter Tryz.func46, Tryz.ntmps46
    go_wp2_with fail
    refine (mayRead_any (n : Int) ex _ (by omega)).mono ?_
    rintro en w0 ⟨rfl, hw0⟩
    have hw1 := hw0.symm
    subst hw1
    clear hw0
    rw [hm]
    go_wp2_with fail
    refine (spent_any f0 SA0 SB0 _ HF0.out).mono ?_
    rintro en w0 ⟨rfl, hw0⟩
    have hw1 := hw0.symm
    subst hw1
    clear hw0
    rw [decide_eq_true hr0]
    go_wp2_with fail
    refine W.out.mono ?_
    rintro en w1 ⟨rfl, bs1, ⟨sv1, pv1, h1⟩, hT1⟩
    obtain ⟨SA, SB, hpv, hF, m1, m2, m3, m4, m5, m6⟩ := h1.src
    have hs1 := h1.src
    subst hpv
    obtain ⟨_, _, d11, d12⟩ := h1.gw.rest
    have R := hid (read_any f n ex SA SB w1 hF hx hn hr)
    have H := hid h1
    have Hs := hid hs1
    have HT := hid hT1
    clear h1 hs1 hF hT1 W
    go_wp2_with fail
    refine R.out.mono ?_
    rintro en w2 ⟨gb, rfl, hgb, hr1, hF1, hE1⟩
    obtain ⟨q1, q2⟩ := H.out.read Hs.out m2 m4 m6 hF1 hE1
    have Hq1 := hid q1
    have Hq2 := hid q2
    have Hr1 := hid hr1
    clear hF1 hE1 hr1 R H Hs q1 q2
    go_wp2
    go_ret2
    have hz := HT.out.fr.size
    exact ⟨gb, rfl, by omega, Hr1.out, bs1, Hq1.out, ⟨⟨Hq2.out.fr.os.trans HT.out.fr.os, Hq2.out.fr.tape.trans HT.out.fr.tape, Hq2.out.fr.output.trans HT.out.fr.output, Nat.le_trans HT.out.fr.size Hq2.out.fr.size, fun b hb hnb => (Hq2.out.fr.block b (by omega) (fun hh => (HT.out.grow b hh).elim hnb (fun hh => by omega))).trans (HT.out.fr.block b hb hnb)⟩, HT.out.grow⟩⟩
end Go.Proofs.YtbifmhbkmnofiaaGreat
namespace Go.Proofs.YtbifmhbkmnofiaaGreat
open Go.RowKit
set_option linter.unusedVariables false
set_option linter.unusedSimpArgs false
theorem keepL_short {xs : List Int} (h : xs.length ≤ 200) : keepL xs = xs := by
  unfold keepL
  rw [show xs.length - 200 = 0 by omega, List.drop_zero]
theorem keepL_keepL (a b : List Int) : keepL (keepL a ++ b) = keepL (a ++ b) := by
  by_cases h : a.length ≤ 200
  · rw [keepL_short h]
  · unfold keepL
    have e : (a.drop (a.length - 200)).length = 200 := by simp; omega
    rw [List.length_append, List.length_append, e, List.drop_append, e, List.drop_append, List.drop_drop]
    rw [show a.length - 200 + (200 + b.length - 200) = a.length + b.length - 200 by omega, show 200 + b.length - 200 - 200 = a.length + b.length - 200 - a.length by omega]
/-- what holds of every well -/
structure Wel.ok (x : Wel) : Prop where
  k : x.k = 1 ∨ x.k = 2
  nm : x.nm.size ≤ 64
  g : x.g.ok
  kept : x.kept.length ≤ 200
theorem Turns.trans {a b c : World} {s t u : List Nat} (h : Turns a b s t) (k : Turns b c t u) : Turns a c s u := by
  have hz := h.fr.size
  refine ⟨⟨k.fr.os.trans h.fr.os, k.fr.tape.trans h.fr.tape, k.fr.output.trans h.fr.output, Nat.le_trans hz k.fr.size, fun i hi hn => (k.fr.block i (by omega) (fun hh => (h.grow i hh).elim hn (fun hh => by omega))).trans (h.fr.block i hi hn)⟩, fun i hi => ?_⟩
  rcases k.grow i hi with hh | hh
  · exact h.grow i hh
  · exact .inr (by omega)
theorem Turns.refl (w : World) (s : List Nat) : Turns w w s s := ⟨Fr.refl _ _, fun b hb => .inl hb⟩
theorem Turns.of_below {w w' : World} (s : List Nat) (h : Below w.heap.size w w') : Turns w w' s s := ⟨Fr.of_below h, fun b hb => .inl hb⟩
theorem Turns.below {w w' : World} {s t : List Nat} {N : Nat} (h : Turns w w' s t) (hs : ∀ b ∈ s, N ≤ b) (hN : N ≤ w.heap.size) : Below N w w' := h.fr.below hs hN
theorem pourW_dead {x : Wel} (h : x.g.br = true) (ys : List Int) : pourW x ys = (0, 6, ⟨x.k, x.nm, x.g, [], x.s⟩) := by unfold pourW; rw [if_pos h]
theorem pourW_many {x : Wel} (h : x.g.br = false) {ys : List Int} (hn : 200 < ys.length) : pourW x ys = (0, 2, x) := by unfold pourW; rw [if_neg (by rw [h]; decide), if_pos hn]
theorem pourW_take {x : Wel} (h : x.g.br = false) {ys : List Int} (hn : ys.length ≤ 200) : pourW x ys = ((fedG x.g ys).1, (fedG x.g ys).2.1, ⟨x.k, x.nm, (fedG x.g ys).2.2, if (fedG x.g ys).2.1 = 0 then keepL (x.kept ++ ys) else [], x.s⟩) := by unfold pourW; rw [if_neg (by rw [h]; decide), if_neg (by omega)]
theorem pourW_ok {x : Wel} (h : x.ok) (ys : List Int) : (pourW x ys).2.2.ok := by
  cases hb : x.g.br with
  | true => rw [pourW_dead hb]; exact ⟨h.k, h.nm, h.g, by simp⟩
  | false =>
    by_cases hn : 200 < ys.length
    · rw [pourW_many hb hn]; exact h
    · rw [pourW_take hb (by omega)]
      refine ⟨h.k, h.nm, (fedG_form h.g ys).1, ?_⟩
      dsimp only
      split
      · exact keepL_len _
      · simp
/-- a well's Feed -/
theorem wfeed_any (N A : Nat) (bs : List Nat) (x : Wel) (v : Value) (ys : List Int) (w : World) (h : WellAt w N A bs x) (hok : x.ok) (hv : Src w v ys) (hvB : ∀ ad n c, v = .slice (some ad) n c → 0 < n → ad.block ≠ A) (hN : N ≤ w.heap.size) :
    Calls Tryz.prog 44 #[.pointer (some ⟨A, 0, none⟩), v] w fun e w' => e = .returned (.tuple #[.int .i64 (pourW x ys).1, .int .i64 (pourW x ys).2.1]) ∧ ∃ bs', WellAt w' N A bs' (pourW x ys).2.2 ∧ Turns w w' bs bs' := by
  obtain ⟨a, c, hvs⟩ : ∃ a c, v = .slice a ys.length c := by
    rcases hv with ⟨h1, h⟩ | ⟨ad, cp, h, _⟩
    · exact ⟨_, _, by rw [h1]; exact h⟩
    · exact ⟨_, _, h⟩
  cases hb : x.g.br with
  | true =>
    rw [pourW_dead hb]
    subst hvs
    refine (wfeed_dead N A bs x _ _ _ w h hb).mono ?_
    rintro e w' ⟨rfl, h1, h2⟩
    exact ⟨rfl, bs, h1, h2⟩
  | false =>
    by_cases hn : 200 < ys.length
    · rw [pourW_many hb hn]
      subst hvs
      refine (wfeed_many N A bs x _ _ _ w h hb hn).mono ?_
      rintro e w' ⟨rfl, rfl⟩
      exact ⟨rfl, bs, h, Turns.refl _ _⟩
    · rw [pourW_take hb (by omega)]
      exact wfeed_take N A bs x v ys w h hb hv hvB (by omega) hok.g hok.kept hN
/-- the generator that a draw reads from, and the well ahead of the reading -/
def readyW (x : Wel) : Fnt := if needs x = true then seedW x else match x.s with | some f => f | none => seedW x
theorem seedW_r (x : Wel) : (seedW x).r = 1 := by unfold seedW; split <;> rfl
theorem seedW_le (x : Wel) : (seedW x).r ≤ 8 := by rw [seedW_r]; decide
/-- a draw that gives bytes -/
theorem wdraw_any (n : Nat) (ex : ByteArray) (N A : Nat) (bs : List Nat) (x : Wel) (f : Fnt) (w : World) (h : WellAt w N A bs x) (hok : x.ok) (hb : x.g.br = false) (hx : ex.size ≤ 64) (hn : n ≤ 200) (hs : needs x = true → 32 ≤ x.kept.length) (hf : readyW x = f) :
    Calls Tryz.prog 46 #[.pointer (some ⟨A, 0, none⟩), .int .i64 n, .string ex] w fun en w' => ∃ gb, en = .returned (.tuple #[.slice (some ⟨gb, 0, none⟩) n n, .int .i64 0]) ∧ w.heap.size ≤ gb ∧ w'.heap[gb]? = some (.cells (ints .u8 (bytesF f.g n (bts ex))) 5 (0, 0)) ∧ ∃ bs', WellAt w' N A bs' ⟨x.k, x.nm, x.g, if needs x = true then [] else x.kept, some ⟨behindF f.g f.r n (bts ex), f.r + 1⟩⟩ ∧ Turns w w' bs bs' := by
  cases hne : needs x with
  | true =>
    rw [if_pos rfl]
    have e : seedW x = f := by rw [← hf]; unfold readyW; rw [if_pos hne]
    exact wdraw_seed n ex N A bs x f w h hb hx hn hne (hs hne) hok.kept hok.k hok.nm e (by rw [← e]; exact seedW_le x)
  | false =>
    rw [if_neg (by decide)]
    obtain ⟨k, nm, g, kept, s⟩ := x
    cases s with
    | none => exact absurd hne (by simp [needs])
    | some f0 =>
      have e : f0 = f := by rw [← hf]; unfold readyW; rw [if_neg (by rw [hne]; decide)]
      subst e
      have hr : f0.r ≤ 8 := by have := of_decide_eq_false hne; omega
      refine (wdraw_read n ex N A bs k nm g kept f0 w h hb hx hn hr).mono ?_
      rintro en w' ⟨gb, rfl, h1, h2, h3, h4⟩
      exact ⟨gb, rfl, h1, h2, bs, h3, h4⟩
end Go.Proofs.YtbifmhbkmnofiaaGreat
