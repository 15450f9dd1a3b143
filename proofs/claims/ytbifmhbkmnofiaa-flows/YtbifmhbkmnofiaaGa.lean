import Derived.Test.YtbifmhbkmnofiaaDm
namespace Go.Proofs.Ytbifmhbkmnofiaa
open Go.RowKit
set_option linter.unusedVariables false
set_option linter.unusedSimpArgs false
/-- a generator by sums with a key: K and V in block B -/
structure MG where
  k : List Int
  v : List Int
structure MG.ok (g : MG) : Prop where
  kl : g.k.length = 32
  vl : g.v.length = 32
def MgAt (w : World) (B : Nat) (g : MG) : Prop := ∃ t, w.heap[B]? = some (.cells ((g.k.map (Value.int .u8) ++ g.v.map (Value.int .u8))).toArray t (0, 0))
theorem MgAt.cell {w : World} {B : Nat} {g : MG} (h : MgAt w B g) (j : Nat) : w.cell? ⟨B, j, none⟩ = (g.k.map (Value.int .u8) ++ g.v.map (Value.int .u8))[j]? := by
  obtain ⟨t, h⟩ := h
  rw [cell_of_row w B j _ t _ h]; simp
theorem MgAt.frozen {w : World} {B : Nat} {g : MG} (h : MgAt w B g) (j : Nat) : w.frozen? ⟨B, j, none⟩ = false := by
  obtain ⟨t, h⟩ := h
  simp [World.frozen?, h]
theorem MgAt.lt {w : World} {B : Nat} {g : MG} (h : MgAt w B g) : B < w.heap.size := by
  obtain ⟨t, h⟩ := h
  exact (Array.getElem?_eq_some_iff.1 h).1
theorem MgAt.other {w w' : World} {B : Nat} {g : MG} (h : MgAt w B g) (he : w'.heap[B]? = w.heap[B]?) : MgAt w' B g := by
  obtain ⟨t, h⟩ := h
  exact ⟨t, he.trans h⟩
theorem MgAt.kByt {w : World} {B : Nat} {g : MG} (h : MgAt w B g) (hg : g.ok) : Byt w (.slice (some ⟨B, 0, none⟩) 32 32) g.k := by
  refine Or.inr ⟨B, 0, 32, by rw [hg.kl], fun j hj => ?_⟩
  rw [h.cell, Nat.zero_add, List.getElem?_append_left (by simpa using hj)]
  simp [List.getElem?_eq_getElem hj]
theorem MgAt.vByt {w : World} {B : Nat} {g : MG} (h : MgAt w B g) (hg : g.ok) : Byt w (.slice (some ⟨B, 32, none⟩) 32 32) g.v := by
  refine Or.inr ⟨B, 32, 32, by rw [hg.vl], fun j hj => ?_⟩
  rw [h.cell, List.getElem?_append_right (by simp [hg.kl])]
  simp [hg.kl, List.getElem?_eq_getElem hj]
theorem MgAt.setK {w : World} {B : Nat} {g : MG} (h : MgAt w B g) (ms : List Int) (hl : ms.length = g.k.length) : MgAt (w.setCells B 0 (ints .u8 ms).toList) B ⟨ms, g.v⟩ := by
  obtain ⟨t, h⟩ := h
  refine ⟨t, ?_⟩
  have := setCells_block B t (ms.map (Value.int .u8)) (g.k.map (Value.int .u8)) [] (g.v.map (Value.int .u8)) w (by simp [hl]) (by simpa using h)
  simpa [ints] using this
theorem MgAt.setV {w : World} {B : Nat} {g : MG} (h : MgAt w B g) (hg : g.ok) (ms : List Int) (hl : ms.length = g.v.length) : MgAt (w.setCells B 32 (ints .u8 ms).toList) B ⟨g.k, ms⟩ := by
  obtain ⟨t, h⟩ := h
  refine ⟨t, ?_⟩
  have := setCells_block B t (ms.map (Value.int .u8)) (g.v.map (Value.int .u8)) (g.k.map (Value.int .u8)) [] w (by simp [hl]) (by simpa using h)
  simpa [ints, hg.kl] using this
theorem MgAt.there {w : World} {B : Nat} {g : MG} (h : MgAt w B g) (hg : g.ok) (o n : Nat) (ho : o + n ≤ 64) : w.there B o n := fun j hj => by
  refine ⟨?_, h.frozen _⟩
  rw [h.cell, List.getElem?_eq_getElem (by simp [hg.kl, hg.vl]; omega)]; rfl
def stepG (g : MG) : MG := ⟨g.k, macI g.k g.v⟩
theorem stepG_k (g : MG) : (stepG g).k = g.k := by simp only [stepG]
theorem stepG_v (g : MG) : (stepG g).v = macI g.k g.v := by simp only [stepG]
theorem stepG_eq (g : MG) : stepG g = ⟨g.k, macI g.k g.v⟩ := by simp only [stepG]
theorem stepG_ok {g : MG} (h : g.ok) : (stepG g).ok := by
  constructor
  · rw [stepG_k]; exact h.kl
  · rw [stepG_v]; exact macI_len g.k g.v

set_option maxRecDepth 20000 in
set_option maxHeartbeats 400000 in
theorem mstep_any (g : MG) (B : Nat) (w : World) (hg : g.ok) (hS : MgAt w B g) :
    Calls Try.prog 82 #[.pointer (some ⟨B, 0, none⟩)] w fun e w' => e = .returned (.tuple #[]) ∧ MgAt w' B (stepG g) ∧ Ex B w w' := by
  have y1 : Byt w.drew (.slice (some ⟨B, 0, none⟩) 32 32) g.k := hS.kByt hg
  have y2 : Byt w.drew (.slice (some ⟨B, 32, none⟩) 32 32) g.v := hS.vByt hg
  have hlt := hS.lt
  have He := hid (stepG_eq g)
  have hml := macI_len g.k g.v
  have Y1 := hid y1
  have Y2 := hid y2
  have HS := hid hS
  clear y1 y2 hS
  go_enter Try.func82, Try.ntmps82
  refine wp_region_any (by kernel_rfl) ?_
  change wpAny _ _ _ _ _ _ _ (World.drew _)
  refine wpAny_take (i := 0) (v := ?_) rfl (by decide +kernel) (by decide +kernel) (by decide +kernel) (fun _ _ _ h => h) (Or.inl ⟨by rfl, ?_⟩) ?_
  rotate_left
  · intro w; go_simp; try with_reducible rfl
  simp only [Act.put, List.getElem_toArray, List.getElem_cons_zero, List.getElem_cons_succ, List.setIfInBounds_toArray, List.set_cons_zero, List.set_cons_succ]
  refine wpAny_take (i := 1) (v := ?_) rfl (by decide +kernel) (by decide +kernel) (by decide +kernel) (fun _ _ _ h => h) (Or.inl ⟨by rfl, ?_⟩) ?_
  rotate_left
  · intro w; go_simp; try with_reducible rfl
  simp only [Act.put, List.getElem_toArray, List.getElem_cons_zero, List.getElem_cons_succ, List.setIfInBounds_toArray, List.set_cons_zero, List.set_cons_succ]
  refine wpAny_take (i := 2) (v := ?_) rfl (by decide +kernel) (by decide +kernel) (by decide +kernel) (fun _ _ _ h => h) (Or.inl ⟨by rfl, ?_⟩) ?_
  rotate_left
  · intro w; go_simp; try with_reducible rfl
  simp only [Act.put, List.getElem_toArray, List.getElem_cons_zero, List.getElem_cons_succ, List.setIfInBounds_toArray, List.set_cons_zero, List.set_cons_succ]
  refine wpAny_take (i := 3) (v := ?_) rfl (by decide +kernel) (by decide +kernel) (by decide +kernel) (fun _ _ _ h => h) (Or.inl ⟨by rfl, ?_⟩) ?_
  rotate_left
  · intro w; go_simp; try with_reducible rfl
  simp only [Act.put, List.getElem_toArray, List.getElem_cons_zero, List.getElem_cons_succ, List.setIfInBounds_toArray, List.set_cons_zero, List.set_cons_succ]
  refine wpAny_take (i := 4) (v := ?_) rfl (by decide +kernel) (by decide +kernel) (by decide +kernel) (fun _ _ _ h => h) (Or.inl ⟨by rfl, ?_⟩) ?_
  rotate_left
  · intro w; go_simp; try with_reducible rfl
  simp only [Act.put, List.getElem_toArray, List.getElem_cons_zero, List.getElem_cons_succ, List.setIfInBounds_toArray, List.set_cons_zero, List.set_cons_succ]
  refine wpAny_take (i := 5) (v := ?_) rfl (by decide +kernel) (by decide +kernel) (by decide +kernel) (fun _ _ _ h => h) (Or.inl ⟨by rfl, ?_⟩) ?_
  rotate_left
  · intro w; go_simp; try with_reducible rfl
  simp only [Act.put, List.getElem_toArray, List.getElem_cons_zero, List.getElem_cons_succ, List.setIfInBounds_toArray, List.set_cons_zero, List.set_cons_succ]
  refine wpAny_take (i := 6) (v := ?_) rfl (by decide +kernel) (by decide +kernel) (by decide +kernel) (fun _ _ _ h => h) (Or.inl ⟨by rfl, ?_⟩) ?_
  rotate_left
  · intro w; go_simp; try with_reducible rfl
  simp only [Act.put, List.getElem_toArray, List.getElem_cons_zero, List.getElem_cons_succ, List.setIfInBounds_toArray, List.set_cons_zero, List.set_cons_succ]
  refine wpAny_take (i := 7) (v := ?_) rfl (by decide +kernel) (by decide +kernel) (by decide +kernel) (fun _ _ _ h => h) (Or.inl ⟨by rfl, ?_⟩) ?_
  rotate_left
  · intro w; go_simp; try with_reducible rfl
  simp only [Act.put, List.getElem_toArray, List.getElem_cons_zero, List.getElem_cons_succ, List.setIfInBounds_toArray, List.set_cons_zero, List.set_cons_succ]
  refine wpAny_take (i := 8) (v := ?_) rfl (by decide +kernel) (by decide +kernel) (by decide +kernel) (fun _ _ _ h => h) (Or.inl ⟨by rfl, ?_⟩) ?_
  rotate_left
  · intro w; go_simp; try with_reducible rfl
  simp only [Act.put, List.getElem_toArray, List.getElem_cons_zero, List.getElem_cons_succ, List.setIfInBounds_toArray, List.set_cons_zero, List.set_cons_succ]
  refine wpAny_ready (rs := [9]) (by kernel_rfl) (by simp) ?_
  refine AllReady.cons rfl (fun K hK => ?_) AllReady.nil
  go_simp
  refine (DMac_any _ _ _ _ _ Y1.out Y2.out (by rw [hg.kl]; omega) (by rw [hg.vl]; omega)).mono ?_
  rintro e w2 ⟨rfl, hBm⟩
  generalize macI g.k g.v = mm at *
  refine hK _ _ ?_
  clear hK K
  have H3 : MgAt w2 B g := HS.out.other ((hBm.block B hlt).trans rfl)
  have hE2 : Ex B w w2 := (Ex.refl B w).drew.trans (Ex.of_below hBm)
  refine wpAny_take (i := 10) (v := ?_) rfl (by decide +kernel) (by decide +kernel) (by decide +kernel) (fun _ _ _ h => h) (Or.inl ⟨by rfl, ?_⟩) ?_
  rotate_left
  · intro w; go_simp; try with_reducible rfl
  simp only [Act.put, List.getElem_toArray, List.getElem_cons_zero, List.getElem_cons_succ, List.setIfInBounds_toArray, List.set_cons_zero, List.set_cons_succ]
  refine wpAny_take (i := 11) (v := ?_) rfl (by decide +kernel) (by decide +kernel) (by decide +kernel) (fun _ _ _ h => h) (Or.inl ⟨by rfl, ?_⟩) ?_
  rotate_left
  · intro w; go_simp; try with_reducible rfl
  simp only [Act.put, List.getElem_toArray, List.getElem_cons_zero, List.getElem_cons_succ, List.setIfInBounds_toArray, List.set_cons_zero, List.set_cons_succ]
  refine wpAny_ready (rs := [12]) (by kernel_rfl) (by simp) ?_
  refine AllReady.cons rfl (fun K hK => ?_) AllReady.nil
  rw [if_pos (by rfl)]
  refine wp_store_mid 68 _ _ rfl B 32 (ints .u8 mm) rfl rfl (by rw [ints_size, hml]; exact H3.there hg 32 32 (by omega)) (by rw [ints_size, hml]; exact Try.info68) (ints_one _ _) (hK _ _ ?_)
  clear hK K
  refine wpAny_done (by kernel_rfl) ?_ _
  go_end0
  rw [He.out]
  exact ⟨rfl, H3.setV hg _ (hml.trans hg.vl.symm), hE2.setCells _ _⟩
end Go.Proofs.Ytbifmhbkmnofiaa
