import Derived.Test.YtbifmhbkmnofiaaGreatMb
namespace Go.Proofs.YtbifmhbkmnofiaaGreat
open Go.RowKit
set_option linter.unusedVariables false
set_option linter.unusedSimpArgs false
/-- a sum under way: words, block, count -/
structure DS where
  h : List Int
  b : List Int
  n : Nat
structure DS.ok (s : DS) : Prop where
  hl : s.h.length = 8
  bl : s.b.length = 64
  hw : allW s.h
def DS.cells (s : DS) : List Value := s.h.map (Value.int .u32) ++ (s.b.map (Value.int .u8) ++ [.int .u64 (s.n : Int)])
/-- it lies in block B -/
def StAt (w : World) (B : Nat) (s : DS) : Prop := ∃ t, w.heap[B]? = some (.cells s.cells.toArray t (0, 0))
def addB (s : DS) (x : Int) : DS :=
  if (s.n + 1) % 64 = 0 then ⟨mixI s.h (s.b.set (s.n % 64) x), s.b.set (s.n % 64) x, s.n + 1⟩ else ⟨s.h, s.b.set (s.n % 64) x, s.n + 1⟩
theorem addB_ok {s : DS} (h : s.ok) (x : Int) : (addB s x).ok := by
  unfold addB
  split
  · exact ⟨(mixI_len _ _).trans h.hl, by simp [h.bl], mixI_W _ _ h.hw⟩
  · exact ⟨h.hl, by simp [h.bl], h.hw⟩
theorem addB_n (s : DS) (x : Int) : (addB s x).n = s.n + 1 := by unfold addB; split <;> rfl
/-- all but block B is as it was -/
structure Ex (B : Nat) (w w' : World) : Prop where
  os : w'.os = w.os
  tape : w'.tape = w.tape
  output : w'.output = w.output
  size : w.heap.size ≤ w'.heap.size
  block : ∀ k, k < w.heap.size → k ≠ B → w'.heap[k]? = w.heap[k]?
theorem Ex.refl (B : Nat) (w : World) : Ex B w w := ⟨rfl, rfl, rfl, Nat.le_refl _, fun _ _ _ => rfl⟩
theorem Ex.trans {B : Nat} {a b c : World} (h : Ex B a b) (k : Ex B b c) : Ex B a c :=
  ⟨k.os.trans h.os, k.tape.trans h.tape, k.output.trans h.output, Nat.le_trans h.size k.size, fun i hi hB => (k.block i (Nat.lt_of_lt_of_le hi h.size) hB).trans (h.block i hi hB)⟩
theorem Ex.of_below {B : Nat} {w w' : World} (h : Below w.heap.size w w') : Ex B w w' := ⟨h.os, h.tape, h.output, h.size, fun k hk _ => h.block k hk⟩
theorem Ex.below {B N : Nat} {w w' : World} (h : Ex B w w') (h1 : N ≤ B) (h2 : N ≤ w.heap.size) : Below N w w' := ⟨h.os, h.tape, h.output, h.size, fun k hk => h.block k (by omega) (by omega)⟩
theorem Ex.drewN {B : Nat} {a w : World} (h : Ex B a w) (n : Nat) : Ex B a (w.drewN n) := ⟨h.1, h.2, h.3, h.4, h.5⟩
theorem Ex.drew {B : Nat} {a w : World} (h : Ex B a w) : Ex B a w.drew := ⟨h.1, h.2, h.3, h.4, h.5⟩
theorem Ex.setCell {B : Nat} {a w : World} (h : Ex B a w) (o : Nat) (u : Value) : Ex B a (w.setCell ⟨B, o, none⟩ u) :=
  h.trans ⟨rfl, rfl, rfl, by simp [World.setCell], fun k _ hB => Below.heap_setCell _ _ _ _ (by simpa using hB)⟩

theorem cells_len {s : DS} (h : s.ok) : s.cells.length = 73 := by simp [DS.cells, h.hl, h.bl]
theorem DS.count {s : DS} (h : s.ok) : s.cells[72]? = some (.int .u64 (s.n : Int)) := by
  unfold DS.cells
  rw [List.getElem?_append_right (by simp [h.hl]), List.getElem?_append_right (by simp [h.hl, h.bl])]
  simp [h.hl, h.bl]
theorem DS.byte {s : DS} (h : s.ok) (j : Nat) (hj : j < 64) : s.cells[8 + j]? = some (.int .u8 (s.b[j]?.getD 0)) := by
  unfold DS.cells
  rw [List.getElem?_append_right (by simp [h.hl]), List.getElem?_append_left (by simp [h.hl, h.bl]; omega)]
  simp [h.hl, List.getElem?_eq_getElem (show j < s.b.length by rw [h.bl]; exact hj)]
theorem DS.setByte {s : DS} (h : s.ok) (j : Nat) (hj : j < 64) (x : Int) : s.cells.set (8 + j) (.int .u8 x) = (⟨s.h, s.b.set j x, s.n⟩ : DS).cells := by
  unfold DS.cells
  rw [List.set_append_right _ _ (by simp [h.hl]), List.set_append_left _ _ (by simp [h.hl, h.bl]; omega)]
  simp [h.hl, List.map_set]
theorem DS.setCount {s : DS} (h : s.ok) (m : Nat) : s.cells.set 72 (.int .u64 (m : Int)) = (⟨s.h, s.b, m⟩ : DS).cells := by
  unfold DS.cells
  rw [List.set_append_right _ _ (by simp [h.hl]), List.set_append_right _ _ (by simp [h.hl, h.bl])]
  simp [h.hl, h.bl]
theorem StAt.cell {w : World} {B : Nat} {s : DS} (h : StAt w B s) (j : Nat) : w.cell? ⟨B, j, none⟩ = s.cells[j]? := by
  obtain ⟨t, h⟩ := h
  rw [cell_of_row w B j _ t _ h]; simp
theorem StAt.frozen {w : World} {B : Nat} {s : DS} (h : StAt w B s) (j : Nat) : w.frozen? ⟨B, j, none⟩ = false := by
  obtain ⟨t, h⟩ := h
  simp [World.frozen?, h]
theorem StAt.set {w : World} {B : Nat} {s s' : DS} (h : StAt w B s) (j : Nat) (v : Value) (he : s.cells.set j v = s'.cells) : StAt (w.setCell ⟨B, j, none⟩ v) B s' := by
  obtain ⟨t, h⟩ := h
  refine ⟨t, ?_⟩
  simp only [World.setCell, Array.getElem?_modify, if_pos, h, Option.map_some]
  simp [← he]
theorem StAt.other {w w' : World} {B : Nat} {s : DS} (h : StAt w B s) (he : w'.heap[B]? = w.heap[B]?) : StAt w' B s := by
  obtain ⟨t, h⟩ := h
  exact ⟨t, he.trans h⟩
theorem StAt.lt {w : World} {B : Nat} {s : DS} (h : StAt w B s) : B < w.heap.size := by
  obtain ⟨t, h⟩ := h
  exact (Array.getElem?_eq_some_iff.1 h).1
theorem StAt.drewN {w : World} {B : Nat} {s : DS} (h : StAt w B s) (n : Nat) : StAt (w.drewN n) B s := h
theorem StAt.drew {w : World} {B : Nat} {s : DS} (h : StAt w B s) : StAt w.drew B s := h

theorem rangeAt_below {w w' : World} {b o : Nat} {cs : List Value} (h : w.rangeAt b o cs) (hb : Below w.heap.size w w') : w'.rangeAt b o cs := fun j v hv => by
  have := h j v hv
  rw [hb.cell (World.block_lt_of_cell? w _ this)]; exact this
theorem there_below {w w' : World} {b o n : Nat} (h : w.there b o n) (hb : Below w.heap.size w w') : w'.there b o n := fun j hj => by
  obtain ⟨h1, h2⟩ := h j hj
  obtain ⟨u, hu⟩ := Option.isSome_iff_exists.1 h1
  have hlt := World.block_lt_of_cell? w _ hu
  exact ⟨by rw [hb.cell hlt]; exact h1, by rw [hb.frozen hlt]; exact h2⟩
theorem StAt.hRange {w : World} {B : Nat} {s : DS} (h : StAt w B s) : w.rangeAt B 0 (s.h.map (Value.int .u32)) := fun j v hv => by
  have hj : j < (s.h.map (Value.int .u32)).length := (List.getElem?_eq_some_iff.1 hv).1
  rw [Nat.zero_add, h.cell, DS.cells, List.getElem?_append_left hj, hv]
theorem StAt.bRange {w : World} {B : Nat} {s : DS} (hs : s.ok) (h : StAt w B s) : w.rangeAt B 8 (s.b.map (Value.int .u8)) := fun j v hv => by
  have hj : j < (s.b.map (Value.int .u8)).length := (List.getElem?_eq_some_iff.1 hv).1
  rw [h.cell, DS.cells, List.getElem?_append_right (by simp [hs.hl]), List.getElem?_append_left (by simp [hs.hl] at hj ⊢; omega), ← hv]
  simp [hs.hl]
theorem StAt.hThere {w : World} {B : Nat} {s : DS} (hs : s.ok) (h : StAt w B s) : w.there B 0 8 := fun j hj => by
  refine ⟨?_, h.frozen _⟩
  rw [Nat.zero_add, h.cell, List.getElem?_eq_getElem (by rw [cells_len hs]; omega)]; rfl
theorem setCells_block (B : Nat) (t : TypeId) : ∀ (vs old pre post : List Value) (w : World), old.length = vs.length → w.heap[B]? = some (.cells (pre ++ (old ++ post)).toArray t (0, 0)) →
    (w.setCells B pre.length vs).heap[B]? = some (.cells (pre ++ (vs ++ post)).toArray t (0, 0))
  | [], old, pre, post, w, hl, h => by
    have : old = [] := List.eq_nil_of_length_eq_zero (by simpa using hl)
    subst this
    simpa [World.setCells] using h
  | v :: vs, [], pre, post, w, hl, h => by simp at hl
  | v :: vs, a :: old, pre, post, w, hl, h => by
    rw [World.setCells]
    have h1 : (w.setCell ⟨B, pre.length, none⟩ v).heap[B]? = some (.cells ((pre ++ [v]) ++ (old ++ post)).toArray t (0, 0)) := by
      simp only [World.setCell, Array.getElem?_modify, if_pos, h, Option.map_some]
      simp
    have := setCells_block B t vs old (pre ++ [v]) post _ (by simpa using hl) h1
    simpa using this
theorem setCells_other (B : Nat) : ∀ (vs : List Value) (o : Nat) (w : World) (k : Nat), k ≠ B → (w.setCells B o vs).heap[k]? = w.heap[k]?
  | [], _, _, _, _ => rfl
  | v :: vs, o, w, k, h => by
    rw [World.setCells, setCells_other B vs (o + 1) _ k h, Below.heap_setCell _ _ _ _ (by simpa using h)]
theorem setCells_rest (B : Nat) : ∀ (vs : List Value) (o : Nat) (w : World), (w.setCells B o vs).os = w.os ∧ (w.setCells B o vs).tape = w.tape ∧ (w.setCells B o vs).output = w.output ∧ (w.setCells B o vs).heap.size = w.heap.size
  | [], _, _ => ⟨rfl, rfl, rfl, rfl⟩
  | v :: vs, o, w => by
    rw [World.setCells]
    obtain ⟨h1, h2, h3, h4⟩ := setCells_rest B vs (o + 1) (w.setCell ⟨B, o, none⟩ v)
    exact ⟨h1, h2, h3, h4.trans (by simp [World.setCell])⟩
theorem Ex.setCells {B : Nat} {a w : World} (h : Ex B a w) (o : Nat) (vs : List Value) : Ex B a (w.setCells B o vs) := by
  obtain ⟨h1, h2, h3, h4⟩ := setCells_rest B vs o w
  exact h.trans ⟨h1, h2, h3, by omega, fun k _ hk => setCells_other B vs o w k hk⟩
theorem StAt.setWords {w : World} {B : Nat} {s : DS} (h : StAt w B s) (ms : List Int) (hl : ms.length = s.h.length) : StAt (w.setCells B 0 (ints .u32 ms).toList) B ⟨ms, s.b, s.n⟩ := by
  obtain ⟨t, h⟩ := h
  refine ⟨t, ?_⟩
  have := setCells_block B t (ms.map (Value.int .u32)) (s.h.map (Value.int .u32)) [] (s.b.map (Value.int .u8) ++ [.int .u64 (s.n : Int)]) w (by simp [hl]) (by simpa [DS.cells] using h)
  simpa [DS.cells, ints] using this
theorem one_ints (k : IntKind) (xs : List Int) : ∀ v ∈ xs.map (Value.int k), v.oneCell' = true := by
  intro v hv; simp at hv; obtain ⟨x, _, rfl⟩ := hv; rfl
set_option maxRecDepth 20000 in
set_option maxHeartbeats 400000 in
theorem addByte_no (s : DS) (x : Int) (B : Nat) (w : World) (hs : s.ok) (hS : StAt w B s) (hn : s.n < 4611686018427387904) (hq : ¬ (s.n + 1) % 64 = 0) :
    Calls Tryz.prog 78 #[.pointer (some ⟨B, 0, none⟩), .int .u8 x] w fun e w' => e = .returned (.tuple #[]) ∧ StAt w' B (addB s x) ∧ Ex B w w' := by
  have hm : s.n % 64 < 64 := Nat.mod_lt _ (by decide)
  have c1 : w.cell? ⟨B, 72, none⟩ = some (.int .u64 (s.n : Int)) := by rw [hS.cell, DS.count hs]
  have c2 : w.cell? ⟨B, 8 + s.n % 64, none⟩ = some (.int .u8 (s.b[s.n % 64]?.getD 0)) := by rw [hS.cell, DS.byte hs _ hm]
  have f2 : w.frozen? ⟨B, 8 + s.n % 64, none⟩ = false := hS.frozen _
  have f1 : w.frozen? ⟨B, 72, none⟩ = false := hS.frozen _
  have hz : (((s.n : Int) + 1) % 64 == 0) = false := beq_eq_false_iff_ne.2 (by omega)
  go_enter Tryz.func78, Tryz.ntmps78
  go_wp2
  go_region
  go_wp2
  go_end0
  have e1 := DS.setByte hs (s.n % 64) hm x
  have h1 := hS.set _ _ e1
  have ok1 : (⟨s.h, s.b.set (s.n % 64) x, s.n⟩ : DS).ok := ⟨hs.hl, by simp [hs.bl], hs.hw⟩
  have h2 := h1.set _ _ (DS.setCount ok1 (s.n + 1))
  have e2 : addB s x = ⟨s.h, s.b.set (s.n % 64) x, s.n + 1⟩ := by unfold addB; rw [if_neg hq]
  rw [e2]
  rw [show (((s.n + 1 : Nat) : Int)) = (s.n : Int) + 1 by omega] at h2
  exact ⟨rfl, h2.drew, ((((Ex.refl _ _).setCell _ _).setCell _ _).drew)⟩
set_option maxRecDepth 20000 in
set_option maxHeartbeats 400000 in
theorem addByte_yes (s : DS) (x : Int) (B : Nat) (w : World) (hs : s.ok) (hS : StAt w B s) (hn : s.n < 4611686018427387904) (hq : (s.n + 1) % 64 = 0) :
    Calls Tryz.prog 78 #[.pointer (some ⟨B, 0, none⟩), .int .u8 x] w fun e w' => e = .returned (.tuple #[]) ∧ StAt w' B (addB s x) ∧ Ex B w w' := by
  have hm : s.n % 64 < 64 := Nat.mod_lt _ (by decide)
  have c1 : w.cell? ⟨B, 72, none⟩ = some (.int .u64 (s.n : Int)) := by rw [hS.cell, DS.count hs]
  have c2 : w.cell? ⟨B, 8 + s.n % 64, none⟩ = some (.int .u8 (s.b[s.n % 64]?.getD 0)) := by rw [hS.cell, DS.byte hs _ hm]
  have f2 : w.frozen? ⟨B, 8 + s.n % 64, none⟩ = false := hS.frozen _
  have f1 : w.frozen? ⟨B, 72, none⟩ = false := hS.frozen _
  have hz : (((s.n : Int) + 1) % 64 == 0) = true := beq_iff_eq.2 (by omega)
  go_enter Tryz.func78, Tryz.ntmps78
  go_wp2
  go_region
  go_wp2
  have ok1 : (⟨s.h, s.b.set (s.n % 64) x, s.n⟩ : DS).ok := ⟨hs.hl, by simp [hs.bl], hs.hw⟩
  have ok2 : (⟨s.h, s.b.set (s.n % 64) x, s.n + 1⟩ : DS).ok := ⟨hs.hl, by simp [hs.bl], hs.hw⟩
  have h1 := hS.set _ _ (DS.setByte hs (s.n % 64) hm x)
  have h2 := (h1.set _ _ (DS.setCount ok1 (s.n + 1))).drew
  rw [show (((s.n + 1 : Nat) : Int)) = (s.n : Int) + 1 by omega] at h2
  have hE : Ex B w ((w.setCell { block := B, off := 8 + s.n % 64 } (Value.int IntKind.u8 x)).setCell { block := B, off := 72 } (Value.int IntKind.u64 (↑s.n + 1))).drew := (((Ex.refl _ _).setCell _ _).setCell _ _).drew
  generalize ((w.setCell { block := B, off := 8 + s.n % 64 } (Value.int IntKind.u8 x)).setCell { block := B, off := 72 } (Value.int IntKind.u64 (↑s.n + 1))).drew = w1 at *
  have e2 : addB s x = ⟨mixI s.h (s.b.set (s.n % 64) x), s.b.set (s.n % 64) x, s.n + 1⟩ := by unfold addB; rw [if_pos hq]
  have E2 := hid e2
  clear e2 c1 c2 f1 f2 h1 ok1 hz hq hm hS
  have r1 := h2.hRange
  have r2 := h2.bRange ok2
  have r3 := h2.hThere ok2
  have H2 := hid h2
  have hlt := h2.lt
  clear h2
  generalize hhb : s.b.set (s.n % 64) x = bb at *
  have ok2h := ok2.bl
  refine wp_region_any (by kernel_rfl) ?_
  change wpAny _ _ _ _ _ _ _ (World.drew _)
  refine wpAny_take (i := 0) (v := ?_) rfl (by decide +kernel) (by decide +kernel) (by decide +kernel) (fun _ _ _ h => h) (Or.inl ⟨by rfl, ?_⟩) ?_
  rotate_left
  · intro w; go_simp; try with_reducible rfl
  simp only [Act.put, List.getElem_toArray, List.getElem_cons_zero, List.getElem_cons_succ, List.setIfInBounds_toArray, List.set_cons_zero, List.set_cons_succ]
  refine wpAny_take (i := 1) (v := ?_) rfl (by decide +kernel) (by decide +kernel) (by decide +kernel) (fun _ _ _ h => h) (Or.inl ⟨by rfl, ?_⟩) ?_
  rotate_left
  · intro w; go_simp; try with_reducible rfl
  simp only [Act.put, List.getElem_toArray, List.getElem_cons_zero, List.getElem_cons_succ, List.setIfInBounds_toArray, List.set_cons_zero, List.set_cons_succ]
  refine wpAny_take (i := 2) (v := ?_) rfl (by decide +kernel) (by decide +kernel) (by decide +kernel) (fun _ _ _ h => h) (Or.inl ⟨by rfl, ?_⟩) ?_
  rotate_left
  · intro w; go_simp; try with_reducible rfl
  simp only [Act.put, List.getElem_toArray, List.getElem_cons_zero, List.getElem_cons_succ, List.setIfInBounds_toArray, List.set_cons_zero, List.set_cons_succ]
  refine wpAny_take (i := 3) (v := ?_) rfl (by decide +kernel) (by decide +kernel) (by decide +kernel) (fun _ _ _ h => h) (Or.inl ⟨by rfl, ?_⟩) ?_
  rotate_left
  · intro w; go_simp; try with_reducible rfl
  simp only [Act.put, List.getElem_toArray, List.getElem_cons_zero, List.getElem_cons_succ, List.setIfInBounds_toArray, List.set_cons_zero, List.set_cons_succ]
  refine wpAny_take (i := 5) (v := ?_) rfl (by decide +kernel) (by decide +kernel) (by decide +kernel) (fun _ _ _ h => h) (Or.inl ⟨by rfl, ?_⟩) ?_
  rotate_left
  · intro w; go_simp; try with_reducible rfl
  simp only [Act.put, List.getElem_toArray, List.getElem_cons_zero, List.getElem_cons_succ, List.setIfInBounds_toArray, List.set_cons_zero, List.set_cons_succ]
  refine wpAny_take (i := 6) (v := ?_) rfl (by decide +kernel) (by decide +kernel) (by decide +kernel) (fun _ _ _ h => h) (Or.inl ⟨by rfl, ?_⟩) ?_
  rotate_left
  · intro w; go_simp; try with_reducible rfl
  simp only [Act.put, List.getElem_toArray, List.getElem_cons_zero, List.getElem_cons_succ, List.setIfInBounds_toArray, List.set_cons_zero, List.set_cons_succ]
  refine wpAny_take (i := 7) (v := ?_) rfl (by decide +kernel) (by decide +kernel) (by decide +kernel) (fun _ _ _ h => h) (Or.inl ⟨by rfl, ?_⟩) ?_
  rotate_left
  · intro w; go_simp; try with_reducible rfl
  simp only [Act.put, List.getElem_toArray, List.getElem_cons_zero, List.getElem_cons_succ, List.setIfInBounds_toArray, List.set_cons_zero, List.set_cons_succ]
  have hi1 : (Tryz.prog.info? 101).map (·.size) = some (s.h.map (Value.int .u32)).length := by rw [List.length_map, hs.hl]; exact Tryz.info101
  have hi2 : (Tryz.prog.info? 102).map (·.size) = some (bb.map (Value.int .u8)).length := by rw [List.length_map, ok2h]; exact Tryz.info102
  refine wpAny_ready (rs := [4, 8]) (by kernel_rfl) (by simp) ?_
  refine AllReady.cons rfl (fun K hK => ?_) (AllReady.cons rfl (fun K hK => ?_) AllReady.nil)
  rw [if_pos (by rfl)]
  refine wp_load_mid 101 _ rfl B 0 rfl _ _ r1 Tryz.underlying101 rfl hi1 (hK _ _ ?_)
  clear hK K
  simp only [Act.put, List.getElem_toArray, List.getElem_cons_zero, List.getElem_cons_succ, List.setIfInBounds_toArray, List.set_cons_zero, List.set_cons_succ]
  refine wpAny_ready (rs := [8]) (by kernel_rfl) (by simp) ?_
  refine AllReady.cons rfl (fun K hK => ?_) AllReady.nil
  rw [if_pos (by rfl)]
  refine wp_load_mid 102 _ rfl B 8 rfl _ _ r2 Tryz.underlying102 rfl hi2 (hK _ _ ?_)
  clear hK K
  simp only [Act.put, List.getElem_toArray, List.getElem_cons_zero, List.getElem_cons_succ, List.setIfInBounds_toArray, List.set_cons_zero, List.set_cons_succ]
  rotate_left
  rw [if_pos (by rfl)]
  refine wp_load_mid 102 _ rfl B 8 rfl _ _ r2 Tryz.underlying102 rfl hi2 (hK _ _ ?_)
  clear hK K
  simp only [Act.put, List.getElem_toArray, List.getElem_cons_zero, List.getElem_cons_succ, List.setIfInBounds_toArray, List.set_cons_zero, List.set_cons_succ]
  refine wpAny_ready (rs := [4]) (by kernel_rfl) (by simp) ?_
  refine AllReady.cons rfl (fun K hK => ?_) AllReady.nil
  rw [if_pos (by rfl)]
  refine wp_load_mid 101 _ rfl B 0 rfl _ _ r1 Tryz.underlying101 rfl hi1 (hK _ _ ?_)
  clear hK K
  simp only [Act.put, List.getElem_toArray, List.getElem_cons_zero, List.getElem_cons_succ, List.setIfInBounds_toArray, List.set_cons_zero, List.set_cons_succ]
  all_goals
    refine wpAny_ready (rs := [9]) (by kernel_rfl) (by simp) ?_
    refine AllReady.cons rfl (fun K hK => ?_) AllReady.nil
    go_simp
    change Calls Tryz.prog 87 #[.agg (ints .u32 s.h), .agg (ints .u8 bb)] _ _
    refine (mix_any s.h bb _ hs.hl hs.hw ok2h).mono ?_
    rintro e w2 ⟨rfl, hBm⟩
    refine hK _ _ ?_
    clear hK K
    have H3 := hid (H2.out.drew.other (hBm.block B hlt))
    have r4 := H3.out.hThere ok2
    have hE2 : Ex B w w2 := hE.drew.trans (Ex.of_below hBm)
    refine wpAny_take (i := 10) (v := ?_) rfl (by decide +kernel) (by decide +kernel) (by decide +kernel) (fun _ _ _ h => h) (Or.inl ⟨by rfl, ?_⟩) ?_
    rotate_left
    · intro w; go_simp; try with_reducible rfl
    simp only [Act.put, List.getElem_toArray, List.getElem_cons_zero, List.getElem_cons_succ, List.setIfInBounds_toArray, List.set_cons_zero, List.set_cons_succ]
    refine wpAny_take (i := 11) (v := ?_) rfl (by decide +kernel) (by decide +kernel) (by decide +kernel) (fun _ _ _ h => h) (Or.inl ⟨by rfl, ?_⟩) ?_
    rotate_left
    · intro w; go_simp; try with_reducible rfl
    simp only [Act.put, List.getElem_toArray, List.getElem_cons_zero, List.getElem_cons_succ, List.setIfInBounds_toArray, List.set_cons_zero, List.set_cons_succ]
    refine wpAny_ready (rs := [12]) (by kernel_rfl) (by simp) ?_
    refine AllReady.cons rfl (fun K hK => ?_) AllReady.nil
    rw [if_pos (by rfl)]
    refine wp_store_mid 101 _ _ rfl B 0 (ints .u32 (mixI s.h bb)) rfl rfl (by rw [ints_size, mixI_len, hs.hl]; exact r4) (by rw [ints_size, mixI_len, hs.hl]; exact Tryz.info101) (ints_one _ _) (hK _ _ ?_)
    clear hK K
    refine wpAny_done (by kernel_rfl) ?_ _
    go_end0
    rw [E2.out]
    exact ⟨rfl, H3.out.setWords _ (mixI_len _ _), hE2.setCells _ _⟩
theorem addByte_any (s : DS) (x : Int) (B : Nat) (w : World) (hs : s.ok) (hS : StAt w B s) (hn : s.n < 4611686018427387904) :
    Calls Tryz.prog 78 #[.pointer (some ⟨B, 0, none⟩), .int .u8 x] w fun e w' => e = .returned (.tuple #[]) ∧ StAt w' B (addB s x) ∧ Ex B w w' := by
  by_cases hq : (s.n + 1) % 64 = 0
  · exact addByte_yes s x B w hs hS hn hq
  · exact addByte_no s x B w hs hS hn hq
end Go.Proofs.YtbifmhbkmnofiaaGreat
namespace Go.Proofs.YtbifmhbkmnofiaaGreat
open Go.RowKit
set_option linter.unusedVariables false
set_option linter.unusedSimpArgs false
def feed (s : DS) (xs : List Int) : DS := xs.foldl addB s
theorem feed_ok {s : DS} (h : s.ok) (xs : List Int) : (feed s xs).ok := by
  induction xs generalizing s with
  | nil => exact h
  | cons x xs ih => exact ih (addB_ok h x)
theorem feed_n (s : DS) (xs : List Int) : (feed s xs).n = s.n + xs.length := by
  induction xs generalizing s with
  | nil => rfl
  | cons x xs ih => simp only [feed, List.foldl_cons] at ih ⊢; rw [ih, addB_n]; simp; omega
theorem feed_append (s : DS) (xs ys : List Int) : feed s (xs ++ ys) = feed (feed s xs) ys := List.foldl_append
theorem feed_snoc (s : DS) (xs : List Int) (k : Nat) (h : k < xs.length) : feed s (xs.take (k + 1)) = addB (feed s (xs.take k)) xs[k] := by
  rw [List.take_succ_eq_append_getElem h, feed_append]; rfl
theorem Ex.cell {B : Nat} {w w' : World} (h : Ex B w w') {p : Addr} {v : Value} (hp : p.block ≠ B) (hc : w.cell? p = some v) : w'.cell? p = some v := by
  rw [← hc]
  exact World.cell?_of_block (w := w) (h.block p.block (World.block_lt_of_cell? w _ hc) hp)
set_option maxRecDepth 20000 in
set_option maxHeartbeats 400000 in
theorem Add_any (s : DS) (xs : List Int) (B db off cap : Nat) (w : World) (hs : s.ok) (hS : StAt w B s) (hne : db ≠ B) (hd : ∀ j, j < xs.length → w.cell? ⟨db, off + j, none⟩ = some (.int .u8 (xs[j]?.getD 0))) (hn : s.n + xs.length < 4611686018427387904) :
    Calls Tryz.prog 58 #[.pointer (some ⟨B, 0, none⟩), .slice (some ⟨db, off, none⟩) xs.length cap] w fun e w' => e = .returned (.tuple #[]) ∧ StAt w' B (feed s xs) ∧ Ex B w w' := by
  have hdh := hid hd
  clear hd
  have HS := hid hS
  clear hS
  go_enter Tryz.func58, Tryz.ntmps58
  go_wp2
  go_loopw [8] (fun i wr => ∃ k : Nat, k ≤ xs.length ∧ i = .int .i64 k ∧ StAt wr B (feed s (xs.take k)) ∧ Ex B w wr) (fun i _ => xs.length - (intOf i).toNat)
  case atStart => exact ⟨0, by omega, rfl, HS.out, Ex.refl _ _⟩
  case round =>
    obtain ⟨k, hk, rfl, hS, hE⟩ := hrel
    by_cases hlt : k < xs.length
    · have c0 := hE.cell (p := ⟨db, off + k, none⟩) hne (hdh.out k hlt)
      have hok := feed_ok hs (xs.take k)
      have hfn := feed_n s (xs.take k)
      have hst := hid (feed_snoc s xs k hlt)
      have hlen : (xs.take k).length = k := by simp; omega
      have hfn2 : (feed s (xs.take k)).n < 4611686018427387904 := by omega
      clear hfn hlen
      generalize feed s (xs.take k) = sk at *
      go_wp2_with (go_at_call 78; refine (addByte_any sk _ B _ hok hS hfn2).mono ?_; rintro e w' ⟨rfl, hS2, hE2⟩)
      exact ⟨⟨k + 1, by omega, by go_num, by rw [hst.out]; exact hS2, hE.trans hE2⟩, by simp [intOf]; omega⟩
    · obtain rfl : k = xs.length := by omega
      go_wp2
      go_end0
      exact ⟨rfl, by rw [List.take_of_length_le (Nat.le_refl _)] at hS; exact hS, hE⟩
set_option maxHeartbeats 400000 in
theorem Add_empty (s : DS) (B cap : Nat) (a : Option Addr) (w : World) :
    Calls Tryz.prog 58 #[.pointer (some ⟨B, 0, none⟩), .slice a 0 cap] w fun e w' => e = .returned (.tuple #[]) ∧ w' = w := by
  go_enter Tryz.func58, Tryz.ntmps58
  go_wp2
  go_loop [8] (fun i => i = .int .i64 0) (fun i => 0)
  case atStart => rfl
  case round =>
    obtain rfl := hrel
    go_wp2
    go_end0
    exact ⟨rfl, rfl⟩
/-- the state that has no bytes, before its words are laid -/
def DS0 : DS := ⟨Z8, Z64, 0⟩
def DSN : DS := ⟨HT, Z64, 0⟩
theorem DS0_ok : DS0.ok := ⟨rfl, rfl, by intro x hx; have : x = 0 := List.eq_of_mem_replicate hx; subst this; exact ⟨by decide, by decide⟩⟩
theorem DSN_ok : DSN.ok := ⟨rfl, rfl, HT_W⟩
theorem Tryz.alloc105 (w : World) : Sem.run Tryz.prog (Instr.alloc 105 true (Value.tuple #[])) w = .ok (.pointer (some ⟨w.heap.size, 0, none⟩)) (w.alloc (.cells DS0.cells.toArray 105)) := by kernel_rfl
def padN (n : Nat) : Nat := (120 - n % 64) % 64
def lenB (m : Int) (j : Nat) : Int := m / 2 ^ (56 - 8 * j) % 256
def lenBytes (m : Int) : Nat → List Int
  | 0 => []
  | k + 1 => lenBytes m k ++ [lenB m k]
theorem lenBytes_len (m : Int) (k : Nat) : (lenBytes m k).length = k := by
  induction k with
  | zero => rfl
  | succ k ih => simp [lenBytes, ih]
def zeros (k : Nat) : List Int := List.replicate k 0
theorem zeros_succ (k : Nat) : zeros (k + 1) = zeros k ++ [0] := List.replicate_succ'
theorem zeros_len (k : Nat) : (zeros k).length = k := List.length_replicate
def finD (s : DS) : DS := feed (feed (addB s 128) (zeros (padN (s.n + 1)))) (lenBytes (8 * (s.n : Int)) 8)
def sumD (s : DS) : List Int := toB (finD s).h 32
theorem sumD_len (s : DS) : (sumD s).length = 32 := toB_len _ _
theorem one_cells (s : DS) : s.cells.toArray.all (·.oneCell') = true := by
  apply all_oneCell_toArray
  intro v hv
  simp only [DS.cells, List.mem_append, List.mem_map, List.mem_cons, List.not_mem_nil, or_false] at hv
  rcases hv with ⟨_, _, rfl⟩ | ⟨_, _, rfl⟩ | rfl <;> rfl
theorem size_cells {s : DS} (h : s.ok) : (Tryz.prog.info? 105).map (·.size) = some s.cells.toArray.size := by
  rw [List.size_toArray, cells_len h]; exact Tryz.info105
end Go.Proofs.YtbifmhbkmnofiaaGreat
namespace Go.Proofs.YtbifmhbkmnofiaaGreat
open Go.RowKit
set_option linter.unusedVariables false
set_option linter.unusedSimpArgs false
/-- 'State.Sum': the world: the result's cell, the copy -/
def F2 (w wx : World) (s : DS) : Prop := wx.heap[w.heap.size]? = some (.cells (ints .u8 Z32) 96 (0, 0)) ∧ StAt wx (w.heap.size + 1) s ∧ Below w.heap.size w wx
theorem F2.ex {w wx wy : World} {s s' : DS} (h : F2 w wx s) (hS : StAt wy (w.heap.size + 1) s') (hE : Ex (w.heap.size + 1) wx wy) : F2 w wy s' := by
  have hz := h.2.1.lt
  exact ⟨(hE.block _ (by omega) (by omega)).trans h.1, hS, h.2.2.trans (hE.below (by omega) (by omega))⟩
/-- the count in the copy: a loop's measure -/
def cnt (wx : World) (b : Nat) : Nat := match wx.cell? ⟨b, 72, none⟩ with
  | some (.int _ n) => n.toNat
  | _ => 0
theorem cnt_of {wx : World} {b : Nat} {s : DS} (hs : s.ok) (h : StAt wx b s) : cnt wx b = s.n := by
  unfold cnt; rw [h.cell, DS.count hs]; simp
theorem pad_lt (n k : Nat) (h : k < padN n) : ¬ (n + k) % 64 = 56 := by unfold padN at h; omega
theorem pad_eq (n : Nat) : (n + padN n) % 64 = 56 := by unfold padN; omega
theorem pad_le (n : Nat) : padN n < 64 := by unfold padN; omega
set_option maxRecDepth 20000 in
set_option maxHeartbeats 400000 in
theorem Sum_n (s : DS) (B : Nat) (w : World) (hs : s.ok) (hS : StAt w B s) (hn : s.n < 1152921504606846976) (m : Nat) (hm0 : m ≤ 8) (hm1 : 8 ≤ m) :
    Calls Tryz.prog 53 #[.pointer (some ⟨B, 0, none⟩)] w fun e w' => e = .returned (.agg (ints .u8 (toB (feed (feed (addB s 128) (zeros (padN (s.n + 1)))) (lenBytes (8 * (s.n : Int)) m)).h 32))) ∧ Below w.heap.size w w' := by
  obtain ⟨t, hb⟩ := hS
  have hlt : B < w.heap.size := (Array.getElem?_eq_some_iff.1 hb).1
  have HS : Hd (StAt w B s) := hid ⟨t, hb⟩
  have HO : Hd (DS0.cells.toArray.size = s.cells.toArray.size) := hid (by rw [List.size_toArray, List.size_toArray, cells_len hs, cells_len DS0_ok])
  have HZ := hid (size_cells hs)
  go_enter Tryz.func53, Tryz.ntmps53
  go_wp2_with (first
    | refine wpList_alloc_eq rfl 96 rfl (ints .u8 Z32) Tryz.alloc96 ?_
    | refine wpList_alloc_eq rfl 105 rfl DS0.cells.toArray Tryz.alloc105 ?_
    | refine wpList_load_row rfl 105 _ rfl B rfl t s.cells.toArray (0,0) _ (al_old _ _ _ _ hb) Tryz.underlying105 rfl (size_cells hs) ?_
    | refine wpList_store_row rfl 105 _ _ rfl (w.alloc (.cells (ints .u8 Z32) 96)).heap.size s.cells.toArray rfl rfl 105 DS0.cells.toArray (al_new _ _) HZ.out HO.out (one_cells s) ?_)
  have hF : F2 w (((w.alloc (.cells (ints .u8 Z32) 96)).alloc (.cells DS0.cells.toArray 105)).setRow (w.heap.size + 1) s.cells.toArray) s :=
    ⟨(heap_setRow _ _ _ _ (by omega)).trans (al2_1 _ _ _), ⟨105, setRow_heap _ _ _ _ _ _ (al2_2 _ _ _)⟩, below_setRow (((Below.refl _ _).alloc (Nat.le_refl _) _).alloc (by simp) _) _ (by omega) _⟩
  generalize (((w.alloc (.cells (ints .u8 Z32) 96)).alloc (.cells DS0.cells.toArray 105)).setRow (w.heap.size + 1) s.cells.toArray) = w1 at *
  clear HO HZ hb
  refine (addByte_any s 128 _ _ hs hF.2.1 (by omega)).mono ?_
  rintro e w2 ⟨rfl, hS2, hE2⟩
  have hF2 := hF.ex hS2 hE2
  clear hF hS2 hE2
  have hok2 := addB_ok hs 128
  have hn2 := addB_n s 128
  generalize hs2 : addB s 128 = s2 at *
  have Hs2 := hid hs2
  clear hs2
  have hn2a : s2.n ≤ s.n + 1 := by omega
  have hn2b : s.n + 1 ≤ s2.n := by omega
  have Hn2 := hid hn2
  clear hn2
  go_wp2
  go_loopw [] (fun wr => ∃ k : Nat, k ≤ padN (s.n + 1) ∧ F2 w wr (feed s2 (zeros k))) (fun wr => s.n + 70 - cnt wr (w.heap.size + 1))
  case atStart => exact ⟨0, by omega, hF2⟩
  case round =>
    clear hF2
    obtain ⟨k, hk, hF⟩ := hrel
    have hok := feed_ok hok2 (zeros k)
    have hfn := feed_n s2 (zeros k)
    rw [zeros_len] at hfn
    have hp := pad_le (s.n + 1)
    have c1 : wr.cell? ⟨w.heap.size + 1, 72, none⟩ = some (.int .u64 ((feed s2 (zeros k)).n : Int)) := by rw [hF.2.1.cell, DS.count hok]
    by_cases hlt2 : k < padN (s.n + 1)
    · have hmod := pad_lt _ _ hlt2
      have ht : ((((feed s2 (zeros k)).n : Int)) % 64 != 56) = true := by rw [bne_iff_ne]; omega
      have hst : Hd (feed s2 (zeros (k + 1)) = addB (feed s2 (zeros k)) 0) := hid (by rw [zeros_succ, feed_append]; rfl)
      have hb2 : (feed s2 (zeros k)).n < 4611686018427387904 := by omega
      have Hfn := hid hfn
      clear hfn hmod
      generalize feed s2 (zeros k) = sk at *
      go_wp2_with (go_at_call 78; refine (addByte_any sk _ _ _ hok hF.2.1 hb2).mono ?_; rintro e w' ⟨rfl, hS2, hE2⟩)
      refine ⟨⟨k + 1, by omega, by rw [hst.out]; exact hF.ex hS2 hE2⟩, ?_⟩
      rw [cnt_of hok hF.2.1, cnt_of (addB_ok hok 0) hS2, addB_n]
      have := Hfn.out
      omega
    · obtain rfl : k = padN (s.n + 1) := by omega
      have hmod := pad_eq (s.n + 1)
      have ht : ((((feed s2 (zeros (padN (s.n + 1)))).n : Int)) % 64 != 56) = false := by
        rw [bne_eq_false_iff_eq]; omega
      have c2 : wr.cell? ⟨B, 72, none⟩ = some (.int .u64 (s.n : Int)) := by rw [hF.2.2.cell hlt, HS.out.cell, DS.count hs]
      have Hfn := hid hfn
      clear hfn hmod hlt2 hk
      generalize hs3 : feed s2 (zeros (padN (s.n + 1))) = s3 at *
      have Hs3 := hid hs3
      clear hs3
      go_wp2
      have hn3 : s3.n < 1152921504606847076 := by have := Hfn.out; omega
      clear c1 c2 ht
      go_loopw [5] (fun i wx => ∃ j : Nat, j ≤ 8 ∧ i = .int .i64 (56 - 8 * j) ∧ F2 w wx (feed s3 (lenBytes (8 * (s.n : Int)) j))) (fun i _ => ((intOf i) + 8).toNat)
      case atStart => exact ⟨0, by omega, rfl, hF⟩
      case round =>
        clear hF
        obtain ⟨j, hj, rfl, hF⟩ := hrel
        have hok4 := feed_ok hok (lenBytes (8 * (s.n : Int)) j)
        have hfn4 := feed_n s3 (lenBytes (8 * (s.n : Int)) j)
        rw [lenBytes_len] at hfn4
        by_cases hlt2 : j < 8
        · have hst : Hd (feed s3 (lenBytes (8 * (s.n : Int)) (j + 1)) = addB (feed s3 (lenBytes (8 * (s.n : Int)) j)) (lenB (8 * (s.n : Int)) j)) := hid (by rw [lenBytes, feed_append]; rfl)
          have hb2 : (feed s3 (lenBytes (8 * (s.n : Int)) j)).n < 4611686018427387904 := by omega
          have e56 : (56 - 8 * (j : Int)).toNat = 56 - 8 * j := by omega
          clear hfn4
          generalize feed s3 (lenBytes (8 * (s.n : Int)) j) = sk at *
          go_wp2_with fail
          refine (addByte_any sk _ _ _ hok4 hF.2.1 hb2).mono ?_
          rintro e w' ⟨rfl, hS2, hE2⟩
          go_wp2
          refine ⟨⟨j + 1, by omega, ?_, by rw [hst.out]; exact hF.ex hS2 hE2⟩, ?_⟩
          · go_num
          · simp [intOf]; omega
        · obtain rfl : j = m := by omega
          clear hlt2 hj hfn4
          generalize hs5 : feed s3 (lenBytes (8 * (s.n : Int)) j) = s5 at *
          have Hs5 := hid hs5
          clear hs5
          have hr := hF.2.1.hRange
          have Hi : Hd ((Tryz.prog.info? 101).map (·.size) = some (s5.h.map (Value.int .u32)).length) := hid (by rw [List.length_map, hok4.hl]; exact Tryz.info101)
          go_wp2_with (refine wpList_load_mid rfl 101 _ rfl (w.heap.size + 1) 0 rfl (s5.h.map (Value.int .u32)) _ hr Tryz.underlying101 rfl Hi.out ?_)
          change Calls Tryz.prog 79 #[.agg (ints .u32 s5.h)] _ _
          refine (toBytes_any s5.h _ hok4.hl hok4.hw).mono ?_
          rintro e w6 ⟨rfl, hB6⟩
          have hz := hF.2.1.lt
          have hb6 := (hB6.block w.heap.size (by omega)).trans hF.1
          have hB7 := hF.2.2.trans (hB6.mono (by omega))
          have htl := toB_len s5.h 32
          generalize hts : toB s5.h 32 = ts at *
          have Hts := hid hts
          clear hts
          go_wp2_with (refine wpList_store_row rfl 96 _ _ rfl w.heap.size (ints .u8 ts) rfl rfl 96 (ints .u8 Z32) hb6 (by rw [ints_size, htl]; exact Tryz.info96) (by rw [ints_size, ints_size, htl]; rfl) (ints_one _ _) ?_)
          exact bodyPost_ret (results_cell_row (fn := Tryz.f53) Tryz.results53 _ _ w.heap.size 96 (ints .u8 ts) (0,0) _ rfl (setRow_heap _ _ _ _ _ _ hb6) Tryz.underlying96 rfl (by rw [ints_size, htl]; exact Tryz.info96)) rfl ⟨by rw [Hs2.out, Hs3.out, Hs5.out, Hts.out], below_setRow hB7 _ (by omega) _⟩
theorem Sum_any (s : DS) (B : Nat) (w : World) (hs : s.ok) (hS : StAt w B s) (hn : s.n < 1152921504606846976) :
    Calls Tryz.prog 53 #[.pointer (some ⟨B, 0, none⟩)] w fun e w' => e = .returned (.agg (ints .u8 (sumD s))) ∧ Below w.heap.size w w' :=
  Sum_n s B w hs hS hn 8 (by omega) (by omega)
end Go.Proofs.YtbifmhbkmnofiaaGreat
