import Derived.Test.YtbifmhbkmnofiaaDf
namespace Go.Proofs.Ytbifmhbkmnofiaa
open Go.RowKit
set_option linter.unusedVariables false
set_option linter.unusedSimpArgs false
/-- a sum under way: words, block, count -/
structure DS where
  h : List Int
  b : List Int
  n : Nat
structure DS.ok (s : DS) : Prop where
  hl : s.h.length = 8
  bl : s.b.length = 64
  hw : allW s.h
def DS.cells (s : DS) : List Value := s.h.map (Value.int .u32) ++ (s.b.map (Value.int .u8) ++ [.int .u64 (s.n : Int)])
/-- it lies in block B -/
def StAt (w : World) (B : Nat) (s : DS) : Prop := ∃ t, w.heap[B]? = some (.cells s.cells.toArray t (0, 0))
def addB (s : DS) (x : Int) : DS :=
  if (s.n + 1) % 64 = 0 then ⟨mixI s.h (s.b.set (s.n % 64) x), s.b.set (s.n % 64) x, s.n + 1⟩ else ⟨s.h, s.b.set (s.n % 64) x, s.n + 1⟩
theorem addB_ok {s : DS} (h : s.ok) (x : Int) : (addB s x).ok := by
  unfold addB
  split
  · exact ⟨(mixI_len _ _).trans h.hl, by simp [h.bl], mixI_W _ _ h.hw⟩
  · exact ⟨h.hl, by simp [h.bl], h.hw⟩
theorem addB_n (s : DS) (x : Int) : (addB s x).n = s.n + 1 := by unfold addB; split <;> rfl
/-- all but block B is as it was -/
structure Ex (B : Nat) (w w' : World) : Prop where
  os : w'.os = w.os
  tape : w'.tape = w.tape
  output : w'.output = w.output
  size : w.heap.size ≤ w'.heap.size
  block : ∀ k, k < w.heap.size → k ≠ B → w'.heap[k]? = w.heap[k]?
theorem Ex.refl (B : Nat) (w : World) : Ex B w w := ⟨rfl, rfl, rfl, Nat.le_refl _, fun _ _ _ => rfl⟩
theorem Ex.trans {B : Nat} {a b c : World} (h : Ex B a b) (k : Ex B b c) : Ex B a c :=
  ⟨k.os.trans h.os, k.tape.trans h.tape, k.output.trans h.output, Nat.le_trans h.size k.size, fun i hi hB => (k.block i (Nat.lt_of_lt_of_le hi h.size) hB).trans (h.block i hi hB)⟩
theorem Ex.of_below {B : Nat} {w w' : World} (h : Below w.heap.size w w') : Ex B w w' := ⟨h.os, h.tape, h.output, h.size, fun k hk _ => h.block k hk⟩
theorem Ex.below {B N : Nat} {w w' : World} (h : Ex B w w') (h1 : N ≤ B) (h2 : N ≤ w.heap.size) : Below N w w' := ⟨h.os, h.tape, h.output, h.size, fun k hk => h.block k (by omega) (by omega)⟩
theorem Ex.drewN {B : Nat} {a w : World} (h : Ex B a w) (n : Nat) : Ex B a (w.drewN n) := ⟨h.1, h.2, h.3, h.4, h.5⟩
theorem Ex.drew {B : Nat} {a w : World} (h : Ex B a w) : Ex B a w.drew := ⟨h.1, h.2, h.3, h.4, h.5⟩
theorem Ex.setCell {B : Nat} {a w : World} (h : Ex B a w) (o : Nat) (u : Value) : Ex B a (w.setCell ⟨B, o, none⟩ u) :=
  h.trans ⟨rfl, rfl, rfl, by simp [World.setCell], fun k _ hB => Below.heap_setCell _ _ _ _ (by simpa using hB)⟩

theorem cells_len {s : DS} (h : s.ok) : s.cells.length = 73 := by simp [DS.cells, h.hl, h.bl]
theorem DS.count {s : DS} (h : s.ok) : s.cells[72]? = some (.int .u64 (s.n : Int)) := by
  unfold DS.cells
  rw [List.getElem?_append_right (by simp [h.hl]), List.getElem?_append_right (by simp [h.hl, h.bl])]
  simp [h.hl, h.bl]
theorem DS.byte {s : DS} (h : s.ok) (j : Nat) (hj : j < 64) : s.cells[8 + j]? = some (.int .u8 (s.b[j]?.getD 0)) := by
  unfold DS.cells
  rw [List.getElem?_append_right (by simp [h.hl]), List.getElem?_append_left (by simp [h.hl, h.bl]; omega)]
  simp [h.hl, List.getElem?_eq_getElem (show j < s.b.length by rw [h.bl]; exact hj)]
theorem DS.setByte {s : DS} (h : s.ok) (j : Nat) (hj : j < 64) (x : Int) : s.cells.set (8 + j) (.int .u8 x) = (⟨s.h, s.b.set j x, s.n⟩ : DS).cells := by
  unfold DS.cells
  rw [List.set_append_right _ _ (by simp [h.hl]), List.set_append_left _ _ (by simp [h.hl, h.bl]; omega)]
  simp [h.hl, List.map_set]
theorem DS.setCount {s : DS} (h : s.ok) (m : Nat) : s.cells.set 72 (.int .u64 (m : Int)) = (⟨s.h, s.b, m⟩ : DS).cells := by
  unfold DS.cells
  rw [List.set_append_right _ _ (by simp [h.hl]), List.set_append_right _ _ (by simp [h.hl, h.bl])]
  simp [h.hl, h.bl]
theorem StAt.cell {w : World} {B : Nat} {s : DS} (h : StAt w B s) (j : Nat) : w.cell? ⟨B, j, none⟩ = s.cells[j]? := by
  obtain ⟨t, h⟩ := h
  rw [cell_of_row w B j _ t _ h]; simp
theorem StAt.frozen {w : World} {B : Nat} {s : DS} (h : StAt w B s) (j : Nat) : w.frozen? ⟨B, j, none⟩ = false := by
  obtain ⟨t, h⟩ := h
  simp [World.frozen?, h]
theorem StAt.set {w : World} {B : Nat} {s s' : DS} (h : StAt w B s) (j : Nat) (v : Value) (he : s.cells.set j v = s'.cells) : StAt (w.setCell ⟨B, j, none⟩ v) B s' := by
  obtain ⟨t, h⟩ := h
  refine ⟨t, ?_⟩
  simp only [World.setCell, Array.getElem?_modify, if_pos, h, Option.map_some]
  simp [← he]
theorem StAt.other {w w' : World} {B : Nat} {s : DS} (h : StAt w B s) (he : w'.heap[B]? = w.heap[B]?) : StAt w' B s := by
  obtain ⟨t, h⟩ := h
  exact ⟨t, he.trans h⟩
theorem StAt.lt {w : World} {B : Nat} {s : DS} (h : StAt w B s) : B < w.heap.size := by
  obtain ⟨t, h⟩ := h
  exact (Array.getElem?_eq_some_iff.1 h).1
theorem StAt.drewN {w : World} {B : Nat} {s : DS} (h : StAt w B s) (n : Nat) : StAt (w.drewN n) B s := h
theorem StAt.drew {w : World} {B : Nat} {s : DS} (h : StAt w B s) : StAt w.drew B s := h

theorem rangeAt_below {w w' : World} {b o : Nat} {cs : List Value} (h : w.rangeAt b o cs) (hb : Below w.heap.size w w') : w'.rangeAt b o cs := fun j v hv => by
  have := h j v hv
  rw [hb.cell (World.block_lt_of_cell? w _ this)]; exact this
theorem there_below {w w' : World} {b o n : Nat} (h : w.there b o n) (hb : Below w.heap.size w w') : w'.there b o n := fun j hj => by
  obtain ⟨h1, h2⟩ := h j hj
  obtain ⟨u, hu⟩ := Option.isSome_iff_exists.1 h1
  have hlt := World.block_lt_of_cell? w _ hu
  exact ⟨by rw [hb.cell hlt]; exact h1, by rw [hb.frozen hlt]; exact h2⟩
theorem StAt.hRange {w : World} {B : Nat} {s : DS} (h : StAt w B s) : w.rangeAt B 0 (s.h.map (Value.int .u32)) := fun j v hv => by
  have hj : j < (s.h.map (Value.int .u32)).length := (List.getElem?_eq_some_iff.1 hv).1
  rw [Nat.zero_add, h.cell, DS.cells, List.getElem?_append_left hj, hv]
theorem StAt.bRange {w : World} {B : Nat} {s : DS} (hs : s.ok) (h : StAt w B s) : w.rangeAt B 8 (s.b.map (Value.int .u8)) := fun j v hv => by
  have hj : j < (s.b.map (Value.int .u8)).length := (List.getElem?_eq_some_iff.1 hv).1
  rw [h.cell, DS.cells, List.getElem?_append_right (by simp [hs.hl]), List.getElem?_append_left (by simp [hs.hl] at hj ⊢; omega), ← hv]
  simp [hs.hl]
theorem StAt.hThere {w : World} {B : Nat} {s : DS} (hs : s.ok) (h : StAt w B s) : w.there B 0 8 := fun j hj => by
  refine ⟨?_, h.frozen _⟩
  rw [Nat.zero_add, h.cell, List.getElem?_eq_getElem (by rw [cells_len hs]; omega)]; rfl
theorem setCells_block (B : Nat) (t : TypeId) : ∀ (vs old pre post : List Value) (w : World), old.length = vs.length → w.heap[B]? = some (.cells (pre ++ (old ++ post)).toArray t (0, 0)) →
    (w.setCells B pre.length vs).heap[B]? = some (.cells (pre ++ (vs ++ post)).toArray t (0, 0))
  | [], old, pre, post, w, hl, h => by
    have : old = [] := List.eq_nil_of_length_eq_zero (by simpa using hl)
    subst this
    simpa [World.setCells] using h
  | v :: vs, [], pre, post, w, hl, h => by simp at hl
  | v :: vs, a :: old, pre, post, w, hl, h => by
    rw [World.setCells]
    have h1 : (w.setCell ⟨B, pre.length, none⟩ v).heap[B]? = some (.cells ((pre ++ [v]) ++ (old ++ post)).toArray t (0, 0)) := by
      simp only [World.setCell, Array.getElem?_modify, if_pos, h, Option.map_some]
      simp
    have := setCells_block B t vs old (pre ++ [v]) post _ (by simpa using hl) h1
    simpa using this
theorem setCells_other (B : Nat) : ∀ (vs : List Value) (o : Nat) (w : World) (k : Nat), k ≠ B → (w.setCells B o vs).heap[k]? = w.heap[k]?
  | [], _, _, _, _ => rfl
  | v :: vs, o, w, k, h => by
    rw [World.setCells, setCells_other B vs (o + 1) _ k h, Below.heap_setCell _ _ _ _ (by simpa using h)]
theorem setCells_rest (B : Nat) : ∀ (vs : List Value) (o : Nat) (w : World), (w.setCells B o vs).os = w.os ∧ (w.setCells B o vs).tape = w.tape ∧ (w.setCells B o vs).output = w.output ∧ (w.setCells B o vs).heap.size = w.heap.size
  | [], _, _ => ⟨rfl, rfl, rfl, rfl⟩
  | v :: vs, o, w => by
    rw [World.setCells]
    obtain ⟨h1, h2, h3, h4⟩ := setCells_rest B vs (o + 1) (w.setCell ⟨B, o, none⟩ v)
    exact ⟨h1, h2, h3, h4.trans (by simp [World.setCell])⟩
theorem Ex.setCells {B : Nat} {a w : World} (h : Ex B a w) (o : Nat) (vs : List Value) : Ex B a (w.setCells B o vs) := by
  obtain ⟨h1, h2, h3, h4⟩ := setCells_rest B vs o w
  exact h.trans ⟨h1, h2, h3, by omega, fun k _ hk => setCells_other B vs o w k hk⟩
theorem StAt.setWords {w : World} {B : Nat} {s : DS} (h : StAt w B s) (ms : List Int) (hl : ms.length = s.h.length) : StAt (w.setCells B 0 (ints .u32 ms).toList) B ⟨ms, s.b, s.n⟩ := by
  obtain ⟨t, h⟩ := h
  refine ⟨t, ?_⟩
  have := setCells_block B t (ms.map (Value.int .u32)) (s.h.map (Value.int .u32)) [] (s.b.map (Value.int .u8) ++ [.int .u64 (s.n : Int)]) w (by simp [hl]) (by simpa [DS.cells] using h)
  simpa [DS.cells, ints] using this
theorem one_ints (k : IntKind) (xs : List Int) : ∀ v ∈ xs.map (Value.int k), v.oneCell' = true := by
  intro v hv; simp at hv; obtain ⟨x, _, rfl⟩ := hv; rfl
set_option maxRecDepth 20000 in
set_option maxHeartbeats 400000 in
theorem addByte_no (s : DS) (x : Int) (B : Nat) (w : World) (hs : s.ok) (hS : StAt w B s) (hn : s.n < 4611686018427387904) (hq : ¬ (s.n + 1) % 64 = 0) :
    Calls Try.prog 54 #[.pointer (some ⟨B, 0, none⟩), .int .u8 x] w fun e w' => e = .returned (.tuple #[]) ∧ StAt w' B (addB s x) ∧ Ex B w w' := by
  have hm : s.n % 64 < 64 := Nat.mod_lt _ (by decide)
  have c1 : w.cell? ⟨B, 72, none⟩ = some (.int .u64 (s.n : Int)) := by rw [hS.cell, DS.count hs]
  have c2 : w.cell? ⟨B, 8 + s.n % 64, none⟩ = some (.int .u8 (s.b[s.n % 64]?.getD 0)) := by rw [hS.cell, DS.byte hs _ hm]
  have f2 : w.frozen? ⟨B, 8 + s.n % 64, none⟩ = false := hS.frozen _
  have f1 : w.frozen? ⟨B, 72, none⟩ = false := hS.frozen _
  have hz : (((s.n : Int) + 1) % 64 == 0) = false := beq_eq_false_iff_ne.2 (by omega)
  go_enter Try.func54, Try.ntmps54
  go_wp2
  go_region
  go_wp2
  go_end0
  have e1 := DS.setByte hs (s.n % 64) hm x
  have h1 := hS.set _ _ e1
  have ok1 : (⟨s.h, s.b.set (s.n % 64) x, s.n⟩ : DS).ok := ⟨hs.hl, by simp [hs.bl], hs.hw⟩
  have h2 := h1.set _ _ (DS.setCount ok1 (s.n + 1))
  have e2 : addB s x = ⟨s.h, s.b.set (s.n % 64) x, s.n + 1⟩ := by unfold addB; rw [if_neg hq]
  rw [e2]
  rw [show (((s.n + 1 : Nat) : Int)) = (s.n : Int) + 1 by omega] at h2
  exact ⟨rfl, h2.drew, ((((Ex.refl _ _).setCell _ _).setCell _ _).drew)⟩
set_option maxRecDepth 20000 in
set_option maxHeartbeats 400000 in
theorem addByte_yes (s : DS) (x : Int) (B : Nat) (w : World) (hs : s.ok) (hS : StAt w B s) (hn : s.n < 4611686018427387904) (hq : (s.n + 1) % 64 = 0) :
    Calls Try.prog 54 #[.pointer (some ⟨B, 0, none⟩), .int .u8 x] w fun e w' => e = .returned (.tuple #[]) ∧ StAt w' B (addB s x) ∧ Ex B w w' := by
  have hm : s.n % 64 < 64 := Nat.mod_lt _ (by decide)
  have c1 : w.cell? ⟨B, 72, none⟩ = some (.int .u64 (s.n : Int)) := by rw [hS.cell, DS.count hs]
  have c2 : w.cell? ⟨B, 8 + s.n % 64, none⟩ = some (.int .u8 (s.b[s.n % 64]?.getD 0)) := by rw [hS.cell, DS.byte hs _ hm]
  have f2 : w.frozen? ⟨B, 8 + s.n % 64, none⟩ = false := hS.frozen _
  have f1 : w.frozen? ⟨B, 72, none⟩ = false := hS.frozen _
  have hz : (((s.n : Int) + 1) % 64 == 0) = true := beq_iff_eq.2 (by omega)
  go_enter Try.func54, Try.ntmps54
  go_wp2
  go_region
  go_wp2
  have ok1 : (⟨s.h, s.b.set (s.n % 64) x, s.n⟩ : DS).ok := ⟨hs.hl, by simp [hs.bl], hs.hw⟩
  have ok2 : (⟨s.h, s.b.set (s.n % 64) x, s.n + 1⟩ : DS).ok := ⟨hs.hl, by simp [hs.bl], hs.hw⟩
  have h1 := hS.set _ _ (DS.setByte hs (s.n % 64) hm x)
  have h2 := (h1.set _ _ (DS.setCount ok1 (s.n + 1))).drew
  rw [show (((s.n + 1 : Nat) : Int)) = (s.n : Int) + 1 by omega] at h2
  have hE : Ex B w ((w.setCell { block := B, off := 8 + s.n % 64 } (Value.int IntKind.u8 x)).setCell { block := B, off := 72 } (Value.int IntKind.u64 (↑s.n + 1))).drew := (((Ex.refl _ _).setCell _ _).setCell _ _).drew
  generalize ((w.setCell { block := B, off := 8 + s.n % 64 } (Value.int IntKind.u8 x)).setCell { block := B, off := 72 } (Value.int IntKind.u64 (↑s.n + 1))).drew = w1 at *
  have e2 : addB s x = ⟨mixI s.h (s.b.set (s.n % 64) x), s.b.set (s.n % 64) x, s.n + 1⟩ := by unfold addB; rw [if_pos hq]
  have E2 := hid e2
  clear e2 c1 c2 f1 f2 h1 ok1 hz hq hm hS
  have r1 := h2.hRange
  have r2 := h2.bRange ok2
  have r3 := h2.hThere ok2
  have H2 := hid h2
  have hlt := h2.lt
  clear h2
  generalize hhb : s.b.set (s.n % 64) x = bb at *
  have ok2h := ok2.bl
  refine wp_region_any (by kernel_rfl) ?_
  change wpAny _ _ _ _ _ _ _ (World.drew _)
  refine wpAny_take (i := 0) (v := ?_) rfl (by decide +kernel) (by decide +kernel) (by decide +kernel) (fun _ _ _ h => h) (Or.inl ⟨by rfl, ?_⟩) ?_
  rotate_left
  · intro w; go_simp; try with_reducible rfl
  simp only [Act.put, List.getElem_toArray, List.getElem_cons_zero, List.getElem_cons_succ, List.setIfInBounds_toArray, List.set_cons_zero, List.set_cons_succ]
  refine wpAny_take (i := 1) (v := ?_) rfl (by decide +kernel) (by decide +kernel) (by decide +kernel) (fun _ _ _ h => h) (Or.inl ⟨by rfl, ?_⟩) ?_
  rotate_left
  · intro w; go_simp; try with_reducible rfl
  simp only [Act.put, List.getElem_toArray, List.getElem_cons_zero, List.getElem_cons_succ, List.setIfInBounds_toArray, List.set_cons_zero, List.set_cons_succ]
  refine wpAny_take (i := 2) (v := ?_) rfl (by decide +kernel) (by decide +kernel) (by decide +kernel) (fun _ _ _ h => h) (Or.inl ⟨by rfl, ?_⟩) ?_
  rotate_left
  · intro w; go_simp; try with_reducible rfl
  simp only [Act.put, List.getElem_toArray, List.getElem_cons_zero, List.getElem_cons_succ, List.setIfInBounds_toArray, List.set_cons_zero, List.set_cons_succ]
  refine wpAny_take (i := 3) (v := ?_) rfl (by decide +kernel) (by decide +kernel) (by decide +kernel) (fun _ _ _ h => h) (Or.inl ⟨by rfl, ?_⟩) ?_
  rotate_left
  · intro w; go_simp; try with_reducible rfl
  simp only [Act.put, List.getElem_toArray, List.getElem_cons_zero, List.getElem_cons_succ, List.setIfInBounds_toArray, List.set_cons_zero, List.set_cons_succ]
  refine wpAny_take (i := 5) (v := ?_) rfl (by decide +kernel) (by decide +kernel) (by decide +kernel) (fun _ _ _ h => h) (Or.inl ⟨by rfl, ?_⟩) ?_
  rotate_left
  · intro w; go_simp; try with_reducible rfl
  simp only [Act.put, List.getElem_toArray, List.getElem_cons_zero, List.getElem_cons_succ, List.setIfInBounds_toArray, List.set_cons_zero, List.set_cons_succ]
  refine wpAny_take (i := 6) (v := ?_) rfl (by decide +kernel) (by decide +kernel) (by decide +kernel) (fun _ _ _ h => h) (Or.inl ⟨by rfl, ?_⟩) ?_
  rotate_left
  · intro w; go_simp; try with_reducible rfl
  simp only [Act.put, List.getElem_toArray, List.getElem_cons_zero, List.getElem_cons_succ, List.setIfInBounds_toArray, List.set_cons_zero, List.set_cons_succ]
  refine wpAny_take (i := 7) (v := ?_) rfl (by decide +kernel) (by decide +kernel) (by decide +kernel) (fun _ _ _ h => h) (Or.inl ⟨by rfl, ?_⟩) ?_
  rotate_left
  · intro w; go_simp; try with_reducible rfl
  simp only [Act.put, List.getElem_toArray, List.getElem_cons_zero, List.getElem_cons_succ, List.setIfInBounds_toArray, List.set_cons_zero, List.set_cons_succ]
  have hi1 : (Try.prog.info? 72).map (·.size) = some (s.h.map (Value.int .u32)).length := by rw [List.length_map, hs.hl]; exact Try.info72
  have hi2 : (Try.prog.info? 73).map (·.size) = some (bb.map (Value.int .u8)).length := by rw [List.length_map, ok2h]; exact Try.info73
  refine wpAny_ready (rs := [4, 8]) (by kernel_rfl) (by simp) ?_
  refine AllReady.cons rfl (fun K hK => ?_) (AllReady.cons rfl (fun K hK => ?_) AllReady.nil)
  rw [if_pos (by rfl)]
  refine wp_load_mid 72 _ rfl B 0 rfl _ _ r1 Try.underlying72 rfl hi1 (hK _ _ ?_)
  clear hK K
  simp only [Act.put, List.getElem_toArray, List.getElem_cons_zero, List.getElem_cons_succ, List.setIfInBounds_toArray, List.set_cons_zero, List.set_cons_succ]
  refine wpAny_ready (rs := [8]) (by kernel_rfl) (by simp) ?_
  refine AllReady.cons rfl (fun K hK => ?_) AllReady.nil
  rw [if_pos (by rfl)]
  refine wp_load_mid 73 _ rfl B 8 rfl _ _ r2 Try.underlying73 rfl hi2 (hK _ _ ?_)
  clear hK K
  simp only [Act.put, List.getElem_toArray, List.getElem_cons_zero, List.getElem_cons_succ, List.setIfInBounds_toArray, List.set_cons_zero, List.set_cons_succ]
  rotate_left
  rw [if_pos (by rfl)]
  refine wp_load_mid 73 _ rfl B 8 rfl _ _ r2 Try.underlying73 rfl hi2 (hK _ _ ?_)
  clear hK K
  simp only [Act.put, List.getElem_toArray, List.getElem_cons_zero, List.getElem_cons_succ, List.setIfInBounds_toArray, List.set_cons_zero, List.set_cons_succ]
  refine wpAny_ready (rs := [4]) (by kernel_rfl) (by simp) ?_
  refine AllReady.cons rfl (fun K hK => ?_) AllReady.nil
  rw [if_pos (by rfl)]
  refine wp_load_mid 72 _ rfl B 0 rfl _ _ r1 Try.underlying72 rfl hi1 (hK _ _ ?_)
  clear hK K
  simp only [Act.put, List.getElem_toArray, List.getElem_cons_zero, List.getElem_cons_succ, List.setIfInBounds_toArray, List.set_cons_zero, List.set_cons_succ]
  all_goals
    refine wpAny_ready (rs := [9]) (by kernel_rfl) (by simp) ?_
    refine AllReady.cons rfl (fun K hK => ?_) AllReady.nil
    go_simp
    change Calls Try.prog 59 #[.agg (ints .u32 s.h), .agg (ints .u8 bb)] _ _
    refine (mix_any s.h bb _ hs.hl hs.hw ok2h).mono ?_
    rintro e w2 ⟨rfl, hBm⟩
    refine hK _ _ ?_
    clear hK K
    have H3 := hid (H2.out.drew.other (hBm.block B hlt))
    have r4 := H3.out.hThere ok2
    have hE2 : Ex B w w2 := hE.drew.trans (Ex.of_below hBm)
    refine wpAny_take (i := 10) (v := ?_) rfl (by decide +kernel) (by decide +kernel) (by decide +kernel) (fun _ _ _ h => h) (Or.inl ⟨by rfl, ?_⟩) ?_
    rotate_left
    · intro w; go_simp; try with_reducible rfl
    simp only [Act.put, List.getElem_toArray, List.getElem_cons_zero, List.getElem_cons_succ, List.setIfInBounds_toArray, List.set_cons_zero, List.set_cons_succ]
    refine wpAny_take (i := 11) (v := ?_) rfl (by decide +kernel) (by decide +kernel) (by decide +kernel) (fun _ _ _ h => h) (Or.inl ⟨by rfl, ?_⟩) ?_
    rotate_left
    · intro w; go_simp; try with_reducible rfl
    simp only [Act.put, List.getElem_toArray, List.getElem_cons_zero, List.getElem_cons_succ, List.setIfInBounds_toArray, List.set_cons_zero, List.set_cons_succ]
    refine wpAny_ready (rs := [12]) (by kernel_rfl) (by simp) ?_
    refine AllReady.cons rfl (fun K hK => ?_) AllReady.nil
    rw [if_pos (by rfl)]
    refine wp_store_mid 72 _ _ rfl B 0 (ints .u32 (mixI s.h bb)) rfl rfl (by rw [ints_size, mixI_len, hs.hl]; exact r4) (by rw [ints_size, mixI_len, hs.hl]; exact Try.info72) (ints_one _ _) (hK _ _ ?_)
    clear hK K
    refine wpAny_done (by kernel_rfl) ?_ _
    go_end0
    rw [E2.out]
    exact ⟨rfl, H3.out.setWords _ (mixI_len _ _), hE2.setCells _ _⟩
theorem addByte_any (s : DS) (x : Int) (B : Nat) (w : World) (hs : s.ok) (hS : StAt w B s) (hn : s.n < 4611686018427387904) :
    Calls Try.prog 54 #[.pointer (some ⟨B, 0, none⟩), .int .u8 x] w fun e w' => e = .returned (.tuple #[]) ∧ StAt w' B (addB s x) ∧ Ex B w w' := by
  by_cases hq : (s.n + 1) % 64 = 0
  · exact addByte_yes s x B w hs hS hn hq
  · exact addByte_no s x B w hs hS hn hq
end Go.Proofs.Ytbifmhbkmnofiaa
