import Derived.Test.YtbifmhbkmnofiaaGreatMd
import Derived.Lib.ConvBytes
import Derived.Laws.BytesString
namespace Go.Proofs.YtbifmhbkmnofiaaGreat
open Go.RowKit
set_option linter.unusedVariables false
set_option linter.unusedSimpArgs false
/-- a string's bytes; a string of bytes -/
def bts (s : ByteArray) : List Int := s.data.toList.map fun b => (b.toNat : Int)
def toS (xs : List Int) : ByteArray := ⟨(xs.map fun n => UInt8.ofNat n.toNat).toArray⟩
theorem bts_len (s : ByteArray) : (bts s).length = s.size := by simp [bts]
theorem toS_size (xs : List Int) : (toS xs).size = xs.length := by simp [toS, ByteArray.size]
theorem toS_foldl (xs : List Int) : xs.foldl (fun r n => r.push (UInt8.ofNat n.toNat)) ByteArray.empty = toS xs := by
  have h : ∀ (l : List Int) (r : ByteArray), l.foldl (fun r n => r.push (UInt8.ofNat n.toNat)) r = ⟨r.data ++ (l.map fun n => UInt8.ofNat n.toNat).toArray⟩ := by
    intro l
    induction l with
    | nil => intro r; simp
    | cons n l ih => intro r; rw [List.foldl_cons, ih]; simp [ByteArray.push]
  have he0 : ByteArray.empty.data = #[] := rfl
  rw [h, he0]; simp [toS]
def allB (xs : List Int) : Prop := ∀ x ∈ xs, 0 ≤ x ∧ x < 256
theorem bts_B (s : ByteArray) : allB (bts s) := by
  intro x hx
  simp only [bts, List.mem_map] at hx
  obtain ⟨b, _, rfl⟩ := hx
  have := b.toNat_lt
  omega
theorem bts_toS (xs : List Int) (h : allB xs) : bts (toS xs) = xs := by
  unfold bts toS
  simp only [List.map_map, List.toList_toArray]
  conv => rhs; rw [← List.map_id xs]
  apply List.map_congr_left
  intro x hx
  have := h x hx
  simp only [Function.comp, id]
  rw [UInt8.toNat_ofNat']
  omega
theorem toS_bts (s : ByteArray) : toS (bts s) = s := by
  unfold bts toS
  rw [List.map_map]
  have : ((fun n : Int => UInt8.ofNat n.toNat) ∘ fun b : UInt8 => (b.toNat : Int)) = id := by
    funext b; simp
  rw [this]; simp
theorem bytesW_below (w : World) (e : TypeId) (s : ByteArray) : Below w.heap.size w (Lib.bytesWorld w e s) :=
  ⟨rfl, rfl, rfl, by rw [Lib.bytesWorld_size]; omega, fun k hk => Lib.bytesWorld_at_old w e s k hk⟩
theorem bytesW_byt (w : World) (e : TypeId) (s : ByteArray) (cap : Nat) : Byt (Lib.bytesWorld w e s) (.slice (some ⟨w.heap.size, 0, none⟩) s.size cap) (bts s) := by
  refine Or.inr ⟨w.heap.size, 0, cap, by rw [bts_len], fun j hj => ?_⟩
  rw [bts_len] at hj
  rw [Nat.zero_add, Lib.bytesWorld_cell w e s j hj]
  simp [bts, hj, List.getD]
theorem wpList_bytes {ops : Array Oper} {rest : List Oper} {o : Oper} {a : Act} {w : World} {Q : Exit → Act → World → Prop} (hgd : o.guard = none) (x : Operand) (ho : o.op = .convert 9 41 x) (s : ByteArray) (hx : a.eval x = .string s)
    (h : ∀ w' cap, Below w.heap.size w w' → w'.heap.size = w.heap.size + 1 → Hd (Byt w' (.slice (some ⟨w.heap.size, 0, none⟩) s.size cap) (bts s)) → wpList Tryz.prog ops Q rest (a.put o.dst (.slice (some ⟨w.heap.size, 0, none⟩) s.size cap)) w') : wpList Tryz.prog ops Q (o :: rest) a w :=
  wpList_plain hgd fun _ hK => by
    unfold Oper.wp execOp
    simp only [ho, hx, Sem.run_bind, Lib.run_convert_string_bytes w 9 41 5 s Tryz.underlying9 Tryz.underlying41 Tryz.underlying5, Result.andThen_ok, Sem.run_pure]
    exact hK _ _ (h _ _ (bytesW_below w 5 s) (Lib.bytesWorld_size w 5 s) ⟨bytesW_byt w 5 s _⟩)
theorem loadCells_byt {w : World} {a : Addr} {n cap : Nat} {xs : List Int} (h : Byt w (.slice (some a) n cap) xs) : (loadCells a n).run Tryz.prog w = .ok (xs.map (Value.int .u8)).toArray w := by
  rcases h with ⟨rfl, a', cap', h⟩ | ⟨db, off, cap', h, hc⟩
  · simp only [Value.slice.injEq] at h
    obtain ⟨rfl, rfl, rfl⟩ := h
    exact run_loadCells_list (P := Tryz.prog) w a [] (fun j v hv => by simp at hv)
  · simp only [Value.slice.injEq, Option.some.injEq] at h
    obtain ⟨rfl, rfl, rfl⟩ := h
    have := run_loadCells_list (P := Tryz.prog) w ⟨db, off, none⟩ (xs.map (Value.int .u8)) (fun j v hv => by
      have hj : j < xs.length := by simpa using (List.getElem?_eq_some_iff.1 hv).1
      rw [Addr.add_mid, hc j hj, ← hv]; simp [List.getElem?_eq_getElem hj])
    simpa using this
theorem run_str {w : World} {v : Value} {xs : List Int} (h : Byt w v xs) : (convert 41 9 v).run Tryz.prog w = .ok (.string (toS xs)) w := by
  obtain ⟨a, cap, rfl, _⟩ := h.form
  rw [run_convert_bytes_string w 41 9 5 a _ cap Tryz.underlying41 Tryz.underlying5 Tryz.underlying9]
  cases a with
  | none =>
    have h0 : xs = [] := by
      rcases h with ⟨rfl, _⟩ | ⟨db, off, cap', h, hc⟩
      · rfl
      · simp at h
    subst h0
    rfl
  | some a =>
    rw [run_bytesToString w a _ cap xs (loadCells_byt h), toS_foldl]
theorem wpList_str {ops : Array Oper} {rest : List Oper} {o : Oper} {a : Act} {w : World} {Q : Exit → Act → World → Prop} (hgd : o.guard = none) (x : Operand) (ho : o.op = .convert 41 9 x) (v : Value) (xs : List Int) (hx : a.eval x = v) (hb : Byt w v xs)
    (h : wpList Tryz.prog ops Q rest (a.put o.dst (.string (toS xs))) w) : wpList Tryz.prog ops Q (o :: rest) a w :=
  wpList_plain hgd fun _ hK => by
    unfold Oper.wp execOp
    simp only [ho, hx, Sem.run_bind, run_str hb, Result.andThen_ok, Sem.run_pure]
    exact hK _ _ h
set_option maxRecDepth 20000 in
set_option maxHeartbeats 400000 in
theorem SSum_yes (s : ByteArray) (w : World) (hs : s.size ≤ 300) :
    Calls Tryz.prog 16 #[.string s] w fun e w' => e = .returned (.tuple #[.string (toS (shaI (bts s))), .int .i64 0]) ∧ Below w.heap.size w w' := by
  go_enter Tryz.func16, Tryz.ntmps16
  go_wp2_with (refine wpList_bytes rfl _ rfl s rfl ?_; intro w2 cap hB2 hz2 hb2)
  refine (DSum_any _ _ _ hb2.out (by rw [bts_len]; omega)).mono ?_
  rintro e w3 ⟨rfl, hB3⟩
  have hB4 := hB2.trans (hB3.mono (by omega))
  have hz3 := hB3.size
  clear hB2 hB3 hb2
  have hil := shaI_len (bts s)
  generalize hin : shaI (bts s) = inn at *
  have Hin := hid hin
  clear hin
  have hi5 : ((w3.alloc (.cells (ints .u8 Z32) 96)).setRow w3.heap.size (ints .u8 inn)).heap[w3.heap.size]? = some (.cells (ints .u8 inn) 96 (0, 0)) := setRow_heap _ _ _ _ _ _ (al_new _ _)
  have hb5 : Byt ((w3.alloc (.cells (ints .u8 Z32) 96)).setRow w3.heap.size (ints .u8 inn)) (.slice (some ⟨w3.heap.size, 0, none⟩) 32 32) inn := by have := byt_block hi5 32; rw [hil] at this; exact this
  have hB5 : Below w.heap.size w ((w3.alloc (.cells (ints .u8 Z32) 96)).setRow w3.heap.size (ints .u8 inn)) := below_setRow (hB4.alloc (by omega) _) _ (by omega) _
  have Hb5 := hid hb5
  clear hb5 hi5 hB4
  go_wp2_with (first
    | refine wpList_alloc_eq rfl 96 rfl (ints .u8 Z32) Tryz.alloc96 ?_
    | refine wpList_store_row rfl 96 _ _ rfl w3.heap.size (ints .u8 inn) rfl rfl 96 (ints .u8 Z32) (al_new _ _) (by rw [ints_size, hil]; exact Tryz.info96) (by rw [ints_size, ints_size, hil]; rfl) (ints_one _ _) ?_
    | refine wpList_str rfl _ rfl _ inn rfl Hb5.out ?_)
  go_ret2
  exact ⟨by rw [Hin.out]; rfl, hB5⟩
set_option maxHeartbeats 400000 in
theorem SSum_no (s : ByteArray) (w : World) (hs : 300 < s.size) :
    Calls Tryz.prog 16 #[.string s] w fun e w' => e = .returned (.tuple #[.string ⟨#[]⟩, .int .i64 2]) ∧ w' = w := by
  go_enter Tryz.func16, Tryz.ntmps16
  go_wp2
  go_ret2
  exact ⟨rfl, rfl⟩
set_option maxRecDepth 20000 in
set_option maxHeartbeats 400000 in
theorem SMac_yes (k s : ByteArray) (w : World) (hk : k.size ≤ 300) (hs : s.size ≤ 300) :
    Calls Tryz.prog 19 #[.string k, .string s] w fun e w' => e = .returned (.tuple #[.string (toS (macI (bts k) (bts s))), .int .i64 0]) ∧ Below w.heap.size w w' := by
  have hk' : (k.size : Int) ≤ 300 := by omega
  have hs' : (s.size : Int) ≤ 300 := by omega
  go_enter Tryz.func19, Tryz.ntmps19
  go_wp2_with (first
    | (refine wpList_bytes rfl (.tmp 15) rfl k rfl ?_; intro w1 cap1 hB1 hz1 hb1)
    | (refine wpList_bytes rfl (.tmp 17) rfl s rfl ?_; intro w2 cap hB2 hz2 hb2))
  have hbs : Byt w2 (.slice (some ⟨w.heap.size + 1, 0, none⟩) s.size cap) (bts s) := by rw [← hz1]; exact hb2.out
  have hbk : Byt w2 (.slice (some ⟨w.heap.size, 0, none⟩) k.size cap1) (bts k) := hb1.out.mono hB2
  refine (DMac_any _ _ _ _ _ hbk hbs (by rw [bts_len]; omega) (by rw [bts_len]; omega)).mono ?_
  rintro e w3 ⟨rfl, hB3⟩
  have hB4 := (hB1.trans (hB2.mono (by omega))).trans (hB3.mono (by omega))
  have hz3 := hB3.size
  clear hB1 hB2 hB3 hb2 hb1 hbs hbk
  have hil := macI_len (bts k) (bts s)
  generalize hin : macI (bts k) (bts s) = inn at *
  have Hin := hid hin
  clear hin
  have hi5 : ((w3.alloc (.cells (ints .u8 Z32) 96)).setRow w3.heap.size (ints .u8 inn)).heap[w3.heap.size]? = some (.cells (ints .u8 inn) 96 (0, 0)) := setRow_heap _ _ _ _ _ _ (al_new _ _)
  have hb5 : Byt ((w3.alloc (.cells (ints .u8 Z32) 96)).setRow w3.heap.size (ints .u8 inn)) (.slice (some ⟨w3.heap.size, 0, none⟩) 32 32) inn := by have := byt_block hi5 32; rw [hil] at this; exact this
  have hB5 : Below w.heap.size w ((w3.alloc (.cells (ints .u8 Z32) 96)).setRow w3.heap.size (ints .u8 inn)) := below_setRow (hB4.alloc (by omega) _) _ (by omega) _
  have Hb5 := hid hb5
  clear hb5 hi5 hB4
  go_wp2_with (first
    | refine wpList_alloc_eq rfl 96 rfl (ints .u8 Z32) Tryz.alloc96 ?_
    | refine wpList_store_row rfl 96 _ _ rfl w3.heap.size (ints .u8 inn) rfl rfl 96 (ints .u8 Z32) (al_new _ _) (by rw [ints_size, hil]; exact Tryz.info96) (by rw [ints_size, ints_size, hil]; rfl) (ints_one _ _) ?_
    | refine wpList_str rfl _ rfl _ inn rfl Hb5.out ?_)
  go_ret2
  exact ⟨by rw [Hin.out]; rfl, hB5⟩
set_option maxHeartbeats 400000 in
theorem SMac_no (k s : ByteArray) (w : World) (hs : 300 < k.size ∨ 300 < s.size) :
    Calls Tryz.prog 19 #[.string k, .string s] w fun e w' => e = .returned (.tuple #[.string ⟨#[]⟩, .int .i64 2]) ∧ w' = w := by
  by_cases hk : 300 < k.size
  · have hk' : (300 : Int) < k.size := by omega
    go_enter Tryz.func19, Tryz.ntmps19
    go_wp2
    go_ret2
    exact ⟨rfl, rfl⟩
  · have hk' : (k.size : Int) ≤ 300 := by omega
    have hs' : (300 : Int) < s.size := by omega
    clear hs hk
    go_enter Tryz.func19, Tryz.ntmps19
    go_wp2
    go_ret2
    exact ⟨rfl, rfl⟩
end Go.Proofs.YtbifmhbkmnofiaaGreat
namespace Go.Proofs.YtbifmhbkmnofiaaGreat
open Go.RowKit
set_option linter.unusedVariables false
set_option linter.unusedSimpArgs false
/-- a generator by sums with a key: K and V in block B -/
structure MG where
  k : List Int
  v : List Int
structure MG.ok (g : MG) : Prop where
  kl : g.k.length = 32
  vl : g.v.length = 32
def MgAt (w : World) (B : Nat) (g : MG) : Prop := ∃ t, w.heap[B]? = some (.cells ((g.k.map (Value.int .u8) ++ g.v.map (Value.int .u8))).toArray t (0, 0))
theorem MgAt.cell {w : World} {B : Nat} {g : MG} (h : MgAt w B g) (j : Nat) : w.cell? ⟨B, j, none⟩ = (g.k.map (Value.int .u8) ++ g.v.map (Value.int .u8))[j]? := by
  obtain ⟨t, h⟩ := h
  rw [cell_of_row w B j _ t _ h]; simp
theorem MgAt.frozen {w : World} {B : Nat} {g : MG} (h : MgAt w B g) (j : Nat) : w.frozen? ⟨B, j, none⟩ = false := by
  obtain ⟨t, h⟩ := h
  simp [World.frozen?, h]
theorem MgAt.lt {w : World} {B : Nat} {g : MG} (h : MgAt w B g) : B < w.heap.size := by
  obtain ⟨t, h⟩ := h
  exact (Array.getElem?_eq_some_iff.1 h).1
theorem MgAt.other {w w' : World} {B : Nat} {g : MG} (h : MgAt w B g) (he : w'.heap[B]? = w.heap[B]?) : MgAt w' B g := by
  obtain ⟨t, h⟩ := h
  exact ⟨t, he.trans h⟩
theorem MgAt.kByt {w : World} {B : Nat} {g : MG} (h : MgAt w B g) (hg : g.ok) : Byt w (.slice (some ⟨B, 0, none⟩) 32 32) g.k := by
  refine Or.inr ⟨B, 0, 32, by rw [hg.kl], fun j hj => ?_⟩
  rw [h.cell, Nat.zero_add, List.getElem?_append_left (by simpa using hj)]
  simp [List.getElem?_eq_getElem hj]
theorem MgAt.vByt {w : World} {B : Nat} {g : MG} (h : MgAt w B g) (hg : g.ok) : Byt w (.slice (some ⟨B, 32, none⟩) 32 32) g.v := by
  refine Or.inr ⟨B, 32, 32, by rw [hg.vl], fun j hj => ?_⟩
  rw [h.cell, List.getElem?_append_right (by simp [hg.kl])]
  simp [hg.kl, List.getElem?_eq_getElem hj]
theorem MgAt.setK {w : World} {B : Nat} {g : MG} (h : MgAt w B g) (ms : List Int) (hl : ms.length = g.k.length) : MgAt (w.setCells B 0 (ints .u8 ms).toList) B ⟨ms, g.v⟩ := by
  obtain ⟨t, h⟩ := h
  refine ⟨t, ?_⟩
  have := setCells_block B t (ms.map (Value.int .u8)) (g.k.map (Value.int .u8)) [] (g.v.map (Value.int .u8)) w (by simp [hl]) (by simpa using h)
  simpa [ints] using this
theorem MgAt.setV {w : World} {B : Nat} {g : MG} (h : MgAt w B g) (hg : g.ok) (ms : List Int) (hl : ms.length = g.v.length) : MgAt (w.setCells B 32 (ints .u8 ms).toList) B ⟨g.k, ms⟩ := by
  obtain ⟨t, h⟩ := h
  refine ⟨t, ?_⟩
  have := setCells_block B t (ms.map (Value.int .u8)) (g.v.map (Value.int .u8)) (g.k.map (Value.int .u8)) [] w (by simp [hl]) (by simpa using h)
  simpa [ints, hg.kl] using this
theorem MgAt.there {w : World} {B : Nat} {g : MG} (h : MgAt w B g) (hg : g.ok) (o n : Nat) (ho : o + n ≤ 64) : w.there B o n := fun j hj => by
  refine ⟨?_, h.frozen _⟩
  rw [h.cell, List.getElem?_eq_getElem (by simp [hg.kl, hg.vl]; omega)]; rfl
def stepG (g : MG) : MG := ⟨g.k, macI g.k g.v⟩
theorem stepG_k (g : MG) : (stepG g).k = g.k := by simp only [stepG]
theorem stepG_v (g : MG) : (stepG g).v = macI g.k g.v := by simp only [stepG]
theorem stepG_eq (g : MG) : stepG g = ⟨g.k, macI g.k g.v⟩ := by simp only [stepG]
theorem stepG_ok {g : MG} (h : g.ok) : (stepG g).ok := by
  constructor
  · rw [stepG_k]; exact h.kl
  · rw [stepG_v]; exact macI_len g.k g.v

set_option maxRecDepth 20000 in
set_option maxHeartbeats 400000 in
theorem mstep_any (g : MG) (B : Nat) (w : World) (hg : g.ok) (hS : MgAt w B g) :
    Calls Tryz.prog 110 #[.pointer (some ⟨B, 0, none⟩)] w fun e w' => e = .returned (.tuple #[]) ∧ MgAt w' B (stepG g) ∧ Ex B w w' := by
  have y1 : Byt w.drew (.slice (some ⟨B, 0, none⟩) 32 32) g.k := hS.kByt hg
  have y2 : Byt w.drew (.slice (some ⟨B, 32, none⟩) 32 32) g.v := hS.vByt hg
  have hlt := hS.lt
  have He := hid (stepG_eq g)
  have hml := macI_len g.k g.v
  have Y1 := hid y1
  have Y2 := hid y2
  have HS := hid hS
  clear y1 y2 hS
  go_enter Tryz.func110, Tryz.ntmps110
  refine wp_region_any (by kernel_rfl) ?_
  change wpAny _ _ _ _ _ _ _ (World.drew _)
  refine wpAny_take (i := 0) (v := ?_) rfl (by decide +kernel) (by decide +kernel) (by decide +kernel) (fun _ _ _ h => h) (Or.inl ⟨by rfl, ?_⟩) ?_
  rotate_left
  · intro w; go_simp; try with_reducible rfl
  simp only [Act.put, List.getElem_toArray, List.getElem_cons_zero, List.getElem_cons_succ, List.setIfInBounds_toArray, List.set_cons_zero, List.set_cons_succ]
  refine wpAny_take (i := 1) (v := ?_) rfl (by decide +kernel) (by decide +kernel) (by decide +kernel) (fun _ _ _ h => h) (Or.inl ⟨by rfl, ?_⟩) ?_
  rotate_left
  · intro w; go_simp; try with_reducible rfl
  simp only [Act.put, List.getElem_toArray, List.getElem_cons_zero, List.getElem_cons_succ, List.setIfInBounds_toArray, List.set_cons_zero, List.set_cons_succ]
  refine wpAny_take (i := 2) (v := ?_) rfl (by decide +kernel) (by decide +kernel) (by decide +kernel) (fun _ _ _ h => h) (Or.inl ⟨by rfl, ?_⟩) ?_
  rotate_left
  · intro w; go_simp; try with_reducible rfl
  simp only [Act.put, List.getElem_toArray, List.getElem_cons_zero, List.getElem_cons_succ, List.setIfInBounds_toArray, List.set_cons_zero, List.set_cons_succ]
  refine wpAny_take (i := 3) (v := ?_) rfl (by decide +kernel) (by decide +kernel) (by decide +kernel) (fun _ _ _ h => h) (Or.inl ⟨by rfl, ?_⟩) ?_
  rotate_left
  · intro w; go_simp; try with_reducible rfl
  simp only [Act.put, List.getElem_toArray, List.getElem_cons_zero, List.getElem_cons_succ, List.setIfInBounds_toArray, List.set_cons_zero, List.set_cons_succ]
  refine wpAny_take (i := 4) (v := ?_) rfl (by decide +kernel) (by decide +kernel) (by decide +kernel) (fun _ _ _ h => h) (Or.inl ⟨by rfl, ?_⟩) ?_
  rotate_left
  · intro w; go_simp; try with_reducible rfl
  simp only [Act.put, List.getElem_toArray, List.getElem_cons_zero, List.getElem_cons_succ, List.setIfInBounds_toArray, List.set_cons_zero, List.set_cons_succ]
  refine wpAny_take (i := 5) (v := ?_) rfl (by decide +kernel) (by decide +kernel) (by decide +kernel) (fun _ _ _ h => h) (Or.inl ⟨by rfl, ?_⟩) ?_
  rotate_left
  · intro w; go_simp; try with_reducible rfl
  simp only [Act.put, List.getElem_toArray, List.getElem_cons_zero, List.getElem_cons_succ, List.setIfInBounds_toArray, List.set_cons_zero, List.set_cons_succ]
  refine wpAny_take (i := 6) (v := ?_) rfl (by decide +kernel) (by decide +kernel) (by decide +kernel) (fun _ _ _ h => h) (Or.inl ⟨by rfl, ?_⟩) ?_
  rotate_left
  · intro w; go_simp; try with_reducible rfl
  simp only [Act.put, List.getElem_toArray, List.getElem_cons_zero, List.getElem_cons_succ, List.setIfInBounds_toArray, List.set_cons_zero, List.set_cons_succ]
  refine wpAny_take (i := 7) (v := ?_) rfl (by decide +kernel) (by decide +kernel) (by decide +kernel) (fun _ _ _ h => h) (Or.inl ⟨by rfl, ?_⟩) ?_
  rotate_left
  · intro w; go_simp; try with_reducible rfl
  simp only [Act.put, List.getElem_toArray, List.getElem_cons_zero, List.getElem_cons_succ, List.setIfInBounds_toArray, List.set_cons_zero, List.set_cons_succ]
  refine wpAny_take (i := 8) (v := ?_) rfl (by decide +kernel) (by decide +kernel) (by decide +kernel) (fun _ _ _ h => h) (Or.inl ⟨by rfl, ?_⟩) ?_
  rotate_left
  · intro w; go_simp; try with_reducible rfl
  simp only [Act.put, List.getElem_toArray, List.getElem_cons_zero, List.getElem_cons_succ, List.setIfInBounds_toArray, List.set_cons_zero, List.set_cons_succ]
  refine wpAny_ready (rs := [9]) (by kernel_rfl) (by simp) ?_
  refine AllReady.cons rfl (fun K hK => ?_) AllReady.nil
  go_simp
  refine (DMac_any _ _ _ _ _ Y1.out Y2.out (by rw [hg.kl]; omega) (by rw [hg.vl]; omega)).mono ?_
  rintro e w2 ⟨rfl, hBm⟩
  generalize macI g.k g.v = mm at *
  refine hK _ _ ?_
  clear hK K
  have H3 : MgAt w2 B g := HS.out.other ((hBm.block B hlt).trans rfl)
  have hE2 : Ex B w w2 := (Ex.refl B w).drew.trans (Ex.of_below hBm)
  refine wpAny_take (i := 10) (v := ?_) rfl (by decide +kernel) (by decide +kernel) (by decide +kernel) (fun _ _ _ h => h) (Or.inl ⟨by rfl, ?_⟩) ?_
  rotate_left
  · intro w; go_simp; try with_reducible rfl
  simp only [Act.put, List.getElem_toArray, List.getElem_cons_zero, List.getElem_cons_succ, List.setIfInBounds_toArray, List.set_cons_zero, List.set_cons_succ]
  refine wpAny_take (i := 11) (v := ?_) rfl (by decide +kernel) (by decide +kernel) (by decide +kernel) (fun _ _ _ h => h) (Or.inl ⟨by rfl, ?_⟩) ?_
  rotate_left
  · intro w; go_simp; try with_reducible rfl
  simp only [Act.put, List.getElem_toArray, List.getElem_cons_zero, List.getElem_cons_succ, List.setIfInBounds_toArray, List.set_cons_zero, List.set_cons_succ]
  refine wpAny_ready (rs := [12]) (by kernel_rfl) (by simp) ?_
  refine AllReady.cons rfl (fun K hK => ?_) AllReady.nil
  rw [if_pos (by rfl)]
  refine wp_store_mid 96 _ _ rfl B 32 (ints .u8 mm) rfl rfl (by rw [ints_size, hml]; exact H3.there hg 32 32 (by omega)) (by rw [ints_size, hml]; exact Tryz.info96) (ints_one _ _) (hK _ _ ?_)
  clear hK K
  refine wpAny_done (by kernel_rfl) ?_ _
  go_end0
  rw [He.out]
  exact ⟨rfl, H3.setV hg _ (hml.trans hg.vl.symm), hE2.setCells _ _⟩
end Go.Proofs.YtbifmhbkmnofiaaGreat
namespace Go.Proofs.YtbifmhbkmnofiaaGreat
open Go.RowKit
set_option linter.unusedVariables false
set_option linter.unusedSimpArgs false
theorem Tryz.infoB : (Tryz.prog.info? 5).map (fun i => (i.zero, i.size, i.bytes)) = some (some (.int .u8 0), 1, 1) := by kernel_rfl
def dg (c : Int) : Int := if 97 ≤ c then c - 97 + 10 else c - 48
def hexTo (l : List Int) : Nat → List Int
  | 0 => []
  | k + 1 => if k % 2 = 1 then hexTo l k ++ [(16 * dg (l[k - 1]?.getD 0) + dg (l[k]?.getD 0)) % 256] else hexTo l k
def nOf (l : List Int) (k : Nat) : Int := if k % 2 = 1 then dg (l[k - 1]?.getD 0) else 0
theorem hexTo_len (l : List Int) (k : Nat) : (hexTo l k).length ≤ k := by
  induction k with
  | zero => simp [hexTo]
  | succ k ih =>
    unfold hexTo
    split
    · rw [List.length_append, List.length_singleton]; omega
    · omega
theorem bts_get (s : ByteArray) (k : Nat) (h : k < s.size) : (bts s)[k]?.getD 0 = ((s[k]).toNat : Int) := by
  have h1 : k < s.data.toList.length := by simpa using h
  simp only [bts, List.getElem?_map, List.getElem?_eq_getElem h1, Option.map_some, Option.getD_some]
  rfl
theorem nOf_even (l : List Int) (k : Nat) (h : ¬ k % 2 = 1) : nOf l k = 0 := by unfold nOf; rw [if_neg h]
theorem nOf_odd (l : List Int) (k : Nat) (h : k % 2 = 1) : nOf l k = dg (l[k - 1]?.getD 0) := by unfold nOf; rw [if_pos h]
theorem hexTo_even (l : List Int) (k : Nat) (h : ¬ k % 2 = 1) : hexTo l (k + 1) = hexTo l k := by unfold hexTo; rw [if_neg h]; cases k <;> rfl
theorem hexTo_odd (l : List Int) (k : Nat) (h : k % 2 = 1) : hexTo l (k + 1) = hexTo l k ++ [(16 * nOf l k + dg (l[k]?.getD 0)) % 256] := by rw [hexTo, if_pos h, nOf_odd l k h]
theorem dg_hi (c : Int) (h : 97 ≤ c) : dg c = c - 97 + 10 := by unfold dg; rw [if_pos h]
theorem dg_lo (c : Int) (h : c < 97) : dg c = c - 48 := by unfold dg; rw [if_neg (by omega)]
theorem dg_bd (c : Int) (h0 : 0 ≤ c) (h1 : c < 256) : -48 ≤ dg c ∧ dg c ≤ 168 := by unfold dg; split <;> omega
theorem allB_get (xs : List Int) (h : allB xs) (j : Nat) : 0 ≤ xs[j]?.getD 0 ∧ xs[j]?.getD 0 < 256 := by
  by_cases hj : j < xs.length
  · rw [List.getElem?_eq_getElem hj]; exact h _ (List.getElem_mem hj)
  · rw [List.getElem?_eq_none (by omega)]; decide
theorem nOf_bd (s : ByteArray) (k : Nat) : -48 ≤ nOf (bts s) k ∧ nOf (bts s) k ≤ 168 := by
  unfold nOf
  split
  · have := allB_get _ (bts_B s) (k - 1); exact dg_bd _ this.1 this.2
  · omega
theorem own_step {w wr w1 : World} {N : Nat} {hx : List Int} {b v' : Value} {x : Int} {o : Obj} (hown : wr.ownsRow N 5 1 b hx.length (hx.map (Value.int .u8))) (hB : Below N w wr) (hN : N ≤ wr.heap.size)
    (hown' : w1.ownsRow N 5 1 v' (hx.length + 1) (hx.map (Value.int .u8) ++ [Value.int .u8 x])) (hg : (wr.alloc o).grownBy w1 b.ownBlock) :
    w1.ownsRow N 5 1 v' (hx ++ [x]).length ((hx ++ [x]).map (Value.int .u8)) ∧ Below N w w1 := by
  refine ⟨by simpa using hown', (hB.alloc hN o).grown hg (by simp; omega) (fun k hk => (hown.lt k hk).1)⟩
theorem own_byt {w : World} {N : Nat} {v : Value} {xs : List Int} (h : w.ownsRow N 5 1 v xs.length (xs.map (Value.int .u8))) : Byt w v xs := by
  rcases h.2 with ⟨rfl, h0⟩ | ⟨g, cap, cur, rfl, _, hgg, _, _, _, htake⟩
  · exact Or.inl ⟨List.eq_nil_of_length_eq_zero h0, none, 0, rfl⟩
  · refine Or.inr ⟨g, 0, cap, rfl, fun j hj => ?_⟩
    have := h.cells (g := g) rfl j (.int .u8 (xs[j]?.getD 0)) (by simp [List.getElem?_eq_getElem hj])
    rw [Addr.add_mid] at this
    exact this
end Go.Proofs.YtbifmhbkmnofiaaGreat
namespace Go.Proofs.YtbifmhbkmnofiaaGreat
open Go.RowKit
set_option linter.unusedVariables false
set_option linter.unusedSimpArgs false
def m0 : ByteArray := ⟨#[]⟩
def m1 : ByteArray := ⟨#[97, 98, 99]⟩
def m2 : ByteArray := ⟨#[97, 98, 99, 100, 98, 99, 100, 101, 99, 100, 101, 102, 100, 101, 102, 103, 101, 102, 103, 104, 102, 103, 104, 105, 103, 104, 105, 106, 104, 105, 106, 107, 105, 106, 107, 108, 106, 107, 108, 109, 107, 108, 109, 110, 108, 109, 110, 111, 109, 110, 111, 112, 110, 111, 112, 113]⟩
def mk : ByteArray := ⟨#[74, 101, 102, 101]⟩
def mm : ByteArray := ⟨#[119, 104, 97, 116, 32, 100, 111, 32, 121, 97, 32, 119, 97, 110, 116, 32, 102, 111, 114, 32, 110, 111, 116, 104, 105, 110, 103, 63]⟩
def x0 : ByteArray := ⟨#[101, 51, 98, 48, 99, 52, 52, 50, 57, 56, 102, 99, 49, 99, 49, 52, 57, 97, 102, 98, 102, 52, 99, 56, 57, 57, 54, 102, 98, 57, 50, 52, 50, 55, 97, 101, 52, 49, 101, 52, 54, 52, 57, 98, 57, 51, 52, 99, 97, 52, 57, 53, 57, 57, 49, 98, 55, 56, 53, 50, 98, 56, 53, 53]⟩
def x1 : ByteArray := ⟨#[98, 97, 55, 56, 49, 54, 98, 102, 56, 102, 48, 49, 99, 102, 101, 97, 52, 49, 52, 49, 52, 48, 100, 101, 53, 100, 97, 101, 50, 50, 50, 51, 98, 48, 48, 51, 54, 49, 97, 51, 57, 54, 49, 55, 55, 97, 57, 99, 98, 52, 49, 48, 102, 102, 54, 49, 102, 50, 48, 48, 49, 53, 97, 100]⟩
def x2 : ByteArray := ⟨#[50, 52, 56, 100, 54, 97, 54, 49, 100, 50, 48, 54, 51, 56, 98, 56, 101, 53, 99, 48, 50, 54, 57, 51, 48, 99, 51, 101, 54, 48, 51, 57, 97, 51, 51, 99, 101, 52, 53, 57, 54, 52, 102, 102, 50, 49, 54, 55, 102, 54, 101, 99, 101, 100, 100, 52, 49, 57, 100, 98, 48, 54, 99, 49]⟩
def x3 : ByteArray := ⟨#[53, 98, 100, 99, 99, 49, 52, 54, 98, 102, 54, 48, 55, 53, 52, 101, 54, 97, 48, 52, 50, 52, 50, 54, 48, 56, 57, 53, 55, 53, 99, 55, 53, 97, 48, 48, 51, 102, 48, 56, 57, 100, 50, 55, 51, 57, 56, 51, 57, 100, 101, 99, 53, 56, 98, 57, 54, 52, 101, 99, 51, 56, 52, 51]⟩
theorem e0 : toS (hexTo (bts x0) x0.size) = toS (shaI (bts m0)) := by decide +kernel
theorem e1 : toS (hexTo (bts x1) x1.size) = toS (shaI (bts m1)) := by decide +kernel
theorem e2 : toS (hexTo (bts x2) x2.size) = toS (shaI (bts m2)) := by decide +kernel
theorem e3 : toS (hexTo (bts x3) x3.size) = toS (macI (bts mk) (bts mm)) := by decide +kernel
end Go.Proofs.YtbifmhbkmnofiaaGreat
namespace Go.Proofs.YtbifmhbkmnofiaaGreat
open Go.RowKit
set_option linter.unusedVariables false
set_option linter.unusedSimpArgs false
end Go.Proofs.YtbifmhbkmnofiaaGreat
namespace Go.Proofs.YtbifmhbkmnofiaaGreat
open Go.RowKit
set_option linter.unusedVariables false
set_option linter.unusedSimpArgs false
/-- the first bytes of a string -/
def cut (s : ByteArray) (n : Nat) : ByteArray := if n < s.size then s.extract 0 n else s
theorem cut_size (s : ByteArray) (n : Nat) : (cut s n).size ≤ n ∧ (cut s n).size ≤ s.size := by
  unfold cut
  split
  · simp only [ByteArray.size_extract]; omega
  · omega
theorem toB_B (hs : List Int) (k : Nat) : allB (toB hs k) := by
  induction k with
  | zero => intro x hx; have : x = 0 := List.eq_of_mem_replicate hx; subst this; exact ⟨by decide, by decide⟩
  | succ k ih =>
    intro x hx
    rcases List.mem_or_eq_of_mem_set hx with h1 | h1
    · exact ih x h1
    · rw [h1]; unfold tb; omega
theorem shaI_B (xs : List Int) : allB (shaI xs) := toB_B _ _
theorem bits_u8 (x y : Int) : 0 ≤ bits .xor .u8 x y ∧ bits .xor .u8 x y < 256 := by
  constructor <;> simp [bits, IntKind.wrap, IntKind.bits, IntKind.signed] <;> omega
theorem maskI_B (ks : List Int) (m : Int) (k : Nat) : allB (maskI ks m k) := by
  induction k with
  | zero => intro x hx; simp [maskI] at hx
  | succ k ih =>
    intro x hx
    simp only [maskI, List.mem_append, List.mem_singleton] at hx
    rcases hx with h1 | rfl
    · exact ih x h1
    · exact bits_u8 _ _
theorem bts_append (a b : ByteArray) : bts (a ++ b) = bts a ++ bts b := by
  simp [bts, ByteArray.data_append]
/-- a byte of the key, as the law asks for it -/
def kb (key : ByteArray) (i : Nat) : Int := if i < key.size then (bts key)[i]?.getD 0 else 0
theorem keyI_get (key : ByteArray) (h : key.size ≤ 64) (i : Nat) : (keyI (bts key))[i]?.getD 0 = kb key i := by
  unfold keyI kb
  rw [if_neg (by rw [bts_len]; omega)]
  by_cases hi : i < key.size
  · rw [if_pos hi, List.getElem?_append_left (by rw [bts_len]; exact hi)]
  · rw [if_neg hi, List.getElem?_append_right (by rw [bts_len]; omega)]
    by_cases hj : i - (bts key).length < 64 - (bts key).length
    · simp [zeros, hj]
    · simp [zeros, hj]
theorem Tryz.make64 (w : World) : Sem.run Tryz.prog (Instr.makeSlice 41 (Value.int IntKind.i64 64) (Value.int IntKind.i64 64)) w = .ok (.slice (some ⟨w.heap.size, 0, none⟩) 64 64) (w.alloc (.cells (ints .u8 Z64) 5)) := by kernel_rfl
theorem wpList_make64 {ops : Array Oper} {rest : List Oper} {o : Oper} {a : Act} {w : World} {Q : Exit → Act → World → Prop} (hgd : o.guard = none) (ho : o.op = .makeSlice 41 (.const (.int .i64 64)) (.const (.int .i64 64)))
    (h : wpList Tryz.prog ops Q rest (a.put o.dst (.slice (some ⟨w.heap.size, 0, none⟩) 64 64)) (w.alloc (.cells (ints .u8 Z64) 5))) : wpList Tryz.prog ops Q (o :: rest) a w :=
  wpList_plain hgd fun _ hK => by
    unfold Oper.wp execOp
    simp only [ho, Sem.run_bind, Act.eval, Tryz.make64, Result.andThen_ok, Sem.run_pure]
    exact hK _ _ h
def inn (key : ByteArray) (m : Int) (k : Nat) : List Int := maskI (keyI (bts key)) m k ++ zeros (64 - k)
theorem inn_len (key : ByteArray) (m : Int) (k : Nat) (h : k ≤ 64) : (inn key m k).length = 64 := by simp [inn, maskI_len, zeros]; omega
theorem inn_step (key : ByteArray) (m : Int) (k : Nat) (h : k < 64) (hk : key.size ≤ 64) : inn key m (k + 1) = (inn key m k).set k (bits .xor .u8 (kb key k) m) := by
  unfold inn
  rw [List.set_append_right _ _ (by rw [maskI_len]; omega), maskI_len, Nat.sub_self, maskI, keyI_get key hk]
  rw [show 64 - k = (64 - (k + 1)) + 1 by omega]
  simp [zeros, List.replicate_succ]
theorem two_sets {w wr : World} {bI k : Nat} {l1 l2 : List Int} (hD : wr.heap[bI]? = some (.cells (ints .u8 l1) 5 (0, 0))) (hE : wr.heap[bI + 1]? = some (.cells (ints .u8 l2) 5 (0, 0))) (hC : Below w.heap.size w wr) (hb : w.heap.size ≤ bI) (x y : Int) :
    ((wr.setCell ⟨bI, k, none⟩ (.int .u8 x)).setCell ⟨bI + 1, k, none⟩ (.int .u8 y)).heap[bI]? = some (.cells (ints .u8 (l1.set k x)) 5 (0, 0)) ∧ ((wr.setCell ⟨bI, k, none⟩ (.int .u8 x)).setCell ⟨bI + 1, k, none⟩ (.int .u8 y)).heap[bI + 1]? = some (.cells (ints .u8 (l2.set k y)) 5 (0, 0)) ∧
      Below w.heap.size w ((wr.setCell ⟨bI, k, none⟩ (.int .u8 x)).setCell ⟨bI + 1, k, none⟩ (.int .u8 y)) :=
  ⟨by rw [Below.heap_setCell _ _ _ _ (by simp)]; exact setCell_ints _ _ _ _ _ _ _ hD, setCell_ints _ _ _ _ _ _ _ (by rw [Below.heap_setCell _ _ _ _ (by simp)]; exact hE), (hC.setCell (by simpa using hb) _).setCell (by simp; omega) _⟩
end Go.Proofs.YtbifmhbkmnofiaaGreat
namespace Go.Proofs.YtbifmhbkmnofiaaGreat
open Go.RowKit
set_option linter.unusedVariables false
set_option linter.unusedSimpArgs false
set_option maxRecDepth 20000 in
set_option maxHeartbeats 400000 in
theorem NewSummer_any (w : World) : Calls Tryz.prog 21 #[] w fun e w' => ∃ B, e = .returned (.pointer (some ⟨B, 0, none⟩)) ∧ StAt w' B DSN ∧ w.heap.size ≤ B ∧ Below w.heap.size w w' := by
  go_enter Tryz.func21, Tryz.ntmps21
  go_wp2_with fail
  refine (New_any _).mono ?_
  rintro e w2 ⟨rfl, hB2⟩
  go_wp2_with (refine wpList_build_eq rfl 108 _ rfl DSN.cells.toArray (by kernel_rfl) ?_)
  go_ret
  exact ⟨w2.heap.size, rfl, ⟨108, al_new _ _⟩, hB2.size, hB2.alloc hB2.size _⟩
set_option maxHeartbeats 400000 in
theorem SAdd_yes (s : DS) (xs : List Int) (B : Nat) (v : Value) (w0 w : World) (hs : s.ok) (hS : StAt w B s) (hv : Byt w0 v xs) (hb : Below w0.heap.size w0 w) (hB : w0.heap.size ≤ B) (hn : s.n + xs.length < 4611686018427387904) (hl : xs.length ≤ 300) :
    Calls Tryz.prog 26 #[.pointer (some ⟨B, 0, none⟩), v] w fun e w' => e = .returned (.int .i64 0) ∧ StAt w' B (feed s xs) ∧ Ex B w w' := by
  have Hc := hid (Add_byt s xs B v w0 w hs hS hv hb hB hn)
  obtain ⟨a, cap, rfl, _⟩ := hv.form
  have hl' : (xs.length : Int) ≤ 300 := by omega
  clear hv hb
  go_enter Tryz.func26, Tryz.ntmps26
  go_wp2_with fail
  refine Hc.out.mono ?_
  rintro e w2 ⟨rfl, hS2, hE2⟩
  go_wp2
  go_ret
  exact ⟨rfl, hS2, hE2⟩
set_option maxHeartbeats 400000 in
theorem SAdd_no (B : Nat) (a : Option Addr) (n cap : Nat) (w : World) (hl : 300 < n) (hl2 : n ≤ 9223372036854775807) :
    Calls Tryz.prog 26 #[.pointer (some ⟨B, 0, none⟩), .slice a n cap] w fun e w' => e = .returned (.int .i64 2) ∧ w' = w := by
  have hl' : (300 : Int) < n := by omega
  go_enter Tryz.func26, Tryz.ntmps26
  go_wp2
  go_ret
  exact ⟨rfl, rfl⟩
set_option maxRecDepth 20000 in
set_option maxHeartbeats 400000 in
theorem STot_any (s : DS) (B : Nat) (w : World) (hs : s.ok) (hS : StAt w B s) (hn : s.n < 1152921504606846976) :
    Calls Tryz.prog 23 #[.pointer (some ⟨B, 0, none⟩)] w fun e w' => e = .returned (.string (toS (sumD s))) ∧ Below w.heap.size w w' := by
  go_enter Tryz.func23, Tryz.ntmps23
  go_wp2_with fail
  refine (Sum_any s B _ hs hS hn).mono ?_
  rintro e w3 ⟨rfl, hB4⟩
  have hz3 := hB4.size
  have hil := sumD_len s
  generalize hin : sumD s = inn at *
  have Hin := hid hin
  clear hin
  have hi5 : ((w3.alloc (.cells (ints .u8 Z32) 96)).setRow w3.heap.size (ints .u8 inn)).heap[w3.heap.size]? = some (.cells (ints .u8 inn) 96 (0, 0)) := setRow_heap _ _ _ _ _ _ (al_new _ _)
  have hb5 : Byt ((w3.alloc (.cells (ints .u8 Z32) 96)).setRow w3.heap.size (ints .u8 inn)) (.slice (some ⟨w3.heap.size, 0, none⟩) 32 32) inn := by have := byt_block hi5 32; rw [hil] at this; exact this
  have hB5 : Below w.heap.size w ((w3.alloc (.cells (ints .u8 Z32) 96)).setRow w3.heap.size (ints .u8 inn)) := below_setRow (hB4.alloc (by omega) _) _ (by omega) _
  have Hb5 := hid hb5
  clear hb5 hi5 hB4
  go_wp2_with (first
    | refine wpList_alloc_eq rfl 96 rfl (ints .u8 Z32) Tryz.alloc96 ?_
    | refine wpList_store_row rfl 96 _ _ rfl w3.heap.size (ints .u8 inn) rfl rfl 96 (ints .u8 Z32) (al_new _ _) (by rw [ints_size, hil]; exact Tryz.info96) (by rw [ints_size, ints_size, hil]; rfl) (ints_one _ _) ?_
    | refine wpList_str rfl _ rfl _ inn rfl Hb5.out ?_)
  go_ret
  exact ⟨by rw [Hin.out]; rfl, hB5⟩
def pickI (c n : Int) : Int := (if c < 0 then -(c + 1) else c) % n
theorem pickI_bd (c n : Int) (hn : 0 < n) : 0 ≤ pickI c n ∧ pickI c n < n := ⟨Int.emod_nonneg _ (by omega), Int.emod_lt_of_pos _ hn⟩
end Go.Proofs.YtbifmhbkmnofiaaGreat
