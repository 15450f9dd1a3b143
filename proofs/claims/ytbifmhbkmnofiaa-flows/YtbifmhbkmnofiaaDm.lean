import Derived.Test.YtbifmhbkmnofiaaDl
import Derived.Lib.ConvBytes
import Derived.Laws.BytesString
namespace Go.Proofs.Ytbifmhbkmnofiaa
open Go.RowKit
set_option linter.unusedVariables false
set_option linter.unusedSimpArgs false
/-- a string's bytes; a string of bytes -/
def bts (s : ByteArray) : List Int := s.data.toList.map fun b => (b.toNat : Int)
def toS (xs : List Int) : ByteArray := ⟨(xs.map fun n => UInt8.ofNat n.toNat).toArray⟩
theorem bts_len (s : ByteArray) : (bts s).length = s.size := by simp [bts]
theorem toS_size (xs : List Int) : (toS xs).size = xs.length := by simp [toS, ByteArray.size]
theorem toS_foldl (xs : List Int) : xs.foldl (fun r n => r.push (UInt8.ofNat n.toNat)) ByteArray.empty = toS xs := by
  have h : ∀ (l : List Int) (r : ByteArray), l.foldl (fun r n => r.push (UInt8.ofNat n.toNat)) r = ⟨r.data ++ (l.map fun n => UInt8.ofNat n.toNat).toArray⟩ := by
    intro l
    induction l with
    | nil => intro r; simp
    | cons n l ih => intro r; rw [List.foldl_cons, ih]; simp [ByteArray.push]
  have he0 : ByteArray.empty.data = #[] := rfl
  rw [h, he0]; simp [toS]
def allB (xs : List Int) : Prop := ∀ x ∈ xs, 0 ≤ x ∧ x < 256
theorem bts_B (s : ByteArray) : allB (bts s) := by
  intro x hx
  simp only [bts, List.mem_map] at hx
  obtain ⟨b, _, rfl⟩ := hx
  have := b.toNat_lt
  omega
theorem bts_toS (xs : List Int) (h : allB xs) : bts (toS xs) = xs := by
  unfold bts toS
  simp only [List.map_map, List.toList_toArray]
  conv => rhs; rw [← List.map_id xs]
  apply List.map_congr_left
  intro x hx
  have := h x hx
  simp only [Function.comp, id]
  rw [UInt8.toNat_ofNat']
  omega
theorem toS_bts (s : ByteArray) : toS (bts s) = s := by
  unfold bts toS
  rw [List.map_map]
  have : ((fun n : Int => UInt8.ofNat n.toNat) ∘ fun b : UInt8 => (b.toNat : Int)) = id := by
    funext b; simp
  rw [this]; simp
theorem bytesW_below (w : World) (e : TypeId) (s : ByteArray) : Below w.heap.size w (Lib.bytesWorld w e s) :=
  ⟨rfl, rfl, rfl, by rw [Lib.bytesWorld_size]; omega, fun k hk => Lib.bytesWorld_at_old w e s k hk⟩
theorem bytesW_byt (w : World) (e : TypeId) (s : ByteArray) (cap : Nat) : Byt (Lib.bytesWorld w e s) (.slice (some ⟨w.heap.size, 0, none⟩) s.size cap) (bts s) := by
  refine Or.inr ⟨w.heap.size, 0, cap, by rw [bts_len], fun j hj => ?_⟩
  rw [bts_len] at hj
  rw [Nat.zero_add, Lib.bytesWorld_cell w e s j hj]
  simp [bts, hj, List.getD]
theorem wpList_bytes {ops : Array Oper} {rest : List Oper} {o : Oper} {a : Act} {w : World} {Q : Exit → Act → World → Prop} (hgd : o.guard = none) (x : Operand) (ho : o.op = .convert 9 35 x) (s : ByteArray) (hx : a.eval x = .string s)
    (h : ∀ w' cap, Below w.heap.size w w' → w'.heap.size = w.heap.size + 1 → Hd (Byt w' (.slice (some ⟨w.heap.size, 0, none⟩) s.size cap) (bts s)) → wpList Try.prog ops Q rest (a.put o.dst (.slice (some ⟨w.heap.size, 0, none⟩) s.size cap)) w') : wpList Try.prog ops Q (o :: rest) a w :=
  wpList_plain hgd fun _ hK => by
    unfold Oper.wp execOp
    simp only [ho, hx, Sem.run_bind, Lib.run_convert_string_bytes w 9 35 5 s Try.underlying9 Try.underlying35 Try.underlying5, Result.andThen_ok, Sem.run_pure]
    exact hK _ _ (h _ _ (bytesW_below w 5 s) (Lib.bytesWorld_size w 5 s) ⟨bytesW_byt w 5 s _⟩)
theorem loadCells_byt {w : World} {a : Addr} {n cap : Nat} {xs : List Int} (h : Byt w (.slice (some a) n cap) xs) : (loadCells a n).run Try.prog w = .ok (xs.map (Value.int .u8)).toArray w := by
  rcases h with ⟨rfl, a', cap', h⟩ | ⟨db, off, cap', h, hc⟩
  · simp only [Value.slice.injEq] at h
    obtain ⟨rfl, rfl, rfl⟩ := h
    exact run_loadCells_list (P := Try.prog) w a [] (fun j v hv => by simp at hv)
  · simp only [Value.slice.injEq, Option.some.injEq] at h
    obtain ⟨rfl, rfl, rfl⟩ := h
    have := run_loadCells_list (P := Try.prog) w ⟨db, off, none⟩ (xs.map (Value.int .u8)) (fun j v hv => by
      have hj : j < xs.length := by simpa using (List.getElem?_eq_some_iff.1 hv).1
      rw [Addr.add_mid, hc j hj, ← hv]; simp [List.getElem?_eq_getElem hj])
    simpa using this
theorem run_str {w : World} {v : Value} {xs : List Int} (h : Byt w v xs) : (convert 35 9 v).run Try.prog w = .ok (.string (toS xs)) w := by
  obtain ⟨a, cap, rfl, _⟩ := h.form
  rw [run_convert_bytes_string w 35 9 5 a _ cap Try.underlying35 Try.underlying5 Try.underlying9]
  cases a with
  | none =>
    have h0 : xs = [] := by
      rcases h with ⟨rfl, _⟩ | ⟨db, off, cap', h, hc⟩
      · rfl
      · simp at h
    subst h0
    rfl
  | some a =>
    rw [run_bytesToString w a _ cap xs (loadCells_byt h), toS_foldl]
theorem wpList_str {ops : Array Oper} {rest : List Oper} {o : Oper} {a : Act} {w : World} {Q : Exit → Act → World → Prop} (hgd : o.guard = none) (x : Operand) (ho : o.op = .convert 35 9 x) (v : Value) (xs : List Int) (hx : a.eval x = v) (hb : Byt w v xs)
    (h : wpList Try.prog ops Q rest (a.put o.dst (.string (toS xs))) w) : wpList Try.prog ops Q (o :: rest) a w :=
  wpList_plain hgd fun _ hK => by
    unfold Oper.wp execOp
    simp only [ho, hx, Sem.run_bind, run_str hb, Result.andThen_ok, Sem.run_pure]
    exact hK _ _ h
set_option maxRecDepth 20000 in
set_option maxHeartbeats 400000 in
theorem SSum_yes (s : ByteArray) (w : World) (hs : s.size ≤ 300) :
    Calls Try.prog 11 #[.string s] w fun e w' => e = .returned (.tuple #[.string (toS (shaI (bts s))), .int .i64 0]) ∧ Below w.heap.size w w' := by
  go_enter Try.func11, Try.ntmps11
  go_wp2_with (refine wpList_bytes rfl _ rfl s rfl ?_; intro w2 cap hB2 hz2 hb2)
  refine (DSum_any _ _ _ hb2.out (by rw [bts_len]; omega)).mono ?_
  rintro e w3 ⟨rfl, hB3⟩
  have hB4 := hB2.trans (hB3.mono (by omega))
  have hz3 := hB3.size
  clear hB2 hB3 hb2
  have hil := shaI_len (bts s)
  generalize hin : shaI (bts s) = inn at *
  have Hin := hid hin
  clear hin
  have hi5 : ((w3.alloc (.cells (ints .u8 Z32) 68)).setRow w3.heap.size (ints .u8 inn)).heap[w3.heap.size]? = some (.cells (ints .u8 inn) 68 (0, 0)) := setRow_heap _ _ _ _ _ _ (al_new _ _)
  have hb5 : Byt ((w3.alloc (.cells (ints .u8 Z32) 68)).setRow w3.heap.size (ints .u8 inn)) (.slice (some ⟨w3.heap.size, 0, none⟩) 32 32) inn := by have := byt_block hi5 32; rw [hil] at this; exact this
  have hB5 : Below w.heap.size w ((w3.alloc (.cells (ints .u8 Z32) 68)).setRow w3.heap.size (ints .u8 inn)) := below_setRow (hB4.alloc (by omega) _) _ (by omega) _
  have Hb5 := hid hb5
  clear hb5 hi5 hB4
  go_wp2_with (first
    | refine wpList_alloc_eq rfl 68 rfl (ints .u8 Z32) Try.alloc68 ?_
    | refine wpList_store_row rfl 68 _ _ rfl w3.heap.size (ints .u8 inn) rfl rfl 68 (ints .u8 Z32) (al_new _ _) (by rw [ints_size, hil]; exact Try.info68) (by rw [ints_size, ints_size, hil]; rfl) (ints_one _ _) ?_
    | refine wpList_str rfl _ rfl _ inn rfl Hb5.out ?_)
  go_ret2
  exact ⟨by rw [Hin.out]; rfl, hB5⟩
set_option maxHeartbeats 400000 in
theorem SSum_no (s : ByteArray) (w : World) (hs : 300 < s.size) :
    Calls Try.prog 11 #[.string s] w fun e w' => e = .returned (.tuple #[.string ⟨#[]⟩, .int .i64 2]) ∧ w' = w := by
  go_enter Try.func11, Try.ntmps11
  go_wp2
  go_ret2
  exact ⟨rfl, rfl⟩
set_option maxRecDepth 20000 in
set_option maxHeartbeats 400000 in
theorem SMac_yes (k s : ByteArray) (w : World) (hk : k.size ≤ 300) (hs : s.size ≤ 300) :
    Calls Try.prog 12 #[.string k, .string s] w fun e w' => e = .returned (.tuple #[.string (toS (macI (bts k) (bts s))), .int .i64 0]) ∧ Below w.heap.size w w' := by
  have hk' : (k.size : Int) ≤ 300 := by omega
  have hs' : (s.size : Int) ≤ 300 := by omega
  go_enter Try.func12, Try.ntmps12
  go_wp2_with (first
    | (refine wpList_bytes rfl (.tmp 15) rfl k rfl ?_; intro w1 cap1 hB1 hz1 hb1)
    | (refine wpList_bytes rfl (.tmp 17) rfl s rfl ?_; intro w2 cap hB2 hz2 hb2))
  have hbs : Byt w2 (.slice (some ⟨w.heap.size + 1, 0, none⟩) s.size cap) (bts s) := by rw [← hz1]; exact hb2.out
  have hbk : Byt w2 (.slice (some ⟨w.heap.size, 0, none⟩) k.size cap1) (bts k) := hb1.out.mono hB2
  refine (DMac_any _ _ _ _ _ hbk hbs (by rw [bts_len]; omega) (by rw [bts_len]; omega)).mono ?_
  rintro e w3 ⟨rfl, hB3⟩
  have hB4 := (hB1.trans (hB2.mono (by omega))).trans (hB3.mono (by omega))
  have hz3 := hB3.size
  clear hB1 hB2 hB3 hb2 hb1 hbs hbk
  have hil := macI_len (bts k) (bts s)
  generalize hin : macI (bts k) (bts s) = inn at *
  have Hin := hid hin
  clear hin
  have hi5 : ((w3.alloc (.cells (ints .u8 Z32) 68)).setRow w3.heap.size (ints .u8 inn)).heap[w3.heap.size]? = some (.cells (ints .u8 inn) 68 (0, 0)) := setRow_heap _ _ _ _ _ _ (al_new _ _)
  have hb5 : Byt ((w3.alloc (.cells (ints .u8 Z32) 68)).setRow w3.heap.size (ints .u8 inn)) (.slice (some ⟨w3.heap.size, 0, none⟩) 32 32) inn := by have := byt_block hi5 32; rw [hil] at this; exact this
  have hB5 : Below w.heap.size w ((w3.alloc (.cells (ints .u8 Z32) 68)).setRow w3.heap.size (ints .u8 inn)) := below_setRow (hB4.alloc (by omega) _) _ (by omega) _
  have Hb5 := hid hb5
  clear hb5 hi5 hB4
  go_wp2_with (first
    | refine wpList_alloc_eq rfl 68 rfl (ints .u8 Z32) Try.alloc68 ?_
    | refine wpList_store_row rfl 68 _ _ rfl w3.heap.size (ints .u8 inn) rfl rfl 68 (ints .u8 Z32) (al_new _ _) (by rw [ints_size, hil]; exact Try.info68) (by rw [ints_size, ints_size, hil]; rfl) (ints_one _ _) ?_
    | refine wpList_str rfl _ rfl _ inn rfl Hb5.out ?_)
  go_ret2
  exact ⟨by rw [Hin.out]; rfl, hB5⟩
set_option maxHeartbeats 400000 in
theorem SMac_no (k s : ByteArray) (w : World) (hs : 300 < k.size ∨ 300 < s.size) :
    Calls Try.prog 12 #[.string k, .string s] w fun e w' => e = .returned (.tuple #[.string ⟨#[]⟩, .int .i64 2]) ∧ w' = w := by
  by_cases hk : 300 < k.size
  · have hk' : (300 : Int) < k.size := by omega
    go_enter Try.func12, Try.ntmps12
    go_wp2
    go_ret2
    exact ⟨rfl, rfl⟩
  · have hk' : (k.size : Int) ≤ 300 := by omega
    have hs' : (300 : Int) < s.size := by omega
    clear hs hk
    go_enter Try.func12, Try.ntmps12
    go_wp2
    go_ret2
    exact ⟨rfl, rfl⟩
end Go.Proofs.Ytbifmhbkmnofiaa
