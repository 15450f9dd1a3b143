import Derived.Test.YtbifmhbkmnofiaaDq
namespace Go.Proofs.Ytbifmhbkmnofiaa
open Go.RowKit
set_option linter.unusedVariables false
set_option linter.unusedSimpArgs false
set_option maxRecDepth 20000 in
set_option maxHeartbeats 400000 in
theorem NewSummer_any (w : World) : Calls Try.prog 14 #[] w fun e w' => ∃ B, e = .returned (.pointer (some ⟨B, 0, none⟩)) ∧ StAt w' B DSN ∧ w.heap.size ≤ B ∧ Below w.heap.size w w' := by
  go_enter Try.func14, Try.ntmps14
  go_wp2_with fail
  refine (New_any _).mono ?_
  rintro e w2 ⟨rfl, hB2⟩
  go_wp2_with (refine wpList_build_eq rfl 79 _ rfl DSN.cells.toArray (by kernel_rfl) ?_)
  go_ret
  exact ⟨w2.heap.size, rfl, ⟨79, al_new _ _⟩, hB2.size, hB2.alloc hB2.size _⟩
set_option maxHeartbeats 400000 in
theorem SAdd_yes (s : DS) (xs : List Int) (B : Nat) (v : Value) (w0 w : World) (hs : s.ok) (hS : StAt w B s) (hv : Byt w0 v xs) (hb : Below w0.heap.size w0 w) (hB : w0.heap.size ≤ B) (hn : s.n + xs.length < 4611686018427387904) (hl : xs.length ≤ 300) :
    Calls Try.prog 17 #[.pointer (some ⟨B, 0, none⟩), v] w fun e w' => e = .returned (.int .i64 0) ∧ StAt w' B (feed s xs) ∧ Ex B w w' := by
  have Hc := hid (Add_byt s xs B v w0 w hs hS hv hb hB hn)
  obtain ⟨a, cap, rfl, _⟩ := hv.form
  have hl' : (xs.length : Int) ≤ 300 := by omega
  clear hv hb
  go_enter Try.func17, Try.ntmps17
  go_wp2_with fail
  refine Hc.out.mono ?_
  rintro e w2 ⟨rfl, hS2, hE2⟩
  go_wp2
  go_ret
  exact ⟨rfl, hS2, hE2⟩
set_option maxHeartbeats 400000 in
theorem SAdd_no (B : Nat) (a : Option Addr) (n cap : Nat) (w : World) (hl : 300 < n) (hl2 : n ≤ 9223372036854775807) :
    Calls Try.prog 17 #[.pointer (some ⟨B, 0, none⟩), .slice a n cap] w fun e w' => e = .returned (.int .i64 2) ∧ w' = w := by
  have hl' : (300 : Int) < n := by omega
  go_enter Try.func17, Try.ntmps17
  go_wp2
  go_ret
  exact ⟨rfl, rfl⟩
set_option maxRecDepth 20000 in
set_option maxHeartbeats 400000 in
theorem STot_any (s : DS) (B : Nat) (w : World) (hs : s.ok) (hS : StAt w B s) (hn : s.n < 1152921504606846976) :
    Calls Try.prog 18 #[.pointer (some ⟨B, 0, none⟩)] w fun e w' => e = .returned (.string (toS (sumD s))) ∧ Below w.heap.size w w' := by
  go_enter Try.func18, Try.ntmps18
  go_wp2_with fail
  refine (Sum_any s B _ hs hS hn).mono ?_
  rintro e w3 ⟨rfl, hB4⟩
  have hz3 := hB4.size
  have hil := sumD_len s
  generalize hin : sumD s = inn at *
  have Hin := hid hin
  clear hin
  have hi5 : ((w3.alloc (.cells (ints .u8 Z32) 68)).setRow w3.heap.size (ints .u8 inn)).heap[w3.heap.size]? = some (.cells (ints .u8 inn) 68 (0, 0)) := setRow_heap _ _ _ _ _ _ (al_new _ _)
  have hb5 : Byt ((w3.alloc (.cells (ints .u8 Z32) 68)).setRow w3.heap.size (ints .u8 inn)) (.slice (some ⟨w3.heap.size, 0, none⟩) 32 32) inn := by have := byt_block hi5 32; rw [hil] at this; exact this
  have hB5 : Below w.heap.size w ((w3.alloc (.cells (ints .u8 Z32) 68)).setRow w3.heap.size (ints .u8 inn)) := below_setRow (hB4.alloc (by omega) _) _ (by omega) _
  have Hb5 := hid hb5
  clear hb5 hi5 hB4
  go_wp2_with (first
    | refine wpList_alloc_eq rfl 68 rfl (ints .u8 Z32) Try.alloc68 ?_
    | refine wpList_store_row rfl 68 _ _ rfl w3.heap.size (ints .u8 inn) rfl rfl 68 (ints .u8 Z32) (al_new _ _) (by rw [ints_size, hil]; exact Try.info68) (by rw [ints_size, ints_size, hil]; rfl) (ints_one _ _) ?_
    | refine wpList_str rfl _ rfl _ inn rfl Hb5.out ?_)
  go_ret
  exact ⟨by rw [Hin.out]; rfl, hB5⟩
def pickI (c n : Int) : Int := (if c < 0 then -(c + 1) else c) % n
theorem pickI_bd (c n : Int) (hn : 0 < n) : 0 ≤ pickI c n ∧ pickI c n < n := ⟨Int.emod_nonneg _ (by omega), Int.emod_lt_of_pos _ hn⟩
set_option maxHeartbeats 400000 in
theorem pick_any (c n : Int) (w : World) (hc : -9223372036854775808 ≤ c) (hc' : c ≤ 9223372036854775807) (hn : 0 < n) (hn' : n ≤ 9223372036854775807) :
    Calls Try.prog 16 #[.int .i64 c, .int .i64 n] w fun e w' => e = .returned (.int .i64 (pickI c n)) ∧ w' = w := by
  unfold pickI
  by_cases h : c < 0
  · rw [if_pos h]
    have h1 : (0 : Int) ≤ -(c + 1) := by omega
    go_enter Try.func16, Try.ntmps16
    go_wp2
    go_ret
    exact ⟨congrArg (fun z => Ending.returned (Value.int .i64 z)) (by rw [← Int.neg_tmod, Int.tmod_eq_emod_of_nonneg h1]), rfl⟩
  · rw [if_neg h]
    have h1 : (0 : Int) ≤ c := by omega
    go_enter Try.func16, Try.ntmps16
    go_wp2
    go_ret
    exact ⟨rfl, rfl⟩
end Go.Proofs.Ytbifmhbkmnofiaa
