import Derived.Test.YtbifmhbkmnofiaaGl
import Derived.Test.YtbifmhbkmnofiaaRi
namespace Go.Proofs.Ytbifmhbkmnofiaa
open Go.RowKit
set_option linter.unusedVariables false
set_option linter.unusedSimpArgs false
/-- a generator of one of the two kinds -/
inductive Gen where
  | m (g : MG)
  | s (g : SG)
def Gen.ok : Gen → Prop
  | .m g => g.ok
  | .s g => g.ok
def Gen.kind : Gen → TypeId
  | .m _ => 112
  | .s _ => 115
def GenAt (w : World) (B : Nat) : Gen → Prop
  | .m g => MgAt w B g
  | .s g => SgAt w B g
theorem GenAt.lt {w : World} {B : Nat} {g : Gen} (h : GenAt w B g) : B < w.heap.size := by
  cases g with
  | m g => exact MgAt.lt h
  | s g => exact SgAt.lt h
theorem GenAt.other {w w' : World} {B : Nat} {g : Gen} (h : GenAt w B g) (he : w'.heap[B]? = w.heap[B]?) : GenAt w' B g := by
  cases g with
  | m g => exact MgAt.other h he
  | s g => exact SgAt.other h he
def MG0 : MG := ⟨Z32, Z32⟩
def SG0 : SG := ⟨zeros 55, zeros 55⟩
theorem MG0_ok : MG0.ok := mk_ok (by rfl) (by rfl)
theorem zeros_B' (n : Nat) : allB (zeros n) := by
  intro x hx
  have : x = 0 := List.eq_of_mem_replicate hx
  subst this; omega
theorem SG0_ok : SG0.ok := ⟨by rfl, by rfl, zeros_B' _, zeros_B' _⟩
set_option maxRecDepth 20000 in
set_option maxHeartbeats 400000 in
theorem unseeded_m (w : World) : Calls Try.prog 42 #[.int .i64 1] w fun e w' => e = .returned (.iface 112 (.pointer (some ⟨w.heap.size, 0, none⟩))) ∧ MgAt w' w.heap.size MG0 ∧ Below w.heap.size w w' := by
  go_enter Try.func42, Try.ntmps42
  go_wp2_with (refine wpList_build_eq rfl 114 _ rfl (ints .u8 (Z32 ++ Z32)) (by kernel_rfl) ?_)
  go_ret
  exact ⟨rfl, MgAt.of_row (al_new _ _), (Below.refl _ _).alloc (Nat.le_refl _) _⟩
set_option maxRecDepth 20000 in
set_option maxHeartbeats 400000 in
theorem unseeded_s (w : World) : Calls Try.prog 42 #[.int .i64 2] w fun e w' => e = .returned (.iface 115 (.pointer (some ⟨w.heap.size, 0, none⟩))) ∧ SgAt w' w.heap.size SG0 ∧ Below w.heap.size w w' := by
  go_enter Try.func42, Try.ntmps42
  go_wp2_with (refine wpList_build_eq rfl 119 _ rfl (ints .u8 (zeros 55 ++ zeros 55)) (by kernel_rfl) ?_)
  go_ret
  refine ⟨rfl, ⟨119, (al_new _ _).trans ?_⟩, (Below.refl _ _).alloc (Nat.le_refl _) _⟩
  simp [ints, SG0]
set_option maxHeartbeats 400000 in
theorem unseeded_no (k : Int) (w : World) (h1 : k ≠ 1) (h2 : k ≠ 2) : Calls Try.prog 42 #[.int .i64 k] w fun e w' => e = .returned .nilIface ∧ w' = w := by
  go_enter Try.func42, Try.ntmps42
  go_wp2
  go_ret
  exact ⟨rfl, rfl⟩
/-- is entropy as long as a seeding wants it? -/
def may (s : ByteArray) : Bool := decide (16 ≤ s.size ∧ s.size ≤ 64)
set_option maxHeartbeats 400000 in
theorem maySeed_any (s : ByteArray) (w : World) (hs : s.size ≤ 9223372036854775807) : Calls Try.prog 43 #[.string s] w fun e w' => e = .returned (.bool (may s)) ∧ w' = w := by
  by_cases h1 : 16 ≤ s.size
  · have h1' : (16 : Int) ≤ s.size := by omega
    by_cases h2 : s.size ≤ 64
    · have h2' : (s.size : Int) ≤ 64 := by omega
      have hd := hid (show may s = true from decide_eq_true ⟨h1, h2⟩)
      go_enter Try.func43, Try.ntmps43
      go_wp2
      go_ret
      exact ⟨by rw [hd.out]; rfl, rfl⟩
    · have h2' : ¬ (s.size : Int) ≤ 64 := by omega
      have hd := hid (show may s = false from decide_eq_false (fun h => h2 h.2))
      go_enter Try.func43, Try.ntmps43
      go_wp2
      go_ret
      exact ⟨by rw [hd.out]; rfl, rfl⟩
  · have h1' : ¬ (16 : Int) ≤ s.size := by omega
    have hd := hid (show may s = false from decide_eq_false (fun h => h1 h.1))
    go_enter Try.func43, Try.ntmps43
    go_wp2
    go_ret
    exact ⟨by rw [hd.out]; rfl, rfl⟩
/-- all but two blocks is as it was -/
structure Ex2 (A B : Nat) (w w' : World) : Prop where
  os : w'.os = w.os
  tape : w'.tape = w.tape
  output : w'.output = w.output
  size : w.heap.size ≤ w'.heap.size
  block : ∀ k, k < w.heap.size → k ≠ A → k ≠ B → w'.heap[k]? = w.heap[k]?
theorem Ex2.refl (A B : Nat) (w : World) : Ex2 A B w w := ⟨rfl, rfl, rfl, Nat.le_refl _, fun _ _ _ _ => rfl⟩
theorem Ex2.trans {A B : Nat} {a b c : World} (h : Ex2 A B a b) (k : Ex2 A B b c) : Ex2 A B a c :=
  ⟨k.os.trans h.os, k.tape.trans h.tape, k.output.trans h.output, Nat.le_trans h.size k.size, fun i hi hA hB => (k.block i (Nat.lt_of_lt_of_le hi h.size) hA hB).trans (h.block i hi hA hB)⟩
theorem Ex2.of_below {A B : Nat} {w w' : World} (h : Below w.heap.size w w') : Ex2 A B w w' := ⟨h.os, h.tape, h.output, h.size, fun k hk _ _ => h.block k hk⟩
theorem Ex2.of_l {A B : Nat} {w w' : World} (h : Ex A w w') : Ex2 A B w w' := ⟨h.os, h.tape, h.output, h.size, fun k hk hA _ => h.block k hk hA⟩
theorem Ex2.of_r {A B : Nat} {w w' : World} (h : Ex B w w') : Ex2 A B w w' := ⟨h.os, h.tape, h.output, h.size, fun k hk _ hB => h.block k hk hB⟩
theorem Ex2.below {A B N : Nat} {w w' : World} (h : Ex2 A B w w') (h1 : N ≤ A) (h2 : N ≤ B) (h3 : N ≤ w.heap.size) : Below N w w' := ⟨h.os, h.tape, h.output, h.size, fun k hk => h.block k (by omega) (by omega) (by omega)⟩
theorem Ex2.drew {A B : Nat} {a w : World} (h : Ex2 A B a w) : Ex2 A B a w.drew := ⟨h.1, h.2, h.3, h.4, h.5⟩
/-- a source: its generator, how often it may still be read -/
structure Fnt where
  g : Gen
  r : Nat
structure FtAt (w : World) (A B : Nat) (f : Fnt) : Prop where
  cells : ∃ t, w.heap[A]? = some (.cells #[.iface f.g.kind (.pointer (some ⟨B, 0, none⟩)), .int .u64 (f.r : Int)] t (0, 0))
  gen : GenAt w B f.g
  ne : A ≠ B
  ok : f.g.ok
theorem FtAt.lt {w : World} {A B : Nat} {f : Fnt} (h : FtAt w A B f) : A < w.heap.size := by
  obtain ⟨t, h⟩ := h.cells
  exact (Array.getElem?_eq_some_iff.1 h).1
theorem FtAt.other {w w' : World} {A B : Nat} {f : Fnt} (h : FtAt w A B f) (h1 : w'.heap[A]? = w.heap[A]?) (h2 : w'.heap[B]? = w.heap[B]?) : FtAt w' A B f := by
  obtain ⟨t, hc⟩ := h.cells
  exact ⟨⟨t, h1.trans hc⟩, h.gen.other h2, h.ne, h.ok⟩
theorem FtAt.below {w w' : World} {A B : Nat} {f : Fnt} (h : FtAt w A B f) (hb : Below w.heap.size w w') : FtAt w' A B f :=
  h.other (hb.block A h.lt) (hb.block B h.gen.lt)
theorem FtAt.cell0 {w : World} {A B : Nat} {f : Fnt} (h : FtAt w A B f) : w.cell? ⟨A, 0, none⟩ = some (.iface f.g.kind (.pointer (some ⟨B, 0, none⟩))) := by
  obtain ⟨t, h⟩ := h.cells
  rw [cell_of_row w A 0 _ t _ h]; rfl
theorem FtAt.cell1 {w : World} {A B : Nat} {f : Fnt} (h : FtAt w A B f) : w.cell? ⟨A, 1, none⟩ = some (.int .u64 (f.r : Int)) := by
  obtain ⟨t, h⟩ := h.cells
  rw [cell_of_row w A 1 _ t _ h]; rfl
theorem FtAt.frozen {w : World} {A B : Nat} {f : Fnt} (h : FtAt w A B f) (j : Nat) : w.frozen? ⟨A, j, none⟩ = false := by
  obtain ⟨t, h⟩ := h.cells
  simp [World.frozen?, h]
theorem FtAt.setR {w : World} {A B : Nat} {f : Fnt} (h : FtAt w A B f) (r : Nat) : FtAt (w.setCell ⟨A, 1, none⟩ (.int .u64 (r : Int))) A B ⟨f.g, r⟩ := by
  obtain ⟨t, hc⟩ := h.cells
  refine ⟨⟨t, ?_⟩, h.gen.other (Below.heap_setCell _ _ _ _ (by simpa using h.ne.symm)), h.ne, h.ok⟩
  simp only [World.setCell, Array.getElem?_modify, if_pos, hc, Option.map_some]
  rfl
def seedOf (k : Int) (xs : List Int) : Gen := if k = 1 then .m (seedG xs) else .s (beginS xs)
theorem seedOf_ok (k : Int) (xs : List Int) : (seedOf k xs).ok := by
  unfold seedOf
  split
  · exact seedG_ok xs
  · exact beginS_ok xs
theorem bts3 (a b c : ByteArray) : bts (a ++ b ++ c) = bts a ++ bts b ++ bts c := by rw [bts_append, bts_append]
theorem Try.mSeed1 (a : Option Addr) (w : World) : Sem.run Try.prog (method 258 112 (.pointer a) "Seed") w = .ok (81, .pointer a) w := by kernel_rfl
theorem Try.mSeed2 (a : Option Addr) (w : World) : Sem.run Try.prog (method 258 115 (.pointer a) "Seed") w = .ok (89, .pointer a) w := by kernel_rfl
theorem Try.mReseed1 (a : Option Addr) (w : World) : Sem.run Try.prog (method 258 112 (.pointer a) "Reseed") w = .ok (80, .pointer a) w := by kernel_rfl
theorem Try.mReseed2 (a : Option Addr) (w : World) : Sem.run Try.prog (method 258 115 (.pointer a) "Reseed") w = .ok (88, .pointer a) w := by kernel_rfl
theorem Try.mRead1 (a : Option Addr) (w : World) : Sem.run Try.prog (method 258 112 (.pointer a) "Read") w = .ok (79, .pointer a) w := by kernel_rfl
theorem Try.mRead2 (a : Option Addr) (w : World) : Sem.run Try.prog (method 258 115 (.pointer a) "Read") w = .ok (87, .pointer a) w := by kernel_rfl
set_option maxRecDepth 20000 in
set_option maxHeartbeats 1000000 in
theorem new_m (e n m : ByteArray) (w : World) (he : may e = true) (hn : n.size ≤ 64) (hm : m.size ≤ 64) :
    Calls Try.prog 20 #[.int .i64 1, .string e, .string n, .string m] w fun en w' => ∃ A B, en = .returned (.tuple #[.pointer (some ⟨A, 0, none⟩), .int .i64 0]) ∧ w.heap.size ≤ A ∧ w.heap.size ≤ B ∧ FtAt w' A B ⟨seedOf 1 (bts e ++ bts n ++ bts m), 1⟩ ∧ Below w.heap.size w w' := by
  have hes : 16 ≤ e.size ∧ e.size ≤ 64 := of_decide_eq_true he
  have hsz : (e ++ n ++ m).size ≤ 200 := by rw [ByteArray.size_append, ByteArray.size_append]; omega
  have hbt := hid (bts3 e n m)
  have hsd := hid (show seedOf 1 (bts e ++ bts n ++ bts m) = .m (seedG (bts e ++ bts n ++ bts m)) from by unfold seedOf; rw [if_pos rfl])
  have hme := Try.mSeed1
  go_enter Try.func20, Try.ntmps20
  go_wp2_with fail
  refine (unseeded_m _).mono ?_
  rintro en w1 ⟨rfl, hS1, hB1⟩
  go_wp2_with fail
  refine (maySeed_any e _ (by omega)).mono ?_
  rintro en w1' ⟨rfl, rfl⟩
  rw [he]
  have hn' : (n.size : Int) ≤ 64 := by omega
  have hm' : (m.size : Int) ≤ 64 := by omega
  go_wp2_with (refine wpList_bytes rfl _ rfl (e ++ n ++ m) rfl ?_; intro w2 cap hB2 hz2 hb2)
  have hz0 : w.heap.size < w1'.heap.size := hS1.lt
  have hbb : Byt w2 (.slice (some ⟨w1'.heap.size, 0, none⟩) (e.size + n.size + m.size) cap) (bts e ++ bts n ++ bts m) := by
    have := hb2.out
    rw [hbt.out, ByteArray.size_append, ByteArray.size_append] at this
    exact this
  have hS2 := hS1.other (hB2.block _ hS1.lt)
  refine (mseed_any MG0 _ _ _ _ MG0_ok hS2 hbb.src (by simp only [List.length_append, bts_len]; omega) (fun ad n' c h _ => by simp at h; rw [← h.1]; simp; omega)).mono ?_
  rintro en w3 ⟨rfl, hS3, hE3⟩
  have hB3 : Below w.heap.size w w3 := (hB1.trans (hB2.mono hB1.size)).trans (hE3.below (Nat.le_refl _) (by omega))
  have hlt3 := hS3.lt
  clear hS2 hbb hb2 hB2 hE3 hS1 hB1
  go_wp2_with (refine wpList_build_eq rfl 88 _ rfl #[.iface 112 (.pointer (some ⟨w.heap.size, 0, none⟩)), .int .u64 1] (by kernel_rfl) ?_)
  go_ret2
  refine ⟨w3.heap.size, w.heap.size, rfl, hB3.size, Nat.le_refl _, ?_, hB3.alloc hB3.size _⟩
  rw [hsd.out]
  exact ⟨⟨88, al_new _ _⟩, hS3.other (Below.heap_alloc _ _ _ hlt3), by omega, seedG_ok _⟩
set_option maxRecDepth 20000 in
set_option maxHeartbeats 1000000 in
theorem new_s (e n m : ByteArray) (w : World) (he : may e = true) (hn : n.size ≤ 64) (hm : m.size ≤ 64) :
    Calls Try.prog 20 #[.int .i64 2, .string e, .string n, .string m] w fun en w' => ∃ A B, en = .returned (.tuple #[.pointer (some ⟨A, 0, none⟩), .int .i64 0]) ∧ w.heap.size ≤ A ∧ w.heap.size ≤ B ∧ FtAt w' A B ⟨seedOf 2 (bts e ++ bts n ++ bts m), 1⟩ ∧ Below w.heap.size w w' := by
  have hes : 16 ≤ e.size ∧ e.size ≤ 64 := of_decide_eq_true he
  have hsz : (e ++ n ++ m).size ≤ 200 := by rw [ByteArray.size_append, ByteArray.size_append]; omega
  have hbt := hid (bts3 e n m)
  have hsd := hid (show seedOf 2 (bts e ++ bts n ++ bts m) = .s (beginS (bts e ++ bts n ++ bts m)) from by unfold seedOf; rw [if_neg (by decide)])
  have hme := Try.mSeed2
  go_enter Try.func20, Try.ntmps20
  go_wp2_with fail
  refine (unseeded_s _).mono ?_
  rintro en w1 ⟨rfl, hS1, hB1⟩
  go_wp2_with fail
  refine (maySeed_any e _ (by omega)).mono ?_
  rintro en w1' ⟨rfl, rfl⟩
  rw [he]
  have hn' : (n.size : Int) ≤ 64 := by omega
  have hm' : (m.size : Int) ≤ 64 := by omega
  go_wp2_with (refine wpList_bytes rfl _ rfl (e ++ n ++ m) rfl ?_; intro w2 cap hB2 hz2 hb2)
  have hz0 : w.heap.size < w1'.heap.size := hS1.lt
  have hbb : Byt w2 (.slice (some ⟨w1'.heap.size, 0, none⟩) (e.size + n.size + m.size) cap) (bts e ++ bts n ++ bts m) := by
    have := hb2.out
    rw [hbt.out, ByteArray.size_append, ByteArray.size_append] at this
    exact this
  have hS2 := hS1.other (hB2.block _ hS1.lt)
  refine (sseed_any SG0 _ _ _ _ SG0_ok hS2 hbb.src (by simp only [List.length_append, bts_len]; omega)).mono ?_
  rintro en w3 ⟨rfl, hS3, hE3⟩
  have hB3 : Below w.heap.size w w3 := (hB1.trans (hB2.mono hB1.size)).trans (hE3.below (Nat.le_refl _) (by omega))
  have hlt3 := hS3.lt
  clear hS2 hbb hb2 hB2 hE3 hS1 hB1
  go_wp2_with (refine wpList_build_eq rfl 88 _ rfl #[.iface 115 (.pointer (some ⟨w.heap.size, 0, none⟩)), .int .u64 1] (by kernel_rfl) ?_)
  go_ret2
  refine ⟨w3.heap.size, w.heap.size, rfl, hB3.size, Nat.le_refl _, ?_, hB3.alloc hB3.size _⟩
  rw [hsd.out]
  exact ⟨⟨88, al_new _ _⟩, hS3.other (Below.heap_alloc _ _ _ hlt3), by omega, beginS_ok _⟩
set_option maxHeartbeats 1000000 in
theorem new_kind (k : Int) (e n m : ByteArray) (w : World) (h1 : k ≠ 1) (h2 : k ≠ 2) :
    Calls Try.prog 20 #[.int .i64 k, .string e, .string n, .string m] w fun en w' => en = .returned (.tuple #[.pointer none, .int .i64 1]) ∧ w' = w := by
  go_enter Try.func20, Try.ntmps20
  go_wp2_with fail
  refine (unseeded_no k _ h1 h2).mono ?_
  rintro en w1 ⟨rfl, rfl⟩
  go_wp2
  go_ret2
  exact ⟨rfl, rfl⟩
set_option maxHeartbeats 1000000 in
/-- behind the kind: what is too short or too long -/
theorem new_arg (k : Int) (e n m : ByteArray) (w : World) (hk : k = 1 ∨ k = 2) (h : may e = false ∨ 64 < n.size ∨ 64 < m.size) (he : e.size ≤ 9223372036854775807) (hn : n.size ≤ 9223372036854775807) (hm : m.size ≤ 9223372036854775807) :
    Calls Try.prog 20 #[.int .i64 k, .string e, .string n, .string m] w fun en w' => en = .returned (.tuple #[.pointer none, .int .i64 2]) ∧ Below w.heap.size w w' := by
  go_enter Try.func20, Try.ntmps20
  go_wp2_with fail
  have hun : Calls Try.prog 42 #[.int .i64 k] w fun en w' => ∃ t, en = .returned (.iface t (.pointer (some ⟨w.heap.size, 0, none⟩))) ∧ Below w.heap.size w w' := by
    rcases hk with rfl | rfl
    · exact (unseeded_m w).mono fun en w' ⟨a, _, b⟩ => ⟨_, a, b⟩
    · exact (unseeded_s w).mono fun en w' ⟨a, _, b⟩ => ⟨_, a, b⟩
  refine hun.mono ?_
  rintro en w1 ⟨t, rfl, hB1⟩
  clear hun hk
  go_wp2_with fail
  refine (maySeed_any e _ he).mono ?_
  rintro en w1' ⟨rfl, rfl⟩
  cases hme : may e with
  | false =>
    go_wp2
    go_ret2
    exact ⟨rfl, hB1⟩
  | true =>
    rw [hme] at h
    by_cases h2 : 64 < n.size
    · have h2' : (64 : Int) < n.size := by omega
      clear h
      go_wp2
      go_ret2
      exact ⟨rfl, hB1⟩
    · have h2' : ¬ (64 : Int) < n.size := by omega
      have h3' : (64 : Int) < m.size := by
        rcases h with h | h | h
        · simp at h
        · omega
        · omega
      clear h
      go_wp2
      go_ret2
      exact ⟨rfl, hB1⟩
end Go.Proofs.Ytbifmhbkmnofiaa
