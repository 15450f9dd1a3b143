import Derived.Test.YtbifmhbkmnofiaaProg
import Derived.WalkKit
import Derived.WalkSpells
import Derived.WalkLawsBesides
import Derived.Deep.WholeRow
import Derived.Deep.MidRow
import Derived.Deep.QuietTactic
import Derived.BigQuiet
import Derived.Deep.RegionWith
import Derived.Deep.RegionHeld3
namespace Go.Proofs.Ytbifmhbkmnofiaa
open Go.RowKit
def ints (k : IntKind) (xs : List Int) : Array Value := (xs.map (Value.int k)).toArray
def Z64 : List Int := List.replicate 64 0
def Z32 : List Int := List.replicate 32 0
def Z8 : List Int := List.replicate 8 0
theorem ints_size (k : IntKind) (xs : List Int) : (ints k xs).size = xs.length := by simp [ints]
theorem ints_get (k : IntKind) (xs : List Int) (j : Nat) (h : j < xs.length) : (ints k xs)[j]? = some (.int k (xs.getD j 0)) := by
  simp [ints, List.getElem?_eq_getElem h]
theorem ints_set (k : IntKind) (xs : List Int) (j : Nat) (v : Int) : (ints k xs).setIfInBounds j (.int k v) = ints k (xs.set j v) := by
  simp [ints]
theorem Try.info129 : (Try.prog.info? 129).map (·.size) = some 64 := by kernel_rfl
theorem Try.info73 : (Try.prog.info? 73).map (·.size) = some 64 := by kernel_rfl
theorem Try.info72 : (Try.prog.info? 72).map (·.size) = some 8 := by kernel_rfl
theorem Try.info68 : (Try.prog.info? 68).map (·.size) = some 32 := by kernel_rfl
theorem Try.info76 : (Try.prog.info? 76).map (·.size) = some 73 := by kernel_rfl
theorem Try.alloc129 (w : World) : Sem.run Try.prog (Instr.alloc 129 true (Value.tuple #[])) w = .ok (.pointer (some ⟨w.heap.size, 0, none⟩)) (w.alloc (.cells (ints .u32 Z64) 129)) := by kernel_rfl
theorem Try.alloc72 (w : World) : Sem.run Try.prog (Instr.alloc 72 true (Value.tuple #[])) w = .ok (.pointer (some ⟨w.heap.size, 0, none⟩)) (w.alloc (.cells (ints .u32 Z8) 72)) := by kernel_rfl
theorem Try.alloc68 (w : World) : Sem.run Try.prog (Instr.alloc 68 true (Value.tuple #[])) w = .ok (.pointer (some ⟨w.heap.size, 0, none⟩)) (w.alloc (.cells (ints .u8 Z32) 68)) := by kernel_rfl
theorem asIntOf_i64 (P : Program) (n : Int) (w : World) : Sem.run P (asIntOf (Value.int IntKind.i64 n)) w = .ok (.i64, n) w := rfl
/-- the index operation on an array value -/
theorem index_ints (t : TypeId) (n : Nat) (e : TypeId) (k : IntKind) (xs : List Int) (j : Nat) (w : World) (hu : Try.prog.underlying t = some (.array n e)) (hl : xs.length = n) (hj : j < n) (ha : Sem.run Try.prog (isAgg e) w = .ok false w) (hs : Sem.run Try.prog (sizeOf e) w = .ok 1 w) :
    Sem.run Try.prog (Instr.index t (.agg (ints k xs)) (.int .i64 j)) w = .ok (.int k (xs[j]?.getD 0)) w := by
  have h1 : (0 : Int) ≤ j ∧ (j : Int) < n := by omega
  have h2 : (ints k xs)[j]? = some (.int k (xs[j]?.getD 0)) := by rw [ints_get k xs j (by omega)]; simp
  simp [Instr.index, Sem.run_bind, run_underlying hu, asIntOf_i64, h1, hs, part, ha, h2]
theorem Try.index73 (xs : List Int) (j : Nat) (w : World) (hl : xs.length = 64) (hj : j < 64) : Sem.run Try.prog (Instr.index 73 (.agg (ints .u8 xs)) (.int .i64 j)) w = .ok (.int .u8 (xs[j]?.getD 0)) w :=
  index_ints 73 64 5 .u8 xs j w Try.underlying73 hl hj (by kernel_rfl) (by kernel_rfl)
theorem Try.index72 (xs : List Int) (j : Nat) (w : World) (hl : xs.length = 8) (hj : j < 8) : Sem.run Try.prog (Instr.index 72 (.agg (ints .u32 xs)) (.int .i64 j)) w = .ok (.int .u32 (xs[j]?.getD 0)) w :=
  index_ints 72 8 71 .u32 xs j w Try.underlying72 hl hj (by kernel_rfl) (by kernel_rfl)
theorem Try.index129 (xs : List Int) (j : Nat) (w : World) (hl : xs.length = 64) (hj : j < 64) : Sem.run Try.prog (Instr.index 129 (.agg (ints .u32 xs)) (.int .i64 j)) w = .ok (.int .u32 (xs[j]?.getD 0)) w :=
  index_ints 129 64 71 .u32 xs j w Try.underlying129 hl hj (by kernel_rfl) (by kernel_rfl)
/-- a whole array out of a block -/
theorem loadAt_row (w : World) (b : Nat) (t ty : TypeId) (cs : Array Value) (fr : Nat × Nat) (d : TypeDesc) (hg : w.heap[b]? = some (.cells cs t fr)) (hu : Try.prog.underlying ty = some d) (hd : d.isRow = true) (hi : (Try.prog.info? ty).map (·.size) = some cs.size) :
    Sem.run Try.prog (Instr.loadAt ty (.pointer (some ⟨b, 0, none⟩))) w = .ok (.agg cs) w := by
  simp only [Instr.loadAt, Instr.sureAddr, Sem.run_bind, Sem.run_pure, Result.andThen_ok]
  exact run_loadVar_row w b t ty cs fr d hg hu (by cases d <;> simp_all) hi
theorem storeAt_row (w : World) (b : Nat) (t ty : TypeId) (cs cs' : Array Value) (hg : w.heap[b]? = some (.cells cs t (0, 0))) (hi : (Try.prog.info? ty).map (·.size) = some cs'.size) (ho : cs.size = cs'.size) (h1 : cs'.all (·.oneCell') = true) :
    Sem.run Try.prog (Instr.storeAt ty (.pointer (some ⟨b, 0, none⟩)) (.agg cs')) w = .ok () (w.setRow b cs') := by
  simp only [Instr.storeAt, Instr.sureAddr, Sem.run_bind, Sem.run_pure, Result.andThen_ok]
  exact run_storeVar_row w b t ty cs cs' hg hi ho h1
theorem ints_one (k : IntKind) (xs : List Int) : (ints k xs).all (·.oneCell') = true := by
  apply all_oneCell_toArray; intro v hv; simp at hv; obtain ⟨x, _, rfl⟩ := hv; rfl
end Go.Proofs.Ytbifmhbkmnofiaa
