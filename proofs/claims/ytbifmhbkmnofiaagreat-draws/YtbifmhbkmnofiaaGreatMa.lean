import Derived.Test.YtbifmhbkmnofiaaGreatProg
import Derived.WalkKit
import Derived.WalkSpells
import Derived.WalkLawsBesides
import Derived.Deep.WholeRow
import Derived.Deep.MidRow
import Derived.Deep.QuietTactic
import Derived.BigQuiet
import Derived.Deep.RegionWith
import Derived.Deep.RegionHeld3
namespace Go.Proofs.YtbifmhbkmnofiaaGreat
open Go.RowKit
def ints (k : IntKind) (xs : List Int) : Array Value := (xs.map (Value.int k)).toArray
def Z64 : List Int := List.replicate 64 0
def Z32 : List Int := List.replicate 32 0
def Z8 : List Int := List.replicate 8 0
theorem ints_size (k : IntKind) (xs : List Int) : (ints k xs).size = xs.length := by simp [ints]
theorem ints_get (k : IntKind) (xs : List Int) (j : Nat) (h : j < xs.length) : (ints k xs)[j]? = some (.int k (xs.getD j 0)) := by
  simp [ints, List.getElem?_eq_getElem h]
theorem ints_set (k : IntKind) (xs : List Int) (j : Nat) (v : Int) : (ints k xs).setIfInBounds j (.int k v) = ints k (xs.set j v) := by
  simp [ints]
theorem Tryz.info171 : (Tryz.prog.info? 171).map (·.size) = some 64 := by kernel_rfl
theorem Tryz.info102 : (Tryz.prog.info? 102).map (·.size) = some 64 := by kernel_rfl
theorem Tryz.info101 : (Tryz.prog.info? 101).map (·.size) = some 8 := by kernel_rfl
theorem Tryz.info96 : (Tryz.prog.info? 96).map (·.size) = some 32 := by kernel_rfl
theorem Tryz.info105 : (Tryz.prog.info? 105).map (·.size) = some 73 := by kernel_rfl
theorem Tryz.alloc171 (w : World) : Sem.run Tryz.prog (Instr.alloc 171 true (Value.tuple #[])) w = .ok (.pointer (some ⟨w.heap.size, 0, none⟩)) (w.alloc (.cells (ints .u32 Z64) 171)) := by kernel_rfl
theorem Tryz.alloc101 (w : World) : Sem.run Tryz.prog (Instr.alloc 101 true (Value.tuple #[])) w = .ok (.pointer (some ⟨w.heap.size, 0, none⟩)) (w.alloc (.cells (ints .u32 Z8) 101)) := by kernel_rfl
theorem Tryz.alloc96 (w : World) : Sem.run Tryz.prog (Instr.alloc 96 true (Value.tuple #[])) w = .ok (.pointer (some ⟨w.heap.size, 0, none⟩)) (w.alloc (.cells (ints .u8 Z32) 96)) := by kernel_rfl
theorem asIntOf_i64 (P : Program) (n : Int) (w : World) : Sem.run P (asIntOf (Value.int IntKind.i64 n)) w = .ok (.i64, n) w := rfl
/-- the index operation on an array value -/
theorem index_ints (t : TypeId) (n : Nat) (e : TypeId) (k : IntKind) (xs : List Int) (j : Nat) (w : World) (hu : Tryz.prog.underlying t = some (.array n e)) (hl : xs.length = n) (hj : j < n) (ha : Sem.run Tryz.prog (isAgg e) w = .ok false w) (hs : Sem.run Tryz.prog (sizeOf e) w = .ok 1 w) :
    Sem.run Tryz.prog (Instr.index t (.agg (ints k xs)) (.int .i64 j)) w = .ok (.int k (xs[j]?.getD 0)) w := by
  have h1 : (0 : Int) ≤ j ∧ (j : Int) < n := by omega
  have h2 : (ints k xs)[j]? = some (.int k (xs[j]?.getD 0)) := by rw [ints_get k xs j (by omega)]; simp
  simp [Instr.index, Sem.run_bind, run_underlying hu, asIntOf_i64, h1, hs, part, ha, h2]
theorem Tryz.index102 (xs : List Int) (j : Nat) (w : World) (hl : xs.length = 64) (hj : j < 64) : Sem.run Tryz.prog (Instr.index 102 (.agg (ints .u8 xs)) (.int .i64 j)) w = .ok (.int .u8 (xs[j]?.getD 0)) w :=
  index_ints 102 64 5 .u8 xs j w Tryz.underlying102 hl hj (by kernel_rfl) (by kernel_rfl)
theorem Tryz.index101 (xs : List Int) (j : Nat) (w : World) (hl : xs.length = 8) (hj : j < 8) : Sem.run Tryz.prog (Instr.index 101 (.agg (ints .u32 xs)) (.int .i64 j)) w = .ok (.int .u32 (xs[j]?.getD 0)) w :=
  index_ints 101 8 100 .u32 xs j w Tryz.underlying101 hl hj (by kernel_rfl) (by kernel_rfl)
theorem Tryz.index171 (xs : List Int) (j : Nat) (w : World) (hl : xs.length = 64) (hj : j < 64) : Sem.run Tryz.prog (Instr.index 171 (.agg (ints .u32 xs)) (.int .i64 j)) w = .ok (.int .u32 (xs[j]?.getD 0)) w :=
  index_ints 171 64 100 .u32 xs j w Tryz.underlying171 hl hj (by kernel_rfl) (by kernel_rfl)
/-- a whole array out of a block -/
theorem loadAt_row (w : World) (b : Nat) (t ty : TypeId) (cs : Array Value) (fr : Nat × Nat) (d : TypeDesc) (hg : w.heap[b]? = some (.cells cs t fr)) (hu : Tryz.prog.underlying ty = some d) (hd : d.isRow = true) (hi : (Tryz.prog.info? ty).map (·.size) = some cs.size) :
    Sem.run Tryz.prog (Instr.loadAt ty (.pointer (some ⟨b, 0, none⟩))) w = .ok (.agg cs) w := by
  simp only [Instr.loadAt, Instr.sureAddr, Sem.run_bind, Sem.run_pure, Result.andThen_ok]
  exact run_loadVar_row w b t ty cs fr d hg hu (by cases d <;> simp_all) hi
theorem storeAt_row (w : World) (b : Nat) (t ty : TypeId) (cs cs' : Array Value) (hg : w.heap[b]? = some (.cells cs t (0, 0))) (hi : (Tryz.prog.info? ty).map (·.size) = some cs'.size) (ho : cs.size = cs'.size) (h1 : cs'.all (·.oneCell') = true) :
    Sem.run Tryz.prog (Instr.storeAt ty (.pointer (some ⟨b, 0, none⟩)) (.agg cs')) w = .ok () (w.setRow b cs') := by
  simp only [Instr.storeAt, Instr.sureAddr, Sem.run_bind, Sem.run_pure, Result.andThen_ok]
  exact run_storeVar_row w b t ty cs cs' hg hi ho h1
theorem ints_one (k : IntKind) (xs : List Int) : (ints k xs).all (·.oneCell') = true := by
  apply all_oneCell_toArray; intro v hv; simp at hv; obtain ⟨x, _, rfl⟩ := hv; rfl
end Go.Proofs.YtbifmhbkmnofiaaGreat
namespace Go.Proofs.YtbifmhbkmnofiaaGreat
open Go.RowKit
set_option linter.unusedVariables false
theorem wpList_alloc_eq {ops : Array Oper} {rest : List Oper} {o : Oper} {a : Act} {w : World} {Q : Exit → Act → World → Prop} (hgd : o.guard = none) (t : TypeId) (ho : o.op = .alloc t) (cs : Array Value)
    (hz : ∀ w, Sem.run Tryz.prog (Instr.alloc t true (Value.tuple #[])) w = .ok (.pointer (some ⟨w.heap.size, 0, none⟩)) (w.alloc (.cells cs t)))
    (h : wpList Tryz.prog ops Q rest (a.put o.dst (.pointer (some ⟨w.heap.size, 0, none⟩))) (w.alloc (.cells cs t))) : wpList Tryz.prog ops Q (o :: rest) a w :=
  wpList_plain hgd fun _ hK => by
    unfold Oper.wp execOp
    simp only [ho, Sem.run_bind, hz, Result.andThen_ok, Sem.run_pure]
    exact hK _ _ h
/-- a fact kept from the walk, also from comparing by unfolding -/
structure Hd (p : Prop) : Prop where
  out : p
theorem hid {p : Prop} (h : p) : Hd p := ⟨h⟩
theorem al_new (w : World) (o : Obj) : (w.alloc o).heap[w.heap.size]? = some o := heap_alloc_last w o
theorem al_old (w : World) (o o' : Obj) (k : Nat) (h : w.heap[k]? = some o') : (w.alloc o).heap[k]? = some o' := by
  have hk : k < w.heap.size := (Array.getElem?_eq_some_iff.1 h).1
  rw [Below.heap_alloc _ _ _ hk, h]
theorem al_size (w : World) (o : Obj) : (w.alloc o).heap.size = w.heap.size + 1 := by simp
theorem al2_1 (w : World) (o1 o2 : Obj) : ((w.alloc o1).alloc o2).heap[w.heap.size]? = some o1 := al_old _ _ _ _ (al_new _ _)
theorem al2_2 (w : World) (o1 o2 : Obj) : ((w.alloc o1).alloc o2).heap[w.heap.size + 1]? = some o2 := by
  rw [← al_size w o1]; exact al_new _ _
theorem al3_1 (w : World) (o1 o2 o3 : Obj) : (((w.alloc o1).alloc o2).alloc o3).heap[w.heap.size]? = some o1 := al_old _ _ _ _ (al2_1 _ _ _)
theorem al3_2 (w : World) (o1 o2 o3 : Obj) : (((w.alloc o1).alloc o2).alloc o3).heap[w.heap.size + 1]? = some o2 := al_old _ _ _ _ (al2_2 _ _ _)
theorem al3_3 (w : World) (o1 o2 o3 : Obj) : (((w.alloc o1).alloc o2).alloc o3).heap[w.heap.size + 1 + 1]? = some o3 := by
  rw [← al_size w o1, ← al_size (w.alloc o1) o2]; exact al_new _ _
theorem two_blocks (w : World) (o1 o2 o3 : Obj) : (((w.alloc o1).alloc o2).alloc o3).heap[w.heap.size]? = some o1 := by
  rw [Below.heap_alloc _ _ _ (by simp; omega), Below.heap_alloc _ _ _ (by simp)]; exact heap_alloc_last w o1
def rotI (x n : Int) : Int := bits .or .u32 (x * 2 ^ (32 - n).toNat % 4294967296) (x / 2 ^ n.toNat)

theorem k_and (n : Int) (h : 1 ≤ n) (h' : n ≤ 31) : bits BinOp.and IntKind.u64 (IntKind.u64.wrap (-n)) 31 = 32 - n := by
  have h1 : n = 1 ∨ n = 2 ∨ n = 3 ∨ n = 4 ∨ n = 5 ∨ n = 6 ∨ n = 7 ∨ n = 8 ∨ n = 9 ∨ n = 10 ∨ n = 11 ∨ n = 12 ∨ n = 13 ∨ n = 14 ∨ n = 15 ∨ n = 16 ∨ n = 17 ∨ n = 18 ∨ n = 19 ∨ n = 20 ∨ n = 21 ∨ n = 22 ∨ n = 23 ∨ n = 24 ∨ n = 25 ∨ n = 26 ∨ n = 27 ∨ n = 28 ∨ n = 29 ∨ n = 30 ∨ n = 31 := by omega
  rcases h1 with rfl | rfl | rfl | rfl | rfl | rfl | rfl | rfl | rfl | rfl | rfl | rfl | rfl | rfl | rfl | rfl | rfl | rfl | rfl | rfl | rfl | rfl | rfl | rfl | rfl | rfl | rfl | rfl | rfl | rfl | rfl <;> decide +kernel

theorem u64_sub (n : Int) (h : 1 ≤ n) (h' : n ≤ 31) : IntKind.u64.wrap (32 - (32 - n)) = n := by
  rw [show 32 - (32 - n) = n by omega]
  simp [IntKind.wrap, IntKind.bits, IntKind.signed]; omega

set_option maxHeartbeats 400000 in
theorem rot_any (x n : Int) (w : World) (h0 : 0 ≤ x) (h1 : x ≤ 4294967295) (hn : 1 ≤ n) (hn' : n ≤ 31) :
    Calls Tryz.prog 91 #[.int .u32 x, .int .i64 (-n)] w fun e w' => e = .returned (.int .u32 (rotI x n)) ∧ w' = w := by
  have e1 := k_and n hn hn'
  have e2 := u64_sub n hn hn'
  go_enter Tryz.func91, Tryz.ntmps91
  go_wp2
  go_ret
  exact ⟨rfl, rfl⟩
set_option maxHeartbeats 400000 in
theorem turn_any (x n : Int) (w : World) (h0 : 0 ≤ x) (h1 : x ≤ 4294967295) (hn : 1 ≤ n) (hn' : n ≤ 31) :
    Calls Tryz.prog 90 #[.int .u32 x, .int .i64 n] w fun e w' => e = .returned (.int .u32 (rotI x n)) ∧ w' = w := by
  go_enter Tryz.func90, Tryz.ntmps90
  go_wp2_with (go_at_call 91; refine (rot_any x n _ h0 h1 hn hn').mono ?_; rintro e w' ⟨rfl, rfl⟩)
  go_ret
  exact ⟨rfl, rfl⟩
/-- a block of numbers: what the walk wants to know of it -/
theorem cells_of (w : World) (b : Nat) (k : IntKind) (xs : List Int) (t : TypeId) (h : w.heap[b]? = some (.cells (ints k xs) t (0, 0))) :
    (∀ j, j < xs.length → w.cell? ⟨b, j, none⟩ = some (.int k (xs[j]?.getD 0))) ∧ (∀ j, w.frozen? ⟨b, j, none⟩ = false) := by
  refine ⟨fun j hj => ?_, fun j => ?_⟩
  · rw [cell_of_row w b j _ t _ h, ints_get k xs j hj]; simp
  · simp [World.frozen?, h]
theorem setCell_ints (w : World) (b j : Nat) (k : IntKind) (xs : List Int) (v : Int) (t : TypeId) (h : w.heap[b]? = some (.cells (ints k xs) t (0, 0))) :
    (w.setCell ⟨b, j, none⟩ (.int k v)).heap[b]? = some (.cells (ints k (xs.set j v)) t (0, 0)) := by
  simp only [World.setCell, Array.getElem?_modify, if_pos, h, Option.map_some]
  simp [ints_set]
theorem heap_setRow (w : World) (g : Nat) (cs : Array Value) (k : Nat) (h : k ≠ g) : (w.setRow g cs).heap[k]? = w.heap[k]? := by
  simp only [World.setRow, Array.getElem?_modify]
  rw [if_neg (by omega)]
theorem size_setRow (w : World) (g : Nat) (cs : Array Value) : (w.setRow g cs).heap.size = w.heap.size := by
  simp [World.setRow]
theorem below_setRow {B : Nat} {a w : World} (h : Below B a w) (g : Nat) (hg : B ≤ g) (cs : Array Value) : Below B a (w.setRow g cs) :=
  h.trans ⟨rfl, rfl, rfl, by rw [size_setRow]; exact Nat.le_refl _, fun k hk => heap_setRow _ _ _ _ (by omega)⟩
theorem below_drewN {B : Nat} {a w : World} (h : Below B a w) (n : Nat) : Below B a (w.drewN n) := ⟨h.1, h.2, h.3, h.4, h.5⟩
end Go.Proofs.YtbifmhbkmnofiaaGreat
namespace Go.Proofs.YtbifmhbkmnofiaaGreat
open Go.RowKit
set_option linter.unusedVariables false
def pk (xs : List Int) (i : Nat) (b : Int) : List Int := xs.set (i / 4) (bits .or .u32 ((xs[i / 4]?.getD 0) * 256 % 4294967296) (b % 4294967296))
def pack (bs : List Int) : Nat → List Int
  | 0 => Z64
  | k + 1 => pk (pack bs k) k (bs[k]?.getD 0)
theorem pack_len (bs : List Int) (k : Nat) : (pack bs k).length = 64 := by
  induction k with
  | zero => rfl
  | succ k ih => simp [pack, pk, ih]
theorem pack_step (bs : List Int) (k : Nat) (hk : k < bs.length) : pack bs (k + 1) = (pack bs k).set (k / 4) (bits .or .u32 ((pack bs k)[k / 4]?.getD 0 * 256 % 4294967296) (bs[k] % 4294967296)) := by
  simp [pack, pk, List.getElem?_eq_getElem hk]
/-- a word of 32 bits -/
def W32 (x : Int) : Prop := 0 ≤ x ∧ x ≤ 4294967295
theorem bits_u32 (o : BinOp) (x y : Int) (h : o = .and ∨ o = .or ∨ o = .xor) : W32 (bits o .u32 x y) := by
  rcases h with rfl | rfl | rfl <;> (constructor <;> simp [bits, IntKind.wrap, IntKind.bits, IntKind.signed] <;> omega)
def allW (xs : List Int) : Prop := ∀ x ∈ xs, W32 x
theorem allW_get (xs : List Int) (h : allW xs) (j : Nat) : W32 (xs[j]?.getD 0) := by
  by_cases hj : j < xs.length
  · rw [List.getElem?_eq_getElem hj]; exact h _ (List.getElem_mem hj)
  · rw [List.getElem?_eq_none (by omega)]; exact ⟨by decide, by decide⟩
theorem allW_set (xs : List Int) (h : allW xs) (j : Nat) (v : Int) (hv : W32 v) : allW (xs.set j v) := fun x hx => by
  rcases List.mem_or_eq_of_mem_set hx with h1 | h1
  · exact h x h1
  · rw [h1]; exact hv
theorem pack_W (bs : List Int) (k : Nat) : allW (pack bs k) := by
  induction k with
  | zero => intro x hx; have : x = 0 := List.eq_of_mem_replicate hx; subst this; exact ⟨by decide, by decide⟩
  | succ k ih => exact allW_set _ ih _ _ (bits_u32 _ _ _ (by simp))
def sg0 (x : Int) : Int := bits .xor .u32 (bits .xor .u32 (rotI x 7) (rotI x 18)) (x / 8)
def sg1 (x : Int) : Int := bits .xor .u32 (bits .xor .u32 (rotI x 17) (rotI x 19)) (x / 1024)
def exv (xs : List Int) (t : Nat) : Int := (xs[t - 16]?.getD 0 + sg0 (xs[t - 15]?.getD 0) + xs[t - 7]?.getD 0 + sg1 (xs[t - 2]?.getD 0)) % 4294967296
def ext (xs : List Int) : Nat → List Int
  | 0 => xs
  | k + 1 => (ext xs k).set (16 + k) (exv (ext xs k) (16 + k))
theorem ext_len (xs : List Int) (k : Nat) : (ext xs k).length = xs.length := by
  induction k with
  | zero => rfl
  | succ k ih => simp [ext, ih]
theorem wrap_W (x : Int) : W32 (x % 4294967296) := by constructor <;> omega
theorem ext_W (xs : List Int) (h : allW xs) (k : Nat) : allW (ext xs k) := by
  induction k with
  | zero => exact h
  | succ k ih => exact allW_set _ ih _ _ (wrap_W _)
theorem ext_step (xs : List Int) (t : Nat) (h : 16 ≤ t) : ext xs (t + 1 - 16) = (ext xs (t - 16)).set t (exv (ext xs (t - 16)) t) := by
  obtain ⟨k, rfl⟩ : ∃ k, t = 16 + k := ⟨t - 16, by omega⟩
  rw [show 16 + k + 1 - 16 = k + 1 by omega, show 16 + k - 16 = k by omega]; rfl
def sched (bs : List Int) : List Int := ext (pack bs 64) 48
theorem sched_len (bs : List Int) : (sched bs).length = 64 := (ext_len _ _).trans (pack_len _ _)
theorem sched_W (bs : List Int) : allW (sched bs) := ext_W _ (pack_W _ _) _
/-- 'spread''s loop: the world behind some rounds -/
def Sp (w wx : World) (xs : List Int) : Prop := wx.heap[w.heap.size + 1 + 1]? = some (.cells (ints .u32 xs) 171 (0, 0)) ∧ wx.heap.size = w.heap.size + 3 ∧ wx.heap[w.heap.size + 1]? = some (.cells (ints .u32 Z64) 171 (0, 0)) ∧ Below w.heap.size w wx
theorem Sp.drewN {w wx : World} {xs : List Int} (h : Sp w wx xs) (n : Nat) : Sp w (wx.drewN n) xs := ⟨h.1, h.2.1, h.2.2.1, h.2.2.2.1, h.2.2.2.2, h.2.2.2.3, h.2.2.2.4, h.2.2.2.5⟩
theorem Sp.drew {w wx : World} {xs : List Int} (h : Sp w wx xs) : Sp w wx.drew xs := ⟨h.1, h.2.1, h.2.2.1, h.2.2.2.drew⟩
theorem Sp.set {w wx : World} {xs : List Int} (h : Sp w wx xs) (j : Nat) (v : Int) : Sp w (wx.setCell ⟨w.heap.size + 1 + 1, j, none⟩ (.int .u32 v)) (xs.set j v) :=
  ⟨setCell_ints _ _ _ _ _ _ _ h.1, by simp [h.2.1], by rw [Below.heap_setCell _ _ _ _ (by simp)]; exact h.2.2.1, h.2.2.2.setCell (by simp; omega) _⟩
theorem Sp.cell {w wx : World} {xs : List Int} (h : Sp w wx xs) (hl : xs.length = 64) (j : Nat) (hj : j < 64) : wx.cell? ⟨w.heap.size + 1 + 1, j, none⟩ = some (.int .u32 (xs[j]?.getD 0)) := (cells_of _ _ _ _ _ h.1).1 j (by omega)
theorem Sp.frozen {w wx : World} {xs : List Int} (h : Sp w wx xs) (j : Nat) : wx.frozen? ⟨w.heap.size + 1 + 1, j, none⟩ = false := (cells_of _ _ _ _ _ h.1).2 j
set_option maxRecDepth 20000 in
set_option maxHeartbeats 400000 in
theorem spread_n (bs : List Int) (w : World) (n m : Nat) (hn0 : n ≤ 64) (hn1 : 64 ≤ n) (hm0 : m ≤ 48) (hm1 : 48 ≤ m) (hl : bs.length = 64) :
    Calls Tryz.prog 89 #[.agg (ints .u8 bs)] w fun e w' => e = .returned (.agg (ints .u32 (ext (pack bs n) m))) ∧ Below w.heap.size w w' := by
  go_enter Tryz.func89, Tryz.ntmps89
  go_wp2_with (first
    | refine wpList_load_row rfl 102 _ rfl w.heap.size rfl 102 (ints .u8 bs) (0,0) _ (two_blocks w _ _ _) Tryz.underlying102 rfl (by rw [ints_size, hl]; exact Tryz.info102) ?_
    | refine wpList_alloc_eq rfl 171 rfl (ints .u32 Z64) Tryz.alloc171 ?_)
  go_loopw [10] (fun i wr => ∃ k : Nat, k ≤ 64 ∧ i = .int .i64 k ∧ Sp w wr (pack bs k)) (fun i _ => 64 - (intOf i).toNat)
  case atStart => exact ⟨0, by omega, rfl, al3_3 _ _ _ _, by simp, al3_2 _ _ _ _, (((Below.refl _ _).alloc (Nat.le_refl _) _).alloc (by simp) _).alloc (by simp; omega) _⟩
  case round =>
    obtain ⟨k, hk, rfl, hS⟩ := hrel
    by_cases hlt : k < 64
    · have ix := Tryz.index102 bs k wr hl hlt
      have hc1 := hS.cell (pack_len _ _) (k / 4) (by omega)
      have hf1 := hS.frozen (k / 4)
      go_wp2
      exact ⟨⟨k + 1, by omega, by go_num, by rw [pack_step bs k (by omega)]; exact hS.set _ _⟩, by simp [intOf]; omega⟩
    · obtain rfl : k = n := by omega
      clear hlt hk
      go_wp2
      have hpl := pack_len bs k
      have hpw := pack_W bs k
      generalize hps : pack bs k = ps at *
      have Hps := hid hps
      clear hps
      go_loopw [6] (fun i wx => ∃ k : Nat, 16 ≤ k ∧ k ≤ 64 ∧ i = .int .i64 k ∧ Sp w wx (ext ps (k - 16))) (fun i _ => 64 - (intOf i).toNat)
      case atStart => exact ⟨16, by omega, by omega, rfl, hS⟩
      case round =>
        clear hS
        obtain ⟨k, hk0, hk, rfl, hS⟩ := hrel
        by_cases hlt : k < 64
        · have hst := hid (ext_step ps k hk0)
          have hyl := (ext_len ps (k - 16)).trans hpl
          have hyw := ext_W ps hpw (k - 16)
          generalize ext ps (k - 16) = ys at *
          have c15 := hS.cell hyl (k - 15) (by omega)
          obtain ⟨hx, hx'⟩ := allW_get _ hyw (k - 15)
          obtain ⟨hy, hy'⟩ := allW_get _ hyw (k - 2)
          have i15 : (15 : Int) ≤ (k : Int) := by omega
          have i2 : (2 : Int) ≤ (k : Int) := by omega
          have i7 : (7 : Int) ≤ (k : Int) := by omega
          have i16 : (16 : Int) ≤ (k : Int) := by omega
          have j2 : ((k : Int) - 2).toNat = k - 2 := by omega
          have j7 : ((k : Int) - 7).toNat = k - 7 := by omega
          have j16 : ((k : Int) - 16).toNat = k - 16 := by omega
          have j15 : ((k : Int) - 15).toNat = k - 15 := by omega
          clear hpl hpw
          generalize hex : exv ys k = ev at *
          have Hex := hid hex
          clear hex
          generalize e15 : ys[k - 15]?.getD 0 = x15 at *
          have E15 := hid e15
          clear e15
          generalize e2 : ys[k - 2]?.getD 0 = x2 at *
          have E2 := hid e2
          clear e2
          go_wp2
          go_quiet ((go_at_call 90; exact Calls.quiet_of_same (turn_any _ _ _ hx hx' (by omega) (by omega))))
          go_wp2
          have hS2 := hS.drewN nq
          clear hS c15
          generalize wr.drewN nq = w2 at *
          have c2 := hS2.cell hyl (k - 2) (by omega)
          rw [E2.out] at c2
          go_quiet ((go_at_call 90; exact Calls.quiet_of_same (turn_any _ _ _ hy hy' (by omega) (by omega))))
          go_wp2
          have hS3 := hS2.drewN nq
          clear hS2 c2
          generalize w2.drewN nq = w3 at *
          have c16 := hS3.cell hyl (k - 16) (by omega)
          have c7 := hS3.cell hyl (k - 7) (by omega)
          have c0 := hS3.cell hyl k (by omega)
          have f0 := hS3.frozen k
          go_region
          go_wp2
          refine ⟨⟨k + 1, by omega, by omega, by go_num, ?_⟩, by simp [intOf]; omega⟩
          rw [hst.out, ← Hex.out]
          unfold exv sg0 sg1
          rw [E15.out, E2.out]
          exact (hS3.set _ _).drew
        · obtain rfl : k = 64 := by omega
          clear hlt hk hk0
          obtain rfl : m = 64 - 16 := by omega
          clear hm0 hm1
          have hyl := (ext_len ps (64 - 16)).trans hpl
          generalize hys : ext ps (64 - 16) = ys at *
          have Hys := hid hys
          clear hys
          go_wp2_with (first
            | refine wpList_load_row rfl 171 _ rfl (w.heap.size + 1 + 1) rfl 171 (ints .u32 ys) (0,0) _ hS.1 Tryz.underlying171 rfl (by rw [ints_size, hyl]; exact Tryz.info171) ?_
            | refine wpList_store_row rfl 171 _ _ rfl (w.heap.size + 1) (ints .u32 ys) rfl rfl 171 (ints .u32 Z64) hS.2.2.1 (by rw [ints_size, hyl]; exact Tryz.info171) (by rw [ints_size, ints_size, hyl]; rfl) (ints_one _ _) ?_)
          exact bodyPost_ret (results_cell_row (fn := Tryz.f89) Tryz.results89 _ _ (w.heap.size + 1) 171 (ints .u32 ys) (0,0) _ rfl (setRow_heap _ _ _ _ _ _ hS.2.2.1) Tryz.underlying171 rfl (by rw [ints_size, hyl]; exact Tryz.info171)) rfl ⟨by rw [Hps.out, Hys.out], below_setRow hS.2.2.2 _ (by omega) _⟩
theorem spread_any (bs : List Int) (w : World) (hl : bs.length = 64) :
    Calls Tryz.prog 89 #[.agg (ints .u8 bs)] w fun e w' => e = .returned (.agg (ints .u32 (sched bs))) ∧ Below w.heap.size w w' := spread_n bs w 64 48 (by omega) (by omega) (by omega) (by omega) hl
end Go.Proofs.YtbifmhbkmnofiaaGreat
namespace Go.Proofs.YtbifmhbkmnofiaaGreat
open Go.RowKit
set_option linter.unusedVariables false
def KT : List Int := [1116352408, 1899447441, 3049323471, 3921009573, 961987163, 1508970993, 2453635748, 2870763221, 3624381080, 310598401, 607225278, 1426881987, 1925078388, 2162078206, 2614888103, 3248222580, 3835390401, 4022224774, 264347078, 604807628, 770255983, 1249150122, 1555081692, 1996064986, 2554220882, 2821834349, 2952996808, 3210313671, 3336571891, 3584528711, 113926993, 338241895, 666307205, 773529912, 1294757372, 1396182291, 1695183700, 1986661051, 2177026350, 2456956037, 2730485921, 2820302411, 3259730800, 3345764771, 3516065817, 3600352804, 4094571909, 275423344, 430227734, 506948616, 659060556, 883997877, 958139571, 1322822218, 1537002063, 1747873779, 1955562222, 2024104815, 2227730452, 2361852424, 2428436474, 2756734187, 3204031479, 3329325298]
def HT : List Int := [1779033703, 3144134277, 1013904242, 2773480762, 1359893119, 2600822924, 528734635, 1541459225]
theorem wpList_build_eq {ops : Array Oper} {rest : List Oper} {o : Oper} {a : Act} {w : World} {Q : Exit → Act → World → Prop} (hg : o.guard = none) (t : TypeId) (parts : Array (Nat × Operand)) (ho : o.op = .build t parts) (cs : Array Value)
    (hf : Tryz.prog.built t (parts.map fun (i, x) => (i, a.eval x)).toList = some cs)
    (h : wpList Tryz.prog ops Q rest (a.put o.dst (.agg cs)) w) : wpList Tryz.prog ops Q (o :: rest) a w :=
  wpList_build hg t parts ho (by rw [hf]; rfl) (by rw [hf]; exact h)
set_option maxRecDepth 20000 in
set_option maxHeartbeats 400000 in
theorem roundTable_any (w : World) : Calls Tryz.prog 88 #[] w fun e w' => e = .returned (.agg (ints .u32 KT)) ∧ Below w.heap.size w w' := by
  go_enter Tryz.func88, Tryz.ntmps88
  go_wp2_with (first
    | refine wpList_alloc_eq rfl 171 rfl (ints .u32 Z64) Tryz.alloc171 ?_
    | refine wpList_build_eq rfl 171 _ rfl (ints .u32 KT) (by kernel_rfl) ?_
    | refine wpList_store_row rfl 171 _ _ rfl w.heap.size (ints .u32 KT) rfl rfl 171 (ints .u32 Z64) (al_new _ _) Tryz.info171 rfl (ints_one _ _) ?_)
  exact bodyPost_ret (results_cell_row (fn := Tryz.f88) Tryz.results88 _ _ w.heap.size 171 (ints .u32 KT) (0,0) _ rfl (setRow_heap _ _ _ _ _ _ (al_new _ _)) Tryz.underlying171 rfl Tryz.info171) rfl ⟨rfl, below_setRow ((Below.refl _ _).alloc (Nat.le_refl _) _) _ (Nat.le_refl _) _⟩
set_option maxRecDepth 20000 in
set_option maxHeartbeats 400000 in
theorem startTable_any (w : World) : Calls Tryz.prog 77 #[] w fun e w' => e = .returned (.agg (ints .u32 HT)) ∧ Below w.heap.size w w' := by
  go_enter Tryz.func77, Tryz.ntmps77
  go_wp2_with (first
    | refine wpList_alloc_eq rfl 101 rfl (ints .u32 Z8) Tryz.alloc101 ?_
    | refine wpList_build_eq rfl 101 _ rfl (ints .u32 HT) (by kernel_rfl) ?_
    | refine wpList_store_row rfl 101 _ _ rfl w.heap.size (ints .u32 HT) rfl rfl 101 (ints .u32 Z8) (al_new _ _) Tryz.info101 rfl (ints_one _ _) ?_)
  exact bodyPost_ret (results_cell_row (fn := Tryz.f77) Tryz.results77 _ _ w.heap.size 101 (ints .u32 HT) (0,0) _ rfl (setRow_heap _ _ _ _ _ _ (al_new _ _)) Tryz.underlying101 rfl Tryz.info101) rfl ⟨rfl, below_setRow ((Below.refl _ _).alloc (Nat.le_refl _) _) _ (Nat.le_refl _) _⟩
end Go.Proofs.YtbifmhbkmnofiaaGreat
