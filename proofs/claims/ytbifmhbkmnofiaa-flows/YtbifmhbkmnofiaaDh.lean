import Derived.Test.YtbifmhbkmnofiaaDg
namespace Go.Proofs.Ytbifmhbkmnofiaa
open Go.RowKit
set_option linter.unusedVariables false
set_option linter.unusedSimpArgs false
def feed (s : DS) (xs : List Int) : DS := xs.foldl addB s
theorem feed_ok {s : DS} (h : s.ok) (xs : List Int) : (feed s xs).ok := by
  induction xs generalizing s with
  | nil => exact h
  | cons x xs ih => exact ih (addB_ok h x)
theorem feed_n (s : DS) (xs : List Int) : (feed s xs).n = s.n + xs.length := by
  induction xs generalizing s with
  | nil => rfl
  | cons x xs ih => simp only [feed, List.foldl_cons] at ih ⊢; rw [ih, addB_n]; simp; omega
theorem feed_append (s : DS) (xs ys : List Int) : feed s (xs ++ ys) = feed (feed s xs) ys := List.foldl_append
theorem feed_snoc (s : DS) (xs : List Int) (k : Nat) (h : k < xs.length) : feed s (xs.take (k + 1)) = addB (feed s (xs.take k)) xs[k] := by
  rw [List.take_succ_eq_append_getElem h, feed_append]; rfl
theorem Ex.cell {B : Nat} {w w' : World} (h : Ex B w w') {p : Addr} {v : Value} (hp : p.block ≠ B) (hc : w.cell? p = some v) : w'.cell? p = some v := by
  rw [← hc]
  exact World.cell?_of_block (w := w) (h.block p.block (World.block_lt_of_cell? w _ hc) hp)
set_option maxRecDepth 20000 in
set_option maxHeartbeats 400000 in
theorem Add_any (s : DS) (xs : List Int) (B db off cap : Nat) (w : World) (hs : s.ok) (hS : StAt w B s) (hne : db ≠ B) (hd : ∀ j, j < xs.length → w.cell? ⟨db, off + j, none⟩ = some (.int .u8 (xs[j]?.getD 0))) (hn : s.n + xs.length < 4611686018427387904) :
    Calls Try.prog 40 #[.pointer (some ⟨B, 0, none⟩), .slice (some ⟨db, off, none⟩) xs.length cap] w fun e w' => e = .returned (.tuple #[]) ∧ StAt w' B (feed s xs) ∧ Ex B w w' := by
  have hdh := hid hd
  clear hd
  have HS := hid hS
  clear hS
  go_enter Try.func40, Try.ntmps40
  go_wp2
  go_loopw [8] (fun i wr => ∃ k : Nat, k ≤ xs.length ∧ i = .int .i64 k ∧ StAt wr B (feed s (xs.take k)) ∧ Ex B w wr) (fun i _ => xs.length - (intOf i).toNat)
  case atStart => exact ⟨0, by omega, rfl, HS.out, Ex.refl _ _⟩
  case round =>
    obtain ⟨k, hk, rfl, hS, hE⟩ := hrel
    by_cases hlt : k < xs.length
    · have c0 := hE.cell (p := ⟨db, off + k, none⟩) hne (hdh.out k hlt)
      have hok := feed_ok hs (xs.take k)
      have hfn := feed_n s (xs.take k)
      have hst := hid (feed_snoc s xs k hlt)
      have hlen : (xs.take k).length = k := by simp; omega
      have hfn2 : (feed s (xs.take k)).n < 4611686018427387904 := by omega
      clear hfn hlen
      generalize feed s (xs.take k) = sk at *
      go_wp2_with (go_at_call 54; refine (addByte_any sk _ B _ hok hS hfn2).mono ?_; rintro e w' ⟨rfl, hS2, hE2⟩)
      exact ⟨⟨k + 1, by omega, by go_num, by rw [hst.out]; exact hS2, hE.trans hE2⟩, by simp [intOf]; omega⟩
    · obtain rfl : k = xs.length := by omega
      go_wp2
      go_end0
      exact ⟨rfl, by rw [List.take_of_length_le (Nat.le_refl _)] at hS; exact hS, hE⟩
set_option maxHeartbeats 400000 in
theorem Add_empty (s : DS) (B cap : Nat) (a : Option Addr) (w : World) :
    Calls Try.prog 40 #[.pointer (some ⟨B, 0, none⟩), .slice a 0 cap] w fun e w' => e = .returned (.tuple #[]) ∧ w' = w := by
  go_enter Try.func40, Try.ntmps40
  go_wp2
  go_loop [8] (fun i => i = .int .i64 0) (fun i => 0)
  case atStart => rfl
  case round =>
    obtain rfl := hrel
    go_wp2
    go_end0
    exact ⟨rfl, rfl⟩
/-- the state that has no bytes, before its words are laid -/
def DS0 : DS := ⟨Z8, Z64, 0⟩
def DSN : DS := ⟨HT, Z64, 0⟩
theorem DS0_ok : DS0.ok := ⟨rfl, rfl, by intro x hx; have : x = 0 := List.eq_of_mem_replicate hx; subst this; exact ⟨by decide, by decide⟩⟩
theorem DSN_ok : DSN.ok := ⟨rfl, rfl, HT_W⟩
theorem Try.alloc76 (w : World) : Sem.run Try.prog (Instr.alloc 76 true (Value.tuple #[])) w = .ok (.pointer (some ⟨w.heap.size, 0, none⟩)) (w.alloc (.cells DS0.cells.toArray 76)) := by kernel_rfl
def padN (n : Nat) : Nat := (120 - n % 64) % 64
def lenB (m : Int) (j : Nat) : Int := m / 2 ^ (56 - 8 * j) % 256
def lenBytes (m : Int) : Nat → List Int
  | 0 => []
  | k + 1 => lenBytes m k ++ [lenB m k]
theorem lenBytes_len (m : Int) (k : Nat) : (lenBytes m k).length = k := by
  induction k with
  | zero => rfl
  | succ k ih => simp [lenBytes, ih]
def zeros (k : Nat) : List Int := List.replicate k 0
theorem zeros_succ (k : Nat) : zeros (k + 1) = zeros k ++ [0] := List.replicate_succ'
theorem zeros_len (k : Nat) : (zeros k).length = k := List.length_replicate
def finD (s : DS) : DS := feed (feed (addB s 128) (zeros (padN (s.n + 1)))) (lenBytes (8 * (s.n : Int)) 8)
def sumD (s : DS) : List Int := toB (finD s).h 32
theorem sumD_len (s : DS) : (sumD s).length = 32 := toB_len _ _
theorem one_cells (s : DS) : s.cells.toArray.all (·.oneCell') = true := by
  apply all_oneCell_toArray
  intro v hv
  simp only [DS.cells, List.mem_append, List.mem_map, List.mem_cons, List.not_mem_nil, or_false] at hv
  rcases hv with ⟨_, _, rfl⟩ | ⟨_, _, rfl⟩ | rfl <;> rfl
theorem size_cells {s : DS} (h : s.ok) : (Try.prog.info? 76).map (·.size) = some s.cells.toArray.size := by
  rw [List.size_toArray, cells_len h]; exact Try.info76
end Go.Proofs.Ytbifmhbkmnofiaa
