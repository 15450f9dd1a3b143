import Derived.Test.YtbifmhbkmnofiaaWc
namespace Go.Proofs.Ytbifmhbkmnofiaa
open Go.RowKit
set_option linter.unusedVariables false
set_option linter.unusedSimpArgs false
theorem row_set {w : World} {A : Nat} {l : List Value} {ty : TypeId} (h : w.heap[A]? = some (.cells l.toArray ty (0, 0))) (j : Nat) (v : Value) : (w.setCell ⟨A, j, none⟩ v).heap[A]? = some (.cells (l.set j v).toArray ty (0, 0)) := by
  simp only [World.setCell, Array.getElem?_modify, if_pos, h, Option.map_some]
  simp
theorem GdAt.lims {w : World} {A : Nat} {g : Gd} (h : GdAt w A g) : w.cell? ⟨A, 0, none⟩ = some (.int .i64 g.st) ∧ w.cell? ⟨A, 1, none⟩ = some (.int .i64 g.wi) ∧ w.cell? ⟨A, 2, none⟩ = some (.int .i64 g.sk) ∧ w.cell? ⟨A, 3, none⟩ = some (.int .u8 g.x.s) ∧ w.cell? ⟨A, 4, none⟩ = some (.int .i64 g.x.t) ∧ w.cell? ⟨A, 5, none⟩ = some (.int .u8 g.x.f) ∧ w.cell? ⟨A, 6, none⟩ = some (.int .i64 g.x.n) ∧ w.cell? ⟨A, 7, none⟩ = some (.int .i64 g.x.c) ∧ w.cell? ⟨A, 8, none⟩ = some (.bool g.br) := by
  obtain ⟨ty, h⟩ := h
  refine ⟨?_, ?_, ?_, ?_, ?_, ?_, ?_, ?_, ?_⟩ <;> (rw [cell_of_row _ _ _ _ _ _ h]; rfl)
/-- the guard is written anew, whole -/
def wrG (w : World) (A : Nat) (st wi sk : Int) (br : Bool) : World :=
  ((((((((w.setCell ⟨A, 0, none⟩ (.int .i64 st)).setCell ⟨A, 1, none⟩ (.int .i64 wi)).setCell ⟨A, 2, none⟩ (.int .i64 sk)).setCell ⟨A, 3, none⟩ (.int .u8 0)).setCell ⟨A, 4, none⟩ (.int .i64 0)).setCell ⟨A, 5, none⟩ (.int .u8 0)).setCell ⟨A, 6, none⟩ (.int .i64 0)).setCell ⟨A, 7, none⟩ (.int .i64 0)).setCell ⟨A, 8, none⟩ (.bool br)
theorem wrG_at {w : World} {A : Nat} {g : Gd} (h : GdAt w A g) (st wi sk : Int) (br : Bool) : GdAt (wrG w A st wi sk br) A ⟨st, wi, sk, W0, br⟩ := by
  obtain ⟨ty, h⟩ := h
  exact ⟨ty, row_set (row_set (row_set (row_set (row_set (row_set (row_set (row_set (row_set h _ _) _ _) _ _) _ _) _ _) _ _) _ _) _ _) _ _⟩
theorem wrG_ex (w : World) (A : Nat) (st wi sk : Int) (br : Bool) : Ex A w (wrG w A st wi sk br) :=
  (((((((((Ex.refl A w).setCell 0 _).setCell 1 _).setCell 2 _).setCell 3 _).setCell 4 _).setCell 5 _).setCell 6 _).setCell 7 _).setCell 8 _
set_option maxRecDepth 20000 in
set_option maxHeartbeats 1000000 in
theorem greset_any (g : Gd) (A : Nat) (w : World) (h : GdAt w A g) :
    Calls Try.prog 29 #[.pointer (some ⟨A, 0, none⟩)] w fun e w' => e = .returned (.tuple #[]) ∧ GdAt w' A ⟨g.st, g.wi, g.sk, W0, false⟩ ∧ Ex A w w' := by
  obtain ⟨c0, c1, c2, c3, c4, c5, c6, c7, c8⟩ := h.lims
  have f := fun j => WsAt.frozen h j
  have f0 := f 0
  have f1 := f 1
  have f2 := f 2
  have f3 := f 3
  have f4 := f 4
  have f5 := f 5
  have f6 := f 6
  have f7 := f 7
  have f8 := f 8
  clear f
  have H := hid (wrG_at h g.st g.wi g.sk false)
  have H2 := hid (wrG_ex w A g.st g.wi g.sk false)
  clear h
  go_enter Try.func29, Try.ntmps29
  go_wp2
  go_end0
  exact ⟨rfl, H.out, H2.out⟩
set_option maxRecDepth 20000 in
set_option maxHeartbeats 1000000 in
theorem gfeed_dead (g : Gd) (A : Nat) (a : Option Addr) (n c : Nat) (w : World) (h : GdAt w A g) (hb : g.br = true) :
    Calls Try.prog 28 #[.pointer (some ⟨A, 0, none⟩), .slice a n c] w fun e w' => e = .returned (.tuple #[.int .i64 0, .int .i64 6]) ∧ w' = w := by
  obtain ⟨_, _, _, _, _, _, _, _, c8⟩ := h.lims
  rw [hb] at c8
  clear h
  go_enter Try.func28, Try.ntmps28
  go_wp2
  go_ret2
  exact ⟨rfl, rfl⟩
set_option maxRecDepth 20000 in
set_option maxHeartbeats 1000000 in
theorem gfeed_many (g : Gd) (A : Nat) (a : Option Addr) (n c : Nat) (w : World) (h : GdAt w A g) (hb : g.br = false) (hn : 200 < n) :
    Calls Try.prog 28 #[.pointer (some ⟨A, 0, none⟩), .slice a n c] w fun e w' => e = .returned (.tuple #[.int .i64 0, .int .i64 2]) ∧ w' = w := by
  obtain ⟨_, _, _, _, _, _, _, _, c8⟩ := h.lims
  rw [hb] at c8
  clear h
  go_enter Try.func28, Try.ntmps28
  go_wp2
  go_ret2
  exact ⟨rfl, rfl⟩
end Go.Proofs.Ytbifmhbkmnofiaa
