import Derived.Test.YtbifmhbkmnofiaaWe
import Derived.Maps.AppendAt
import Derived.Shelf.RegionOpenPlain
import Derived.Deep.LoopGhost
import Derived.Lib.SliceRun
import Derived.Lib.SlicesDelete
import Derived.Test.YtbifmhbkmnofiaaWz
import Derived.Test.YtbifmhbkmnofiaaKa
namespace Go.Proofs.Ytbifmhbkmnofiaa
open Go.RowKit
set_option linter.unusedVariables false
set_option linter.unusedSimpArgs false
/-- all but the blocks of a set is as it was -/
structure Fr (S : Nat → Prop) (w w' : World) : Prop where
  os : w'.os = w.os
  tape : w'.tape = w.tape
  output : w'.output = w.output
  size : w.heap.size ≤ w'.heap.size
  block : ∀ k, k < w.heap.size → ¬ S k → w'.heap[k]? = w.heap[k]?
theorem Fr.refl (S : Nat → Prop) (w : World) : Fr S w w := ⟨rfl, rfl, rfl, Nat.le_refl _, fun _ _ _ => rfl⟩
theorem Fr.trans {S : Nat → Prop} {a b c : World} (h : Fr S a b) (k : Fr S b c) : Fr S a c :=
  ⟨k.os.trans h.os, k.tape.trans h.tape, k.output.trans h.output, Nat.le_trans h.size k.size, fun i hi hS => (k.block i (Nat.lt_of_lt_of_le hi h.size) hS).trans (h.block i hi hS)⟩
theorem Fr.mono {S T : Nat → Prop} {w w' : World} (h : Fr S w w') (hs : ∀ k, k < w.heap.size → S k → T k) : Fr T w w' :=
  ⟨h.os, h.tape, h.output, h.size, fun k hk hT => h.block k hk (fun hh => hT (hs k hk hh))⟩
theorem Fr.of_below {S : Nat → Prop} {w w' : World} (h : Below w.heap.size w w') : Fr S w w' := ⟨h.os, h.tape, h.output, h.size, fun k hk _ => h.block k hk⟩
theorem Fr.of_ex {B : Nat} {w w' : World} (h : Ex B w w') : Fr (fun k => k = B) w w' := ⟨h.os, h.tape, h.output, h.size, fun k hk hB => h.block k hk hB⟩
theorem Fr.of_grown {w w' : World} {row : Option Nat} (h : w.grownBy w' row) : Fr (fun k => some k = row) w w' := ⟨h.os, h.tape, h.output, h.size, fun k hk hB => h.block k hk hB⟩
theorem Fr.below {S : Nat → Prop} {w w' : World} {N : Nat} (h : Fr S w w') (hS : ∀ k, S k → N ≤ k) (hN : N ≤ w.heap.size) : Below N w w' := ⟨h.os, h.tape, h.output, h.size, fun k hk => h.block k (by omega) (fun hh => by have := hS k hh; omega)⟩
theorem Fr.drew {S : Nat → Prop} {a w : World} (h : Fr S a w) : Fr S a w.drew := ⟨h.1, h.2, h.3, h.4, h.5⟩
theorem owns_other {w w' : World} {N n size : Nat} {e : TypeId} {v : Value} {xs : List Value} (h : w.ownsRow N e size v n xs) (he : ∀ b, v.ownBlock = some b → w'.heap[b]? = w.heap[b]?) : w'.ownsRow N e size v n xs := by
  refine ⟨h.1, ?_⟩
  rcases h.2 with hn | ⟨g, cap, cur, hv, hb, hg, rest⟩
  · exact .inl hn
  · exact .inr ⟨g, cap, cur, hv, hb, by rw [he g (by rw [hv]; rfl)]; exact hg, rest⟩
theorem Fr.of_ex2 {A B : Nat} {w w' : World} (h : Ex2 A B w w') : Fr (fun k => k = A ∨ k = B) w w' := ⟨h.os, h.tape, h.output, h.size, fun k hk hB => h.block k hk (fun e => hB (.inl e)) (fun e => hB (.inr e))⟩
/-- a guard inside a well: two cells ahead of it, two behind it -/
def GwAt (w : World) (A : Nat) (p0 p1 q0 q1 : Value) (g : Gd) : Prop := WsAt w A [p0, p1, .int .i64 g.st, .int .i64 g.wi, .int .i64 g.sk] [.bool g.br, q0, q1] g.x
theorem GwAt.lims {w : World} {A : Nat} {p0 p1 q0 q1 : Value} {g : Gd} (h : GwAt w A p0 p1 q0 q1 g) : w.cell? ⟨A, 2, none⟩ = some (.int .i64 g.st) ∧ w.cell? ⟨A, 3, none⟩ = some (.int .i64 g.wi) ∧ w.cell? ⟨A, 4, none⟩ = some (.int .i64 g.sk) ∧ w.cell? ⟨A, 5, none⟩ = some (.int .u8 g.x.s) ∧ w.cell? ⟨A, 6, none⟩ = some (.int .i64 g.x.t) ∧ w.cell? ⟨A, 7, none⟩ = some (.int .u8 g.x.f) ∧ w.cell? ⟨A, 8, none⟩ = some (.int .i64 g.x.n) ∧ w.cell? ⟨A, 9, none⟩ = some (.int .i64 g.x.c) ∧ w.cell? ⟨A, 10, none⟩ = some (.bool g.br) := by
  obtain ⟨ty, h⟩ := h
  refine ⟨?_, ?_, ?_, ?_, ?_, ?_, ?_, ?_, ?_⟩ <;> (rw [cell_of_row _ _ _ _ _ _ h]; rfl)
theorem GwAt.rest {w : World} {A : Nat} {p0 p1 q0 q1 : Value} {g : Gd} (h : GwAt w A p0 p1 q0 q1 g) : w.cell? ⟨A, 0, none⟩ = some p0 ∧ w.cell? ⟨A, 1, none⟩ = some p1 ∧ w.cell? ⟨A, 11, none⟩ = some q0 ∧ w.cell? ⟨A, 12, none⟩ = some q1 := by
  obtain ⟨ty, h⟩ := h
  refine ⟨?_, ?_, ?_, ?_⟩ <;> (rw [cell_of_row _ _ _ _ _ _ h]; rfl)
theorem GwAt.set0 {w : World} {A : Nat} {p0 p1 q0 q1 : Value} {g : Gd} (h : GwAt w A p0 p1 q0 q1 g) (v : Value) : GwAt (w.setCell ⟨A, 11, none⟩ v) A p0 p1 v q1 g := by
  obtain ⟨ty, h⟩ := h
  exact ⟨ty, row_set h _ _⟩
theorem GwAt.set1 {w : World} {A : Nat} {p0 p1 q0 q1 : Value} {g : Gd} (h : GwAt w A p0 p1 q0 q1 g) (v : Value) : GwAt (w.setCell ⟨A, 12, none⟩ v) A p0 p1 q0 v g := by
  obtain ⟨ty, h⟩ := h
  exact ⟨ty, row_set h _ _⟩
theorem GwAt.frozen {w : World} {A : Nat} {p0 p1 q0 q1 : Value} {g : Gd} (h : GwAt w A p0 p1 q0 q1 g) (j : Nat) : w.frozen? ⟨A, j, none⟩ = false := WsAt.frozen h j
theorem GwAt.lt {w : World} {A : Nat} {p0 p1 q0 q1 : Value} {g : Gd} (h : GwAt w A p0 p1 q0 q1 g) : A < w.heap.size := WsAt.lt h
theorem GwAt.other {w w' : World} {A : Nat} {p0 p1 q0 q1 : Value} {g : Gd} (h : GwAt w A p0 p1 q0 q1 g) (he : w'.heap[A]? = w.heap[A]?) : GwAt w' A p0 p1 q0 q1 g := WsAt.other h he
/-- the guard inside a well is written anew, whole -/
def wrW (w : World) (A : Nat) (st wi sk : Int) (br : Bool) : World :=
  ((((((((w.setCell ⟨A, 2, none⟩ (.int .i64 st)).setCell ⟨A, 3, none⟩ (.int .i64 wi)).setCell ⟨A, 4, none⟩ (.int .i64 sk)).setCell ⟨A, 5, none⟩ (.int .u8 0)).setCell ⟨A, 6, none⟩ (.int .i64 0)).setCell ⟨A, 7, none⟩ (.int .u8 0)).setCell ⟨A, 8, none⟩ (.int .i64 0)).setCell ⟨A, 9, none⟩ (.int .i64 0)).setCell ⟨A, 10, none⟩ (.bool br)
theorem wrW_at {w : World} {A : Nat} {p0 p1 q0 q1 : Value} {g : Gd} (h : GwAt w A p0 p1 q0 q1 g) (st wi sk : Int) (br : Bool) : GwAt (wrW w A st wi sk br) A p0 p1 q0 q1 ⟨st, wi, sk, W0, br⟩ := by
  obtain ⟨ty, h⟩ := h
  exact ⟨ty, row_set (row_set (row_set (row_set (row_set (row_set (row_set (row_set (row_set h _ _) _ _) _ _) _ _) _ _) _ _) _ _) _ _) _ _⟩
theorem wrW_ex (w : World) (A : Nat) (st wi sk : Int) (br : Bool) : Ex A w (wrW w A st wi sk br) :=
  (((((((((Ex.refl A w).setCell 2 _).setCell 3 _).setCell 4 _).setCell 5 _).setCell 6 _).setCell 7 _).setCell 8 _).setCell 9 _).setCell 10 _
set_option maxRecDepth 20000 in
set_option maxHeartbeats 1000000 in
theorem wgfeed_dead (g : Gd) (A : Nat) (a : Option Addr) (n c : Nat) (w : World) {p0 p1 q0 q1 : Value} (h : GwAt w A p0 p1 q0 q1 g) (hb : g.br = true) :
    Calls Try.prog 28 #[.pointer (some ⟨A, 2, none⟩), .slice a n c] w fun e w' => e = .returned (.tuple #[.int .i64 0, .int .i64 6]) ∧ w' = w := by
  obtain ⟨_, _, _, _, _, _, _, _, c8⟩ := h.lims
  rw [hb] at c8
  clear h
  go_enter Try.func28, Try.ntmps28
  go_wp2
  go_ret2
  exact ⟨rfl, rfl⟩
set_option maxRecDepth 20000 in
set_option maxHeartbeats 1000000 in
theorem wgfeed_many (g : Gd) (A : Nat) (a : Option Addr) (n c : Nat) (w : World) {p0 p1 q0 q1 : Value} (h : GwAt w A p0 p1 q0 q1 g) (hb : g.br = false) (hn : 200 < n) :
    Calls Try.prog 28 #[.pointer (some ⟨A, 2, none⟩), .slice a n c] w fun e w' => e = .returned (.tuple #[.int .i64 0, .int .i64 2]) ∧ w' = w := by
  obtain ⟨_, _, _, _, _, _, _, _, c8⟩ := h.lims
  rw [hb] at c8
  clear h
  go_enter Try.func28, Try.ntmps28
  go_wp2
  go_ret2
  exact ⟨rfl, rfl⟩

set_option maxRecDepth 20000 in
set_option maxHeartbeats 1000000 in
theorem wgfeed_take (g : Gd) (A : Nat) (v : Value) (xs : List Int) (w : World) {p0 p1 q0 q1 : Value} (h : GwAt w A p0 p1 q0 q1 g) (hb : g.br = false) (hv : Byt w v xs) (hvB : ∀ ad n c, v = .slice (some ad) n c → 0 < n → ad.block ≠ A) (hl : xs.length ≤ 200) (hx : g.x.ok g.st g.wi g.sk) (hst : g.st ≤ 50) (hwi : 2 ≤ g.wi) (hwi2 : g.wi ≤ 50) (hsk : g.sk ≤ 50) :
    Calls Try.prog 28 #[.pointer (some ⟨A, 2, none⟩), v] w fun e w' => e = .returned (.tuple #[.int .i64 (fedG g xs).1, .int .i64 (fedG g xs).2.1]) ∧ GwAt w' A p0 p1 q0 q1 (fedG g xs).2.2 ∧ Ex A w w' := by
  obtain ⟨c0, c1, c2, _, _, _, _, _, c8⟩ := h.lims
  rw [hb] at c8
  have T := hid (take_any g.x g.st g.wi g.sk v xs A 5 _ _ w.drew (show WsAt w.drew A _ _ _ from h) rfl (show Byt w.drew v xs from hv) hvB (by omega) hx hst hwi hwi2 hsk)
  obtain ⟨a, cap, rfl, _⟩ := hv.form2
  have hl' : ¬ 200 < (xs.length : Int) := by omega
  clear hv hvB h
  go_enter Try.func28, Try.ntmps28
  go_wp2_with fail
  refine wp_region_held_drew (S := fun w => w.cell? ⟨A, 2, none⟩ = some (.int .i64 g.st) ∧ w.cell? ⟨A, 3, none⟩ = some (.int .i64 g.wi) ∧ w.cell? ⟨A, 4, none⟩ = some (.int .i64 g.sk)) (by kernel_rfl) ⟨c0, c1, c2⟩ (fun hSw => ?_)
  refine wpAnyH_take (i := 0) (v := ?_) rfl (by decide +kernel) (by decide +kernel) (by decide +kernel) (fun _ _ _ h => h) (Or.inl ⟨by rfl, ?_⟩) hSw ?_
  rotate_left
  · intro w hw; go_simp; try with_reducible rfl
  simp only [Act.put, List.getElem_toArray, List.getElem_cons_zero, List.getElem_cons_succ, List.setIfInBounds_toArray, List.set_cons_zero, List.set_cons_succ]
  refine wpAnyH_take (i := 1) (v := ?_) rfl (by decide +kernel) (by decide +kernel) (by decide +kernel) (fun _ _ _ h => h) (Or.inl ⟨by rfl, ?_⟩) hSw ?_
  rotate_left
  · intro w hw; go_simp; try with_reducible rfl
  simp only [Act.put, List.getElem_toArray, List.getElem_cons_zero, List.getElem_cons_succ, List.setIfInBounds_toArray, List.set_cons_zero, List.set_cons_succ]
  refine wpAnyH_take (i := 2) (v := ?_) rfl (by decide +kernel) (by decide +kernel) (by decide +kernel) (fun _ _ _ h => h) (Or.inl ⟨by rfl, ?_⟩) hSw ?_
  rotate_left
  · intro w hw; go_simp; try with_reducible rfl
  simp only [Act.put, List.getElem_toArray, List.getElem_cons_zero, List.getElem_cons_succ, List.setIfInBounds_toArray, List.set_cons_zero, List.set_cons_succ]
  refine wpAnyH_take (i := 3) (v := ?_) rfl (by decide +kernel) (by decide +kernel) (by decide +kernel) (fun _ _ _ h => h) (Or.inl ⟨by rfl, ?_⟩) hSw ?_
  rotate_left
  · intro w hw; go_simp; try with_reducible rfl
  simp only [Act.put, List.getElem_toArray, List.getElem_cons_zero, List.getElem_cons_succ, List.setIfInBounds_toArray, List.set_cons_zero, List.set_cons_succ]
  refine wpAnyH_take (i := 4) (v := ?_) rfl (by decide +kernel) (by decide +kernel) (by decide +kernel) (fun _ _ _ h => h) (Or.inl ⟨by rfl, ?_⟩) hSw ?_
  rotate_left
  · intro w hw; go_simp; try with_reducible rfl
  simp only [Act.put, List.getElem_toArray, List.getElem_cons_zero, List.getElem_cons_succ, List.setIfInBounds_toArray, List.set_cons_zero, List.set_cons_succ]
  refine wpAnyH_take (i := 5) (v := ?_) rfl (by decide +kernel) (by decide +kernel) (by decide +kernel) (fun _ _ _ h => h) (Or.inl ⟨by rfl, ?_⟩) hSw ?_
  rotate_left
  · intro w hw; go_simp; try with_reducible rfl
  simp only [Act.put, List.getElem_toArray, List.getElem_cons_zero, List.getElem_cons_succ, List.setIfInBounds_toArray, List.set_cons_zero, List.set_cons_succ]
  refine wpAnyH_take (i := 6) (v := ?_) rfl (by decide +kernel) (by decide +kernel) (by decide +kernel) (fun _ _ _ h => h) (Or.inl ⟨by rfl, ?_⟩) hSw ?_
  rotate_left
  · intro w hw; go_simp; try with_reducible rfl
  simp only [Act.put, List.getElem_toArray, List.getElem_cons_zero, List.getElem_cons_succ, List.setIfInBounds_toArray, List.set_cons_zero, List.set_cons_succ]
  refine wpAnyH_take (i := 7) (v := ?_) rfl (by decide +kernel) (by decide +kernel) (by decide +kernel) (fun _ _ _ h => h) (Or.inl ⟨by rfl, ?_⟩) hSw ?_
  rotate_left
  · intro w hw; obtain ⟨hc0, hc1, hc2⟩ := hw; go_simp; try with_reducible rfl
  simp only [Act.put, List.getElem_toArray, List.getElem_cons_zero, List.getElem_cons_succ, List.setIfInBounds_toArray, List.set_cons_zero, List.set_cons_succ]
  refine wpAnyH_ready (rs := [8]) (by kernel_rfl) (by simp) ?_
  refine AllReadyH.cons rfl (fun K hK => ?_) AllReadyH.nil
  go_simp
  refine T.out.mono ?_
  rintro e w2 ⟨rfl, hW2, hE2⟩
  have hG2 : GwAt w2 A p0 p1 q0 q1 ⟨g.st, g.wi, g.sk, (takeW g.st g.wi g.sk g.x xs 0).1, false⟩ := by rw [← hb]; exact hW2
  obtain ⟨d0, d1, d2, d3, d4, d5, d6, d7, d8⟩ := hG2.lims
  refine hK.out _ _ ⟨d0, d1, d2⟩ (fun hSw => ?_)
  clear hK K T
  refine wpAnyH_take (i := 9) (v := ?_) rfl (by decide +kernel) (by decide +kernel) (by decide +kernel) (fun _ _ _ h => h) (Or.inl ⟨by rfl, ?_⟩) hSw ?_
  rotate_left
  · intro w hw; go_simp; try with_reducible rfl
  simp only [Act.put, List.getElem_toArray, List.getElem_cons_zero, List.getElem_cons_succ, List.setIfInBounds_toArray, List.set_cons_zero, List.set_cons_succ]
  refine wpAnyH_done (by kernel_rfl) ?_ _
  have HE2 : Hd (Ex A w w2) := hid ((Ex.refl A w).drew.trans hE2)
  clear hW2 hE2 hSw c0 c1 c2 c8
  dsimp only at d0 d1 d2 d3 d4 d5 d6 d7 d8
  rcases hT : takeW g.st g.wi g.sk g.x xs 0 with ⟨y, _ | ⟨b, k⟩⟩
  · rw [hT] at hG2
    have he : fedG g xs = ((xs.length : Int), 0, ⟨g.st, g.wi, g.sk, y, false⟩) := by unfold fedG; rw [hT]
    have He := hid he
    have HG := hid hG2
    clear hG2 d0 d1 d2 d3 d4 d5 d6 d7 d8 he hT
    dsimp only [faultV]
    go_wp2
    go_ret2
    rw [He.out]
    exact ⟨rfl, HG.out, HE2.out⟩
  · rw [hT] at hG2 d3 d4 d5 d6 d7
    dsimp only at d3 d4 d5 d6 d7
    cases b
    · have he : fedG g xs = ((k : Int), 4, ⟨g.st, g.wi, g.sk, W0, true⟩) := by unfold fedG; rw [hT]
      have He := hid he
      have HG := hid (wrW_at hG2 g.st g.wi g.sk true)
      have HX := hid (HE2.out.trans (wrW_ex w2 A g.st g.wi g.sk true))
      have f := fun j => WsAt.frozen hG2 (j + 2)
      have f0 := f 0
      have f1 := f 1
      have f2 := f 2
      have f3 := f 3
      have f4 := f 4
      have f5 := f 5
      have f6 := f 6
      have f7 := f 7
      have f8 := f 8
      have hme := Try.mAhead1 (k : Int)
      clear f hG2 he hT HE2 hl'
      dsimp only [faultV]
      go_wp2_with fail
      change Calls _ _ _ (wrW w2 A g.st g.wi g.sk true) _
      generalize wrW w2 A g.st g.wi g.sk true = w3 at *
      refine (ahead1 (k : Int) w3).mono ?_
      rintro e w4 ⟨rfl, rfl⟩
      clear hme f0 f1 f2 f3 f4 f5 f6 f7 f8 d0 d1 d2 d3 d4 d5 d6 d7 d8
      go_wp2_with fail
      refine (fault1 (k : Int) _).mono ?_
      rintro e w5 ⟨rfl, rfl⟩
      go_wp2
      go_ret2
      rw [He.out]
      exact ⟨rfl, HG.out, HX.out⟩
    · have he : fedG g xs = ((k : Int), 5, ⟨g.st, g.wi, g.sk, W0, true⟩) := by unfold fedG; rw [hT]
      have He := hid he
      have HG := hid (wrW_at hG2 g.st g.wi g.sk true)
      have HX := hid (HE2.out.trans (wrW_ex w2 A g.st g.wi g.sk true))
      have f := fun j => WsAt.frozen hG2 (j + 2)
      have f0 := f 0
      have f1 := f 1
      have f2 := f 2
      have f3 := f 3
      have f4 := f 4
      have f5 := f 5
      have f6 := f 6
      have f7 := f 7
      have f8 := f 8
      have hme := Try.mAhead2 (k : Int)
      clear f hG2 he hT HE2 hl'
      dsimp only [faultV]
      go_wp2_with fail
      change Calls _ _ _ (wrW w2 A g.st g.wi g.sk true) _
      generalize wrW w2 A g.st g.wi g.sk true = w3 at *
      refine (ahead2 (k : Int) w3).mono ?_
      rintro e w4 ⟨rfl, rfl⟩
      clear hme f0 f1 f2 f3 f4 f5 f6 f7 f8 d0 d1 d2 d3 d4 d5 d6 d7 d8
      go_wp2_with fail
      refine (fault2 (k : Int) _).mono ?_
      rintro e w5 ⟨rfl, rfl⟩
      go_wp2
      go_ret2
      rw [He.out]
      exact ⟨rfl, HG.out, HX.out⟩
end Go.Proofs.Ytbifmhbkmnofiaa
namespace Go.Proofs.Ytbifmhbkmnofiaa
open Go.RowKit Go.Lib Go.Sort
set_option linter.unusedVariables false
set_option linter.unusedSimpArgs false
theorem zeroB (w : World) : (zeroValue 5).run Try.prog w = .ok (.int .u8 0) w := by kernel_rfl
set_option maxHeartbeats 1000000 in
/-- Delete of nothing -/
theorem delete_none (a : Option Addr) (n cap : Nat) (w : World) (hcap : n ≤ cap) (hm : cap ≤ 9223372036854775807) :
    Calls Try.prog 58 #[.slice a n cap, .int .i64 0, .int .i64 0] w fun e w' => e = .returned (.slice a n cap) ∧ w' = w := by
  go_enter Try.func58, Try.ntmps58
  go_wp2
  all_goals (go_ret; exact ⟨rfl, rfl⟩)
set_option maxHeartbeats 4000000 in
set_option maxRecDepth 1000000 in
theorem delete_some (blk cap j : Nat) (d : Array Int) (w : World) (hH : Holds (Value.int .u8) w blk 0 d) (hcap : d.size ≤ cap) (hm : cap ≤ 9223372036854775807) (h0 : 0 < j) (hj : j ≤ d.size) :
    Calls Try.prog 58 #[.slice (some ⟨blk, 0, none⟩) d.size cap, .int .i64 0, .int .i64 j] w fun e w' => e = .returned (.slice (some ⟨blk, 0, none⟩) (d.size - j) cap) ∧ ∃ q, w' = putRow (Value.int .u8) (Sort.ahead w q) blk 0 (d.toList.drop j ++ List.replicate j 0).toArray := by
  obtain ⟨i0, hi0, hz0, hz1, hz2⟩ := info_parts Try.infoB
  obtain ⟨news, hnews⟩ : ∃ news, news = (d.toList.drop j).map (Value.int .u8) := ⟨_, rfl⟩
  have hlen : news.length = d.size - j := by rw [hnews]; simp
  have hget : ∀ t, t < d.size - j → news[t]? = some (.int .u8 d[j + t]!) := by
    intro t ht
    rw [hnews, List.getElem?_map, List.getElem?_drop, Array.getElem?_toList, getElem!_pos d (j + t) (by omega), Array.getElem?_eq_getElem (by omega)]
    rfl
  obtain ⟨A, hA, hsrc⟩ : ∃ A : Addr, (if cap = j then some (⟨blk, 0, none⟩ : Addr) else some ⟨blk, j, none⟩) = some A ∧ Hd (∀ t u, news[t]? = some u → w.drew.cell? (A.add t) = some u) := by
    by_cases h : cap = j
    · refine ⟨⟨blk, 0, none⟩, by simp [h], hid fun t u hu => ?_⟩
      have h0 : news.length = 0 := by rw [hlen]; omega
      rw [List.length_eq_zero_iff.1 h0] at hu
      simp at hu
    · refine ⟨⟨blk, j, none⟩, by simp [h], hid fun t u hu => ?_⟩
      have ht : t < d.size - j := by
        have := (List.getElem?_eq_some_iff.1 hu).1
        rwa [hlen] at this
      rw [hget t ht] at hu
      rw [Addr.add_lit]
      have := (hH (j + t) (by omega)).1
      rw [Nat.zero_add] at this
      exact this.trans hu
  have s1 : Hd (news.length = (d.size - j) * 1) := hid (by rw [Nat.mul_one]; exact hlen)
  have s2 : Hd (∀ u ∈ news, u.oneCell' = true) := hid (by
    intro u hu
    rw [hnews] at hu
    obtain ⟨x, _, rfl⟩ := List.mem_map.1 hu
    rfl)
  have s3 : Hd (∀ t, t < news.length → (w.drew.cell? ⟨blk, 0 + 0 * 1 + t, none⟩).isSome = true ∧ w.drew.frozen? ⟨blk, 0 + 0 * 1 + t, none⟩ = false) := hid (by
    intro t ht
    rw [hlen] at ht
    rw [Nat.mul_one, Nat.add_assoc]
    exact ⟨by show (w.cell? _).isSome = true; rw [Nat.zero_add, (hH t (by omega)).1]; rfl, by rw [Nat.zero_add]; exact (hH t (by omega)).2⟩)
  obtain ⟨W1, hW1⟩ : ∃ W1, W1 = w.drew.setCells blk (0 + 0 * 1) news := ⟨_, rfl⟩
  have hW1' : W1 = putRow (Value.int .u8) (Sort.ahead w 1) blk 0 (lay d 0 (d.toList.drop j)) := by
    rw [hW1, hnews, Nat.mul_one, ← putRow_setCells (Value.int .u8) (Sort.ahead w 1) blk 0 _ d 0 (by simp), putRow_self (Value.int .u8) (Sort.ahead w 1) blk 0 d (holds_ahead (Value.int .u8) w 1 blk 0 d hH)]
    rfl
  have hH1 : Holds (Value.int .u8) W1 blk 0 (lay d 0 (d.toList.drop j)) := by rw [hW1']; exact holds_putRow (Value.int .u8) _ blk 0 d _ (holds_ahead (Value.int .u8) w 1 blk 0 d hH) (lay_size _ _ _)
  have hcl : ∀ ty, (Builtin.clear_ #[35] ty #[.slice (some ⟨blk, d.size - j, none⟩) (d.size - (d.size - j)) (cap - (d.size - j))]).run Try.prog W1 = .ok (.tuple #[]) (W1.setCells blk (d.size - j) (List.replicate (d.size - (d.size - j)) (.int .u8 0))) :=
    fun ty => Lib.run_clear_slice W1 _ _ ty _ Try.underlying35 zeroB rfl rfl blk (d.size - j) _ _ (by omega) (fun t ht => by have := (hH1 (d.size - j + t) (by rw [lay_size]; omega)).1; rw [Nat.zero_add] at this; rw [this]; rfl) (fun t ht => by have := (hH1 (d.size - j + t) (by rw [lay_size]; omega)).2; rw [Nat.zero_add] at this; exact this)
  have X : Hd (W1 = putRow (Value.int .u8) (Sort.ahead w 1) blk 0 (lay d 0 (d.toList.drop j))) := hid hW1'
  have hW : Hd (W1 = w.drew.setCells blk (0 + 0 * 1) news) := hid hW1
  have hjc : j ≤ cap := by omega
  have hne : ¬ (0 : Int) = (j : Int) := by omega
  clear hW1 hW1' hH1 hH hget hnews hlen
  go_enter Try.func58, Try.ntmps58
  go_wp2_with fail
  go_region_law (refine step_append_room rfl (.tmp 22) (.tmp 25) 35 rfl 5 i0 1 Try.underlying35 hi0 hz1 blk 0 0 cap (by simp [Act.eval, Act.put]) A (d.size - j) (cap - j) news (by simp [Act.eval, Act.put]) s1.out hsrc.out s2.out (by omega) s3.out ?_; rw [← hW.out])
  go_wp2
  go_ret
  refine ⟨rfl, 1, ?_⟩
  have e := delete_arr d 0 j (0 : Int) (by omega) hj
  rw [Nat.sub_zero, Nat.zero_add, List.take_zero, List.nil_append] at e
  rw [← e, ← putRow_setCells (Value.int .u8) _ blk 0 _ _ (d.size - j) (by rw [lay_size]; simp; omega), ← X.out, List.map_replicate, Nat.zero_add, show d.size - (d.size - j) = j by omega]
theorem OwnB.slice {w : World} {N : Nat} {v : Value} {xs : List Int} (h : OwnB w N v xs) : ∃ a cap, v = .slice a xs.length cap ∧ xs.length ≤ cap ∧ cap ≤ 9223372036854775807 := by
  rcases h.2 with ⟨rfl, h0⟩ | ⟨g, cap, cur, rfl, hb, hg, hn, hm, hs, ht⟩
  · exact ⟨none, 0, by rw [h0], by omega, by omega⟩
  · exact ⟨_, cap, rfl, hn, hm⟩
theorem OwnB.holds {w : World} {N g cap : Nat} {xs : List Int} (h : OwnB w N (.slice (some ⟨g, 0, none⟩) xs.length cap) xs) : Holds (Value.int .u8) w g 0 xs.toArray := by
  rcases h.2 with ⟨h0, _⟩ | ⟨g', cap', cur, hv, hb, hg, hn, hm, hs, ht⟩
  · cases h0
  · cases hv
    intro k hk
    have hk' : k < xs.length := by simpa using hk
    rw [Nat.zero_add]
    refine ⟨?_, by simp [World.frozen?, hg]⟩
    rw [cell_of_row w g k _ _ _ hg]
    have h2 := congrArg (fun l => l[k]?) ht
    simp only [Nat.mul_one, List.getElem?_take, hk', if_pos, List.getElem?_map, Array.getElem?_toList] at h2
    rw [h2, List.getElem?_eq_getElem hk', getElem!_pos _ k (by simpa using hk')]
    simp
/-- slices.Delete of the first ones, of a list that is one's own -/
theorem delete_any (N j : Nat) (v : Value) (xs : List Int) (w : World) (h : OwnB w N v xs) (hj : j ≤ xs.length) :
    Calls Try.prog 58 #[v, .int .i64 0, .int .i64 j] w fun e w' => ∃ v', e = .returned v' ∧ OwnB w' N v' (xs.drop j) ∧ v'.ownBlock = v.ownBlock ∧ Fr (fun k => some k = v.ownBlock) w w' := by
  obtain ⟨a, cap, rfl, hc, hm⟩ := h.slice
  by_cases h0 : j = 0
  · subst h0
    refine (delete_none a xs.length cap w hc hm).mono ?_
    rintro e w' ⟨rfl, rfl⟩
    exact ⟨_, rfl, by rw [List.drop_zero]; exact h, rfl, Fr.refl _ _⟩
  · rcases h.2 with ⟨hv, h1⟩ | ⟨g, cap', cur, hv, hb, hg, hn, hm', hs, ht⟩
    · omega
    · cases hv
      refine (delete_some g cap j xs.toArray w h.holds (by simpa using hc) hm (by omega) (by simpa using hj)).mono ?_
      rintro e w' ⟨rfl, q, rfl⟩
      have hsz : (xs.drop j ++ List.replicate j 0).toArray.size = xs.length := by simp; omega
      have hg2 : (putRow (Value.int .u8) (Sort.ahead w q) g 0 (xs.drop j ++ List.replicate j 0).toArray).heap[g]? = some (.cells (putCells (Value.int .u8) 0 (xs.drop j ++ List.replicate j 0).toArray cur) 5 (0, 0)) := by
        simp [putRow, mapBlock, Sort.ahead, Array.getElem?_modify, hg, onCells]
      refine ⟨_, rfl, ⟨by simp, .inr ⟨g, cap, _, by simp, hb, hg2, by simp; omega, hm', by simp only [putCells, Array.size_mapIdx]; exact hs, ?_⟩⟩, rfl, ⟨rfl, rfl, rfl, by simp [putRow, mapBlock, Sort.ahead], fun k hk hne => ?_⟩⟩
      · apply List.ext_getElem?
        intro t
        rw [Nat.mul_one, List.getElem?_take, List.getElem?_map]
        by_cases hlt : t < (xs.drop j).length
        · have hl2 : t < cur.size := by rw [hs]; simp at hlt; omega
          rw [if_pos hlt, Array.getElem?_toList, putCells, Array.getElem?_mapIdx, Array.getElem?_eq_getElem hl2, Option.map_some, if_pos ⟨by omega, by rw [hsz]; simp at hlt; omega⟩, List.getElem?_eq_getElem hlt, Option.map_some, Nat.sub_zero, getElem!_pos _ t (by rw [hsz]; simp at hlt; omega)]
          simp only [List.getElem_toArray]
          rw [List.getElem_append_left hlt]
        · rw [if_neg hlt, List.getElem?_eq_none (by omega)]; rfl
      · have hne' : g ≠ k := fun e => hne (by rw [e]; rfl)
        simp [putRow, mapBlock, Sort.ahead, Array.getElem?_modify, hne']
end Go.Proofs.Ytbifmhbkmnofiaa
namespace Go.Proofs.Ytbifmhbkmnofiaa
open Go.RowKit
set_option linter.unusedVariables false
set_option linter.unusedSimpArgs false
/-- what is kept: the last two hundred -/
def keepL (xs : List Int) : List Int := xs.drop (xs.length - 200)
theorem keepL_len (xs : List Int) : (keepL xs).length ≤ 200 := by simp [keepL]; omega
theorem OwnB.own {w : World} {N : Nat} {v : Value} {xs : List Int} (h : OwnB w N v xs) : ∀ b, v.ownBlock = some b → N ≤ b ∧ b < w.heap.size := fun b hb => World.ownsRow.lt h b hb
theorem OwnB.other {w w' : World} {N : Nat} {v : Value} {xs : List Int} (h : OwnB w N v xs) (he : ∀ b, v.ownBlock = some b → w'.heap[b]? = w.heap[b]?) : OwnB w' N v xs := owns_other h he
theorem maxI (n : Int) : (if (0 : Int) < n then n else 0) = max 0 n := by split <;> omega
set_option maxRecDepth 20000 in
set_option maxHeartbeats 1000000 in
theorem keep_any (N A : Nat) (p0 p1 sv pv v : Value) (g : Gd) (xs ys : List Int) (w : World) (hG : GwAt w A p0 p1 sv pv g) (hO : OwnB w N sv xs) (hA : sv.ownBlock ≠ some A) (hv : Src w v ys) (hN : N ≤ w.heap.size) (hx : xs.length ≤ 200) (hy : ys.length ≤ 200) :
    Calls Try.prog 49 #[.pointer (some ⟨A, 0, none⟩), v] w fun e w' => e = .returned (.tuple #[]) ∧ ∃ sv', GwAt w' A p0 p1 sv' pv g ∧ OwnB w' N sv' (keepL (xs ++ ys)) ∧ (sv'.ownBlock = sv.ownBlock ∨ ∃ b, sv'.ownBlock = some b ∧ w.heap.size ≤ b) ∧ Fr (fun k => k = A ∨ some k = sv.ownBlock) w w' := by
  obtain ⟨i0, hi, hz0, hz1, hz2⟩ := info_parts Try.infoB
  obtain ⟨_, _, c11, _⟩ := hG.rest
  have hlt := hG.lt
  obtain ⟨a0, cap0, rfl, hle0, hm0⟩ := hO.slice
  have f11 := hG.frozen 11
  have HG := hid hG
  have HO := hid hO
  clear hG hO
  rcases hv with ⟨rfl, rfl⟩ | ⟨ad, cp, rfl, hnews⟩
  · have G1 := HG.out.set0 (.slice a0 xs.length cap0)
    have hA1 : (Value.slice a0 xs.length cap0).ownBlock ≠ some A := hA
    have O1 : OwnB (w.setCell ⟨A, 11, none⟩ (.slice a0 xs.length cap0)) N (.slice a0 xs.length cap0) xs := HO.out.other (fun b hb => Below.heap_setCell _ _ _ _ (fun e => hA (by rw [hb]; exact congrArg some e)))
    have F1 := hid ((Fr.of_ex ((Ex.refl A w).setCell 11 (.slice a0 xs.length cap0))).mono (T := fun k => k = A ∨ some k = (Value.slice a0 xs.length cap0).ownBlock) (fun k _ h => .inl h))
    have HG1 := hid G1
    have HO1 := hid O1
    clear G1 O1
    go_enter Try.func49, Try.ntmps49
    go_wp2_with (at_builtin; refine wpList_append_own_none rfl _ _ 35 rfl N 5 i0 1 Try.underlying35 hi _ _ _ rfl HO.out rfl ?_)
    generalize (w.setCell ⟨A, 11, none⟩ (.slice a0 xs.length cap0)) = w1 at *
    have O1 := HO1.out
    have G1 := HG1.out
    have hmax : max 0 ((xs.length : Int) - 200) = ((xs.length - 200 : Nat) : Int) := by omega
    rw [hmax]
    refine (delete_any N (xs.length - 200) _ xs _ O1 (by omega)).mono ?_
    rintro e w3 ⟨v3, rfl, O3, hb3, hF3⟩
    obtain ⟨a3, cap3, hv3, _, _⟩ := O3.slice
    generalize hn3 : (List.drop _ _).length = n3 at hv3
    clear hn3
    have G3 : GwAt w3 A p0 p1 _ pv g := G1.other (hF3.block A G1.lt (fun e => hA1 e.symm))
    have f3 := G3.frozen 11
    obtain ⟨_, _, c3, _⟩ := G3.rest
    have G4 := hid (G3.set0 v3)
    have O4 : Hd (OwnB (w3.setCell ⟨A, 11, none⟩ v3) N v3 (keepL xs)) := hid (O3.other (fun b hb => Below.heap_setCell _ _ _ _ (fun e => hA1 (by rw [← hb3, hb]; exact congrArg some e))))
    have hb4 := hid hb3
    have F4 := hid ((Fr.of_ex ((Ex.refl A w3).setCell 11 v3)).mono (T := fun k => k = A ∨ some k = (Value.slice a0 xs.length cap0).ownBlock) (fun k _ h => .inl h))
    have F3 := hid (hF3.mono (T := fun k => k = A ∨ some k = (Value.slice a0 xs.length cap0).ownBlock) (fun k _ h => .inr h))
    clear O3 G3 O1 G1 hF3 hb3
    subst hv3
    clear c11 f11 HO HG HG1 HO1 hmax
    go_wp2
    go_end0
    rw [List.append_nil]
    exact ⟨rfl, _, G4.out, O4.out, .inl hb4.out, (F1.out.trans F3.out).trans F4.out⟩
  · have Hnews := hid hnews
    clear hnews
    go_enter Try.func49, Try.ntmps49
    go_wp2_with (at_builtin; refine wpList_append_own_at _ rfl _ _ 35 rfl N 5 i0 (.int .u8 0) 1 1 Try.underlying35 hi hz0 hz1 hz2 rfl (by decide) _ _ _ rfl HO.out _ _ _ (ys.map (Value.int .u8)) rfl (by simp) Hnews.out (one_ints _ _) (by unfold maxLen; omega) (by omega) hN ?_)
    intro v1 w0 hown hgrow _ hat
    have O0 : OwnB w0 N v1 (xs ++ ys) := by
      unfold OwnB
      rw [List.length_append, List.map_append]
      exact hown
    have hA1 : v1.ownBlock ≠ some A := by
      rcases hat with h | h
      · rw [h]; exact hA
      · rw [h]; intro e; have := Option.some.inj e; omega
    have G0 : GwAt w0 A p0 p1 _ pv g := HG.out.other (hgrow.block A hlt (fun e => hA e.symm))
    have F0 := hid ((Fr.of_grown hgrow).mono (T := fun k => k = A ∨ some k = (Value.slice a0 xs.length cap0).ownBlock) (fun k _ h => .inr h))
    have hz0' := hgrow.size
    have f0 := G0.frozen 11
    obtain ⟨_, _, c0, _⟩ := G0.rest
    obtain ⟨a1, cap1, rfl, hle1, hm1⟩ := O0.slice
    have G1 := G0.set0 (.slice a1 (xs ++ ys).length cap1)
    have O1 : OwnB (w0.setCell ⟨A, 11, none⟩ (.slice a1 (xs ++ ys).length cap1)) N (.slice a1 (xs ++ ys).length cap1) (xs ++ ys) := O0.other (fun b hb => Below.heap_setCell _ _ _ _ (fun e => hA1 (by rw [hb]; exact congrArg some e)))
    have F1 := hid ((Fr.of_ex ((Ex.refl A w0).setCell 11 (.slice a1 (xs ++ ys).length cap1))).mono (T := fun k => k = A ∨ some k = (Value.slice a0 xs.length cap0).ownBlock) (fun k _ h => .inl h))
    have hlen : (xs ++ ys).length ≤ 400 := by rw [List.length_append]; omega
    have Hat := hid hat
    have HG1 := hid G1
    have HO1 := hid O1
    clear G1 O1 G0 O0 hown hgrow hat c11 f11 HO HG Hnews
    generalize hzs : xs ++ ys = zs at *
    have Hzs := hid hzs
    clear hzs
    go_wp2_with fail
    generalize (w0.setCell ⟨A, 11, none⟩ (.slice a1 zs.length cap1)) = w1 at *
    have O1 := HO1.out
    have G1 := HG1.out
    have hmax : max 0 ((zs.length : Int) - 200) = ((zs.length - 200 : Nat) : Int) := by omega
    rw [hmax]
    refine (delete_any N (zs.length - 200) _ zs _ O1 (by omega)).mono ?_
    rintro e w3 ⟨v3, rfl, O3, hb3, hF3⟩
    obtain ⟨a3, cap3, hv3, _, _⟩ := O3.slice
    generalize hn3 : (List.drop _ _).length = n3 at hv3
    clear hn3
    have G3 : GwAt w3 A p0 p1 _ pv g := G1.other (hF3.block A G1.lt (fun e => hA1 e.symm))
    have f3 := G3.frozen 11
    obtain ⟨_, _, c3, _⟩ := G3.rest
    have G4 := hid (G3.set0 v3)
    have O4 : Hd (OwnB (w3.setCell ⟨A, 11, none⟩ v3) N v3 (keepL zs)) := hid (O3.other (fun b hb => Below.heap_setCell _ _ _ _ (fun e => hA1 (by rw [← hb3, hb]; exact congrArg some e))))
    have hb4 := hid hb3
    have F4 := hid ((Fr.of_ex ((Ex.refl A w3).setCell 11 v3)).mono (T := fun k => k = A ∨ some k = (Value.slice a0 xs.length cap0).ownBlock ∨ w.heap.size ≤ k) (fun k _ h => .inl h))
    have F3 := hid (hF3.mono (T := fun k => k = A ∨ some k = (Value.slice a0 xs.length cap0).ownBlock ∨ w.heap.size ≤ k) (fun k _ h => .inr (by
      rcases Hat.out with e | e
      · exact .inl (h.trans e)
      · rw [e] at h
        exact .inr (by have := Option.some.inj h; omega))))
    clear O3 G3 O1 G1 hF3 hb3
    subst hv3
    clear f0 c0 HG1 HO1 hmax
    go_wp2
    go_end0
    rw [Hzs.out]
    refine ⟨rfl, _, G4.out, O4.out, ?_, ?_⟩
    · rcases Hat.out with e | e
      · exact .inl (hb4.out.trans e)
      · exact .inr ⟨_, hb4.out.trans e, Nat.le_refl _⟩
    · have F5 := F3.out.trans F4.out
      have F6 := F0.out.trans F1.out
      exact ⟨F5.os.trans F6.os, F5.tape.trans F6.tape, F5.output.trans F6.output, Nat.le_trans F6.size F5.size, fun k hk hS => (F5.block k (Nat.lt_of_lt_of_le hk F6.size) (fun h => hS (by
        rcases h with h | h | h
        · exact .inl h
        · exact .inr h
        · omega))).trans (F6.block k hk hS)⟩
end Go.Proofs.Ytbifmhbkmnofiaa
namespace Go.Proofs.Ytbifmhbkmnofiaa
open Go.RowKit
set_option linter.unusedVariables false
set_option linter.unusedSimpArgs false
/-- a well: kind, name, guard, the samples that are kept, its generator -/
structure Wel where
  k : Int
  nm : ByteArray
  g : Gd
  kept : List Int
  s : Option Fnt
/-- the well's generator lies at two blocks of the well's own -/
def SrcAt (w : World) (bs : List Nat) (A : Nat) (ob : Option Nat) (pv : Value) : Option Fnt → Prop
  | none => pv = .pointer none
  | some f => ∃ SA SB, pv = .pointer (some ⟨SA, 0, none⟩) ∧ FtAt w SA SB f ∧ SA ∈ bs ∧ SB ∈ bs ∧ SA ≠ A ∧ SB ≠ A ∧ ob ≠ some SA ∧ ob ≠ some SB
/-- a well lies in block A, and what is its own in the blocks bs, none below N -/
structure WlAt (w : World) (N A : Nat) (bs : List Nat) (x : Wel) (sv pv : Value) : Prop where
  gw : GwAt w A (.int .i64 x.k) (.string x.nm) sv pv x.g
  own : OwnB w N sv x.kept
  ob : ∀ b, sv.ownBlock = some b → b ∈ bs ∧ b ≠ A
  src : SrcAt w bs A sv.ownBlock pv x.s
  mem : A ∈ bs
  lo : ∀ b ∈ bs, N ≤ b ∧ b < w.heap.size
def WellAt (w : World) (N A : Nat) (bs : List Nat) (x : Wel) : Prop := ∃ sv pv, WlAt w N A bs x sv pv
theorem SrcAt.other {w w' : World} {bs : List Nat} {A : Nat} {ob : Option Nat} {pv : Value} {s : Option Fnt} (h : SrcAt w bs A ob pv s) (he : ∀ b ∈ bs, b ≠ A → w'.heap[b]? = w.heap[b]?) : SrcAt w' bs A ob pv s := by
  cases s with
  | none => exact h
  | some f =>
    obtain ⟨SA, SB, h1, h2, h3, h4, h5, h6, h7, h8⟩ := h
    exact ⟨SA, SB, h1, h2.other (he SA h3 h5) (he SB h4 h6), h3, h4, h5, h6, h7, h8⟩
theorem SrcAt.mono {w : World} {bs bs' : List Nat} {A : Nat} {ob ob' : Option Nat} {pv : Value} {s : Option Fnt} (h : SrcAt w bs A ob pv s) (he : ∀ b ∈ bs, b ∈ bs') (ho : ob' = ob ∨ ∀ b, ob' = some b → w.heap.size ≤ b) : SrcAt w bs' A ob' pv s := by
  cases s with
  | none => exact h
  | some f =>
    obtain ⟨SA, SB, h1, h2, h3, h4, h5, h6, h7, h8⟩ := h
    have hl := h2.lt
    have hl2 := h2.gen.lt
    refine ⟨SA, SB, h1, h2, he _ h3, he _ h4, h5, h6, ?_, ?_⟩
    · rcases ho with rfl | ho
      · exact h7
      · intro e; have := ho _ e; omega
    · rcases ho with rfl | ho
      · exact h8
      · intro e; have := ho _ e; omega
theorem WellAt.other {w w' : World} {N A : Nat} {bs : List Nat} {x : Wel} (h : WellAt w N A bs x) (hs : w.heap.size ≤ w'.heap.size) (he : ∀ b ∈ bs, w'.heap[b]? = w.heap[b]?) : WellAt w' N A bs x := by
  obtain ⟨sv, pv, h⟩ := h
  exact ⟨sv, pv, h.gw.other (he A h.mem), h.own.other (fun b hb => he b (h.ob b hb).1), h.ob, h.src.other (fun b hb _ => he b hb), h.mem, fun b hb => ⟨(h.lo b hb).1, by have := (h.lo b hb).2; omega⟩⟩
theorem WellAt.below {w w' : World} {N A : Nat} {bs : List Nat} {x : Wel} (h : WellAt w N A bs x) (hb : Below w.heap.size w w') : WellAt w' N A bs x :=
  h.other hb.size (fun b hm => by obtain ⟨sv, pv, h⟩ := h; exact hb.block b (h.lo b hm).2)
/-- a well's step: it may take new blocks, and turns none but its own -/
structure Turns (w w' : World) (bs bs' : List Nat) : Prop where
  fr : Fr (fun k => k ∈ bs) w w'
  grow : ∀ b ∈ bs', b ∈ bs ∨ w.heap.size ≤ b
set_option maxRecDepth 20000 in
set_option maxHeartbeats 1000000 in
theorem open_yes (k st wi sk : Int) (nm : ByteArray) (N : Nat) (w : World) (hk : k = 1 ∨ k = 2) (h : 2 ≤ st ∧ st ≤ 50 ∧ 2 ≤ wi ∧ wi ≤ 50 ∧ 2 ≤ sk ∧ sk ≤ wi) (hn : nm.size ≤ 64) (hN : N ≤ w.heap.size) :
    Calls Try.prog 31 #[.int .i64 k, .agg #[.int .i64 st, .int .i64 wi, .int .i64 sk], .string nm] w fun e w' => ∃ A, e = .returned (.tuple #[.pointer (some ⟨A, 0, none⟩), .int .i64 0]) ∧ w.heap.size ≤ A ∧ WellAt w' N A [A] ⟨k, nm, ⟨st, wi, sk, W0, false⟩, [], none⟩ ∧ Below w.heap.size w w' := by
  have hn' : (nm.size : Int) ≤ 64 := by omega
  have U : ∀ w, Calls Try.prog 42 #[.int .i64 k] w fun e w' => (∃ t B, e = .returned (.iface t (.pointer (some ⟨B, 0, none⟩)))) ∧ Below w.heap.size w w' := by
    intro w
    rcases hk with rfl | rfl
    · refine (unseeded_m w).mono ?_
      rintro e w' ⟨rfl, _, hB⟩
      exact ⟨⟨_, _, rfl⟩, hB⟩
    · refine (unseeded_s w).mono ?_
      rintro e w' ⟨rfl, _, hB⟩
      exact ⟨⟨_, _, rfl⟩, hB⟩
  clear hk
  have hb1 := al_new w (.cells #[.int .i64 st, .int .i64 wi, .int .i64 sk] 51)
  have hB1 : Below w.heap.size w (w.alloc (.cells #[.int .i64 st, .int .i64 wi, .int .i64 sk] 51)) := (Below.refl _ _).alloc (Nat.le_refl _) _
  have HB1 := hid hB1
  have Hb1 := hid hb1
  clear hb1 hB1
  go_enter Try.func31, Try.ntmps31
  go_wp2_with fail
  have hz1 := al_size w (.cells #[.int .i64 st, .int .i64 wi, .int .i64 sk] 51)
  generalize (w.alloc (.cells #[.int .i64 st, .int .i64 wi, .int .i64 sk] 51)) = w1 at *
  refine (U w1).mono ?_
  rintro e w2 ⟨⟨t, B, rfl⟩, hB2⟩
  have hlim := (hB2.block w.heap.size (by omega)).trans Hb1.out
  have d0 := cell_of_row _ _ 0 _ _ _ hlim
  have d1 := cell_of_row _ _ 1 _ _ _ hlim
  have d2 := cell_of_row _ _ 2 _ _ _ hlim
  simp only [List.getElem?_toArray, List.getElem?_cons_zero, List.getElem?_cons_succ] at d0 d1 d2
  have Hlim := hid hlim
  have HB2 := hid (HB1.out.trans (hB2.mono HB1.out.size))
  have hz2 := hB2.size
  clear hlim hB2 HB1 Hb1 U
  go_wp2_with fail
  refine (mayWatch_yes st wi sk _ h).mono ?_
  rintro e w3 ⟨rfl, hB3⟩
  have hlim := (hB3.block w.heap.size (by omega)).trans Hlim.out
  have e0 := cell_of_row _ _ 0 _ _ _ hlim
  have e1 := cell_of_row _ _ 1 _ _ _ hlim
  have e2 := cell_of_row _ _ 2 _ _ _ hlim
  simp only [List.getElem?_toArray, List.getElem?_cons_zero, List.getElem?_cons_succ] at e0 e1 e2
  have HB3 := hid (HB2.out.trans (hB3.mono HB2.out.size))
  clear hlim hB3 HB2 Hlim h d0 d1 d2
  go_wp2
  go_ret2
  have hz3 := HB3.out.size
  refine ⟨w3.heap.size, rfl, hz3, ⟨_, _, ⟨⟨_, al_new _ _⟩, World.ownsRow_nil _ _ _ _, fun b hb => by simp [Value.ownBlock] at hb, rfl, by simp, fun b hb => ?_⟩⟩, HB3.out.alloc hz3 _⟩
  simp at hb
  subst hb
  exact ⟨by omega, by rw [al_size]; omega⟩
set_option maxHeartbeats 400000 in
theorem open_kind (k : Int) (vw : Value) (st wi sk : Int) (nm : ByteArray) (w : World) (h1 : k ≠ 1) (h2 : k ≠ 2) (hv : vw = .agg #[.int .i64 st, .int .i64 wi, .int .i64 sk]) :
    Calls Try.prog 31 #[.int .i64 k, vw, .string nm] w fun e w' => e = .returned (.tuple #[.pointer none, .int .i64 1]) ∧ Below w.heap.size w w' := by
  subst hv
  have HB1 := hid ((Below.refl w.heap.size w).alloc (Nat.le_refl _) (.cells #[.int .i64 st, .int .i64 wi, .int .i64 sk] 51))
  go_enter Try.func31, Try.ntmps31
  go_wp2_with fail
  generalize (w.alloc (.cells #[.int .i64 st, .int .i64 wi, .int .i64 sk] 51)) = w1 at *
  refine (unseeded_no k w1 h1 h2).mono ?_
  rintro e w2 ⟨rfl, rfl⟩
  go_wp2
  go_ret2
  exact ⟨rfl, HB1.out⟩
set_option maxHeartbeats 400000 in
theorem samples_any (N A : Nat) (bs : List Nat) (x : Wel) (w : World) (h : WellAt w N A bs x) :
    Calls Try.prog 34 #[.pointer (some ⟨A, 0, none⟩)] w fun e w' => e = .returned (.int .i64 x.kept.length) ∧ w' = w := by
  obtain ⟨sv, pv, h⟩ := h
  obtain ⟨_, _, c11, _⟩ := h.gw.rest
  obtain ⟨a, cap, rfl, _, hm⟩ := h.own.slice
  clear h
  generalize x.kept.length = n at *
  go_enter Try.func34, Try.ntmps34
  go_wp2
  go_ret
  exact ⟨rfl, rfl⟩
end Go.Proofs.Ytbifmhbkmnofiaa
namespace Go.Proofs.Ytbifmhbkmnofiaa
open Go.RowKit
set_option linter.unusedVariables false
set_option linter.unusedSimpArgs false
/-- limits that may be, and a watch that keeps to them -/
structure Gd.ok (g : Gd) : Prop where
  l : 2 ≤ g.st ∧ g.st ≤ 50 ∧ 2 ≤ g.wi ∧ g.wi ≤ 50 ∧ 2 ≤ g.sk ∧ g.sk ≤ g.wi
  x : g.x.ok g.st g.wi g.sk
theorem Gd.ok_new {st wi sk : Int} (h : 2 ≤ st ∧ st ≤ 50 ∧ 2 ≤ wi ∧ wi ≤ 50 ∧ 2 ≤ sk ∧ sk ≤ wi) (b : Bool) : (⟨st, wi, sk, W0, b⟩ : Gd).ok := ⟨h, W0_ok h.1 h.2.2.1 h.2.2.2.2.1⟩
/-- the guard's answer: all right, and not broken; or one of the two errors, and broken -/
theorem fedG_form {g : Gd} (h : g.ok) (xs : List Int) : (fedG g xs).2.2.ok ∧ (((fedG g xs).2.1 = 0 ∧ (fedG g xs).2.2.br = false ∧ (fedG g xs).1 = xs.length) ∨ (((fedG g xs).2.1 = 4 ∨ (fedG g xs).2.1 = 5) ∧ (fedG g xs).2.2.br = true)) := by
  rcases hT : takeW g.st g.wi g.sk g.x xs 0 with ⟨y, _ | ⟨b, k⟩⟩
  · have e : fedG g xs = ((xs.length : Int), 0, ⟨g.st, g.wi, g.sk, y, false⟩) := by unfold fedG; rw [hT]
    rw [e]
    exact ⟨⟨h.l, takeW_ok h.l.2.2.1 h.x hT⟩, .inl ⟨rfl, rfl, rfl⟩⟩
  · cases b
    · have e : fedG g xs = ((k : Int), 4, ⟨g.st, g.wi, g.sk, W0, true⟩) := by unfold fedG; rw [hT]
      rw [e]
      exact ⟨Gd.ok_new h.l true, .inr ⟨.inl rfl, rfl⟩⟩
    · have e : fedG g xs = ((k : Int), 5, ⟨g.st, g.wi, g.sk, W0, true⟩) := by unfold fedG; rw [hT]
      rw [e]
      exact ⟨Gd.ok_new h.l true, .inr ⟨.inr rfl, rfl⟩⟩
/-- what a well's Feed answers, and the well behind it -/
def pourW (x : Wel) (ys : List Int) : Int × Int × Wel :=
  if x.g.br = true then (0, 6, ⟨x.k, x.nm, x.g, [], x.s⟩)
  else if 200 < ys.length then (0, 2, x)
  else ((fedG x.g ys).1, (fedG x.g ys).2.1, ⟨x.k, x.nm, (fedG x.g ys).2.2, if (fedG x.g ys).2.1 = 0 then keepL (x.kept ++ ys) else [], x.s⟩)
theorem add_blk (a : Addr) (j : Nat) : (a.add j).block = a.block := by
  unfold Addr.add
  split <;> rfl
theorem Src.other {w w' : World} {v : Value} {xs : List Int} (h : Src w v xs) (he : ∀ ad n c, v = .slice (some ad) n c → 0 < n → w'.heap[ad.block]? = w.heap[ad.block]?) : Src w' v xs := by
  rcases h with h | ⟨ad, cap, rfl, hc⟩
  · exact Or.inl h
  · refine Or.inr ⟨ad, cap, rfl, fun j u hu => ?_⟩
    have hp : 0 < xs.length := by have := (List.getElem?_eq_some_iff.1 hu).1; simp at this; omega
    rw [World.cell?_of_block (w := w) (by rw [add_blk]; exact he _ _ _ rfl hp)]
    exact hc j u hu
set_option maxRecDepth 20000 in
set_option maxHeartbeats 1000000 in
theorem wfeed_dead (N A : Nat) (bs : List Nat) (x : Wel) (a : Option Addr) (n c : Nat) (w : World) (h : WellAt w N A bs x) (hb : x.g.br = true) :
    Calls Try.prog 33 #[.pointer (some ⟨A, 0, none⟩), .slice a n c] w fun e w' => e = .returned (.tuple #[.int .i64 0, .int .i64 6]) ∧ WellAt w' N A bs ⟨x.k, x.nm, x.g, [], x.s⟩ ∧ Turns w w' bs bs := by
  obtain ⟨sv, pv, h⟩ := h
  have G := hid h.gw
  obtain ⟨_, _, _, _, _, _, _, _, c10⟩ := h.gw.lims
  obtain ⟨_, _, c11, _⟩ := h.gw.rest
  have f11 := h.gw.frozen 11
  obtain ⟨sa, scap, hsv, _, _⟩ := h.own.slice
  have Hend : Hd (WellAt (w.setCell ⟨A, 11, none⟩ (.slice none 0 0)) N A bs ⟨x.k, x.nm, x.g, [], x.s⟩ ∧ Turns w (w.setCell ⟨A, 11, none⟩ (.slice none 0 0)) bs bs) := by
    have hF := (Ex.refl A w).setCell 11 (.slice none 0 0)
    refine hid ⟨⟨_, _, h.gw.set0 _, World.ownsRow_nil _ _ _ _, fun b hb => by simp [Value.ownBlock] at hb, (h.src.other (fun b hb hA => hF.block b (h.lo b hb).2 hA)).mono (fun b hb => hb) (.inr (fun b hb => by simp [Value.ownBlock] at hb)), h.mem, fun b hb => ⟨(h.lo b hb).1, by have := (h.lo b hb).2; have := hF.size; omega⟩⟩, (Fr.of_ex hF).mono (fun k _ e => by rw [e]; exact h.mem), fun b hb => .inl hb⟩
  rw [hb] at c10
  subst hsv
  clear h
  go_enter Try.func33, Try.ntmps33
  go_wp2_with fail
  refine (wgfeed_dead x.g A a n c _ G.out hb).mono ?_
  rintro e w0 ⟨rfl, hw0⟩
  have hw1 := hw0.symm
  subst hw1
  clear hw0
  go_wp2
  go_ret2
  exact ⟨rfl, Hend.out⟩
set_option maxRecDepth 20000 in
set_option maxHeartbeats 1000000 in
theorem wfeed_many (N A : Nat) (bs : List Nat) (x : Wel) (a : Option Addr) (n c : Nat) (w : World) (h : WellAt w N A bs x) (hb : x.g.br = false) (hn : 200 < n) :
    Calls Try.prog 33 #[.pointer (some ⟨A, 0, none⟩), .slice a n c] w fun e w' => e = .returned (.tuple #[.int .i64 0, .int .i64 2]) ∧ w' = w := by
  obtain ⟨sv, pv, h⟩ := h
  have G := hid h.gw
  obtain ⟨_, _, _, _, _, _, _, _, c10⟩ := h.gw.lims
  rw [hb] at c10
  clear h
  go_enter Try.func33, Try.ntmps33
  go_wp2_with fail
  refine (wgfeed_many x.g A a n c _ G.out hb hn).mono ?_
  rintro e w0 ⟨rfl, hw0⟩
  have hw1 := hw0.symm
  subst hw1
  clear hw0
  go_wp2
  go_ret2
  exact ⟨rfl, rfl⟩
set_option maxRecDepth 20000 in
set_option maxHeartbeats 1000000 in
theorem wfeed_take (N A : Nat) (bs : List Nat) (x : Wel) (v : Value) (ys : List Int) (w : World) (h : WellAt w N A bs x) (hb : x.g.br = false) (hv : Src w v ys) (hvB : ∀ ad n c, v = .slice (some ad) n c → 0 < n → ad.block ≠ A) (hl : ys.length ≤ 200) (hx : x.g.ok) (hk : x.kept.length ≤ 200) (hN : N ≤ w.heap.size) :
    Calls Try.prog 33 #[.pointer (some ⟨A, 0, none⟩), v] w fun e w' => e = .returned (.tuple #[.int .i64 (fedG x.g ys).1, .int .i64 (fedG x.g ys).2.1]) ∧ ∃ bs', WellAt w' N A bs' ⟨x.k, x.nm, (fedG x.g ys).2.2, if (fedG x.g ys).2.1 = 0 then keepL (x.kept ++ ys) else [], x.s⟩ ∧ Turns w w' bs bs' := by
  obtain ⟨sv, pv, h⟩ := h
  have hform := fedG_form hx ys
  have T := hid (wgfeed_take x.g A v ys w h.gw hb hv.byt hvB hl hx.x hx.l.2.1 hx.l.2.2.1 hx.l.2.2.2.1 (by have := hx.l; omega))
  generalize hfe : fedG x.g ys = r at *
  obtain ⟨m, er, g'⟩ := r
  dsimp only at *
  have H := hid h
  have Hv := hid hv
  obtain ⟨a, n, c, hvs⟩ : ∃ a n c, v = .slice a n c := by
    rcases hv with ⟨_, h⟩ | ⟨ad, cp, h, _⟩
    · exact ⟨_, _, _, h⟩
    · exact ⟨_, _, _, h⟩
  have HvB := hid hvB
  clear h hv hvB hfe
  subst hvs
  go_enter Try.func33, Try.ntmps33
  go_wp2_with fail
  refine T.out.mono ?_
  rintro e w1 ⟨rfl, hG1, hE1⟩
  have hz1 := hE1.size
  have hO1 : OwnB w1 N sv x.kept := H.out.own.other (fun b hb => hE1.block b (H.out.lo b (H.out.ob b hb).1).2 (H.out.ob b hb).2)
  have hS1 : SrcAt w1 bs A sv.ownBlock pv x.s := H.out.src.other (fun b hb hA => hE1.block b (H.out.lo b hb).2 hA)
  have hv1 : Src w1 (.slice a n c) ys := Hv.out.other (fun ad n' c' hh hp => hE1.block _ (by
    rcases Hv.out with ⟨h0, h⟩ | ⟨ad2, cp, h, hc⟩
    · rw [hh] at h; cases h
    · rw [hh] at h
      cases h
      have := hc 0 (.int .u8 (ys[0]'(by omega))) (by simp [List.getElem?_eq_getElem (show 0 < ys.length by omega)])
      have := World.block_lt_of_cell? w _ this
      rw [add_blk] at this
      exact this) (HvB.out ad n' c' hh hp))
  obtain ⟨_, _, _, _, _, _, _, _, c10⟩ := hG1.lims
  obtain ⟨_, _, c11, _⟩ := hG1.rest
  have f11 := hG1.frozen 11
  rcases hform.2 with ⟨he, hbr, hm⟩ | ⟨he, hbr⟩
  · subst he
    rw [hbr] at c10
    have K := hid (keep_any N A _ _ sv pv _ g' x.kept ys w1 hG1 hO1 (fun e => (H.out.ob A e).2 rfl) hv1 (by omega) hk hl)
    have HE1 := hid hE1
    have HS1 := hid hS1
    clear hG1 hO1 hS1 hE1 hv1 T Hv HvB c11 f11
    go_wp2_with fail
    refine K.out.mono ?_
    rintro e w2 ⟨rfl, sv2, hG2, hO2, hob2, hF2⟩
    have hz2 := hF2.size
    obtain ⟨_, _, _, _, _, _, _, _, d10⟩ := hG2.lims
    rw [hbr] at d10
    have Hend : Hd (∃ bs', WellAt w2 N A bs' ⟨x.k, x.nm, g', keepL (x.kept ++ ys), x.s⟩ ∧ Turns w w2 bs bs') := by
      have hS2 : SrcAt w2 bs A sv.ownBlock pv x.s := by
        cases hs : x.s with
        | none => have := HS1.out; rw [hs] at this; exact this
        | some f =>
          have := HS1.out
          rw [hs] at this
          obtain ⟨SA, SB, h1, h2, h3, h4, h5, h6, h7, h8⟩ := this
          exact ⟨SA, SB, h1, h2.other (hF2.block SA h2.lt (fun e => e.elim h5 (fun e => h7 e.symm))) (hF2.block SB h2.gen.lt (fun e => e.elim h6 (fun e => h8 e.symm))), h3, h4, h5, h6, h7, h8⟩
      have hFr : Fr (fun k => k ∈ bs) w w2 := ((Fr.of_ex HE1.out).mono (fun k _ e => by rw [e]; exact H.out.mem)).trans (hF2.mono (fun k _ e => e.elim (fun e => by rw [e]; exact H.out.mem) (fun e => (H.out.ob k e.symm).1)))
      rcases hob2 with e | ⟨b, e, hb⟩
      · exact hid ⟨bs, ⟨sv2, pv, hG2, hO2, fun b hb => H.out.ob b (e ▸ hb), by rw [e]; exact hS2, H.out.mem, fun b hb => ⟨(H.out.lo b hb).1, by have := (H.out.lo b hb).2; omega⟩⟩, hFr, fun b hb => .inl hb⟩
      · have hlt := (World.ownsRow.lt hO2 b e)
        have hA := (H.out.lo A H.out.mem).2
        refine hid ⟨b :: bs, ⟨sv2, pv, hG2, hO2, fun b' hb' => ?_, ?_, by simp [H.out.mem], fun b' hb' => ?_⟩, hFr, fun b' hb' => ?_⟩
        · rw [e] at hb'
          cases hb'
          exact ⟨by simp, by omega⟩
        · rw [e]
          cases hs : x.s with
          | none => rw [hs] at hS2; exact hS2
          | some f =>
            rw [hs] at hS2
            have h0 := HS1.out
            rw [hs] at h0
            obtain ⟨SA, SB, h1, h2, h3, h4, h5, h6, h7, h8⟩ := hS2
            have q1 := (H.out.lo SA h3).2
            have q2 := (H.out.lo SB h4).2
            exact ⟨SA, SB, h1, h2, by simp [h3], by simp [h4], h5, h6, fun e => by cases e; omega, fun e => by cases e; omega⟩
        · rcases List.mem_cons.1 hb' with rfl | hb'
          · exact ⟨hlt.1, hlt.2⟩
          · exact ⟨(H.out.lo b' hb').1, by have := (H.out.lo b' hb').2; omega⟩
        · rcases List.mem_cons.1 hb' with rfl | hb'
          · exact .inr (by omega)
          · exact .inl hb'
    clear hG2 hO2 hob2 hF2 K
    go_wp2
    go_ret2
    exact ⟨rfl, Hend.out⟩
  · rw [hbr] at c10
    obtain ⟨sa, scap, hsv, _, _⟩ := hO1.slice
    have hne : er ≠ 0 := by omega
    have hF := (Ex.refl A w1).setCell 11 (.slice none 0 0)
    have Hend : Hd (WellAt (w1.setCell ⟨A, 11, none⟩ (.slice none 0 0)) N A bs ⟨x.k, x.nm, g', [], x.s⟩ ∧ Turns w (w1.setCell ⟨A, 11, none⟩ (.slice none 0 0)) bs bs) := by
      refine hid ⟨⟨_, _, hG1.set0 _, World.ownsRow_nil _ _ _ _, fun b hb => by simp [Value.ownBlock] at hb, (hS1.other (fun b hb hA => hF.block b (by have := (H.out.lo b hb).2; omega) hA)).mono (fun b hb => hb) (.inr (fun b hb => by simp [Value.ownBlock] at hb)), H.out.mem, fun b hb => ⟨(H.out.lo b hb).1, by have := (H.out.lo b hb).2; have := hF.size; omega⟩⟩, ((Fr.of_ex hE1).trans (Fr.of_ex hF)).mono (fun k _ e => by rw [e]; exact H.out.mem), fun b hb => .inl hb⟩
    clear hG1 hO1 hS1 hE1 hv1 T Hv HvB hF
    subst hsv
    have hne' : (er == 0) = false := by simpa using hne
    go_wp2
    go_ret2
    exact ⟨rfl, bs, Hend.out⟩
end Go.Proofs.Ytbifmhbkmnofiaa
namespace Go.Proofs.Ytbifmhbkmnofiaa
open Go.RowKit
set_option linter.unusedVariables false
set_option linter.unusedSimpArgs false
/-- the generator behind a seeding -/
def seedW (x : Wel) : Fnt := match x.s with
  | none => ⟨seedOf x.k (shaI x.kept ++ bts x.nm), 1⟩
  | some f => ⟨reseedOf f.g (shaI x.kept), 1⟩
theorem bts0' : bts ⟨#[]⟩ = [] := rfl
/-- a well behind the blocks of others -/
theorem WlAt.other {w w' : World} {N A : Nat} {bs : List Nat} {x : Wel} {sv pv : Value} (h : WlAt w N A bs x sv pv) (hs : w.heap.size ≤ w'.heap.size) (he : ∀ b ∈ bs, w'.heap[b]? = w.heap[b]?) : WlAt w' N A bs x sv pv :=
  ⟨h.gw.other (he A h.mem), h.own.other (fun b hb => he b (h.ob b hb).1), h.ob, h.src.other (fun b hb _ => he b hb), h.mem, fun b hb => ⟨(h.lo b hb).1, by have := (h.lo b hb).2; omega⟩⟩
/-- its samples are gone -/
theorem WlAt.gone {w : World} {N A : Nat} {bs : List Nat} {x : Wel} {sv pv : Value} (h : WlAt w N A bs x sv pv) : WlAt (w.setCell ⟨A, 11, none⟩ (.slice none 0 0)) N A bs ⟨x.k, x.nm, x.g, [], x.s⟩ (.slice none 0 0) pv := by
  have hF := (Ex.refl A w).setCell 11 (.slice none 0 0)
  exact ⟨h.gw.set0 _, World.ownsRow_nil _ _ _ _, fun b hb => by simp [Value.ownBlock] at hb, (h.src.other (fun b hb hA => hF.block b (h.lo b hb).2 hA)).mono (fun b hb => hb) (.inr (fun b hb => by simp [Value.ownBlock] at hb)), h.mem, fun b hb => ⟨(h.lo b hb).1, by have := (h.lo b hb).2; have := hF.size; omega⟩⟩
set_option maxRecDepth 20000 in
set_option maxHeartbeats 1000000 in
theorem wseed_none (N A : Nat) (bs : List Nat) (k : Int) (nm : ByteArray) (g : Gd) (kept inn : List Int) (sv : Value) (w : World) (h : WlAt w N A bs ⟨k, nm, g, kept, none⟩ sv (.pointer none)) (hk : k = 1 ∨ k = 2) (hn : nm.size ≤ 64) (hkp : kept.length ≤ 200) (hinn : shaI kept = inn) (hil : inn.length = 32) (hib : allB inn) :
    Calls Try.prog 50 #[.pointer (some ⟨A, 0, none⟩)] w fun e w' => e = .returned (.tuple #[]) ∧ ∃ bs', WellAt w' N A bs' ⟨k, nm, g, [], some ⟨seedOf k (inn ++ bts nm), 1⟩⟩ ∧ Turns w w' bs bs' := by
  obtain ⟨sa, scap, hsv, _, _⟩ := h.own.slice
  obtain ⟨_, _, c11, _⟩ := h.gw.rest
  have hby := h.own.src.byt
  have H := hid h
  subst hsv
  have D := hid (DSum_any _ _ w hby (by show kept.length < _; omega))
  clear hby h
  dsimp only at *
  rw [hinn] at D
  clear hinn
  go_enter Try.func50, Try.ntmps50
  go_wp2_with fail
  refine D.out.mono ?_
  rintro e w3 ⟨rfl, hB3⟩
  have hz3 := hB3.size
  have hi5 : ((w3.alloc (.cells (ints .u8 Z32) 68)).setRow w3.heap.size (ints .u8 inn)).heap[w3.heap.size]? = some (.cells (ints .u8 inn) 68 (0, 0)) := setRow_heap _ _ _ _ _ _ (al_new _ _)
  have hb5 : Byt ((w3.alloc (.cells (ints .u8 Z32) 68)).setRow w3.heap.size (ints .u8 inn)) (.slice (some ⟨w3.heap.size, 0, none⟩) 32 32) inn := by have := byt_block hi5 32; rw [hil] at this; exact this
  have hB5 : Below w.heap.size w ((w3.alloc (.cells (ints .u8 Z32) 68)).setRow w3.heap.size (ints .u8 inn)) := below_setRow (hB3.alloc (by omega) _) _ (by omega) _
  have Hb5 := hid hb5
  have hW5 : WlAt ((w3.alloc (.cells (ints .u8 Z32) 68)).setRow w3.heap.size (ints .u8 inn)) N A bs ⟨k, nm, g, kept, none⟩ (.slice sa kept.length scap) (.pointer none) := H.out.other hB5.size (fun b hb => hB5.block b (H.out.lo b hb).2)
  have HW5 := hid hW5
  have HB5 := hid hB5
  clear hb5 hi5 D c11 hB3 hW5 hB5
  go_wp2_with (first
    | refine wpList_alloc_eq rfl 68 rfl (ints .u8 Z32) Try.alloc68 ?_
    | refine wpList_store_row rfl 68 _ _ rfl w3.heap.size (ints .u8 inn) rfl rfl 68 (ints .u8 Z32) (al_new _ _) (by rw [ints_size, hil]; exact Try.info68) (by rw [ints_size, ints_size, hil]; rfl) (ints_one _ _) ?_
    | (refine wpList_str rfl _ rfl _ inn rfl Hb5.out ?_
       generalize ((w3.alloc (.cells (ints .u8 Z32) 68)).setRow w3.heap.size (ints .u8 inn)) = w5 at *
       have hW6 := HW5.out.gone
       obtain ⟨d0, d1, d11, d12⟩ := HW5.out.gw.rest
       obtain ⟨e0, e1, e11, e12⟩ := hW6.gw.rest
       have f11 := HW5.out.gw.frozen 11
       have f12 := hW6.gw.frozen 12
       have HW6 := hid hW6
       clear hW6
       dsimp only at d0 d1 d11 d12 e0 e1 e11 e12))
  have hz5 := HB5.out.size
  have hx6 : A < (w5.setCell ⟨A, 11, none⟩ (.slice none 0 0)).heap.size := HW6.out.gw.lt
  have HF6 := hid (Fr.of_ex ((Ex.refl A w5).setCell 11 (.slice none 0 0)))
  have Hmay : Hd (may (toS inn) = true) := hid (decide_eq_true (by rw [toS_size, hil]; exact ⟨by decide, by decide⟩))
  clear d0 d1 d11 d12 e11 f11
  generalize (w5.setCell ⟨A, 11, none⟩ (.slice none 0 0)) = w6 at *
  refine wp_region_held_drew (S := fun w => w.cell? ⟨A, 0, none⟩ = some (.int .i64 k) ∧ w.cell? ⟨A, 1, none⟩ = some (.string nm)) (by kernel_rfl) ⟨e0, e1⟩ (fun hSw => ?_)
  refine wpAnyH_take (i := 0) (v := ?_) rfl (by decide +kernel) (by decide +kernel) (by decide +kernel) (fun _ _ _ h => h) (Or.inl ⟨by rfl, ?_⟩) hSw ?_
  rotate_left
  · intro w hw; go_simp; try with_reducible rfl
  simp only [Act.put, List.getElem_toArray, List.getElem_cons_zero, List.getElem_cons_succ, List.setIfInBounds_toArray, List.set_cons_zero, List.set_cons_succ]
  refine wpAnyH_take (i := 1) (v := ?_) rfl (by decide +kernel) (by decide +kernel) (by decide +kernel) (fun _ _ _ h => h) (Or.inl ⟨by rfl, ?_⟩) hSw ?_
  rotate_left
  · intro w hw; go_simp; try with_reducible rfl
  simp only [Act.put, List.getElem_toArray, List.getElem_cons_zero, List.getElem_cons_succ, List.setIfInBounds_toArray, List.set_cons_zero, List.set_cons_succ]
  refine wpAnyH_take (i := 2) (v := ?_) rfl (by decide +kernel) (by decide +kernel) (by decide +kernel) (fun _ _ _ h => h) (Or.inl ⟨by rfl, ?_⟩) hSw ?_
  rotate_left
  · intro w hw; go_simp; try with_reducible rfl
  simp only [Act.put, List.getElem_toArray, List.getElem_cons_zero, List.getElem_cons_succ, List.setIfInBounds_toArray, List.set_cons_zero, List.set_cons_succ]
  refine wpAnyH_take (i := 3) (v := ?_) rfl (by decide +kernel) (by decide +kernel) (by decide +kernel) (fun _ _ _ h => h) (Or.inl ⟨by rfl, ?_⟩) hSw ?_
  rotate_left
  · intro w hw; go_simp; try with_reducible rfl
  simp only [Act.put, List.getElem_toArray, List.getElem_cons_zero, List.getElem_cons_succ, List.setIfInBounds_toArray, List.set_cons_zero, List.set_cons_succ]
  refine wpAnyH_take (i := 4) (v := ?_) rfl (by decide +kernel) (by decide +kernel) (by decide +kernel) (fun _ _ _ h => h) (Or.inl ⟨by rfl, ?_⟩) hSw ?_
  rotate_left
  · intro w hw; have hcell := hw.1; clear hw; go_simp; try with_reducible rfl
  simp only [Act.put, List.getElem_toArray, List.getElem_cons_zero, List.getElem_cons_succ, List.setIfInBounds_toArray, List.set_cons_zero, List.set_cons_succ]
  refine wpAnyH_take (i := 5) (v := ?_) rfl (by decide +kernel) (by decide +kernel) (by decide +kernel) (fun _ _ _ h => h) (Or.inl ⟨by rfl, ?_⟩) hSw ?_
  rotate_left
  · intro w hw; go_simp; try with_reducible rfl
  simp only [Act.put, List.getElem_toArray, List.getElem_cons_zero, List.getElem_cons_succ, List.setIfInBounds_toArray, List.set_cons_zero, List.set_cons_succ]
  refine wpAnyH_take (i := 6) (v := ?_) rfl (by decide +kernel) (by decide +kernel) (by decide +kernel) (fun _ _ _ h => h) (Or.inl ⟨by rfl, ?_⟩) hSw ?_
  rotate_left
  · intro w hw; go_simp; try with_reducible rfl
  simp only [Act.put, List.getElem_toArray, List.getElem_cons_zero, List.getElem_cons_succ, List.setIfInBounds_toArray, List.set_cons_zero, List.set_cons_succ]
  refine wpAnyH_take (i := 7) (v := ?_) rfl (by decide +kernel) (by decide +kernel) (by decide +kernel) (fun _ _ _ h => h) (Or.inl ⟨by rfl, ?_⟩) hSw ?_
  rotate_left
  · intro w hw; go_simp; try with_reducible rfl
  simp only [Act.put, List.getElem_toArray, List.getElem_cons_zero, List.getElem_cons_succ, List.setIfInBounds_toArray, List.set_cons_zero, List.set_cons_succ]
  refine wpAnyH_take (i := 8) (v := ?_) rfl (by decide +kernel) (by decide +kernel) (by decide +kernel) (fun _ _ _ h => h) (Or.inl ⟨by rfl, ?_⟩) hSw ?_
  rotate_left
  · intro w hw; go_simp; try with_reducible rfl
  simp only [Act.put, List.getElem_toArray, List.getElem_cons_zero, List.getElem_cons_succ, List.setIfInBounds_toArray, List.set_cons_zero, List.set_cons_succ]
  refine wpAnyH_take (i := 9) (v := ?_) rfl (by decide +kernel) (by decide +kernel) (by decide +kernel) (fun _ _ _ h => h) (Or.inl ⟨by rfl, ?_⟩) hSw ?_
  rotate_left
  · intro w hw; have hcell := hw.2; clear hw; go_simp; try with_reducible rfl
  simp only [Act.put, List.getElem_toArray, List.getElem_cons_zero, List.getElem_cons_succ, List.setIfInBounds_toArray, List.set_cons_zero, List.set_cons_succ]
  refine wpAnyH_ready (rs := [10]) (by kernel_rfl) (by simp) ?_
  refine AllReadyH.cons rfl (fun K hK => ?_) AllReadyH.nil
  go_simp
  refine (new_any k (toS inn) ⟨#[]⟩ nm _ hk Hmay.out (by decide) hn).mono ?_
  rintro en w7 ⟨SA, SB, rfl, hSA, hSB, hF7, hB7⟩
  have hB7' : Below w6.heap.size w6 w7 := (Below.refl _ w6).drew.trans hB7
  have hW7 := HW6.out.other hB7'.size (fun b hb => hB7'.block b (HW6.out.lo b hb).2)
  obtain ⟨g0, g1, g11, g12⟩ := hW7.gw.rest
  have k12 := hW7.gw.frozen 12
  dsimp only at g0 g1 g11 g12
  refine hK.out _ _ ⟨g0, g1⟩ (fun hSw => ?_)
  clear hK K
  refine wpAnyH_take (i := 11) (v := ?_) rfl (by decide +kernel) (by decide +kernel) (by decide +kernel) (fun _ _ _ h => h) (Or.inl ⟨by rfl, ?_⟩) hSw ?_
  rotate_left
  · intro w hw; go_simp; try with_reducible rfl
  simp only [Act.put, List.getElem_toArray, List.getElem_cons_zero, List.getElem_cons_succ, List.setIfInBounds_toArray, List.set_cons_zero, List.set_cons_succ]
  refine wpAnyH_take (i := 12) (v := ?_) rfl (by decide +kernel) (by decide +kernel) (by decide +kernel) (fun _ _ _ h => h) (Or.inl ⟨by rfl, ?_⟩) hSw ?_
  rotate_left
  · intro w hw; go_simp; try with_reducible rfl
  simp only [Act.put, List.getElem_toArray, List.getElem_cons_zero, List.getElem_cons_succ, List.setIfInBounds_toArray, List.set_cons_zero, List.set_cons_succ]
  refine wpAnyH_take (i := 13) (v := ?_) rfl (by decide +kernel) (by decide +kernel) (by decide +kernel) (fun _ _ _ h => h) (Or.inl ⟨by rfl, ?_⟩) hSw ?_
  rotate_left
  · intro w hw; go_simp; try with_reducible rfl
  simp only [Act.put, List.getElem_toArray, List.getElem_cons_zero, List.getElem_cons_succ, List.setIfInBounds_toArray, List.set_cons_zero, List.set_cons_succ]
  refine wpAnyH_take (i := 14) (v := ?_) rfl (by decide +kernel) (by decide +kernel) (by decide +kernel) (fun _ _ _ h => h) (Or.inl ⟨by rfl, ?_⟩) hSw ?_
  rotate_left
  · intro w hw; go_simp; try with_reducible rfl
  simp only [Act.put, List.getElem_toArray, List.getElem_cons_zero, List.getElem_cons_succ, List.setIfInBounds_toArray, List.set_cons_zero, List.set_cons_succ]
  refine wpAnyH_take (i := 15) (v := ?_) rfl (by decide +kernel) (by decide +kernel) (by decide +kernel) (fun _ _ _ h => h) (Or.inl ⟨by rfl, ?_⟩) hSw ?_
  rotate_left
  · intro w hw; go_simp; try with_reducible rfl
  simp only [Act.put, List.getElem_toArray, List.getElem_cons_zero, List.getElem_cons_succ, List.setIfInBounds_toArray, List.set_cons_zero, List.set_cons_succ]
  refine wpAnyH_ready (rs := [16]) (by kernel_rfl) (by simp) ?_
  refine AllReadyH.cons rfl (fun K hK => ?_) AllReadyH.nil
  have G8 := hW7.gw.set1 (.pointer (some ⟨SA, 0, none⟩))
  have hF8 := (Ex.refl A w7).setCell 12 (.pointer (some ⟨SA, 0, none⟩))
  obtain ⟨l0, l1, _, _⟩ := G8.rest
  dsimp only at l0 l1
  have hA6 := hx6
  have hSAl := hF7.lt
  have hSBl := hF7.gen.lt
  have hz6 : w6.drew.heap.size = w6.heap.size := rfl
  have Hend : Hd (∃ bs', WellAt (w7.setCell ⟨A, 12, none⟩ (.pointer (some ⟨SA, 0, none⟩))) N A bs' ⟨k, nm, g, [], some ⟨seedOf k (inn ++ bts nm), 1⟩⟩ ∧ Turns w (w7.setCell ⟨A, 12, none⟩ (.pointer (some ⟨SA, 0, none⟩))) bs bs') := by
    have hF9 : FtAt (w7.setCell ⟨A, 12, none⟩ (.pointer (some ⟨SA, 0, none⟩))) SA SB ⟨seedOf k (inn ++ bts nm), 1⟩ := by
      have := hF7.other (hF8.block SA hSAl (by omega)) (hF8.block SB hSBl (by omega))
      rw [bts_toS inn hib, bts0', List.append_nil] at this
      exact this
    have hFr : Fr (fun k => k ∈ bs) w (w7.setCell ⟨A, 12, none⟩ (.pointer (some ⟨SA, 0, none⟩))) := ((Fr.of_below (HB5.out.mono (Nat.le_refl _))).trans (HF6.out.mono (fun k _ e => by rw [e]; exact H.out.mem))).trans ((Fr.of_below hB7').trans ((Fr.of_ex hF8).mono (fun k _ e => by rw [e]; exact H.out.mem)))
    have hz8 := hF8.size
    refine hid ⟨SA :: SB :: bs, ⟨.slice none 0 0, .pointer (some ⟨SA, 0, none⟩), G8, World.ownsRow_nil _ _ _ _, fun b hb => by simp [Value.ownBlock] at hb, ⟨SA, SB, rfl, hF9, by simp, by simp, by omega, by omega, by simp [Value.ownBlock], by simp [Value.ownBlock]⟩, by simp [H.out.mem], fun b hb => ?_⟩, hFr, fun b hb => ?_⟩
    · rcases List.mem_cons.1 hb with rfl | hb
      · exact ⟨by have := (H.out.lo A H.out.mem).1; have := (H.out.lo A H.out.mem).2; omega, by omega⟩
      · rcases List.mem_cons.1 hb with rfl | hb
        · exact ⟨by have := (H.out.lo A H.out.mem).1; have := (H.out.lo A H.out.mem).2; omega, by omega⟩
        · exact ⟨(H.out.lo b hb).1, by have := (H.out.lo b hb).2; have := hB7'.size; have := HF6.out.size; omega⟩
    · have := HF6.out.size
      rcases List.mem_cons.1 hb with rfl | hb
      · exact .inr (by omega)
      · rcases List.mem_cons.1 hb with rfl | hb
        · exact .inr (by omega)
        · exact .inl hb
  clear hF7 hB7 hB7' hW7 G8 hF8 g0 g1 g11
  go_simp
  refine hK.out _ _ ⟨l0, l1⟩ (fun hSw => ?_)
  clear hK K
  refine wpAnyH_done (by kernel_rfl) ?_ _
  go_wp2
  exact bodyPost_ret (results_none (by rfl) _ _ _) rfl ⟨rfl, Hend.out⟩
set_option maxRecDepth 20000 in
set_option maxHeartbeats 1000000 in
theorem wseed_some (N A : Nat) (bs : List Nat) (k : Int) (nm : ByteArray) (g : Gd) (kept inn : List Int) (f : Fnt) (SA : Nat) (sv : Value) (w : World) (h : WlAt w N A bs ⟨k, nm, g, kept, some f⟩ sv (.pointer (some ⟨SA, 0, none⟩))) (hkp : kept.length ≤ 200) (hinn : shaI kept = inn) (hil : inn.length = 32) (hib : allB inn) :
    Calls Try.prog 50 #[.pointer (some ⟨A, 0, none⟩)] w fun e w' => e = .returned (.tuple #[]) ∧ ∃ bs', WellAt w' N A bs' ⟨k, nm, g, [], some ⟨reseedOf f.g inn, 1⟩⟩ ∧ Turns w w' bs bs' := by
  obtain ⟨sa, scap, hsv, _, _⟩ := h.own.slice
  obtain ⟨_, _, c11, _⟩ := h.gw.rest
  have hby := h.own.src.byt
  have H := hid h
  subst hsv
  have D := hid (DSum_any _ _ w hby (by show kept.length < _; omega))
  clear hby h
  dsimp only at *
  rw [hinn] at D
  clear hinn
  go_enter Try.func50, Try.ntmps50
  go_wp2_with fail
  refine D.out.mono ?_
  rintro e w3 ⟨rfl, hB3⟩
  have hz3 := hB3.size
  have hi5 : ((w3.alloc (.cells (ints .u8 Z32) 68)).setRow w3.heap.size (ints .u8 inn)).heap[w3.heap.size]? = some (.cells (ints .u8 inn) 68 (0, 0)) := setRow_heap _ _ _ _ _ _ (al_new _ _)
  have hb5 : Byt ((w3.alloc (.cells (ints .u8 Z32) 68)).setRow w3.heap.size (ints .u8 inn)) (.slice (some ⟨w3.heap.size, 0, none⟩) 32 32) inn := by have := byt_block hi5 32; rw [hil] at this; exact this
  have hB5 : Below w.heap.size w ((w3.alloc (.cells (ints .u8 Z32) 68)).setRow w3.heap.size (ints .u8 inn)) := below_setRow (hB3.alloc (by omega) _) _ (by omega) _
  have Hb5 := hid hb5
  have hW5 : WlAt ((w3.alloc (.cells (ints .u8 Z32) 68)).setRow w3.heap.size (ints .u8 inn)) N A bs ⟨k, nm, g, kept, some f⟩ (.slice sa kept.length scap) (.pointer (some ⟨SA, 0, none⟩)) := H.out.other hB5.size (fun b hb => hB5.block b (H.out.lo b hb).2)
  have HW5 := hid hW5
  have HB5 := hid hB5
  clear hb5 hi5 D c11 hB3 hW5 hB5
  go_wp2_with (first
    | refine wpList_alloc_eq rfl 68 rfl (ints .u8 Z32) Try.alloc68 ?_
    | refine wpList_store_row rfl 68 _ _ rfl w3.heap.size (ints .u8 inn) rfl rfl 68 (ints .u8 Z32) (al_new _ _) (by rw [ints_size, hil]; exact Try.info68) (by rw [ints_size, ints_size, hil]; rfl) (ints_one _ _) ?_
    | (refine wpList_str rfl _ rfl _ inn rfl Hb5.out ?_
       generalize ((w3.alloc (.cells (ints .u8 Z32) 68)).setRow w3.heap.size (ints .u8 inn)) = w5 at *
       have hW6 := HW5.out.gone
       obtain ⟨d0, d1, d11, d12⟩ := HW5.out.gw.rest
       obtain ⟨e0, e1, e11, e12⟩ := hW6.gw.rest
       have f11 := HW5.out.gw.frozen 11
       have f12 := hW6.gw.frozen 12
       have HW6 := hid hW6
       clear hW6
       dsimp only at d0 d1 d11 d12 e0 e1 e11 e12))
  have hz5 := HB5.out.size
  have HF6 := hid (Fr.of_ex ((Ex.refl A w5).setCell 11 (.slice none 0 0)))
  clear d0 d1 d11 d12 e11 f11 f12 e0 e1 e12
  generalize (w5.setCell ⟨A, 11, none⟩ (.slice none 0 0)) = w6 at *
  obtain ⟨SA', SB, hpv, hF6, hSAm, hSBm, hSA, hSB, hoA, hoB⟩ := HW6.out.src
  cases hpv
  refine (reseed_any f (toS inn) ⟨#[]⟩ SA SB w6 hF6 (decide_eq_true (by rw [toS_size, hil]; exact ⟨by decide, by decide⟩)) (by decide)).mono ?_
  rintro en w7 ⟨rfl, hF7, hE7⟩
  have Hend : Hd (WellAt w7 N A bs ⟨k, nm, g, [], some ⟨reseedOf f.g inn, 1⟩⟩ ∧ Turns w w7 bs bs) := by
    have hF8 : FtAt w7 SA SB ⟨reseedOf f.g inn, 1⟩ := by
      rw [bts_toS inn hib, bts0', List.append_nil] at hF7
      exact hF7
    have hz7 := hE7.size
    have hz6 := HF6.out.size
    have hG7 := HW6.out.gw.other (hE7.block A HW6.out.gw.lt hSA.symm hSB.symm)
    refine hid ⟨⟨.slice none 0 0, .pointer (some ⟨SA, 0, none⟩), hG7, World.ownsRow_nil _ _ _ _, fun b hb => by simp [Value.ownBlock] at hb, ⟨SA, SB, rfl, hF8, hSAm, hSBm, hSA, hSB, hoA, hoB⟩, H.out.mem, fun b hb => ⟨(H.out.lo b hb).1, by have := (H.out.lo b hb).2; omega⟩⟩, ((Fr.of_below (HB5.out.mono (Nat.le_refl _))).trans (HF6.out.mono (fun k _ e => by rw [e]; exact H.out.mem))).trans ((Fr.of_ex2 hE7).mono (fun k _ e => e.elim (fun e => by rw [e]; exact hSAm) (fun e => by rw [e]; exact hSBm))), fun b hb => .inl hb⟩
  clear hF7 hE7 hF6
  go_wp2
  go_end0
  exact ⟨rfl, bs, Hend.out⟩
theorem wseed_any (N A : Nat) (bs : List Nat) (x : Wel) (w : World) (h : WellAt w N A bs x) (hk : x.k = 1 ∨ x.k = 2) (hn : x.nm.size ≤ 64) (hkp : x.kept.length ≤ 200) :
    Calls Try.prog 50 #[.pointer (some ⟨A, 0, none⟩)] w fun e w' => e = .returned (.tuple #[]) ∧ ∃ bs', WellAt w' N A bs' ⟨x.k, x.nm, x.g, [], some (seedW x)⟩ ∧ Turns w w' bs bs' := by
  obtain ⟨k, nm, g, kept, s⟩ := x
  obtain ⟨sv, pv, h⟩ := h
  cases s with
  | none =>
    obtain rfl : pv = .pointer none := h.src
    exact wseed_none N A bs k nm g kept _ sv w h hk hn hkp rfl (shaI_len _) (shaI_B _)
  | some f =>
    obtain ⟨SA, SB, hpv, _⟩ := h.src
    subst hpv
    exact wseed_some N A bs k nm g kept _ f SA sv w h hkp rfl (shaI_len _) (shaI_B _)
end Go.Proofs.Ytbifmhbkmnofiaa
namespace Go.Proofs.Ytbifmhbkmnofiaa
open Go.RowKit
set_option linter.unusedVariables false
set_option linter.unusedSimpArgs false
/-- does a draw need a seeding? -/
def needs (x : Wel) : Bool := match x.s with
  | none => true
  | some f => decide (8 < f.r)
set_option maxHeartbeats 1000000 in
theorem wdraw_arg (n : Int) (ex : ByteArray) (A : Nat) (w : World) (h : n < 0 ∨ 200 < n ∨ 64 < ex.size) (hx : ex.size ≤ 9223372036854775807) :
    Calls Try.prog 35 #[.pointer (some ⟨A, 0, none⟩), .int .i64 n, .string ex] w fun en w' => en = .returned (.tuple #[.slice none 0 0, .int .i64 2]) ∧ w' = w := by
  have hm := mayR_no h
  go_enter Try.func35, Try.ntmps35
  go_wp2_with fail
  refine (mayRead_any n ex _ hx).mono ?_
  rintro en w0 ⟨rfl, rfl⟩
  rw [hm]
  go_wp2
  go_ret2
  exact ⟨rfl, rfl⟩
set_option maxHeartbeats 1000000 in
theorem wdraw_dead (n : Nat) (ex : ByteArray) (N A : Nat) (bs : List Nat) (x : Wel) (w : World) (h : WellAt w N A bs x) (hb : x.g.br = true) (hx : ex.size ≤ 64) (hn : n ≤ 200) :
    Calls Try.prog 35 #[.pointer (some ⟨A, 0, none⟩), .int .i64 n, .string ex] w fun en w' => en = .returned (.tuple #[.slice none 0 0, .int .i64 6]) ∧ w' = w := by
  have hm := mayR_yes (n := (n : Int)) (x := ex) (by omega) (by omega) hx
  obtain ⟨sv, pv, h⟩ := h
  obtain ⟨_, _, _, _, _, _, _, _, c10⟩ := h.gw.lims
  rw [hb] at c10
  clear h
  go_enter Try.func35, Try.ntmps35
  go_wp2_with fail
  refine (mayRead_any (n : Int) ex _ (by omega)).mono ?_
  rintro en w0 ⟨rfl, rfl⟩
  rw [hm]
  go_wp2
  go_ret2
  exact ⟨rfl, rfl⟩
set_option maxHeartbeats 1000000 in
theorem wdraw_little (n : Nat) (ex : ByteArray) (N A : Nat) (bs : List Nat) (x : Wel) (w : World) (h : WellAt w N A bs x) (hb : x.g.br = false) (hx : ex.size ≤ 64) (hn : n ≤ 200) (hs : needs x = true) (hk : x.kept.length < 32) :
    Calls Try.prog 35 #[.pointer (some ⟨A, 0, none⟩), .int .i64 n, .string ex] w fun en w' => en = .returned (.tuple #[.slice none 0 0, .int .i64 7]) ∧ w' = w := by
  have hm := mayR_yes (n := (n : Int)) (x := ex) (by omega) (by omega) hx
  obtain ⟨k, nm, g, kept, s⟩ := x
  obtain ⟨sv, pv, h⟩ := h
  obtain ⟨_, _, _, _, _, _, _, _, c10⟩ := h.gw.lims
  obtain ⟨_, _, c11, c12⟩ := h.gw.rest
  obtain ⟨sa, scap, hsv, _, _⟩ := h.own.slice
  dsimp only at *
  rw [hb] at c10
  subst hsv
  have hk' : (kept.length : Int) < 32 := by omega
  cases s with
  | none =>
    obtain rfl : pv = .pointer none := h.src
    clear h
    go_enter Try.func35, Try.ntmps35
    go_wp2_with fail
    refine (mayRead_any (n : Int) ex _ (by omega)).mono ?_
    rintro en w0 ⟨rfl, rfl⟩
    rw [hm]
    go_wp2
    go_ret2
    exact ⟨rfl, rfl⟩
  | some f =>
    obtain ⟨SA, SB, hpv, hF, _⟩ := h.src
    subst hpv
    have hr : 8 < f.r := of_decide_eq_true hs
    have HF := hid hF
    clear h hF
    go_enter Try.func35, Try.ntmps35
    go_wp2_with fail
    refine (mayRead_any (n : Int) ex _ (by omega)).mono ?_
    rintro en w0 ⟨rfl, rfl⟩
    rw [hm]
    go_wp2_with fail
    refine (spent_any f SA SB _ HF.out).mono ?_
    rintro en w0 ⟨rfl, rfl⟩
    rw [decide_eq_true hr]
    go_wp2
    go_ret2
    exact ⟨rfl, rfl⟩
/-- a well that has read -/
theorem WlAt.read {w w' : World} {N A SA SB : Nat} {bs : List Nat} {k : Int} {nm : ByteArray} {g : Gd} {kept : List Int} {f f' : Fnt} {sv : Value} (h : WlAt w N A bs ⟨k, nm, g, kept, some f⟩ sv (.pointer (some ⟨SA, 0, none⟩))) (hs : SrcAt w bs A sv.ownBlock (.pointer (some ⟨SA, 0, none⟩)) (some f)) (hm : SB ∈ bs) (hA : SB ≠ A) (hob : sv.ownBlock ≠ some SB) (hF : FtAt w' SA SB f') (hE : Ex2 SA SB w w') : WellAt w' N A bs ⟨k, nm, g, kept, some f'⟩ ∧ Turns w w' bs bs := by
  obtain ⟨SA', SB', hpv, hF0, h1, h2, h3, h4, h5, h6⟩ := hs
  cases hpv
  refine ⟨⟨sv, .pointer (some ⟨SA, 0, none⟩), h.gw.other (hE.block A h.gw.lt h3.symm hA.symm), h.own.other (fun b hb => hE.block b (h.lo b (h.ob b hb).1).2 (fun e => h5 (by rw [hb, e])) (fun e => hob (by rw [hb, e]))), h.ob, ⟨SA, SB, rfl, hF, h1, hm, h3, hA, h5, hob⟩, h.mem, fun b hb => ⟨(h.lo b hb).1, by have := (h.lo b hb).2; have := hE.size; omega⟩⟩, (Fr.of_ex2 hE).mono (fun k _ e => e.elim (fun e => by rw [e]; exact h1) (fun e => by rw [e]; exact hm)), fun b hb => .inl hb⟩
set_option maxRecDepth 20000 in
set_option maxHeartbeats 1000000 in
theorem wdraw_read (n : Nat) (ex : ByteArray) (N A : Nat) (bs : List Nat) (k : Int) (nm : ByteArray) (g : Gd) (kept : List Int) (f : Fnt) (w : World) (h : WellAt w N A bs ⟨k, nm, g, kept, some f⟩) (hb : g.br = false) (hx : ex.size ≤ 64) (hn : n ≤ 200) (hr : f.r ≤ 8) :
    Calls Try.prog 35 #[.pointer (some ⟨A, 0, none⟩), .int .i64 n, .string ex] w fun en w' => ∃ gb, en = .returned (.tuple #[.slice (some ⟨gb, 0, none⟩) n n, .int .i64 0]) ∧ w.heap.size ≤ gb ∧ w'.heap[gb]? = some (.cells (ints .u8 (bytesF f.g n (bts ex))) 5 (0, 0)) ∧ WellAt w' N A bs ⟨k, nm, g, kept, some ⟨behindF f.g f.r n (bts ex), f.r + 1⟩⟩ ∧ Turns w w' bs bs := by
  have hm := mayR_yes (n := (n : Int)) (x := ex) (by omega) (by omega) hx
  obtain ⟨sv, pv, h⟩ := h
  obtain ⟨_, _, _, _, _, _, _, _, c10⟩ := h.gw.lims
  obtain ⟨_, _, c11, c12⟩ := h.gw.rest
  dsimp only at *
  rw [hb] at c10
  have hs := h.src
  obtain ⟨SA, SB, hpv, hF, h1, h2, h3, h4, h5, h6⟩ := hs
  have hs := h.src
  subst hpv
  have R := hid (read_any f n ex SA SB w hF hx hn hr)
  have HF := hid hF
  have H := hid h
  have Hs := hid hs
  clear h hF hs
  go_enter Try.func35, Try.ntmps35
  go_wp2_with fail
  refine (mayRead_any (n : Int) ex _ (by omega)).mono ?_
  rintro en w0 ⟨rfl, hw0⟩
  have hw1 := hw0.symm
  subst hw1
  clear hw0
  rw [hm]
  go_wp2_with fail
  refine (spent_any f SA SB _ HF.out).mono ?_
  rintro en w0 ⟨rfl, hw0⟩
  have hw1 := hw0.symm
  subst hw1
  clear hw0
  rw [decide_eq_false (by omega)]
  go_wp2_with fail
  refine R.out.mono ?_
  rintro en w1 ⟨gb, rfl, hgb, hr1, hF1, hE1⟩
  have Hend := hid (H.out.read Hs.out h2 h4 h6 hF1 hE1)
  have Hr1 := hid hr1
  clear hF1 hE1 hr1 R HF H Hs
  go_wp2
  go_ret2
  exact ⟨gb, rfl, hgb, Hr1.out, Hend.out⟩
set_option maxRecDepth 20000 in
set_option maxHeartbeats 1000000 in
theorem wdraw_seed (n : Nat) (ex : ByteArray) (N A : Nat) (bs : List Nat) (x : Wel) (f : Fnt) (w : World) (h : WellAt w N A bs x) (hb : x.g.br = false) (hx : ex.size ≤ 64) (hn : n ≤ 200) (hs : needs x = true) (hk : 32 ≤ x.kept.length) (hk2 : x.kept.length ≤ 200) (hki : x.k = 1 ∨ x.k = 2) (hnm : x.nm.size ≤ 64) (hf : seedW x = f) (hr : f.r ≤ 8) :
    Calls Try.prog 35 #[.pointer (some ⟨A, 0, none⟩), .int .i64 n, .string ex] w fun en w' => ∃ gb, en = .returned (.tuple #[.slice (some ⟨gb, 0, none⟩) n n, .int .i64 0]) ∧ w.heap.size ≤ gb ∧ w'.heap[gb]? = some (.cells (ints .u8 (bytesF f.g n (bts ex))) 5 (0, 0)) ∧ ∃ bs', WellAt w' N A bs' ⟨x.k, x.nm, x.g, [], some ⟨behindF f.g f.r n (bts ex), f.r + 1⟩⟩ ∧ Turns w w' bs bs' := by
  have hm := mayR_yes (n := (n : Int)) (x := ex) (by omega) (by omega) hx
  have W := hid (wseed_any N A bs x w h hki hnm hk2)
  rw [hf] at W
  clear hf
  obtain ⟨k, nm, g, kept, s⟩ := x
  obtain ⟨sv, pv, h⟩ := h
  obtain ⟨_, _, _, _, _, _, _, _, c10⟩ := h.gw.lims
  obtain ⟨_, _, c11, c12⟩ := h.gw.rest
  obtain ⟨sa, scap, hsv, _, _⟩ := h.own.slice
  dsimp only at *
  rw [hb] at c10
  subst hsv
  have hk' : ¬ (kept.length : Int) < 32 := by omega
  cases s with
  | none =>
    obtain rfl : pv = .pointer none := h.src
    clear h
    go_enter Try.func35, Try.ntmps35
    go_wp2_with fail
    refine (mayRead_any (n : Int) ex _ (by omega)).mono ?_
    rintro en w0 ⟨rfl, hw0⟩
    have hw1 := hw0.symm
    subst hw1
    clear hw0
    rw [hm]
    go_wp2_with fail
    refine W.out.mono ?_
    rintro en w1 ⟨rfl, bs1, ⟨sv1, pv1, h1⟩, hT1⟩
    obtain ⟨SA, SB, hpv, hF, m1, m2, m3, m4, m5, m6⟩ := h1.src
    have hs1 := h1.src
    subst hpv
    obtain ⟨_, _, d11, d12⟩ := h1.gw.rest
    have R := hid (read_any f n ex SA SB w1 hF hx hn hr)
    have H := hid h1
    have Hs := hid hs1
    have HT := hid hT1
    clear h1 hs1 hF hT1 W
    go_wp2_with fail
    refine R.out.mono ?_
    rintro en w2 ⟨gb, rfl, hgb, hr1, hF1, hE1⟩
    obtain ⟨q1, q2⟩ := H.out.read Hs.out m2 m4 m6 hF1 hE1
    have Hq1 := hid q1
    have Hq2 := hid q2
    have Hr1 := hid hr1
    clear hF1 hE1 hr1 R H Hs q1 q2
    go_wp2
    go_ret2
    have hz := HT.out.fr.size
    exact ⟨gb, rfl, by omega, Hr1.out, bs1, Hq1.out, ⟨⟨Hq2.out.fr.os.trans HT.out.fr.os, Hq2.out.fr.tape.trans HT.out.fr.tape, Hq2.out.fr.output.trans HT.out.fr.output, Nat.le_trans HT.out.fr.size Hq2.out.fr.size, fun b hb hnb => (Hq2.out.fr.block b (by omega) (fun hh => (HT.out.grow b hh).elim hnb (fun hh => by omega))).trans (HT.out.fr.block b hb hnb)⟩, HT.out.grow⟩⟩
  | some f0 =>
    obtain ⟨SA0, SB0, hpv, hF0, _⟩ := h.src
    subst hpv
    have hr0 : 8 < f0.r := of_decide_eq_true hs
    have HF0 := hid hF0
    clear h hF0
    go_enter Try.func35, Try.ntmps35
    go_wp2_with fail
    refine (mayRead_any (n : Int) ex _ (by omega)).mono ?_
    rintro en w0 ⟨rfl, hw0⟩
    have hw1 := hw0.symm
    subst hw1
    clear hw0
    rw [hm]
    go_wp2_with fail
    refine (spent_any f0 SA0 SB0 _ HF0.out).mono ?_
    rintro en w0 ⟨rfl, hw0⟩
    have hw1 := hw0.symm
    subst hw1
    clear hw0
    rw [decide_eq_true hr0]
    go_wp2_with fail
    refine W.out.mono ?_
    rintro en w1 ⟨rfl, bs1, ⟨sv1, pv1, h1⟩, hT1⟩
    obtain ⟨SA, SB, hpv, hF, m1, m2, m3, m4, m5, m6⟩ := h1.src
    have hs1 := h1.src
    subst hpv
    obtain ⟨_, _, d11, d12⟩ := h1.gw.rest
    have R := hid (read_any f n ex SA SB w1 hF hx hn hr)
    have H := hid h1
    have Hs := hid hs1
    have HT := hid hT1
    clear h1 hs1 hF hT1 W
    go_wp2_with fail
    refine R.out.mono ?_
    rintro en w2 ⟨gb, rfl, hgb, hr1, hF1, hE1⟩
    obtain ⟨q1, q2⟩ := H.out.read Hs.out m2 m4 m6 hF1 hE1
    have Hq1 := hid q1
    have Hq2 := hid q2
    have Hr1 := hid hr1
    clear hF1 hE1 hr1 R H Hs q1 q2
    go_wp2
    go_ret2
    have hz := HT.out.fr.size
    exact ⟨gb, rfl, by omega, Hr1.out, bs1, Hq1.out, ⟨⟨Hq2.out.fr.os.trans HT.out.fr.os, Hq2.out.fr.tape.trans HT.out.fr.tape, Hq2.out.fr.output.trans HT.out.fr.output, Nat.le_trans HT.out.fr.size Hq2.out.fr.size, fun b hb hnb => (Hq2.out.fr.block b (by omega) (fun hh => (HT.out.grow b hh).elim hnb (fun hh => by omega))).trans (HT.out.fr.block b hb hnb)⟩, HT.out.grow⟩⟩
end Go.Proofs.Ytbifmhbkmnofiaa
namespace Go.Proofs.Ytbifmhbkmnofiaa
open Go.RowKit
set_option linter.unusedVariables false
set_option linter.unusedSimpArgs false
theorem keepL_short {xs : List Int} (h : xs.length ≤ 200) : keepL xs = xs := by
  unfold keepL
  rw [show xs.length - 200 = 0 by omega, List.drop_zero]
theorem keepL_keepL (a b : List Int) : keepL (keepL a ++ b) = keepL (a ++ b) := by
  by_cases h : a.length ≤ 200
  · rw [keepL_short h]
  · unfold keepL
    have e : (a.drop (a.length - 200)).length = 200 := by simp; omega
    rw [List.length_append, List.length_append, e, List.drop_append, e, List.drop_append, List.drop_drop]
    rw [show a.length - 200 + (200 + b.length - 200) = a.length + b.length - 200 by omega, show 200 + b.length - 200 - 200 = a.length + b.length - 200 - a.length by omega]
/-- what holds of every well -/
structure Wel.ok (x : Wel) : Prop where
  k : x.k = 1 ∨ x.k = 2
  nm : x.nm.size ≤ 64
  g : x.g.ok
  kept : x.kept.length ≤ 200
theorem Turns.trans {a b c : World} {s t u : List Nat} (h : Turns a b s t) (k : Turns b c t u) : Turns a c s u := by
  have hz := h.fr.size
  refine ⟨⟨k.fr.os.trans h.fr.os, k.fr.tape.trans h.fr.tape, k.fr.output.trans h.fr.output, Nat.le_trans hz k.fr.size, fun i hi hn => (k.fr.block i (by omega) (fun hh => (h.grow i hh).elim hn (fun hh => by omega))).trans (h.fr.block i hi hn)⟩, fun i hi => ?_⟩
  rcases k.grow i hi with hh | hh
  · exact h.grow i hh
  · exact .inr (by omega)
theorem Turns.refl (w : World) (s : List Nat) : Turns w w s s := ⟨Fr.refl _ _, fun b hb => .inl hb⟩
theorem Turns.of_below {w w' : World} (s : List Nat) (h : Below w.heap.size w w') : Turns w w' s s := ⟨Fr.of_below h, fun b hb => .inl hb⟩
theorem Turns.below {w w' : World} {s t : List Nat} {N : Nat} (h : Turns w w' s t) (hs : ∀ b ∈ s, N ≤ b) (hN : N ≤ w.heap.size) : Below N w w' := h.fr.below hs hN
theorem pourW_dead {x : Wel} (h : x.g.br = true) (ys : List Int) : pourW x ys = (0, 6, ⟨x.k, x.nm, x.g, [], x.s⟩) := by unfold pourW; rw [if_pos h]
theorem pourW_many {x : Wel} (h : x.g.br = false) {ys : List Int} (hn : 200 < ys.length) : pourW x ys = (0, 2, x) := by unfold pourW; rw [if_neg (by rw [h]; decide), if_pos hn]
theorem pourW_take {x : Wel} (h : x.g.br = false) {ys : List Int} (hn : ys.length ≤ 200) : pourW x ys = ((fedG x.g ys).1, (fedG x.g ys).2.1, ⟨x.k, x.nm, (fedG x.g ys).2.2, if (fedG x.g ys).2.1 = 0 then keepL (x.kept ++ ys) else [], x.s⟩) := by unfold pourW; rw [if_neg (by rw [h]; decide), if_neg (by omega)]
theorem pourW_ok {x : Wel} (h : x.ok) (ys : List Int) : (pourW x ys).2.2.ok := by
  cases hb : x.g.br with
  | true => rw [pourW_dead hb]; exact ⟨h.k, h.nm, h.g, by simp⟩
  | false =>
    by_cases hn : 200 < ys.length
    · rw [pourW_many hb hn]; exact h
    · rw [pourW_take hb (by omega)]
      refine ⟨h.k, h.nm, (fedG_form h.g ys).1, ?_⟩
      dsimp only
      split
      · exact keepL_len _
      · simp
/-- a well's Feed -/
theorem wfeed_any (N A : Nat) (bs : List Nat) (x : Wel) (v : Value) (ys : List Int) (w : World) (h : WellAt w N A bs x) (hok : x.ok) (hv : Src w v ys) (hvB : ∀ ad n c, v = .slice (some ad) n c → 0 < n → ad.block ≠ A) (hN : N ≤ w.heap.size) :
    Calls Try.prog 33 #[.pointer (some ⟨A, 0, none⟩), v] w fun e w' => e = .returned (.tuple #[.int .i64 (pourW x ys).1, .int .i64 (pourW x ys).2.1]) ∧ ∃ bs', WellAt w' N A bs' (pourW x ys).2.2 ∧ Turns w w' bs bs' := by
  obtain ⟨a, c, hvs⟩ : ∃ a c, v = .slice a ys.length c := by
    rcases hv with ⟨h1, h⟩ | ⟨ad, cp, h, _⟩
    · exact ⟨_, _, by rw [h1]; exact h⟩
    · exact ⟨_, _, h⟩
  cases hb : x.g.br with
  | true =>
    rw [pourW_dead hb]
    subst hvs
    refine (wfeed_dead N A bs x _ _ _ w h hb).mono ?_
    rintro e w' ⟨rfl, h1, h2⟩
    exact ⟨rfl, bs, h1, h2⟩
  | false =>
    by_cases hn : 200 < ys.length
    · rw [pourW_many hb hn]
      subst hvs
      refine (wfeed_many N A bs x _ _ _ w h hb hn).mono ?_
      rintro e w' ⟨rfl, rfl⟩
      exact ⟨rfl, bs, h, Turns.refl _ _⟩
    · rw [pourW_take hb (by omega)]
      exact wfeed_take N A bs x v ys w h hb hv hvB (by omega) hok.g hok.kept hN
/-- the generator that a draw reads from, and the well ahead of the reading -/
def readyW (x : Wel) : Fnt := if needs x = true then seedW x else match x.s with | some f => f | none => seedW x
theorem seedW_r (x : Wel) : (seedW x).r = 1 := by unfold seedW; split <;> rfl
theorem seedW_le (x : Wel) : (seedW x).r ≤ 8 := by rw [seedW_r]; decide
/-- a draw that gives bytes -/
theorem wdraw_any (n : Nat) (ex : ByteArray) (N A : Nat) (bs : List Nat) (x : Wel) (f : Fnt) (w : World) (h : WellAt w N A bs x) (hok : x.ok) (hb : x.g.br = false) (hx : ex.size ≤ 64) (hn : n ≤ 200) (hs : needs x = true → 32 ≤ x.kept.length) (hf : readyW x = f) :
    Calls Try.prog 35 #[.pointer (some ⟨A, 0, none⟩), .int .i64 n, .string ex] w fun en w' => ∃ gb, en = .returned (.tuple #[.slice (some ⟨gb, 0, none⟩) n n, .int .i64 0]) ∧ w.heap.size ≤ gb ∧ w'.heap[gb]? = some (.cells (ints .u8 (bytesF f.g n (bts ex))) 5 (0, 0)) ∧ ∃ bs', WellAt w' N A bs' ⟨x.k, x.nm, x.g, if needs x = true then [] else x.kept, some ⟨behindF f.g f.r n (bts ex), f.r + 1⟩⟩ ∧ Turns w w' bs bs' := by
  cases hne : needs x with
  | true =>
    rw [if_pos rfl]
    have e : seedW x = f := by rw [← hf]; unfold readyW; rw [if_pos hne]
    exact wdraw_seed n ex N A bs x f w h hb hx hn hne (hs hne) hok.kept hok.k hok.nm e (by rw [← e]; exact seedW_le x)
  | false =>
    rw [if_neg (by decide)]
    obtain ⟨k, nm, g, kept, s⟩ := x
    cases s with
    | none => exact absurd hne (by simp [needs])
    | some f0 =>
      have e : f0 = f := by rw [← hf]; unfold readyW; rw [if_neg (by rw [hne]; decide)]
      subst e
      have hr : f0.r ≤ 8 := by have := of_decide_eq_false hne; omega
      refine (wdraw_read n ex N A bs k nm g kept f0 w h hb hx hn hr).mono ?_
      rintro en w' ⟨gb, rfl, h1, h2, h3, h4⟩
      exact ⟨gb, rfl, h1, h2, bs, h3, h4⟩
end Go.Proofs.Ytbifmhbkmnofiaa
