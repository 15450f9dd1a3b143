import Derived.Test.YtbifmhbkmnofiaaGn
namespace Go.Proofs.Ytbifmhbkmnofiaa
open Go.RowKit
set_option linter.unusedVariables false
set_option linter.unusedSimpArgs false
/-- what the watch knows: the last sample and how often it came; the window's first, how often it came, how many came -/
structure WS where
  s : Int
  t : Int
  f : Int
  n : Int
  c : Int
def WS.cells (x : WS) : List Value := [.int .u8 x.s, .int .i64 x.t, .int .u8 x.f, .int .i64 x.n, .int .i64 x.c]
def WsAt (w : World) (B : Nat) (pre post : List Value) (x : WS) : Prop := ∃ ty, w.heap[B]? = some (.cells (pre ++ (x.cells ++ post)).toArray ty (0, 0))
theorem WsAt.cell {w : World} {B : Nat} {pre post : List Value} {x : WS} (h : WsAt w B pre post x) (j : Nat) (hj : j < 5) : w.cell? ⟨B, pre.length + j, none⟩ = x.cells[j]? := by
  obtain ⟨ty, h⟩ := h
  rw [cell_of_row w B _ _ ty _ h, List.getElem?_toArray, List.getElem?_append_right (by omega), List.getElem?_append_left (by simp [WS.cells]; omega), Nat.add_sub_cancel_left]
theorem WsAt.frozen {w : World} {B : Nat} {pre post : List Value} {x : WS} (h : WsAt w B pre post x) (j : Nat) : w.frozen? ⟨B, j, none⟩ = false := by
  obtain ⟨ty, h⟩ := h
  simp [World.frozen?, h]
theorem WsAt.set {w : World} {B : Nat} {pre post : List Value} {x y : WS} (h : WsAt w B pre post x) (j : Nat) (hj : j < 5) (v : Value) (he : x.cells.set j v = y.cells) : WsAt (w.setCell ⟨B, pre.length + j, none⟩ v) B pre post y := by
  obtain ⟨ty, h⟩ := h
  refine ⟨ty, ?_⟩
  simp only [World.setCell, Array.getElem?_modify, if_pos, h, Option.map_some]
  congr 2
  simp only [List.setIfInBounds_toArray]
  rw [List.set_append_right _ _ (by omega), Nat.add_sub_cancel_left, List.set_append_left _ _ (by simp [WS.cells]; omega), he]
  rfl
theorem WsAt.lt {w : World} {B : Nat} {pre post : List Value} {x : WS} (h : WsAt w B pre post x) : B < w.heap.size := by
  obtain ⟨ty, h⟩ := h
  exact (Array.getElem?_eq_some_iff.1 h).1
theorem WsAt.other {w w' : World} {B : Nat} {pre post : List Value} {x : WS} (h : WsAt w B pre post x) (he : w'.heap[B]? = w.heap[B]?) : WsAt w' B pre post x := by
  obtain ⟨ty, h⟩ := h
  exact ⟨ty, he.trans h⟩
/-- a sample is taken: how often one behind the other -/
def runW (x : WS) (b : Int) : WS := if b = x.s then ⟨x.s, x.t + 1, x.f, x.n, x.c⟩ else ⟨b, 1, x.f, x.n, x.c⟩
set_option maxRecDepth 20000 in
set_option maxHeartbeats 400000 in
theorem rcount_any (x : WS) (b : Int) (B o : Nat) (pre post : List Value) (w : World) (hS : WsAt w B pre post x) (ho : pre.length = o) (ht0 : 0 ≤ x.t) (ht1 : x.t ≤ 1000) :
    Calls Try.prog 56 #[.pointer (some ⟨B, o, none⟩), .int .u8 b] w fun e w' => e = .returned (.int .i64 (runW x b).t) ∧ WsAt w' B pre post (runW x b) ∧ Ex B w w' := by
  subst ho
  have c0 := hS.cell 0 (by omega)
  have c1 := hS.cell 1 (by omega)
  have f0 := hS.frozen (pre.length + 0)
  have f1 := hS.frozen (pre.length + 1)
  rw [Nat.add_zero] at c0 f0
  simp only [WS.cells, List.getElem?_cons_zero, List.getElem?_cons_succ] at c0 c1
  have HS := hid hS
  clear hS
  by_cases hb : b = x.s
  · have hr := hid (show runW x b = ⟨x.s, x.t + 1, x.f, x.n, x.c⟩ from by unfold runW; rw [if_pos hb])
    have h1 := hid (HS.out.set (y := ⟨x.s, x.t + 1, x.f, x.n, x.c⟩) 1 (by omega) (.int .i64 (x.t + 1)) rfl)
    have hE := hid ((Ex.refl B w).setCell (pre.length + 1) (.int .i64 (x.t + 1)))
    subst hb
    go_enter Try.func56, Try.ntmps56
    go_wp2
    go_ret
    rw [hr.out]
    exact ⟨rfl, h1.out, hE.out⟩
  · have hr := hid (show runW x b = ⟨b, 1, x.f, x.n, x.c⟩ from by unfold runW; rw [if_neg hb])
    have h0 := HS.out.set (y := ⟨b, x.t, x.f, x.n, x.c⟩) 0 (by omega) (.int .u8 b) rfl
    have h1 := h0.set (y := ⟨b, 0, x.f, x.n, x.c⟩) 1 (by omega) (.int .i64 0) rfl
    have h2 := hid (h1.set (y := ⟨b, 1, x.f, x.n, x.c⟩) 1 (by omega) (.int .i64 1) rfl)
    have cA := h1.cell 1 (by omega)
    have cB := h2.out.cell 1 (by omega)
    rw [Nat.add_zero] at h2 cA cB
    simp only [WS.cells, List.getElem?_cons_zero, List.getElem?_cons_succ] at cA cB
    have hE := hid ((((Ex.refl B w).setCell (pre.length) (.int .u8 b)).setCell (pre.length + 1) (.int .i64 0)).setCell (pre.length + 1) (.int .i64 1))
    have hne : (b != x.s) = true := by simp [hb]
    clear h0 h1 hb
    go_enter Try.func56, Try.ntmps56
    go_wp2
    go_ret
    rw [hr.out]
    exact ⟨rfl, h2.out, hE.out⟩
/-- .. how often the window's first sample came in it -/
def winW (x : WS) (b L : Int) : WS :=
  let y : WS := if x.c = L then ⟨x.s, x.t, 0, 0, 0⟩ else x
  let z : WS := if y.c = 0 then ⟨y.s, y.t, b, y.n, y.c⟩ else y
  ⟨z.s, z.t, z.f, if b = z.f then z.n + 1 else z.n, z.c + 1⟩
theorem winW_new {x : WS} {L : Int} (b : Int) (h : x.c = L) : winW x b L = ⟨x.s, x.t, b, 1, 1⟩ := by
  unfold winW; simp [h]
theorem winW_first {x : WS} {L : Int} (b : Int) (h : x.c ≠ L) (h0 : x.c = 0) : winW x b L = ⟨x.s, x.t, b, x.n + 1, 1⟩ := by
  have hL : ¬ (0 : Int) = L := by rw [← h0]; exact h
  unfold winW; simp [h0, hL]
theorem winW_same {x : WS} {L : Int} (b : Int) (h : x.c ≠ L) (h0 : x.c ≠ 0) (hb : b = x.f) : winW x b L = ⟨x.s, x.t, x.f, x.n + 1, x.c + 1⟩ := by
  unfold winW; simp [h, h0, hb]
theorem winW_else {x : WS} {L : Int} (b : Int) (h : x.c ≠ L) (h0 : x.c ≠ 0) (hb : b ≠ x.f) : winW x b L = ⟨x.s, x.t, x.f, x.n, x.c + 1⟩ := by
  unfold winW; simp [h, h0, hb]
set_option maxRecDepth 20000 in
set_option maxHeartbeats 1000000 in
theorem wcount_any (x : WS) (b L : Int) (B o : Nat) (pre post : List Value) (w : World) (hS : WsAt w B pre post x) (ho : pre.length + 2 = o) (hn0 : 0 ≤ x.n) (hn1 : x.n ≤ 1000) (hc0 : 0 ≤ x.c) (hc1 : x.c ≤ 1000) :
    Calls Try.prog 57 #[.pointer (some ⟨B, o, none⟩), .int .u8 b, .int .i64 L] w fun e w' => e = .returned (.int .i64 (winW x b L).n) ∧ WsAt w' B pre post (winW x b L) ∧ Ex B w w' := by
  subst ho
  have c2 := hS.cell 2 (by omega)
  have c3 := hS.cell 3 (by omega)
  have c4 := hS.cell 4 (by omega)
  have f2 := hS.frozen (pre.length + 2)
  have f3 := hS.frozen (pre.length + 3)
  have f4 := hS.frozen (pre.length + 4)
  simp only [WS.cells, List.getElem?_cons_zero, List.getElem?_cons_succ] at c2 c3 c4
  have HS := hid hS
  clear hS
  by_cases hL : x.c = L
  · have hr := hid (winW_new b hL)
    have hL' : (x.c == L) = true := by simp [hL]
    have g0 := HS.out.set (y := ⟨x.s, x.t, 0, x.n, x.c⟩) 2 (by omega) (.int .u8 (0)) rfl
    have k0_2 := g0.cell 2 (by omega)
    have k0_3 := g0.cell 3 (by omega)
    have k0_4 := g0.cell 4 (by omega)
    simp only [WS.cells, List.getElem?_cons_zero, List.getElem?_cons_succ] at k0_2 k0_3 k0_4
    have g1 := g0.set (y := ⟨x.s, x.t, 0, 0, x.c⟩) 3 (by omega) (.int .i64 (0)) rfl
    have k1_2 := g1.cell 2 (by omega)
    have k1_3 := g1.cell 3 (by omega)
    have k1_4 := g1.cell 4 (by omega)
    simp only [WS.cells, List.getElem?_cons_zero, List.getElem?_cons_succ] at k1_2 k1_3 k1_4
    have g2 := g1.set (y := ⟨x.s, x.t, 0, 0, 0⟩) 4 (by omega) (.int .i64 (0)) rfl
    have k2_2 := g2.cell 2 (by omega)
    have k2_3 := g2.cell 3 (by omega)
    have k2_4 := g2.cell 4 (by omega)
    simp only [WS.cells, List.getElem?_cons_zero, List.getElem?_cons_succ] at k2_2 k2_3 k2_4
    have g3 := g2.set (y := ⟨x.s, x.t, b, 0, 0⟩) 2 (by omega) (.int .u8 (b)) rfl
    have k3_2 := g3.cell 2 (by omega)
    have k3_3 := g3.cell 3 (by omega)
    have k3_4 := g3.cell 4 (by omega)
    simp only [WS.cells, List.getElem?_cons_zero, List.getElem?_cons_succ] at k3_2 k3_3 k3_4
    have g4 := g3.set (y := ⟨x.s, x.t, b, 0, 1⟩) 4 (by omega) (.int .i64 (1)) rfl
    have k4_2 := g4.cell 2 (by omega)
    have k4_3 := g4.cell 3 (by omega)
    have k4_4 := g4.cell 4 (by omega)
    simp only [WS.cells, List.getElem?_cons_zero, List.getElem?_cons_succ] at k4_2 k4_3 k4_4
    have g5 := g4.set (y := ⟨x.s, x.t, b, 1, 1⟩) 3 (by omega) (.int .i64 (1)) rfl
    have k5_2 := g5.cell 2 (by omega)
    have k5_3 := g5.cell 3 (by omega)
    have k5_4 := g5.cell 4 (by omega)
    simp only [WS.cells, List.getElem?_cons_zero, List.getElem?_cons_succ] at k5_2 k5_3 k5_4
    have GE := hid (Ex.refl B w |>.setCell (pre.length + 2) (.int .u8 (0)) |>.setCell (pre.length + 3) (.int .i64 (0)) |>.setCell (pre.length + 4) (.int .i64 (0)) |>.setCell (pre.length + 2) (.int .u8 (b)) |>.setCell (pre.length + 4) (.int .i64 (1)) |>.setCell (pre.length + 3) (.int .i64 (1)))
    have GS := hid g5
    clear g0 g1 g2 g3 g4 g5
    clear hL HS
    go_enter Try.func57, Try.ntmps57
    go_wp2
    go_ret
    rw [hr.out]
    exact ⟨rfl, GS.out, GE.out⟩
  · have hL' : (x.c == L) = false := by simp [hL]
    by_cases h0 : x.c = 0
    · have hr := hid (winW_first b hL h0)
      have h0' : (x.c == 0) = true := by simp [h0]
      have g0 := HS.out.set (y := ⟨x.s, x.t, b, x.n, x.c⟩) 2 (by omega) (.int .u8 (b)) rfl
      have k0_2 := g0.cell 2 (by omega)
      have k0_3 := g0.cell 3 (by omega)
      have k0_4 := g0.cell 4 (by omega)
      simp only [WS.cells, List.getElem?_cons_zero, List.getElem?_cons_succ] at k0_2 k0_3 k0_4
      have g1 := g0.set (y := ⟨x.s, x.t, b, x.n, 1⟩) 4 (by omega) (.int .i64 (1)) rfl
      have k1_2 := g1.cell 2 (by omega)
      have k1_3 := g1.cell 3 (by omega)
      have k1_4 := g1.cell 4 (by omega)
      simp only [WS.cells, List.getElem?_cons_zero, List.getElem?_cons_succ] at k1_2 k1_3 k1_4
      have g2 := g1.set (y := ⟨x.s, x.t, b, x.n + 1, 1⟩) 3 (by omega) (.int .i64 (x.n + 1)) rfl
      have k2_2 := g2.cell 2 (by omega)
      have k2_3 := g2.cell 3 (by omega)
      have k2_4 := g2.cell 4 (by omega)
      simp only [WS.cells, List.getElem?_cons_zero, List.getElem?_cons_succ] at k2_2 k2_3 k2_4
      have GE := hid (Ex.refl B w |>.setCell (pre.length + 2) (.int .u8 (b)) |>.setCell (pre.length + 4) (.int .i64 (1)) |>.setCell (pre.length + 3) (.int .i64 (x.n + 1)))
      have GS := hid g2
      clear g0 g1 g2
      clear hL HS
      go_enter Try.func57, Try.ntmps57
      go_wp2
      go_ret
      rw [hr.out]
      exact ⟨rfl, GS.out, GE.out⟩
    · have h0' : (x.c == 0) = false := by simp [h0]
      by_cases hb : b = x.f
      · have hr := hid (winW_same b hL h0 hb)
        have g0 := HS.out.set (y := ⟨x.s, x.t, x.f, x.n, x.c + 1⟩) 4 (by omega) (.int .i64 (x.c + 1)) rfl
        have k0_2 := g0.cell 2 (by omega)
        have k0_3 := g0.cell 3 (by omega)
        have k0_4 := g0.cell 4 (by omega)
        simp only [WS.cells, List.getElem?_cons_zero, List.getElem?_cons_succ] at k0_2 k0_3 k0_4
        have g1 := g0.set (y := ⟨x.s, x.t, x.f, x.n + 1, x.c + 1⟩) 3 (by omega) (.int .i64 (x.n + 1)) rfl
        have k1_2 := g1.cell 2 (by omega)
        have k1_3 := g1.cell 3 (by omega)
        have k1_4 := g1.cell 4 (by omega)
        simp only [WS.cells, List.getElem?_cons_zero, List.getElem?_cons_succ] at k1_2 k1_3 k1_4
        have GE := hid (Ex.refl B w |>.setCell (pre.length + 4) (.int .i64 (x.c + 1)) |>.setCell (pre.length + 3) (.int .i64 (x.n + 1)))
        have GS := hid g1
        clear g0 g1
        clear hL h0 HS
        subst hb
        go_enter Try.func57, Try.ntmps57
        go_wp2
        go_ret
        rw [hr.out]
        exact ⟨rfl, GS.out, GE.out⟩
      · have hr := hid (winW_else b hL h0 hb)
        have hb' : (b == x.f) = false := by simp [hb]
        have g0 := HS.out.set (y := ⟨x.s, x.t, x.f, x.n, x.c + 1⟩) 4 (by omega) (.int .i64 (x.c + 1)) rfl
        have k0_2 := g0.cell 2 (by omega)
        have k0_3 := g0.cell 3 (by omega)
        have k0_4 := g0.cell 4 (by omega)
        simp only [WS.cells, List.getElem?_cons_zero, List.getElem?_cons_succ] at k0_2 k0_3 k0_4
        have GE := hid (Ex.refl B w |>.setCell (pre.length + 4) (.int .i64 (x.c + 1)))
        have GS := hid g0
        clear g0
        clear hL h0 hb HS
        go_enter Try.func57, Try.ntmps57
        go_wp2
        go_ret
        rw [hr.out]
        exact ⟨rfl, GS.out, GE.out⟩
end Go.Proofs.Ytbifmhbkmnofiaa
