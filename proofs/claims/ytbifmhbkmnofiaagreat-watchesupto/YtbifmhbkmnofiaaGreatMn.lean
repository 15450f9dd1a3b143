import Derived.Test.YtbifmhbkmnofiaaGreatMm
namespace Go.Proofs.YtbifmhbkmnofiaaGreat
open Go.RowKit
set_option linter.unusedVariables false
set_option linter.unusedSimpArgs false
/-- what the watch knows: the last sample and how often it came; the window's first, how often it came, how many came -/
structure WS where
  s : Int
  t : Int
  f : Int
  n : Int
  c : Int
def WS.cells (x : WS) : List Value := [.int .u8 x.s, .int .i64 x.t, .int .u8 x.f, .int .i64 x.n, .int .i64 x.c]
def WsAt (w : World) (B : Nat) (pre post : List Value) (x : WS) : Prop := ∃ ty, w.heap[B]? = some (.cells (pre ++ (x.cells ++ post)).toArray ty (0, 0))
theorem WsAt.cell {w : World} {B : Nat} {pre post : List Value} {x : WS} (h : WsAt w B pre post x) (j : Nat) (hj : j < 5) : w.cell? ⟨B, pre.length + j, none⟩ = x.cells[j]? := by
  obtain ⟨ty, h⟩ := h
  rw [cell_of_row w B _ _ ty _ h, List.getElem?_toArray, List.getElem?_append_right (by omega), List.getElem?_append_left (by simp [WS.cells]; omega), Nat.add_sub_cancel_left]
theorem WsAt.frozen {w : World} {B : Nat} {pre post : List Value} {x : WS} (h : WsAt w B pre post x) (j : Nat) : w.frozen? ⟨B, j, none⟩ = false := by
  obtain ⟨ty, h⟩ := h
  simp [World.frozen?, h]
theorem WsAt.set {w : World} {B : Nat} {pre post : List Value} {x y : WS} (h : WsAt w B pre post x) (j : Nat) (hj : j < 5) (v : Value) (he : x.cells.set j v = y.cells) : WsAt (w.setCell ⟨B, pre.length + j, none⟩ v) B pre post y := by
  obtain ⟨ty, h⟩ := h
  refine ⟨ty, ?_⟩
  simp only [World.setCell, Array.getElem?_modify, if_pos, h, Option.map_some]
  congr 2
  simp only [List.setIfInBounds_toArray]
  rw [List.set_append_right _ _ (by omega), Nat.add_sub_cancel_left, List.set_append_left _ _ (by simp [WS.cells]; omega), he]
  rfl
theorem WsAt.lt {w : World} {B : Nat} {pre post : List Value} {x : WS} (h : WsAt w B pre post x) : B < w.heap.size := by
  obtain ⟨ty, h⟩ := h
  exact (Array.getElem?_eq_some_iff.1 h).1
theorem WsAt.other {w w' : World} {B : Nat} {pre post : List Value} {x : WS} (h : WsAt w B pre post x) (he : w'.heap[B]? = w.heap[B]?) : WsAt w' B pre post x := by
  obtain ⟨ty, h⟩ := h
  exact ⟨ty, he.trans h⟩
/-- a sample is taken: how often one behind the other -/
def runW (x : WS) (b : Int) : WS := if b = x.s then ⟨x.s, x.t + 1, x.f, x.n, x.c⟩ else ⟨b, 1, x.f, x.n, x.c⟩
set_option maxRecDepth 20000 in
set_option maxHeartbeats 400000 in
theorem rcount_any (x : WS) (b : Int) (B o : Nat) (pre post : List Value) (w : World) (hS : WsAt w B pre post x) (ho : pre.length = o) (ht0 : 0 ≤ x.t) (ht1 : x.t ≤ 1000) :
    Calls Tryz.prog 84 #[.pointer (some ⟨B, o, none⟩), .int .u8 b] w fun e w' => e = .returned (.int .i64 (runW x b).t) ∧ WsAt w' B pre post (runW x b) ∧ Ex B w w' := by
  subst ho
  have c0 := hS.cell 0 (by omega)
  have c1 := hS.cell 1 (by omega)
  have f0 := hS.frozen (pre.length + 0)
  have f1 := hS.frozen (pre.length + 1)
  rw [Nat.add_zero] at c0 f0
  simp only [WS.cells, List.getElem?_cons_zero, List.getElem?_cons_succ] at c0 c1
  have HS := hid hS
  clear hS
  by_cases hb : b = x.s
  · have hr := hid (show runW x b = ⟨x.s, x.t + 1, x.f, x.n, x.c⟩ from by unfold runW; rw [if_pos hb])
    have h1 := hid (HS.out.set (y := ⟨x.s, x.t + 1, x.f, x.n, x.c⟩) 1 (by omega) (.int .i64 (x.t + 1)) rfl)
    have hE := hid ((Ex.refl B w).setCell (pre.length + 1) (.int .i64 (x.t + 1)))
    subst hb
    go_enter Tryz.func84, Tryz.ntmps84
    go_wp2
    go_ret
    rw [hr.out]
    exact ⟨rfl, h1.out, hE.out⟩
  · have hr := hid (show runW x b = ⟨b, 1, x.f, x.n, x.c⟩ from by unfold runW; rw [if_neg hb])
    have h0 := HS.out.set (y := ⟨b, x.t, x.f, x.n, x.c⟩) 0 (by omega) (.int .u8 b) rfl
    have h1 := h0.set (y := ⟨b, 0, x.f, x.n, x.c⟩) 1 (by omega) (.int .i64 0) rfl
    have h2 := hid (h1.set (y := ⟨b, 1, x.f, x.n, x.c⟩) 1 (by omega) (.int .i64 1) rfl)
    have cA := h1.cell 1 (by omega)
    have cB := h2.out.cell 1 (by omega)
    rw [Nat.add_zero] at h2 cA cB
    simp only [WS.cells, List.getElem?_cons_zero, List.getElem?_cons_succ] at cA cB
    have hE := hid ((((Ex.refl B w).setCell (pre.length) (.int .u8 b)).setCell (pre.length + 1) (.int .i64 0)).setCell (pre.length + 1) (.int .i64 1))
    have hne : (b != x.s) = true := by simp [hb]
    clear h0 h1 hb
    go_enter Tryz.func84, Tryz.ntmps84
    go_wp2
    go_ret
    rw [hr.out]
    exact ⟨rfl, h2.out, hE.out⟩
/-- .. how often the window's first sample came in it -/
def winW (x : WS) (b L : Int) : WS :=
  let y : WS := if x.c = L then ⟨x.s, x.t, 0, 0, 0⟩ else x
  let z : WS := if y.c = 0 then ⟨y.s, y.t, b, y.n, y.c⟩ else y
  ⟨z.s, z.t, z.f, if b = z.f then z.n + 1 else z.n, z.c + 1⟩
theorem winW_new {x : WS} {L : Int} (b : Int) (h : x.c = L) : winW x b L = ⟨x.s, x.t, b, 1, 1⟩ := by
  unfold winW; simp [h]
theorem winW_first {x : WS} {L : Int} (b : Int) (h : x.c ≠ L) (h0 : x.c = 0) : winW x b L = ⟨x.s, x.t, b, x.n + 1, 1⟩ := by
  have hL : ¬ (0 : Int) = L := by rw [← h0]; exact h
  unfold winW; simp [h0, hL]
theorem winW_same {x : WS} {L : Int} (b : Int) (h : x.c ≠ L) (h0 : x.c ≠ 0) (hb : b = x.f) : winW x b L = ⟨x.s, x.t, x.f, x.n + 1, x.c + 1⟩ := by
  unfold winW; simp [h, h0, hb]
theorem winW_else {x : WS} {L : Int} (b : Int) (h : x.c ≠ L) (h0 : x.c ≠ 0) (hb : b ≠ x.f) : winW x b L = ⟨x.s, x.t, x.f, x.n, x.c + 1⟩ := by
  unfold winW; simp [h, h0, hb]
set_option maxRecDepth 20000 in
set_option maxHeartbeats 1000000 in
theorem wcount_any (x : WS) (b L : Int) (B o : Nat) (pre post : List Value) (w : World) (hS : WsAt w B pre post x) (ho : pre.length + 2 = o) (hn0 : 0 ≤ x.n) (hn1 : x.n ≤ 1000) (hc0 : 0 ≤ x.c) (hc1 : x.c ≤ 1000) :
    Calls Tryz.prog 85 #[.pointer (some ⟨B, o, none⟩), .int .u8 b, .int .i64 L] w fun e w' => e = .returned (.int .i64 (winW x b L).n) ∧ WsAt w' B pre post (winW x b L) ∧ Ex B w w' := by
  subst ho
  have c2 := hS.cell 2 (by omega)
  have c3 := hS.cell 3 (by omega)
  have c4 := hS.cell 4 (by omega)
  have f2 := hS.frozen (pre.length + 2)
  have f3 := hS.frozen (pre.length + 3)
  have f4 := hS.frozen (pre.length + 4)
  simp only [WS.cells, List.getElem?_cons_zero, List.getElem?_cons_succ] at c2 c3 c4
  have HS := hid hS
  clear hS
  by_cases hL : x.c = L
  · have hr := hid (winW_new b hL)
    have hL' : (x.c == L) = true := by simp [hL]
    have g0 := HS.out.set (y := ⟨x.s, x.t, 0, x.n, x.c⟩) 2 (by omega) (.int .u8 (0)) rfl
    have k0_2 := g0.cell 2 (by omega)
    have k0_3 := g0.cell 3 (by omega)
    have k0_4 := g0.cell 4 (by omega)
    simp only [WS.cells, List.getElem?_cons_zero, List.getElem?_cons_succ] at k0_2 k0_3 k0_4
    have g1 := g0.set (y := ⟨x.s, x.t, 0, 0, x.c⟩) 3 (by omega) (.int .i64 (0)) rfl
    have k1_2 := g1.cell 2 (by omega)
    have k1_3 := g1.cell 3 (by omega)
    have k1_4 := g1.cell 4 (by omega)
    simp only [WS.cells, List.getElem?_cons_zero, List.getElem?_cons_succ] at k1_2 k1_3 k1_4
    have g2 := g1.set (y := ⟨x.s, x.t, 0, 0, 0⟩) 4 (by omega) (.int .i64 (0)) rfl
    have k2_2 := g2.cell 2 (by omega)
    have k2_3 := g2.cell 3 (by omega)
    have k2_4 := g2.cell 4 (by omega)
    simp only [WS.cells, List.getElem?_cons_zero, List.getElem?_cons_succ] at k2_2 k2_3 k2_4
    have g3 := g2.set (y := ⟨x.s, x.t, b, 0, 0⟩) 2 (by omega) (.int .u8 (b)) rfl
    have k3_2 := g3.cell 2 (by omega)
    have k3_3 := g3.cell 3 (by omega)
    have k3_4 := g3.cell 4 (by omega)
    simp only [WS.cells, List.getElem?_cons_zero, List.getElem?_cons_succ] at k3_2 k3_3 k3_4
    have g4 := g3.set (y := ⟨x.s, x.t, b, 0, 1⟩) 4 (by omega) (.int .i64 (1)) rfl
    have k4_2 := g4.cell 2 (by omega)
    have k4_3 := g4.cell 3 (by omega)
    have k4_4 := g4.cell 4 (by omega)
    simp only [WS.cells, List.getElem?_cons_zero, List.getElem?_cons_succ] at k4_2 k4_3 k4_4
    have g5 := g4.set (y := ⟨x.s, x.t, b, 1, 1⟩) 3 (by omega) (.int .i64 (1)) rfl
    have k5_2 := g5.cell 2 (by omega)
    have k5_3 := g5.cell 3 (by omega)
    have k5_4 := g5.cell 4 (by omega)
    simp only [WS.cells, List.getElem?_cons_zero, List.getElem?_cons_succ] at k5_2 k5_3 k5_4
    have GE := hid (Ex.refl B w |>.setCell (pre.length + 2) (.int .u8 (0)) |>.setCell (pre.length + 3) (.int .i64 (0)) |>.setCell (pre.length + 4) (.int .i64 (0)) |>.setCell (pre.length + 2) (.int .u8 (b)) |>.setCell (pre.length + 4) (.int .i64 (1)) |>.setCell (pre.length + 3) (.int .i64 (1)))
    have GS := hid g5
    clear g0 g1 g2 g3 g4 g5
    clear hL HS
    go_enter Tryz.func85, Tryz.ntmps85
    go_wp2
    go_ret
    rw [hr.out]
    exact ⟨rfl, GS.out, GE.out⟩
  · have hL' : (x.c == L) = false := by simp [hL]
    by_cases h0 : x.c = 0
    · have hr := hid (winW_first b hL h0)
      have h0' : (x.c == 0) = true := by simp [h0]
      have g0 := HS.out.set (y := ⟨x.s, x.t, b, x.n, x.c⟩) 2 (by omega) (.int .u8 (b)) rfl
      have k0_2 := g0.cell 2 (by omega)
      have k0_3 := g0.cell 3 (by omega)
      have k0_4 := g0.cell 4 (by omega)
      simp only [WS.cells, List.getElem?_cons_zero, List.getElem?_cons_succ] at k0_2 k0_3 k0_4
      have g1 := g0.set (y := ⟨x.s, x.t, b, x.n, 1⟩) 4 (by omega) (.int .i64 (1)) rfl
      have k1_2 := g1.cell 2 (by omega)
      have k1_3 := g1.cell 3 (by omega)
      have k1_4 := g1.cell 4 (by omega)
      simp only [WS.cells, List.getElem?_cons_zero, List.getElem?_cons_succ] at k1_2 k1_3 k1_4
      have g2 := g1.set (y := ⟨x.s, x.t, b, x.n + 1, 1⟩) 3 (by omega) (.int .i64 (x.n + 1)) rfl
      have k2_2 := g2.cell 2 (by omega)
      have k2_3 := g2.cell 3 (by omega)
      have k2_4 := g2.cell 4 (by omega)
      simp only [WS.cells, List.getElem?_cons_zero, List.getElem?_cons_succ] at k2_2 k2_3 k2_4
      have GE := hid (Ex.refl B w |>.setCell (pre.length + 2) (.int .u8 (b)) |>.setCell (pre.length + 4) (.int .i64 (1)) |>.setCell (pre.length + 3) (.int .i64 (x.n + 1)))
      have GS := hid g2
      clear g0 g1 g2
      clear hL HS
      go_enter Tryz.func85, Tryz.ntmps85
      go_wp2
      go_ret
      rw [hr.out]
      exact ⟨rfl, GS.out, GE.out⟩
    · have h0' : (x.c == 0) = false := by simp [h0]
      by_cases hb : b = x.f
      · have hr := hid (winW_same b hL h0 hb)
        have g0 := HS.out.set (y := ⟨x.s, x.t, x.f, x.n, x.c + 1⟩) 4 (by omega) (.int .i64 (x.c + 1)) rfl
        have k0_2 := g0.cell 2 (by omega)
        have k0_3 := g0.cell 3 (by omega)
        have k0_4 := g0.cell 4 (by omega)
        simp only [WS.cells, List.getElem?_cons_zero, List.getElem?_cons_succ] at k0_2 k0_3 k0_4
        have g1 := g0.set (y := ⟨x.s, x.t, x.f, x.n + 1, x.c + 1⟩) 3 (by omega) (.int .i64 (x.n + 1)) rfl
        have k1_2 := g1.cell 2 (by omega)
        have k1_3 := g1.cell 3 (by omega)
        have k1_4 := g1.cell 4 (by omega)
        simp only [WS.cells, List.getElem?_cons_zero, List.getElem?_cons_succ] at k1_2 k1_3 k1_4
        have GE := hid (Ex.refl B w |>.setCell (pre.length + 4) (.int .i64 (x.c + 1)) |>.setCell (pre.length + 3) (.int .i64 (x.n + 1)))
        have GS := hid g1
        clear g0 g1
        clear hL h0 HS
        subst hb
        go_enter Tryz.func85, Tryz.ntmps85
        go_wp2
        go_ret
        rw [hr.out]
        exact ⟨rfl, GS.out, GE.out⟩
      · have hr := hid (winW_else b hL h0 hb)
        have hb' : (b == x.f) = false := by simp [hb]
        have g0 := HS.out.set (y := ⟨x.s, x.t, x.f, x.n, x.c + 1⟩) 4 (by omega) (.int .i64 (x.c + 1)) rfl
        have k0_2 := g0.cell 2 (by omega)
        have k0_3 := g0.cell 3 (by omega)
        have k0_4 := g0.cell 4 (by omega)
        simp only [WS.cells, List.getElem?_cons_zero, List.getElem?_cons_succ] at k0_2 k0_3 k0_4
        have GE := hid (Ex.refl B w |>.setCell (pre.length + 4) (.int .i64 (x.c + 1)))
        have GS := hid g0
        clear g0
        clear hL h0 hb HS
        go_enter Tryz.func85, Tryz.ntmps85
        go_wp2
        go_ret
        rw [hr.out]
        exact ⟨rfl, GS.out, GE.out⟩
end Go.Proofs.YtbifmhbkmnofiaaGreat
namespace Go.Proofs.YtbifmhbkmnofiaaGreat
open Go.RowKit
set_option linter.unusedVariables false
set_option linter.unusedSimpArgs false
/-- samples, one behind the other: the state behind them, and the fault (true: a window's) with its place -/
def takeW (st wi sk : Int) : WS → List Int → Nat → WS × Option (Bool × Nat)
  | x, [], _ => (x, none)
  | x, b :: r, k => if st ≤ (runW x b).t then (runW x b, some (false, k)) else if sk ≤ (winW (runW x b) b wi).n then (winW (runW x b) b wi, some (true, k)) else takeW st wi sk (winW (runW x b) b wi) r (k + 1)
structure WS.ok (x : WS) (st wi sk : Int) : Prop where
  t0 : 0 ≤ x.t
  t1 : x.t < st
  n0 : 0 ≤ x.n
  n1 : x.n < sk
  c0 : 0 ≤ x.c
  c1 : x.c ≤ wi
theorem runW_t (x : WS) (b : Int) (h : 0 ≤ x.t) : 1 ≤ (runW x b).t ∧ (runW x b).t ≤ x.t + 1 := by
  unfold runW; split <;> dsimp only <;> omega
theorem runW_rest (x : WS) (b : Int) : (runW x b).f = x.f ∧ (runW x b).n = x.n ∧ (runW x b).c = x.c := by
  unfold runW; split <;> simp
theorem winW_bd (x : WS) (b wi : Int) (hn : 0 ≤ x.n) (hc : 0 ≤ x.c) (hc1 : x.c ≤ wi) (hwi : 2 ≤ wi) : (winW x b wi).t = x.t ∧ 0 ≤ (winW x b wi).n ∧ (winW x b wi).n ≤ x.n + 1 ∧ 0 ≤ (winW x b wi).c ∧ (winW x b wi).c ≤ wi := by
  by_cases hL : x.c = wi
  · rw [winW_new b hL]; dsimp only; omega
  · by_cases h0 : x.c = 0
    · rw [winW_first b hL h0]; dsimp only; omega
    · by_cases hb : b = x.f
      · rw [winW_same b hL h0 hb]; dsimp only; omega
      · rw [winW_else b hL h0 hb]; dsimp only; omega
theorem Byt.form2 {w : World} {v : Value} {xs : List Int} (h : Byt w v xs) : ∃ a cap, v = .slice a xs.length cap ∧ (0 < xs.length → ∃ db off, a = some ⟨db, off, none⟩ ∧ ∀ j, j < xs.length → w.cell? ⟨db, off + j, none⟩ = some (.int .u8 (xs[j]?.getD 0))) := by
  rcases h with ⟨rfl, a, cap, rfl⟩ | ⟨db, off, cap, rfl, hc⟩
  · exact ⟨a, cap, rfl, fun h => by simp at h⟩
  · exact ⟨_, cap, rfl, fun _ => ⟨db, off, rfl, hc⟩⟩
/-- what the call answers -/
def faultV : Option (Bool × Nat) → Value
  | none => .nilIface
  | some (false, k) => .iface 164 (.int .i64 k)
  | some (true, k) => .iface 166 (.int .i64 k)
set_option maxRecDepth 20000 in
set_option maxHeartbeats 1000000 in
theorem take_any (x : WS) (st wi sk : Int) (v : Value) (xs : List Int) (B o : Nat) (pre post : List Value) (w : World) (hS : WsAt w B pre post x) (ho : pre.length = o) (hv : Byt w v xs) (hvB : ∀ ad n c, v = .slice (some ad) n c → 0 < n → ad.block ≠ B) (hl : xs.length ≤ 1000) (hx : x.ok st wi sk) (hst : st ≤ 50) (hwi : 2 ≤ wi) (hwi2 : wi ≤ 50) (hsk : sk ≤ 50) :
    Calls Tryz.prog 69 #[.pointer (some ⟨B, o, none⟩), v, .agg #[.int .i64 st, .int .i64 wi, .int .i64 sk]] w fun e w' => e = .returned (faultV (takeW st wi sk x xs 0).2) ∧ WsAt w' B pre post (takeW st wi sk x xs 0).1 ∧ Ex B w w' := by
  have hBl := hS.lt
  have hb1 := al_new w (.cells #[.int .i64 st, .int .i64 wi, .int .i64 sk] 36)
  have hB1 : Below w.heap.size w (w.alloc (.cells #[.int .i64 st, .int .i64 wi, .int .i64 sk] 36)) := (Below.refl _ _).alloc (Nat.le_refl _) _
  have hS1 := hS.other (hB1.block B hBl)
  have hz1 := al_size w (.cells #[.int .i64 st, .int .i64 wi, .int .i64 sk] 36)
  obtain ⟨a, cap, rfl, hcell⟩ := hv.form2
  have Hc := hid hcell
  have HvB := hid hvB
  clear hS hv hcell hvB
  have HB1 := hid hB1
  clear hB1
  go_enter Tryz.func69, Tryz.ntmps69
  go_wp2
  generalize (w.alloc (.cells #[.int .i64 st, .int .i64 wi, .int .i64 sk] 36)) = w1 at *
  go_loopw [11] (fun i wr => ∃ (k : Nat) (y : WS), k ≤ xs.length ∧ i = .int .i64 k ∧ y.ok st wi sk ∧ takeW st wi sk x xs 0 = takeW st wi sk y (xs.drop k) k ∧ WsAt wr B pre post y ∧ wr.heap[w.heap.size]? = some (.cells #[.int .i64 st, .int .i64 wi, .int .i64 sk] 36 (0, 0)) ∧ Ex B w wr) (fun i _ => xs.length - (intOf i).toNat)
  case atStart => exact ⟨0, x, by omega, rfl, hx, rfl, hS1, hb1, Ex.of_below HB1.out⟩
  case round =>
    clear hS1 hb1 HB1
    obtain ⟨k, y, hk, rfl, hy, htk, hS, hlim, hE⟩ := hrel
    have cS := cell_of_row _ _ 0 _ _ _ hlim
    have cW := cell_of_row _ _ 1 _ _ _ hlim
    have cK := cell_of_row _ _ 2 _ _ _ hlim
    simp only [List.getElem?_toArray, List.getElem?_cons_zero, List.getElem?_cons_succ] at cS cW cK
    by_cases hlt : k < xs.length
    · have hlt' : (k : Int) < xs.length := by omega
      obtain ⟨db, doff, rfl, hcs⟩ := Hc.out (by omega)
      have c1 := hcs k hlt
      have hne := HvB.out _ _ _ rfl (by omega)
      have cx : wr.cell? ⟨db, doff + k, none⟩ = some (.int .u8 (xs[k]?.getD 0)) := by
        rw [← c1]
        have hl2 := World.block_lt_of_cell? w _ c1
        unfold World.cell?
        rw [hE.block _ hl2 hne]
      have hdr : xs.drop k = xs[k]?.getD 0 :: xs.drop (k + 1) := by
        rw [List.drop_eq_getElem_cons hlt, List.getElem?_eq_getElem hlt]; rfl
      rw [hdr] at htk
      generalize xs[k]?.getD 0 = b at *
      have htu : takeW st wi sk y (b :: xs.drop (k + 1)) k = if st ≤ (runW y b).t then (runW y b, some (false, k)) else if sk ≤ (winW (runW y b) b wi).n then (winW (runW y b) b wi, some (true, k)) else takeW st wi sk (winW (runW y b) b wi) (xs.drop (k + 1)) (k + 1) := rfl
      rw [htu] at htk
      have rt := runW_t y b hy.t0
      have rr := runW_rest y b
      have Htk := hid htk
      have Hlim := hid hlim
      have HS := hid hS
      have HE := hid hE
      have hy0 := hy.t0
      have hy1 := hy.t1
      have hyn0 := hy.n0
      have hyn1 := hy.n1
      have hyc0 := hy.c0
      have hyc1 := hy.c1
      clear htk htu hdr hlim hS hE hcs c1
      go_wp2_with fail
      refine wp_region_held_drew (S := fun w' => w'.cell? ⟨w.heap.size, 0, none⟩ = some (.int .i64 st)) (by kernel_rfl) cS (fun hSw => ?_)
      refine wpAnyH_take (i := 0) (v := ?_) rfl (by decide +kernel) (by decide +kernel) (by decide +kernel) (fun _ _ _ h => h) (Or.inl ⟨by rfl, ?_⟩) hSw ?_
      rotate_left
      · intro w hw; go_simp; try with_reducible rfl
      simp only [Act.put, List.getElem_toArray, List.getElem_cons_zero, List.getElem_cons_succ, List.setIfInBounds_toArray, List.set_cons_zero, List.set_cons_succ]
      refine wpAnyH_take (i := 1) (v := ?_) rfl (by decide +kernel) (by decide +kernel) (by decide +kernel) (fun _ _ _ h => h) (Or.inl ⟨by rfl, ?_⟩) hSw ?_
      rotate_left
      · intro w hw; go_simp; try with_reducible rfl
      simp only [Act.put, List.getElem_toArray, List.getElem_cons_zero, List.getElem_cons_succ, List.setIfInBounds_toArray, List.set_cons_zero, List.set_cons_succ]
      refine wpAnyH_take (i := 2) (v := ?_) rfl (by decide +kernel) (by decide +kernel) (by decide +kernel) (fun _ _ _ h => h) (Or.inl ⟨by rfl, ?_⟩) hSw ?_
      rotate_left
      · intro w hw; go_simp; try with_reducible rfl
      simp only [Act.put, List.getElem_toArray, List.getElem_cons_zero, List.getElem_cons_succ, List.setIfInBounds_toArray, List.set_cons_zero, List.set_cons_succ]
      refine wpAnyH_take (i := 3) (v := ?_) rfl (by decide +kernel) (by decide +kernel) (by decide +kernel) (fun _ _ _ h => h) (Or.inl ⟨by rfl, ?_⟩) hSw ?_
      rotate_left
      · intro w hw; go_simp; try with_reducible rfl
      simp only [Act.put, List.getElem_toArray, List.getElem_cons_zero, List.getElem_cons_succ, List.setIfInBounds_toArray, List.set_cons_zero, List.set_cons_succ]
      refine wpAnyH_take (i := 5) (v := ?_) rfl (by decide +kernel) (by decide +kernel) (by decide +kernel) (fun _ _ _ h => h) (Or.inl ⟨by rfl, ?_⟩) hSw ?_
      rotate_left
      · intro w hw; go_simp; try with_reducible rfl
      simp only [Act.put, List.getElem_toArray, List.getElem_cons_zero, List.getElem_cons_succ, List.setIfInBounds_toArray, List.set_cons_zero, List.set_cons_succ]
      refine wpAnyH_take (i := 6) (v := ?_) rfl (by decide +kernel) (by decide +kernel) (by decide +kernel) (fun _ _ _ h => h) (Or.inl ⟨by rfl, ?_⟩) hSw ?_
      rotate_left
      · intro w hw; have hcell := hw; clear hw; go_simp; try with_reducible rfl
      simp only [Act.put, List.getElem_toArray, List.getElem_cons_zero, List.getElem_cons_succ, List.setIfInBounds_toArray, List.set_cons_zero, List.set_cons_succ]
      refine wpAnyH_ready (rs := [4]) (by kernel_rfl) (by simp) ?_
      refine AllReadyH.cons rfl (fun K hK => ?_) AllReadyH.nil
      go_simp
      refine (rcount_any y b B o pre post wr.drew (show WsAt wr.drew B pre post y from HS.out) ho hy0 (by omega)).mono ?_
      rintro e w2 ⟨rfl, hS2, hE2⟩
      have hlw : w.heap.size < wr.heap.size := (Array.getElem?_eq_some_iff.1 Hlim.out).1
      have Hlim2 := hid ((hE2.block w.heap.size hlw (by omega)).trans Hlim.out)
      have HE2 := hid (HE.out.drew.trans hE2)
      have HS2 := hid hS2
      have cS2 := cell_of_row _ _ 0 _ _ _ Hlim2.out
      have cW2 := cell_of_row _ _ 1 _ _ _ Hlim2.out
      have cK2 := cell_of_row _ _ 2 _ _ _ Hlim2.out
      simp only [List.getElem?_toArray, List.getElem?_cons_zero, List.getElem?_cons_succ] at cS2 cW2 cK2
      refine hK.out _ _ cS2 (fun hSw => ?_)
      clear hK K hE2 hS2 HS HE Hlim cS cW cK
      refine wpAnyH_take (i := 7) (v := ?_) rfl (by decide +kernel) (by decide +kernel) (by decide +kernel) (fun _ _ _ h => h) (Or.inl ⟨by rfl, ?_⟩) hSw ?_
      rotate_left
      · intro w hw; go_simp; try with_reducible rfl
      simp only [Act.put, List.getElem_toArray, List.getElem_cons_zero, List.getElem_cons_succ, List.setIfInBounds_toArray, List.set_cons_zero, List.set_cons_succ]
      refine wpAnyH_done (by kernel_rfl) ?_ _
      by_cases h1 : st ≤ (runW y b).t
      · have Htk2 := hid (Htk.out.trans (if_pos h1))
        generalize runW y b = y1 at *
        go_wp2
        go_ret
        rw [Htk2.out]
        exact ⟨rfl, HS2.out, HE2.out⟩
      · have Htk2 := hid (Htk.out.trans (if_neg h1))
        have wb := winW_bd (runW y b) b wi (by omega) (by omega) (by omega) hwi
        have rn : (runW y b).n = y.n := rr.2.1
        have rc : (runW y b).c = y.c := rr.2.2
        have rt1 := rt.1
        have rt2 := rt.2
        clear Htk rr rt
        generalize runW y b = y1 at *
        have h1' : ¬ st ≤ y1.t := h1
        go_wp2_with fail
        refine wp_region_held_drew (S := fun w' => w'.cell? ⟨w.heap.size, 1, none⟩ = some (.int .i64 wi) ∧ w'.cell? ⟨w.heap.size, 2, none⟩ = some (.int .i64 sk)) (by kernel_rfl) ⟨cW2, cK2⟩ (fun hSw => ?_)
        refine wpAnyH_take (i := 0) (v := ?_) rfl (by decide +kernel) (by decide +kernel) (by decide +kernel) (fun _ _ _ h => h) (Or.inl ⟨by rfl, ?_⟩) hSw ?_
        rotate_left
        · intro w hw; go_simp; try with_reducible rfl
        simp only [Act.put, List.getElem_toArray, List.getElem_cons_zero, List.getElem_cons_succ, List.setIfInBounds_toArray, List.set_cons_zero, List.set_cons_succ]
        refine wpAnyH_take (i := 1) (v := ?_) rfl (by decide +kernel) (by decide +kernel) (by decide +kernel) (fun _ _ _ h => h) (Or.inl ⟨by rfl, ?_⟩) hSw ?_
        rotate_left
        · intro w hw; go_simp; try with_reducible rfl
        simp only [Act.put, List.getElem_toArray, List.getElem_cons_zero, List.getElem_cons_succ, List.setIfInBounds_toArray, List.set_cons_zero, List.set_cons_succ]
        refine wpAnyH_take (i := 2) (v := ?_) rfl (by decide +kernel) (by decide +kernel) (by decide +kernel) (fun _ _ _ h => h) (Or.inl ⟨by rfl, ?_⟩) hSw ?_
        rotate_left
        · intro w hw; go_simp; try with_reducible rfl
        simp only [Act.put, List.getElem_toArray, List.getElem_cons_zero, List.getElem_cons_succ, List.setIfInBounds_toArray, List.set_cons_zero, List.set_cons_succ]
        refine wpAnyH_take (i := 3) (v := ?_) rfl (by decide +kernel) (by decide +kernel) (by decide +kernel) (fun _ _ _ h => h) (Or.inl ⟨by rfl, ?_⟩) hSw ?_
        rotate_left
        · intro w hw; go_simp; try with_reducible rfl
        simp only [Act.put, List.getElem_toArray, List.getElem_cons_zero, List.getElem_cons_succ, List.setIfInBounds_toArray, List.set_cons_zero, List.set_cons_succ]
        refine wpAnyH_take (i := 4) (v := ?_) rfl (by decide +kernel) (by decide +kernel) (by decide +kernel) (fun _ _ _ h => h) (Or.inl ⟨by rfl, ?_⟩) hSw ?_
        rotate_left
        · intro w hw; go_simp; try with_reducible rfl
        simp only [Act.put, List.getElem_toArray, List.getElem_cons_zero, List.getElem_cons_succ, List.setIfInBounds_toArray, List.set_cons_zero, List.set_cons_succ]
        refine wpAnyH_take (i := 5) (v := ?_) rfl (by decide +kernel) (by decide +kernel) (by decide +kernel) (fun _ _ _ h => h) (Or.inl ⟨by rfl, ?_⟩) hSw ?_
        rotate_left
        · intro w hw; have hcell := hw.1; clear hw; go_simp; try with_reducible rfl
        simp only [Act.put, List.getElem_toArray, List.getElem_cons_zero, List.getElem_cons_succ, List.setIfInBounds_toArray, List.set_cons_zero, List.set_cons_succ]
        refine wpAnyH_take (i := 7) (v := ?_) rfl (by decide +kernel) (by decide +kernel) (by decide +kernel) (fun _ _ _ h => h) (Or.inl ⟨by rfl, ?_⟩) hSw ?_
        rotate_left
        · intro w hw; go_simp; try with_reducible rfl
        simp only [Act.put, List.getElem_toArray, List.getElem_cons_zero, List.getElem_cons_succ, List.setIfInBounds_toArray, List.set_cons_zero, List.set_cons_succ]
        refine wpAnyH_take (i := 8) (v := ?_) rfl (by decide +kernel) (by decide +kernel) (by decide +kernel) (fun _ _ _ h => h) (Or.inl ⟨by rfl, ?_⟩) hSw ?_
        rotate_left
        · intro w hw; have hcell := hw.2; clear hw; go_simp; try with_reducible rfl
        simp only [Act.put, List.getElem_toArray, List.getElem_cons_zero, List.getElem_cons_succ, List.setIfInBounds_toArray, List.set_cons_zero, List.set_cons_succ]
        refine wpAnyH_ready (rs := [6]) (by kernel_rfl) (by simp) ?_
        refine AllReadyH.cons rfl (fun K hK => ?_) AllReadyH.nil
        go_simp
        refine (wcount_any y1 b wi B (o + 2) pre post w2.drew (show WsAt w2.drew B pre post y1 from HS2.out) (by omega) (by omega) (by omega) (by omega) (by omega)).mono ?_
        rintro e w3 ⟨rfl, hS3, hE3⟩
        have hlw2 : w.heap.size < w2.heap.size := (Array.getElem?_eq_some_iff.1 Hlim2.out).1
        have Hlim3 := hid ((hE3.block w.heap.size hlw2 (by omega)).trans Hlim2.out)
        have HE3 := hid (HE2.out.drew.trans hE3)
        have HS3 := hid hS3
        have cW3 := cell_of_row _ _ 1 _ _ _ Hlim3.out
        have cK3 := cell_of_row _ _ 2 _ _ _ Hlim3.out
        simp only [List.getElem?_toArray, List.getElem?_cons_zero, List.getElem?_cons_succ] at cW3 cK3
        refine hK.out _ _ ⟨cW3, cK3⟩ (fun hSw => ?_)
        clear hK K hE3 hS3 HS2 HE2 Hlim2 cS2 cW2 cK2
        refine wpAnyH_take (i := 9) (v := ?_) rfl (by decide +kernel) (by decide +kernel) (by decide +kernel) (fun _ _ _ h => h) (Or.inl ⟨by rfl, ?_⟩) hSw ?_
        rotate_left
        · intro w hw; go_simp; try with_reducible rfl
        simp only [Act.put, List.getElem_toArray, List.getElem_cons_zero, List.getElem_cons_succ, List.setIfInBounds_toArray, List.set_cons_zero, List.set_cons_succ]
        refine wpAnyH_done (by kernel_rfl) ?_ _
        by_cases h2 : sk ≤ (winW y1 b wi).n
        · have Htk3 := hid (Htk2.out.trans (if_pos h2))
          generalize winW y1 b wi = y2 at *
          go_wp2
          go_ret
          rw [Htk3.out]
          exact ⟨rfl, HS3.out, HE3.out⟩
        · have Htk3 := hid (Htk2.out.trans (if_neg h2))
          have hok : (winW y1 b wi).ok st wi sk := ⟨by omega, by omega, wb.2.1, by omega, wb.2.2.2.1, wb.2.2.2.2⟩
          generalize winW y1 b wi = y2 at *
          have h2' : ¬ sk ≤ y2.n := h2
          clear Htk2 wb
          go_wp2
          exact ⟨⟨k + 1, y2, by omega, by go_num, hok, Htk3.out, HS3.out, Hlim3.out, HE3.out⟩, by simp [intOf]; omega⟩
    · obtain rfl : k = xs.length := by omega
      rw [List.drop_of_length_le (by omega)] at htk
      have hfin : takeW st wi sk y [] xs.length = (y, none) := rfl
      rw [hfin] at htk
      go_wp2
      go_ret
      rw [htk]
      exact ⟨rfl, hS, hE⟩

end Go.Proofs.YtbifmhbkmnofiaaGreat
namespace Go.Proofs.YtbifmhbkmnofiaaGreat
open Go.RowKit
set_option linter.unusedVariables false
set_option linter.unusedSimpArgs false
/-- a guard: its limits, what it knows, is it broken? -/
structure Gd where
  st : Int
  wi : Int
  sk : Int
  x : WS
  br : Bool
def GdAt (w : World) (A : Nat) (g : Gd) : Prop := WsAt w A [.int .i64 g.st, .int .i64 g.wi, .int .i64 g.sk] [.bool g.br] g.x
def W0 : WS := ⟨0, 0, 0, 0, 0⟩
/-- may samples be held to these limits? -/
def mayW (st wi sk : Int) : Bool := decide (2 ≤ st ∧ st ≤ 50 ∧ 2 ≤ wi ∧ wi ≤ 50 ∧ 2 ≤ sk ∧ sk ≤ wi)
set_option maxRecDepth 20000 in
set_option maxHeartbeats 1000000 in
theorem mayWatch_yes (st wi sk : Int) (w : World) (h : 2 ≤ st ∧ st ≤ 50 ∧ 2 ≤ wi ∧ wi ≤ 50 ∧ 2 ≤ sk ∧ sk ≤ wi) :
    Calls Tryz.prog 68 #[.agg #[.int .i64 st, .int .i64 wi, .int .i64 sk]] w fun e w' => e = .returned (.bool true) ∧ Below w.heap.size w w' := by
  obtain ⟨h1, h2, h3, h4, h5, h6⟩ := h
  go_enter Tryz.func68, Tryz.ntmps68
  go_wp2
  go_ret
  exact ⟨rfl, (Below.refl _ _).alloc (Nat.le_refl _) _⟩
theorem Tryz.mAhead1 (n : Int) (w : World) : Sem.run Tryz.prog (method 299 164 (.int .i64 n) "Ahead") w = .ok (124, .int .i64 n) w := by kernel_rfl
theorem Tryz.mAhead2 (n : Int) (w : World) : Sem.run Tryz.prog (method 299 166 (.int .i64 n) "Ahead") w = .ok (125, .int .i64 n) w := by kernel_rfl
set_option maxHeartbeats 400000 in
theorem ahead1 (n : Int) (w : World) : Calls Tryz.prog 124 #[.int .i64 n] w fun e w' => e = .returned (.int .i64 n) ∧ w' = w := by
  go_enter Tryz.func124, Tryz.ntmps124
  go_wp2
  go_ret
  exact ⟨rfl, rfl⟩
set_option maxHeartbeats 400000 in
theorem ahead2 (n : Int) (w : World) : Calls Tryz.prog 125 #[.int .i64 n] w fun e w' => e = .returned (.int .i64 n) ∧ w' = w := by
  go_enter Tryz.func125, Tryz.ntmps125
  go_wp2
  go_ret
  exact ⟨rfl, rfl⟩
theorem ta11 (n : Int) (w : World) : Sem.run Tryz.prog (Instr.typeAssert (.iface 164 (.int .i64 n)) 140 164 true) w = .ok (.tuple #[.int .i64 n, .bool true]) w := by kernel_rfl
theorem ta21 (n : Int) (w : World) : Sem.run Tryz.prog (Instr.typeAssert (.iface 166 (.int .i64 n)) 140 164 true) w = .ok (.tuple #[.int .i64 0, .bool false]) w := by kernel_rfl
theorem ta22 (n : Int) (w : World) : Sem.run Tryz.prog (Instr.typeAssert (.iface 166 (.int .i64 n)) 140 166 true) w = .ok (.tuple #[.int .i64 n, .bool true]) w := by kernel_rfl
set_option maxRecDepth 20000 in
set_option maxHeartbeats 1000000 in
theorem fault1 (n : Int) (w : World) : Calls Tryz.prog 70 #[.iface 164 (.int .i64 n)] w fun e w' => e = .returned (.int .i64 4) ∧ w' = w := by
  have h1 := ta11 n w
  go_enter Tryz.func70, Tryz.ntmps70
  go_wp2
  go_ret
  exact ⟨rfl, rfl⟩
set_option maxRecDepth 20000 in
set_option maxHeartbeats 1000000 in
theorem fault2 (n : Int) (w : World) : Calls Tryz.prog 70 #[.iface 166 (.int .i64 n)] w fun e w' => e = .returned (.int .i64 5) ∧ w' = w := by
  have h1 := ta21 n w
  have h2 := ta22 n w
  go_enter Tryz.func70, Tryz.ntmps70
  go_wp2
  go_ret
  exact ⟨rfl, rfl⟩
set_option maxRecDepth 20000 in
set_option maxHeartbeats 1000000 in
theorem newGuard_yes (st wi sk : Int) (w : World) (h : 2 ≤ st ∧ st ≤ 50 ∧ 2 ≤ wi ∧ wi ≤ 50 ∧ 2 ≤ sk ∧ sk ≤ wi) :
    Calls Tryz.prog 36 #[.agg #[.int .i64 st, .int .i64 wi, .int .i64 sk]] w fun e w' => ∃ A, e = .returned (.tuple #[.pointer (some ⟨A, 0, none⟩), .int .i64 0]) ∧ w.heap.size ≤ A ∧ GdAt w' A ⟨st, wi, sk, W0, false⟩ ∧ Below w.heap.size w w' := by
  have hb1 := al_new w (.cells #[.int .i64 st, .int .i64 wi, .int .i64 sk] 36)
  have hB1 : Below w.heap.size w (w.alloc (.cells #[.int .i64 st, .int .i64 wi, .int .i64 sk] 36)) := (Below.refl _ _).alloc (Nat.le_refl _) _
  have HB1 := hid hB1
  have c0 := cell_of_row _ _ 0 _ _ _ hb1
  have c1 := cell_of_row _ _ 1 _ _ _ hb1
  have c2 := cell_of_row _ _ 2 _ _ _ hb1
  simp only [List.getElem?_toArray, List.getElem?_cons_zero, List.getElem?_cons_succ] at c0 c1 c2
  have Hb1 := hid hb1
  clear hb1 hB1
  go_enter Tryz.func36, Tryz.ntmps36
  go_wp2_with fail
  have hz1 := al_size w (.cells #[.int .i64 st, .int .i64 wi, .int .i64 sk] 36)
  generalize (w.alloc (.cells #[.int .i64 st, .int .i64 wi, .int .i64 sk] 36)) = w1 at *
  refine (mayWatch_yes st wi sk _ h).mono ?_
  rintro e w2 ⟨rfl, hB2⟩
  have hlim := (hB2.block w.heap.size (by omega)).trans Hb1.out
  have d0 := cell_of_row _ _ 0 _ _ _ hlim
  have d1 := cell_of_row _ _ 1 _ _ _ hlim
  have d2 := cell_of_row _ _ 2 _ _ _ hlim
  simp only [List.getElem?_toArray, List.getElem?_cons_zero, List.getElem?_cons_succ] at d0 d1 d2
  have HB2 := hid (HB1.out.trans (hB2.mono HB1.out.size))
  clear hlim hB2 HB1 Hb1 c0 c1 c2 h
  go_wp2
  go_ret2
  exact ⟨w2.heap.size, rfl, HB2.out.size, ⟨136, al_new _ _⟩, HB2.out.alloc HB2.out.size _⟩
set_option maxRecDepth 20000 in
set_option maxHeartbeats 2000000 in
theorem mayWatch_no (st wi sk : Int) (w : World) (h : ¬ (2 ≤ st ∧ st ≤ 50 ∧ 2 ≤ wi ∧ wi ≤ 50 ∧ 2 ≤ sk ∧ sk ≤ wi)) :
    Calls Tryz.prog 68 #[.agg #[.int .i64 st, .int .i64 wi, .int .i64 sk]] w fun e w' => e = .returned (.bool false) ∧ Below w.heap.size w w' := by
  have hB := hid ((Below.refl w.heap.size w).alloc (Nat.le_refl _) (.cells #[.int .i64 st, .int .i64 wi, .int .i64 sk] 36))
  by_cases h1 : 2 ≤ st
  · by_cases h2 : st ≤ 50
    · by_cases h3 : 2 ≤ wi
      · by_cases h4 : wi ≤ 50
        · by_cases h5 : 2 ≤ sk
          · have h6 : ¬ sk ≤ wi := by omega
            clear h
            go_enter Tryz.func68, Tryz.ntmps68
            go_wp2
            go_ret
            exact ⟨rfl, hB.out⟩
          · clear h
            go_enter Tryz.func68, Tryz.ntmps68
            go_wp2
            go_ret
            exact ⟨rfl, hB.out⟩
        · clear h
          go_enter Tryz.func68, Tryz.ntmps68
          go_wp2
          go_ret
          exact ⟨rfl, hB.out⟩
      · clear h
        go_enter Tryz.func68, Tryz.ntmps68
        go_wp2
        go_ret
        exact ⟨rfl, hB.out⟩
    · clear h
      go_enter Tryz.func68, Tryz.ntmps68
      go_wp2
      go_ret
      exact ⟨rfl, hB.out⟩
  · clear h
    go_enter Tryz.func68, Tryz.ntmps68
    go_wp2
    go_ret
    exact ⟨rfl, hB.out⟩
set_option maxRecDepth 20000 in
set_option maxHeartbeats 1000000 in
theorem newGuard_no (st wi sk : Int) (w : World) (h : ¬ (2 ≤ st ∧ st ≤ 50 ∧ 2 ≤ wi ∧ wi ≤ 50 ∧ 2 ≤ sk ∧ sk ≤ wi)) :
    Calls Tryz.prog 36 #[.agg #[.int .i64 st, .int .i64 wi, .int .i64 sk]] w fun e w' => e = .returned (.tuple #[.pointer none, .int .i64 2]) ∧ Below w.heap.size w w' := by
  have hb1 := al_new w (.cells #[.int .i64 st, .int .i64 wi, .int .i64 sk] 36)
  have hB1 : Below w.heap.size w (w.alloc (.cells #[.int .i64 st, .int .i64 wi, .int .i64 sk] 36)) := (Below.refl _ _).alloc (Nat.le_refl _) _
  have HB1 := hid hB1
  have c0 := cell_of_row _ _ 0 _ _ _ hb1
  have c1 := cell_of_row _ _ 1 _ _ _ hb1
  have c2 := cell_of_row _ _ 2 _ _ _ hb1
  simp only [List.getElem?_toArray, List.getElem?_cons_zero, List.getElem?_cons_succ] at c0 c1 c2
  have Hb1 := hid hb1
  clear hb1 hB1
  go_enter Tryz.func36, Tryz.ntmps36
  go_wp2_with fail
  generalize (w.alloc (.cells #[.int .i64 st, .int .i64 wi, .int .i64 sk] 36)) = w1 at *
  refine (mayWatch_no st wi sk _ h).mono ?_
  rintro e w2 ⟨rfl, hB2⟩
  have HB2 := hid (HB1.out.trans (hB2.mono HB1.out.size))
  clear hB2 HB1 Hb1 c0 c1 c2 h
  go_wp2
  go_ret2
  exact ⟨rfl, HB2.out⟩
end Go.Proofs.YtbifmhbkmnofiaaGreat
