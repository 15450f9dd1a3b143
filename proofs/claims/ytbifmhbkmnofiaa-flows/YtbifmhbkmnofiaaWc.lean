import Derived.Test.YtbifmhbkmnofiaaWb
namespace Go.Proofs.Ytbifmhbkmnofiaa
open Go.RowKit
set_option linter.unusedVariables false
set_option linter.unusedSimpArgs false
/-- a guard: its limits, what it knows, is it broken? -/
structure Gd where
  st : Int
  wi : Int
  sk : Int
  x : WS
  br : Bool
def GdAt (w : World) (A : Nat) (g : Gd) : Prop := WsAt w A [.int .i64 g.st, .int .i64 g.wi, .int .i64 g.sk] [.bool g.br] g.x
def W0 : WS := ⟨0, 0, 0, 0, 0⟩
/-- may samples be held to these limits? -/
def mayW (st wi sk : Int) : Bool := decide (2 ≤ st ∧ st ≤ 50 ∧ 2 ≤ wi ∧ wi ≤ 50 ∧ 2 ≤ sk ∧ sk ≤ wi)
set_option maxRecDepth 20000 in
set_option maxHeartbeats 1000000 in
theorem mayWatch_yes (st wi sk : Int) (w : World) (h : 2 ≤ st ∧ st ≤ 50 ∧ 2 ≤ wi ∧ wi ≤ 50 ∧ 2 ≤ sk ∧ sk ≤ wi) :
    Calls Try.prog 46 #[.agg #[.int .i64 st, .int .i64 wi, .int .i64 sk]] w fun e w' => e = .returned (.bool true) ∧ Below w.heap.size w w' := by
  obtain ⟨h1, h2, h3, h4, h5, h6⟩ := h
  go_enter Try.func46, Try.ntmps46
  go_wp2
  go_ret
  exact ⟨rfl, (Below.refl _ _).alloc (Nat.le_refl _) _⟩
theorem Try.mAhead1 (n : Int) (w : World) : Sem.run Try.prog (method 258 122 (.int .i64 n) "Ahead") w = .ok (96, .int .i64 n) w := by kernel_rfl
theorem Try.mAhead2 (n : Int) (w : World) : Sem.run Try.prog (method 258 124 (.int .i64 n) "Ahead") w = .ok (97, .int .i64 n) w := by kernel_rfl
set_option maxHeartbeats 400000 in
theorem ahead1 (n : Int) (w : World) : Calls Try.prog 96 #[.int .i64 n] w fun e w' => e = .returned (.int .i64 n) ∧ w' = w := by
  go_enter Try.func96, Try.ntmps96
  go_wp2
  go_ret
  exact ⟨rfl, rfl⟩
set_option maxHeartbeats 400000 in
theorem ahead2 (n : Int) (w : World) : Calls Try.prog 97 #[.int .i64 n] w fun e w' => e = .returned (.int .i64 n) ∧ w' = w := by
  go_enter Try.func97, Try.ntmps97
  go_wp2
  go_ret
  exact ⟨rfl, rfl⟩
theorem ta11 (n : Int) (w : World) : Sem.run Try.prog (Instr.typeAssert (.iface 122 (.int .i64 n)) 101 122 true) w = .ok (.tuple #[.int .i64 n, .bool true]) w := by kernel_rfl
theorem ta21 (n : Int) (w : World) : Sem.run Try.prog (Instr.typeAssert (.iface 124 (.int .i64 n)) 101 122 true) w = .ok (.tuple #[.int .i64 0, .bool false]) w := by kernel_rfl
theorem ta22 (n : Int) (w : World) : Sem.run Try.prog (Instr.typeAssert (.iface 124 (.int .i64 n)) 101 124 true) w = .ok (.tuple #[.int .i64 n, .bool true]) w := by kernel_rfl
set_option maxRecDepth 20000 in
set_option maxHeartbeats 1000000 in
theorem fault1 (n : Int) (w : World) : Calls Try.prog 48 #[.iface 122 (.int .i64 n)] w fun e w' => e = .returned (.int .i64 4) ∧ w' = w := by
  have h1 := ta11 n w
  go_enter Try.func48, Try.ntmps48
  go_wp2
  go_ret
  exact ⟨rfl, rfl⟩
set_option maxRecDepth 20000 in
set_option maxHeartbeats 1000000 in
theorem fault2 (n : Int) (w : World) : Calls Try.prog 48 #[.iface 124 (.int .i64 n)] w fun e w' => e = .returned (.int .i64 5) ∧ w' = w := by
  have h1 := ta21 n w
  have h2 := ta22 n w
  go_enter Try.func48, Try.ntmps48
  go_wp2
  go_ret
  exact ⟨rfl, rfl⟩
set_option maxRecDepth 20000 in
set_option maxHeartbeats 1000000 in
theorem newGuard_yes (st wi sk : Int) (w : World) (h : 2 ≤ st ∧ st ≤ 50 ∧ 2 ≤ wi ∧ wi ≤ 50 ∧ 2 ≤ sk ∧ sk ≤ wi) :
    Calls Try.prog 26 #[.agg #[.int .i64 st, .int .i64 wi, .int .i64 sk]] w fun e w' => ∃ A, e = .returned (.tuple #[.pointer (some ⟨A, 0, none⟩), .int .i64 0]) ∧ w.heap.size ≤ A ∧ GdAt w' A ⟨st, wi, sk, W0, false⟩ ∧ Below w.heap.size w w' := by
  have hb1 := al_new w (.cells #[.int .i64 st, .int .i64 wi, .int .i64 sk] 51)
  have hB1 : Below w.heap.size w (w.alloc (.cells #[.int .i64 st, .int .i64 wi, .int .i64 sk] 51)) := (Below.refl _ _).alloc (Nat.le_refl _) _
  have HB1 := hid hB1
  have c0 := cell_of_row _ _ 0 _ _ _ hb1
  have c1 := cell_of_row _ _ 1 _ _ _ hb1
  have c2 := cell_of_row _ _ 2 _ _ _ hb1
  simp only [List.getElem?_toArray, List.getElem?_cons_zero, List.getElem?_cons_succ] at c0 c1 c2
  have Hb1 := hid hb1
  clear hb1 hB1
  go_enter Try.func26, Try.ntmps26
  go_wp2_with fail
  have hz1 := al_size w (.cells #[.int .i64 st, .int .i64 wi, .int .i64 sk] 51)
  generalize (w.alloc (.cells #[.int .i64 st, .int .i64 wi, .int .i64 sk] 51)) = w1 at *
  refine (mayWatch_yes st wi sk _ h).mono ?_
  rintro e w2 ⟨rfl, hB2⟩
  have hlim := (hB2.block w.heap.size (by omega)).trans Hb1.out
  have d0 := cell_of_row _ _ 0 _ _ _ hlim
  have d1 := cell_of_row _ _ 1 _ _ _ hlim
  have d2 := cell_of_row _ _ 2 _ _ _ hlim
  simp only [List.getElem?_toArray, List.getElem?_cons_zero, List.getElem?_cons_succ] at d0 d1 d2
  have HB2 := hid (HB1.out.trans (hB2.mono HB1.out.size))
  clear hlim hB2 HB1 Hb1 c0 c1 c2 h
  go_wp2
  go_ret2
  exact ⟨w2.heap.size, rfl, HB2.out.size, ⟨99, al_new _ _⟩, HB2.out.alloc HB2.out.size _⟩
set_option maxRecDepth 20000 in
set_option maxHeartbeats 2000000 in
theorem mayWatch_no (st wi sk : Int) (w : World) (h : ¬ (2 ≤ st ∧ st ≤ 50 ∧ 2 ≤ wi ∧ wi ≤ 50 ∧ 2 ≤ sk ∧ sk ≤ wi)) :
    Calls Try.prog 46 #[.agg #[.int .i64 st, .int .i64 wi, .int .i64 sk]] w fun e w' => e = .returned (.bool false) ∧ Below w.heap.size w w' := by
  have hB := hid ((Below.refl w.heap.size w).alloc (Nat.le_refl _) (.cells #[.int .i64 st, .int .i64 wi, .int .i64 sk] 51))
  by_cases h1 : 2 ≤ st
  · by_cases h2 : st ≤ 50
    · by_cases h3 : 2 ≤ wi
      · by_cases h4 : wi ≤ 50
        · by_cases h5 : 2 ≤ sk
          · have h6 : ¬ sk ≤ wi := by omega
            clear h
            go_enter Try.func46, Try.ntmps46
            go_wp2
            go_ret
            exact ⟨rfl, hB.out⟩
          · clear h
            go_enter Try.func46, Try.ntmps46
            go_wp2
            go_ret
            exact ⟨rfl, hB.out⟩
        · clear h
          go_enter Try.func46, Try.ntmps46
          go_wp2
          go_ret
          exact ⟨rfl, hB.out⟩
      · clear h
        go_enter Try.func46, Try.ntmps46
        go_wp2
        go_ret
        exact ⟨rfl, hB.out⟩
    · clear h
      go_enter Try.func46, Try.ntmps46
      go_wp2
      go_ret
      exact ⟨rfl, hB.out⟩
  · clear h
    go_enter Try.func46, Try.ntmps46
    go_wp2
    go_ret
    exact ⟨rfl, hB.out⟩
set_option maxRecDepth 20000 in
set_option maxHeartbeats 1000000 in
theorem newGuard_no (st wi sk : Int) (w : World) (h : ¬ (2 ≤ st ∧ st ≤ 50 ∧ 2 ≤ wi ∧ wi ≤ 50 ∧ 2 ≤ sk ∧ sk ≤ wi)) :
    Calls Try.prog 26 #[.agg #[.int .i64 st, .int .i64 wi, .int .i64 sk]] w fun e w' => e = .returned (.tuple #[.pointer none, .int .i64 2]) ∧ Below w.heap.size w w' := by
  have hb1 := al_new w (.cells #[.int .i64 st, .int .i64 wi, .int .i64 sk] 51)
  have hB1 : Below w.heap.size w (w.alloc (.cells #[.int .i64 st, .int .i64 wi, .int .i64 sk] 51)) := (Below.refl _ _).alloc (Nat.le_refl _) _
  have HB1 := hid hB1
  have c0 := cell_of_row _ _ 0 _ _ _ hb1
  have c1 := cell_of_row _ _ 1 _ _ _ hb1
  have c2 := cell_of_row _ _ 2 _ _ _ hb1
  simp only [List.getElem?_toArray, List.getElem?_cons_zero, List.getElem?_cons_succ] at c0 c1 c2
  have Hb1 := hid hb1
  clear hb1 hB1
  go_enter Try.func26, Try.ntmps26
  go_wp2_with fail
  generalize (w.alloc (.cells #[.int .i64 st, .int .i64 wi, .int .i64 sk] 51)) = w1 at *
  refine (mayWatch_no st wi sk _ h).mono ?_
  rintro e w2 ⟨rfl, hB2⟩
  have HB2 := hid (HB1.out.trans (hB2.mono HB1.out.size))
  clear hB2 HB1 Hb1 c0 c1 c2 h
  go_wp2
  go_ret2
  exact ⟨rfl, HB2.out⟩
end Go.Proofs.Ytbifmhbkmnofiaa
