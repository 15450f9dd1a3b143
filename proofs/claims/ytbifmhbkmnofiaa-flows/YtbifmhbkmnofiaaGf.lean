import Derived.Test.YtbifmhbkmnofiaaGe
namespace Go.Proofs.Ytbifmhbkmnofiaa
open Go.RowKit
set_option linter.unusedVariables false
set_option linter.unusedSimpArgs false
def oAt (o : List Int) (i : Nat) : Int := if i < o.length then o[o.length - 1 - i]?.getD 0 else 0
def car (V o : List Int) : Nat → Int
  | 0 => 0
  | i + 1 => (V[54 - i]?.getD 0 + car V o i + oAt o i) / 256
def addAt (V o : List Int) (i : Nat) : Int := (V[54 - i]?.getD 0 + car V o i + oAt o i) % 256
/-- two numbers of 55 bytes added, what carries beyond the top lost -/
def addI (V o : List Int) : List Int := (List.range 55).map (fun j => addAt V o (54 - j))
theorem addI_len (V o : List Int) : (addI V o).length = 55 := by simp [addI]
theorem addI_B (V o : List Int) : allB (addI V o) := by
  intro x hx
  simp only [addI, List.mem_map] at hx
  obtain ⟨j, _, rfl⟩ := hx
  unfold addAt
  omega
theorem addI_congr (V o o' : List Int) (h : ∀ i, i < 55 → oAt o i = oAt o' i) : addI V o = addI V o' := by
  have hc : ∀ i, i ≤ 55 → car V o i = car V o' i := by
    intro i
    induction i with
    | zero => intro _; rfl
    | succ i ih => intro hi; rw [car, car, ih (by omega), h i (by omega)]
  unfold addI
  apply List.map_congr_left
  intro j hj
  unfold addAt
  rw [hc _ (by omega), h _ (by omega)]
theorem getD_B {xs : List Int} (h : allB xs) (j : Nat) : 0 ≤ xs[j]?.getD 0 ∧ xs[j]?.getD 0 ≤ 255 := by
  by_cases hj : j < xs.length
  · rw [List.getElem?_eq_getElem hj]
    have := h xs[j] (List.getElem_mem hj)
    simp only [Option.getD_some]
    omega
  · rw [List.getElem?_eq_none (by omega)]; simp
theorem oAt_B {o : List Int} (h : allB o) (i : Nat) : 0 ≤ oAt o i ∧ oAt o i ≤ 255 := by
  unfold oAt
  split
  · exact getD_B h _
  · simp
theorem car_B {V o : List Int} (hV : allB V) (ho : allB o) : ∀ i, 0 ≤ car V o i ∧ car V o i ≤ 1
  | 0 => by simp [car]
  | i + 1 => by
    have h1 := car_B hV ho i
    have h2 := getD_B hV (54 - i)
    have h3 := oAt_B ho i
    rw [car]
    omega
def mixd (V o : List Int) (k : Nat) : List Int := V.take (55 - k) ++ (addI V o).drop (55 - k)
theorem mixd_zero (V o : List Int) (h : V.length = 55) : mixd V o 0 = V := by
  unfold mixd
  rw [List.take_of_length_le (by omega), List.drop_of_length_le (by rw [addI_len]; omega), List.append_nil]
theorem mixd_end (V o : List Int) : mixd V o 55 = addI V o := by simp [mixd]
theorem mixd_len (V o : List Int) (h : V.length = 55) (k : Nat) (hk : k ≤ 55) : (mixd V o k).length = 55 := by
  unfold mixd
  rw [List.length_append, List.length_take, List.length_drop, addI_len]; omega
theorem mixd_get (V o : List Int) (h : V.length = 55) (k : Nat) (hk : k < 55) : (mixd V o k)[54 - k]?.getD 0 = V[54 - k]?.getD 0 := by
  unfold mixd
  rw [List.getElem?_append_left (by rw [List.length_take]; omega), List.getElem?_take, if_pos (by omega)]
theorem mixd_step (V o : List Int) (h : V.length = 55) (k : Nat) (hk : k < 55) : mixd V o (k + 1) = (mixd V o k).set (54 - k) (addAt V o k) := by
  unfold mixd
  rw [List.set_append_left _ _ (by rw [List.length_take]; omega)]
  have e1 : V.take (55 - k) = V.take (55 - (k + 1)) ++ [V[54 - k]'(by omega)] := by
    rw [show 55 - k = (55 - (k + 1)) + 1 by omega, List.take_succ_eq_append_getElem (by omega)]
    congr 2
    congr 1
    omega
  rw [e1, List.set_append_right _ _ (by rw [List.length_take]; omega), List.length_take, show 54 - k - min (55 - (k + 1)) V.length = 0 by omega, List.set_cons_zero, List.append_assoc]
  congr 1
  rw [List.drop_eq_getElem_cons (show 55 - (k + 1) < (addI V o).length by rw [addI_len]; omega)]
  rw [show 55 - (k + 1) + 1 = 55 - k by omega]
  simp only [List.singleton_append, List.cons.injEq, and_true]
  simp only [addI, List.getElem_map, List.getElem_range]
  congr 1
  omega
/-- 55 bytes within a block -/
def NumAt (w : World) (B : Nat) (pre post : List Value) (V : List Int) : Prop := ∃ t, w.heap[B]? = some (.cells (pre ++ (V.map (Value.int .u8) ++ post)).toArray t (0, 0))
theorem NumAt.cell {w : World} {B : Nat} {pre post : List Value} {V : List Int} (h : NumAt w B pre post V) (i : Nat) : w.cell? ⟨B, i, none⟩ = (pre ++ (V.map (Value.int .u8) ++ post))[i]? := by
  obtain ⟨t, h⟩ := h
  rw [cell_of_row w B i _ t _ h]; simp
theorem NumAt.frozen {w : World} {B : Nat} {pre post : List Value} {V : List Int} (h : NumAt w B pre post V) (i : Nat) : w.frozen? ⟨B, i, none⟩ = false := by
  obtain ⟨t, h⟩ := h
  simp [World.frozen?, h]
theorem NumAt.mid {w : World} {B : Nat} {pre post : List Value} {V : List Int} (h : NumAt w B pre post V) (j : Nat) (hj : j < V.length) : w.cell? ⟨B, pre.length + j, none⟩ = some (.int .u8 (V[j]?.getD 0)) := by
  rw [h.cell, List.getElem?_append_right (by omega), List.getElem?_append_left (by simp; omega)]
  simp [List.getElem?_eq_getElem hj]
theorem NumAt.set {w : World} {B : Nat} {pre post : List Value} {V : List Int} (h : NumAt w B pre post V) (j : Nat) (hj : j < V.length) (x : Int) : NumAt (w.setCell ⟨B, pre.length + j, none⟩ (.int .u8 x)) B pre post (V.set j x) := by
  obtain ⟨t, h⟩ := h
  refine ⟨t, ?_⟩
  simp only [World.setCell, Array.getElem?_modify, if_pos, h, Option.map_some]
  congr 2
  simp only [List.setIfInBounds_toArray]
  rw [List.set_append_right _ _ (by omega), Nat.add_sub_cancel_left, List.set_append_left _ _ (by simp; omega), List.map_set]
  rfl
set_option maxRecDepth 20000 in
set_option maxHeartbeats 1000000 in
theorem nadd_any (V o : List Int) (B ob oo oc off : Nat) (pre post : List Value) (w : World) (hV : V.length = 55) (hVB : allB V) (hoB : allB o) (hol : o.length ≤ 1000) (hpre : pre.length = off) (hS : NumAt w B pre post V)
    (hoth : ∀ wr X, NumAt wr B pre post X → X.length = 55 → Ex B w wr → ∀ j, j < o.length → wr.cell? ⟨ob, oo + j, none⟩ = some (.int .u8 (o[j]?.getD 0))) :
    Calls Try.prog 90 #[.pointer (some ⟨B, off, none⟩), .slice (some ⟨ob, oo, none⟩) o.length oc] w fun e w' => e = .returned (.tuple #[]) ∧ NumAt w' B pre post (addI V o) ∧ Ex B w w' := by
  subst hpre
  have Hoth := hid hoth
  clear hoth
  go_enter Try.func90, Try.ntmps90
  go_wp2
  go_loopw [4, 7] (fun c i wr => ∃ k : Nat, k ≤ 55 ∧ i = .int .i64 k ∧ c = .int .i64 (car V o k) ∧ NumAt wr B pre post (mixd V o k) ∧ Ex B w wr) (fun _ i _ => 55 - (intOf i).toNat)
  case atStart => exact ⟨0, by omega, rfl, rfl, by rw [mixd_zero V o hV]; exact hS, Ex.refl _ _⟩
  case round =>
    clear hS
    obtain ⟨k, hk, rfl, rfl, hS, hE⟩ := hrel
    by_cases hlt : k < 55
    · have hml := mixd_len V o hV k hk
      have c1 := hS.mid (54 - k) (by omega)
      rw [mixd_get V o hV k hlt] at c1
      have f1 := hS.frozen (pre.length + (54 - k))
      have hst := hid (mixd_step V o hV k hlt)
      have hset := hid (hS.set (54 - k) (by omega) (addAt V o k))
      have hrd := hid (Hoth.out wr _ hS hml hE)
      have hcs := hid (show car V o (k + 1) = (V[54 - k]?.getD 0 + car V o k + oAt o k) / 256 from rfl)
      have hat := hid (show addAt V o k = (V[54 - k]?.getD 0 + car V o k + oAt o k) % 256 from rfl)
      have b1 := car_B hVB hoB k
      have b2 := getD_B hVB (54 - k)
      have b3 := oAt_B hoB k
      have b11 := b1.1
      have b12 := b1.2
      have b21 := b2.1
      have b22 := b2.2
      have b31 := b3.1
      have b32 := b3.2
      clear b1 b2 b3
      have q1 : (54 - (k : Int)).toNat = 54 - k := by omega
      have q2 : (0 : Int) ≤ 54 - (k : Int) := by omega
      have hE2 := hid hE
      have HS := hid hS
      clear hS hE
      by_cases hko : k < o.length
      · have hoe := hid (show oAt o k = o[o.length - 1 - k]?.getD 0 from by unfold oAt; rw [if_pos hko])
        have c2 := hrd.out (o.length - 1 - k) (by omega)
        rw [← hoe.out] at c2
        have hko' : (k : Int) < o.length := by omega
        have q3 : ((o.length : Int) - 1 - k).toNat = o.length - 1 - k := by omega
        have q4 : (0 : Int) ≤ (o.length : Int) - 1 - k := by omega
        have q5 : (1 : Int) ≤ (o.length : Int) := by omega
        generalize V[54 - k]?.getD 0 = x at *
        generalize car V o k = c at *
        generalize oAt o k = y at *
        go_wp2
        rw [← hat.out]
        exact ⟨⟨k + 1, by omega, by go_num, by rw [hcs.out], by rw [hst.out]; exact hset.out, hE2.out.setCell _ _⟩, by simp [intOf]; omega⟩
      · have hoe := hid (show oAt o k = 0 from by unfold oAt; rw [if_neg hko])
        have hcs2 : Hd (car V o (k + 1) = (V[54 - k]?.getD 0 + car V o k) / 256) := hid (by rw [hcs.out, hoe.out, Int.add_zero])
        have hat2 : Hd (addAt V o k = (V[54 - k]?.getD 0 + car V o k) % 256) := hid (by rw [hat.out, hoe.out, Int.add_zero])
        have hko' : ¬ (k : Int) < o.length := by omega
        clear hcs hat hoe b31 b32
        generalize V[54 - k]?.getD 0 = x at *
        generalize car V o k = c at *
        go_wp2
        rw [← hat2.out]
        exact ⟨⟨k + 1, by omega, by go_num, by rw [hcs2.out], by rw [hst.out]; exact hset.out, hE2.out.setCell _ _⟩, by simp [intOf]; omega⟩
    · obtain rfl : k = 55 := by omega
      rw [mixd_end] at hS
      go_wp2
      go_end0
      exact ⟨rfl, hS, hE⟩
end Go.Proofs.Ytbifmhbkmnofiaa
