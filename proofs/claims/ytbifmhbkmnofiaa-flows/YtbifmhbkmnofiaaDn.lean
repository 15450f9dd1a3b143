import Derived.Test.YtbifmhbkmnofiaaDm
namespace Go.Proofs.Ytbifmhbkmnofiaa
open Go.RowKit
set_option linter.unusedVariables false
set_option linter.unusedSimpArgs false
theorem Try.infoB : (Try.prog.info? 5).map (fun i => (i.zero, i.size, i.bytes)) = some (some (.int .u8 0), 1, 1) := by kernel_rfl
def dg (c : Int) : Int := if 97 ≤ c then c - 97 + 10 else c - 48
def hexTo (l : List Int) : Nat → List Int
  | 0 => []
  | k + 1 => if k % 2 = 1 then hexTo l k ++ [(16 * dg (l[k - 1]?.getD 0) + dg (l[k]?.getD 0)) % 256] else hexTo l k
def nOf (l : List Int) (k : Nat) : Int := if k % 2 = 1 then dg (l[k - 1]?.getD 0) else 0
theorem hexTo_len (l : List Int) (k : Nat) : (hexTo l k).length ≤ k := by
  induction k with
  | zero => simp [hexTo]
  | succ k ih =>
    unfold hexTo
    split
    · rw [List.length_append, List.length_singleton]; omega
    · omega
theorem bts_get (s : ByteArray) (k : Nat) (h : k < s.size) : (bts s)[k]?.getD 0 = ((s[k]).toNat : Int) := by
  have h1 : k < s.data.toList.length := by simpa using h
  simp only [bts, List.getElem?_map, List.getElem?_eq_getElem h1, Option.map_some, Option.getD_some]
  rfl
theorem nOf_even (l : List Int) (k : Nat) (h : ¬ k % 2 = 1) : nOf l k = 0 := by unfold nOf; rw [if_neg h]
theorem nOf_odd (l : List Int) (k : Nat) (h : k % 2 = 1) : nOf l k = dg (l[k - 1]?.getD 0) := by unfold nOf; rw [if_pos h]
theorem hexTo_even (l : List Int) (k : Nat) (h : ¬ k % 2 = 1) : hexTo l (k + 1) = hexTo l k := by unfold hexTo; rw [if_neg h]; cases k <;> rfl
theorem hexTo_odd (l : List Int) (k : Nat) (h : k % 2 = 1) : hexTo l (k + 1) = hexTo l k ++ [(16 * nOf l k + dg (l[k]?.getD 0)) % 256] := by rw [hexTo, if_pos h, nOf_odd l k h]
theorem dg_hi (c : Int) (h : 97 ≤ c) : dg c = c - 97 + 10 := by unfold dg; rw [if_pos h]
theorem dg_lo (c : Int) (h : c < 97) : dg c = c - 48 := by unfold dg; rw [if_neg (by omega)]
theorem dg_bd (c : Int) (h0 : 0 ≤ c) (h1 : c < 256) : -48 ≤ dg c ∧ dg c ≤ 168 := by unfold dg; split <;> omega
theorem allB_get (xs : List Int) (h : allB xs) (j : Nat) : 0 ≤ xs[j]?.getD 0 ∧ xs[j]?.getD 0 < 256 := by
  by_cases hj : j < xs.length
  · rw [List.getElem?_eq_getElem hj]; exact h _ (List.getElem_mem hj)
  · rw [List.getElem?_eq_none (by omega)]; decide
theorem nOf_bd (s : ByteArray) (k : Nat) : -48 ≤ nOf (bts s) k ∧ nOf (bts s) k ≤ 168 := by
  unfold nOf
  split
  · have := allB_get _ (bts_B s) (k - 1); exact dg_bd _ this.1 this.2
  · omega
theorem own_step {w wr w1 : World} {N : Nat} {hx : List Int} {b v' : Value} {x : Int} {o : Obj} (hown : wr.ownsRow N 5 1 b hx.length (hx.map (Value.int .u8))) (hB : Below N w wr) (hN : N ≤ wr.heap.size)
    (hown' : w1.ownsRow N 5 1 v' (hx.length + 1) (hx.map (Value.int .u8) ++ [Value.int .u8 x])) (hg : (wr.alloc o).grownBy w1 b.ownBlock) :
    w1.ownsRow N 5 1 v' (hx ++ [x]).length ((hx ++ [x]).map (Value.int .u8)) ∧ Below N w w1 := by
  refine ⟨by simpa using hown', (hB.alloc hN o).grown hg (by simp; omega) (fun k hk => (hown.lt k hk).1)⟩
theorem own_byt {w : World} {N : Nat} {v : Value} {xs : List Int} (h : w.ownsRow N 5 1 v xs.length (xs.map (Value.int .u8))) : Byt w v xs := by
  rcases h.2 with ⟨rfl, h0⟩ | ⟨g, cap, cur, rfl, _, hgg, _, _, _, htake⟩
  · exact Or.inl ⟨List.eq_nil_of_length_eq_zero h0, none, 0, rfl⟩
  · refine Or.inr ⟨g, 0, cap, rfl, fun j hj => ?_⟩
    have := h.cells (g := g) rfl j (.int .u8 (xs[j]?.getD 0)) (by simp [List.getElem?_eq_getElem hj])
    rw [Addr.add_mid] at this
    exact this
set_option maxRecDepth 20000 in
set_option maxHeartbeats 1000000 in
theorem hex_any (s : ByteArray) (w : World) (hs : s.size ≤ 1000) :
    Calls Try.prog 13 #[.string s] w fun e w' => e = .returned (.string (toS (hexTo (bts s) s.size))) ∧ Below w.heap.size w w' := by
  obtain ⟨i0, hi, hz0, hz1, hz2⟩ := info_parts Try.infoB
  go_enter Try.func13, Try.ntmps13
  go_wp2
  go_loopw [3, 4, 5] (fun b n i wr => ∃ k : Nat, k ≤ s.size ∧ i = .int .i64 k ∧ n = .int .i64 (nOf (bts s) k) ∧ wr.ownsRow w.heap.size 5 1 b (hexTo (bts s) k).length ((hexTo (bts s) k).map (Value.int .u8)) ∧ Below w.heap.size w wr) (fun _ _ i _ => s.size - (intOf i).toNat)
  case atStart => exact ⟨0, by omega, rfl, rfl, World.ownsRow_nil _ _ _ _, Below.refl _ _⟩
  case round =>
    obtain ⟨k, hk, rfl, rfl, hown, hB⟩ := hrel
    by_cases hlt : k < s.size
    · have hg := hid (bts_get s k hlt)
      have hu := (s[k]).toNat_lt
      have hu0 : (0 : Int) ≤ ((s[k]).toNat : Int) := by omega
      have hu1 : ((s[k]).toNat : Int) < 256 := by omega
      have hnb := nOf_bd s k
      obtain ⟨hnb0, hnb1⟩ := hnb
      by_cases hp : k % 2 = 1
      · have hp1 : (((k : Int) % 2) == 1) = true := beq_iff_eq.2 (by omega)
        have HX := hid (hexTo_odd (bts s) k hp)
        have HE := hid (nOf_even (bts s) (k + 1) (by omega))
        have hhl := hexTo_len (bts s) k
        generalize nOf (bts s) k = nv at *
        generalize hexTo (bts s) k = hx at *
        by_cases hc : 97 ≤ ((s[k]).toNat : Int)
        · have HD := hid (dg_hi _ hc)
          go_wp2_with (at_builtin; refine wpList_append_own _ rfl _ _ 35 rfl w.heap.size 5 i0 (.int .u8 0) 1 1 Try.underlying35 hi hz0 hz1 hz2 rfl (by decide) _ _ _ rfl (hown.alloc _) ⟨wr.heap.size, 0, none⟩ 1 1 [_] rfl rfl (cell_one_new _ _ _) (fun u hu => by simp at hu; subst hu; rfl) (by unfold maxLen; omega) (by omega) (by have := hB.size; simp; omega) ?_)
          intro v' w1 hown' hgrow _
          have R := own_step hown hB hB.size hown' hgrow
          clear hown' hgrow hown
          go_wp2
          refine ⟨⟨k + 1, by omega, by go_num, by rw [HE.out], ?_, R.2⟩, by simp [intOf]; omega⟩
          rw [HX.out, hg.out, HD.out]
          exact R.1
        · replace hc : ((s[k]).toNat : Int) < 97 := by omega
          have HD := hid (dg_lo _ hc)
          go_wp2_with (at_builtin; refine wpList_append_own _ rfl _ _ 35 rfl w.heap.size 5 i0 (.int .u8 0) 1 1 Try.underlying35 hi hz0 hz1 hz2 rfl (by decide) _ _ _ rfl (hown.alloc _) ⟨wr.heap.size, 0, none⟩ 1 1 [_] rfl rfl (cell_one_new _ _ _) (fun u hu => by simp at hu; subst hu; rfl) (by unfold maxLen; omega) (by omega) (by have := hB.size; simp; omega) ?_)
          intro v' w1 hown' hgrow _
          have R := own_step hown hB hB.size hown' hgrow
          clear hown' hgrow hown
          go_wp2
          refine ⟨⟨k + 1, by omega, by go_num, by rw [HE.out], ?_, R.2⟩, by simp [intOf]; omega⟩
          rw [HX.out, hg.out, HD.out]
          exact R.1
      · have hp1 : (((k : Int) % 2) == 1) = false := beq_eq_false_iff_ne.2 (by omega)
        have HX := hid (hexTo_even (bts s) k hp)
        have HE := hid (nOf_odd (bts s) (k + 1) (by omega))
        rw [nOf_even (bts s) k hp]
        clear hnb0 hnb1
        generalize hexTo (bts s) k = hx at *
        by_cases hc : 97 ≤ ((s[k]).toNat : Int)
        · have HD := hid (dg_hi _ hc)
          go_wp2
          refine ⟨⟨k + 1, by omega, by go_num, ?_, by rw [HX.out]; exact hown, hB⟩, by simp [intOf]; omega⟩
          rw [HE.out, Nat.add_sub_cancel, hg.out, HD.out]
        · replace hc : ((s[k]).toNat : Int) < 97 := by omega
          have HD := hid (dg_lo _ hc)
          go_wp2
          refine ⟨⟨k + 1, by omega, by go_num, ?_, by rw [HX.out]; exact hown, hB⟩, by simp [intOf]; omega⟩
          rw [HE.out, Nat.add_sub_cancel, hg.out, HD.out]
    · obtain rfl : k = s.size := by omega
      have Hbt := hid (own_byt hown)
      clear hown
      generalize hhs : hexTo (bts s) s.size = hx at *
      have Hhs := hid hhs
      clear hhs
      go_wp2_with (refine wpList_str rfl _ rfl _ hx rfl Hbt.out ?_)
      go_ret
      exact ⟨by rw [Hhs.out]; rfl, hB⟩
end Go.Proofs.Ytbifmhbkmnofiaa
