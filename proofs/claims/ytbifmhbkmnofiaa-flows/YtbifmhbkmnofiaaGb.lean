import Derived.Test.YtbifmhbkmnofiaaGa
import Derived.Test.YtbifmhbkmnofiaaDs
import Derived.Lib.AppendZerosOnto
import Derived.Lib.Walk
import Derived.Laws.AppendOwnNone
namespace Go.Proofs.Ytbifmhbkmnofiaa
open Go.RowKit
set_option linter.unusedVariables false
set_option linter.unusedSimpArgs false
/-- bytes that are handed on -/
def Src (w : World) (v : Value) (xs : List Int) : Prop :=
  (xs = [] ∧ v = .slice none 0 0) ∨ (∃ ad cap, v = .slice (some ad) xs.length cap ∧ ∀ j u, (xs.map (Value.int .u8))[j]? = some u → w.cell? (ad.add j) = some u)
theorem Src.mono {w w' : World} {v : Value} {xs : List Int} (h : Src w v xs) (hb : Below w.heap.size w w') : Src w' v xs := by
  rcases h with h | ⟨ad, cap, rfl, hc⟩
  · exact Or.inl h
  · refine Or.inr ⟨ad, cap, rfl, fun j u hu => ?_⟩
    have := hc j u hu
    rw [hb.cell (World.block_lt_of_cell? w _ this)]; exact this
theorem Src.nil (w : World) : Src w (.slice none 0 0) [] := Or.inl ⟨rfl, rfl⟩
/-- bytes of a row that the call owns -/
def OwnB (w : World) (N : Nat) (v : Value) (xs : List Int) : Prop := w.ownsRow N 5 1 v xs.length (xs.map (Value.int .u8))
set_option maxHeartbeats 1000000 in
set_option maxRecDepth 20000 in
theorem grow_any (n : Nat) (w : World) (hn : n ≤ 1000000) :
    Calls Try.prog 86 #[.slice none 0 0, .int .i64 n] w fun e w' => ∃ v, e = .returned v ∧ OwnB w' w.heap.size v [] ∧ Below w.heap.size w w' := by
  obtain ⟨i0, hi, hz0, hz1, hz2⟩ := info_parts Try.infoB
  by_cases h0 : n = 0
  · subst h0
    go_enter Try.func86, Try.ntmps86
    go_wp2
    go_ret
    exact ⟨_, rfl, World.ownsRow_nil _ _ _ _, Below.refl _ _⟩
  · have hp : 0 < n := by omega
    have hp' : (0 : Int) < n := by omega
    have hrz : ∀ ty, (Builtin.append_ #[35, 3] ty #[.slice none 0 0, .int .i64 (n : Int)]).run Try.prog w =
      .ok (.slice (some ⟨w.heap.size, 0, none⟩) (0 + n) (grownCap w (0 + n) 0 5)) (w.drew.alloc (.cells ((#[] : Array Value) ++ Builtin.zeroCells (Value.int .u8 0).cells n ++ Builtin.zeroCells (Value.int .u8 0).cells (grownCap w (0 + n) 0 5 - (0 + n))) 5)) := fun ty => by
      have hold : (Builtin.firstCells i0.size 0 (.slice none 0 0)).run Try.prog w.drew = .ok ([] : List Value).toArray w.drew := run_firstCells_none w.drew i0.size 0 0 0
      exact Lib.run_append_grow_zeros w 35 3 ty 5 i0 (.int .u8 0) .i64 .i64 Try.underlying35 Try.underlying3 hi hz0 none 0 0 [] hold n hp (by omega) (by omega) (by omega) (by rw [hz2]; omega)
        (growslice_fits (by omega) (by rw [hz2]; omega))
    have hGn : 0 + n ≤ grownCap w (0 + n) 0 5 := grownCap_ge w _ _ _
    have hG63 : grownCap w (0 + n) 0 5 ≤ maxLen := grownCap_le_maxLen w (0 + n) 0 5 (by unfold maxLen; omega)
    rw [Nat.zero_add] at hrz hGn hG63
    generalize grownCap w n 0 5 = G at *
    have hG64 : G ≤ 9223372036854775807 := by unfold maxLen at hG63; omega
    go_enter Try.func86, Try.ntmps86
    go_wp2_with (at_builtin; refine Lib.wpList_append_run _ rfl _ _ _ _ rfl _ _ rfl rfl _ _ (hrz _) ?_)
    all_goals (go_ret; refine ⟨_, rfl, ⟨by simp, .inr ⟨w.heap.size, G, _, rfl, Nat.le_refl _, al_new _ _, by simp, hG63, ?_, by simp⟩⟩, ((Below.refl _ _).drew).alloc (Nat.le_refl _) _⟩)
    all_goals simp [Builtin.zeroCells]
    all_goals omega
theorem OwnB.src {w : World} {N : Nat} {v : Value} {xs : List Int} (h : OwnB w N v xs) : Src w v xs := by
  rcases h.2 with ⟨rfl, h0⟩ | ⟨g, cap, cur, rfl, hN, hgg, _, _, _, htake⟩
  · exact Or.inl ⟨List.eq_nil_of_length_eq_zero h0, rfl⟩
  · refine Or.inr ⟨_, cap, rfl, fun j u hu => ?_⟩
    exact World.ownsRow.cells h (g := g) rfl j u hu
theorem Src.byt {w : World} {v : Value} {xs : List Int} (h : Src w v xs) : Byt w v xs := by
  rcases h with ⟨rfl, rfl⟩ | ⟨ad, cap, rfl, hc⟩
  · exact Or.inl ⟨rfl, none, 0, rfl⟩
  · by_cases h0 : xs = []
    · subst h0; exact Or.inl ⟨rfl, _, _, rfl⟩
    · have hp : 0 < xs.length := List.length_pos_iff.2 h0
      obtain ⟨b, o, sp⟩ := ad
      cases sp with
      | some s =>
        exfalso
        have := hc 0 (.int .u8 xs[0]) (by simp [List.getElem?_eq_getElem hp])
        revert this
        unfold World.cell? Addr.add
        split <;> simp
      | none =>
        refine Or.inr ⟨b, o, cap, rfl, fun j hj => ?_⟩
        have := hc j (.int .u8 xs[j]) (by simp [List.getElem?_eq_getElem hj])
        rw [Addr.add_mid] at this
        rw [this, List.getElem?_eq_getElem hj]; rfl
theorem Byt.src {w : World} {a : Addr} {n cap : Nat} {xs : List Int} (h : Byt w (.slice (some a) n cap) xs) : Src w (.slice (some a) n cap) xs := by
  rcases h with ⟨rfl, a', cap', h⟩ | ⟨db, off, cap', h, hc⟩
  · simp only [Value.slice.injEq] at h
    obtain ⟨_, rfl, _⟩ := h
    exact Or.inr ⟨a, cap, rfl, fun j u hu => by simp at hu⟩
  · simp only [Value.slice.injEq, Option.some.injEq] at h
    obtain ⟨rfl, rfl, rfl⟩ := h
    refine Or.inr ⟨_, cap, rfl, fun j u hu => ?_⟩
    have hj : j < xs.length := by simpa using (List.getElem?_eq_some_iff.1 hu).1
    rw [Addr.add_mid, hc j hj, ← hu]
    simp [List.getElem?_eq_getElem hj]
def sizes (ps : List (Value × List Int)) (k : Nat) : List Int := ((ps.take k).map (·.2)).flatten
theorem sizes_succ (ps : List (Value × List Int)) (k : Nat) (h : k < ps.length) : sizes ps (k + 1) = sizes ps k ++ (ps[k]).2 := by
  unfold sizes
  rw [List.take_succ_eq_append_getElem h, List.map_append, List.flatten_append]
  simp only [List.map_cons, List.map_nil, List.flatten_cons, List.flatten_nil, List.append_nil]
theorem sizes_le (ps : List (Value × List Int)) (k : Nat) : (sizes ps k).length ≤ (sizes ps ps.length).length := by
  unfold sizes
  rw [List.take_length]
  conv => rhs; rw [← List.take_append_drop k ps]
  rw [List.map_append, List.flatten_append, List.length_append]; omega
set_option maxHeartbeats 1000000 in
set_option maxRecDepth 20000 in
theorem concat_any (v : Value) (ps : List (Value × List Int)) (w : World) (hv : SlV w v (ps.map (·.1))) (hs : ∀ p ∈ ps, Src w p.1 p.2) (hl : ps.length ≤ 1000) (hn : (sizes ps ps.length).length ≤ 1000000) :
    Calls Try.prog 85 #[v] w fun e w' => ∃ r, e = .returned r ∧ OwnB w' w.heap.size r (sizes ps ps.length) ∧ Below w.heap.size w w' := by
  obtain ⟨i0, hi, hz0, hz1, hz2⟩ := info_parts Try.infoB
  obtain ⟨a, cap, rfl, hcell⟩ := hv
  rw [List.length_map] at hcell
  rw [List.length_map]
  have Hs := hid hs
  have Hcell := hid hcell
  clear hs hcell
  go_enter Try.func85, Try.ntmps85
  go_wp2
  go_loop [3, 11] (fun sz i => ∃ k : Nat, k ≤ ps.length ∧ i = .int .i64 k ∧ sz = .int .i64 ((sizes ps k).length : Nat)) (fun _ i => ps.length - (intOf i).toNat)
  case atStart => exact ⟨0, by omega, rfl, rfl⟩
  case round =>
    obtain ⟨k, hk, rfl, rfl⟩ := hrel
    have hle := sizes_le ps k
    by_cases hlt : k < ps.length
    · obtain ⟨db, off, rfl, hc⟩ := Hcell.out (by omega)
      have c1 := hc k (ps[k]).1 (by simp [List.getElem?_eq_getElem hlt])
      have hsr := Hs.out ps[k] (List.getElem_mem hlt)
      have hsu := hid (sizes_succ ps k hlt)
      have hle2 := sizes_le ps (k + 1)
      have hlt' : (k : Int) < ps.length := by omega
      obtain ⟨ao, n, cc, hval, hnl⟩ : ∃ ao n cc, ps[k].1 = .slice ao n cc ∧ n = ps[k].2.length := by
        rcases hsr with ⟨h1, h2⟩ | ⟨ad, cp, h2, _⟩
        · exact ⟨_, _, _, h2, by rw [h1]; rfl⟩
        · exact ⟨_, _, _, h2, rfl⟩
      rw [hval] at c1
      have hsum : Hd ((sizes ps (k + 1)).length = (sizes ps k).length + n) := hid (by rw [hsu.out, List.length_append, hnl])
      have hn2 : (sizes ps k).length + n ≤ 1000000 := by have := hsum.out; omega
      clear hval hsr hc hnl hle2 hle
      generalize (sizes ps k).length = m at *
      have hnn : ¬ ((m : Int) + n < 0) := by omega
      go_wp2
      go_round
      case rel => exact ⟨k + 1, by omega, by go_num, by rw [hsum.out]; go_num⟩
      case measure => simp [intOf]; omega
    · obtain rfl : k = ps.length := by omega
      generalize hm : (sizes ps ps.length).length = m at *
      go_wp2_with fail
      refine (grow_any m _ (by omega)).mono ?_
      rintro e w2 ⟨r, rfl, hown, hB2⟩
      subst hm
      go_wp2
      go_loopw [6, 27] (fun r i wr => ∃ k : Nat, k ≤ ps.length ∧ i = .int .i64 k ∧ OwnB wr w.heap.size r (sizes ps k) ∧ Below w.heap.size w wr) (fun _ i _ => ps.length - (intOf i).toNat)
      case atStart => exact ⟨0, by omega, rfl, hown, hB2⟩
      case round =>
        clear hown hB2
        obtain ⟨k, hk, rfl, hown, hB⟩ := hrel
        have hle := sizes_le ps k
        by_cases hlt : k < ps.length
        · obtain ⟨db, off, rfl, hc⟩ := Hcell.out (by omega)
          have c0 := hc k (ps[k]).1 (by simp [List.getElem?_eq_getElem hlt])
          have c1 : wr.cell? ⟨db, off + k, none⟩ = some (ps[k]).1 := by rw [hB.cell (World.block_lt_of_cell? w _ c0)]; exact c0
          have hsr := (Hs.out ps[k] (List.getElem_mem hlt)).mono hB
          have hsu := hid (sizes_succ ps k hlt)
          have hle2 := sizes_le ps (k + 1)
          have hlt' : (k : Int) < ps.length := by omega
          have hsum : (sizes ps (k + 1)).length = (sizes ps k).length + ps[k].2.length := by rw [hsu.out, List.length_append]
          have Hown := hid hown
          clear hown hc c0
          rcases hsr with ⟨h1, h2⟩ | ⟨ad, cp, h2, hnews⟩
          · rw [h2] at c1
            have hsu2 : Hd (sizes ps (k + 1) = sizes ps k) := hid (by rw [hsu.out, h1, List.append_nil])
            clear hsu h1 h2 hsum hle2
            go_wp2_with (at_builtin; refine wpList_append_own_none rfl _ _ 35 rfl w.heap.size 5 i0 1 Try.underlying35 hi _ _ _ rfl Hown.out rfl ?_)
            go_wp2
            exact ⟨⟨k + 1, by omega, by go_num, by rw [hsu2.out]; exact Hown.out, hB⟩, by simp [intOf]; omega⟩
          · rw [h2] at c1
            clear h2
            have Hnews := hid hnews
            clear hnews
            generalize ps[k].2 = xs at *
            go_wp2_with (at_builtin; refine wpList_append_own _ rfl _ _ 35 rfl w.heap.size 5 i0 (.int .u8 0) 1 1 Try.underlying35 hi hz0 hz1 hz2 rfl (by decide) _ _ _ rfl Hown.out _ _ _ (xs.map (Value.int .u8)) rfl (by simp) Hnews.out (one_ints _ _) (by unfold maxLen; omega) (by omega) hB.size ?_)
            intro v' w1 hown' hgrow _
            have hown2 : OwnB w1 w.heap.size v' (sizes ps (k + 1)) := by
              unfold OwnB
              rw [hsu.out, List.length_append, List.map_append]
              exact hown'
            have hB2 : Below w.heap.size w w1 := hB.grown hgrow hB.size (fun j hj => (World.ownsRow.lt Hown.out j hj).1)
            clear hown' hgrow
            go_wp2
            exact ⟨⟨k + 1, by omega, by go_num, hown2, hB2⟩, by simp [intOf]; omega⟩
        · obtain rfl : k = ps.length := by omega
          go_wp2
          go_ret
          exact ⟨_, rfl, hown, hB⟩
end Go.Proofs.Ytbifmhbkmnofiaa
