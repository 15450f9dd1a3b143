import Derived.Test.YtbifmhbkmnofiaaGreatMw
import Derived.Maps.AppendAt
namespace Go.Proofs.YtbifmhbkmnofiaaGreat
open Go.RowKit
set_option linter.unusedVariables false
set_option linter.unusedSimpArgs false
/-- all but the blocks of a set is as it was -/
structure Fr (S : Nat → Prop) (w w' : World) : Prop where
  os : w'.os = w.os
  tape : w'.tape = w.tape
  output : w'.output = w.output
  size : w.heap.size ≤ w'.heap.size
  block : ∀ k, k < w.heap.size → ¬ S k → w'.heap[k]? = w.heap[k]?
theorem Fr.refl (S : Nat → Prop) (w : World) : Fr S w w := ⟨rfl, rfl, rfl, Nat.le_refl _, fun _ _ _ => rfl⟩
theorem Fr.trans {S : Nat → Prop} {a b c : World} (h : Fr S a b) (k : Fr S b c) : Fr S a c :=
  ⟨k.os.trans h.os, k.tape.trans h.tape, k.output.trans h.output, Nat.le_trans h.size k.size, fun i hi hS => (k.block i (Nat.lt_of_lt_of_le hi h.size) hS).trans (h.block i hi hS)⟩
theorem Fr.mono {S T : Nat → Prop} {w w' : World} (h : Fr S w w') (hs : ∀ k, k < w.heap.size → S k → T k) : Fr T w w' :=
  ⟨h.os, h.tape, h.output, h.size, fun k hk hT => h.block k hk (fun hh => hT (hs k hk hh))⟩
theorem Fr.of_below {S : Nat → Prop} {w w' : World} (h : Below w.heap.size w w') : Fr S w w' := ⟨h.os, h.tape, h.output, h.size, fun k hk _ => h.block k hk⟩
theorem Fr.of_ex {B : Nat} {w w' : World} (h : Ex B w w') : Fr (fun k => k = B) w w' := ⟨h.os, h.tape, h.output, h.size, fun k hk hB => h.block k hk hB⟩
theorem Fr.of_grown {w w' : World} {row : Option Nat} (h : w.grownBy w' row) : Fr (fun k => some k = row) w w' := ⟨h.os, h.tape, h.output, h.size, fun k hk hB => h.block k hk hB⟩
theorem Fr.below {S : Nat → Prop} {w w' : World} {N : Nat} (h : Fr S w w') (hS : ∀ k, S k → N ≤ k) (hN : N ≤ w.heap.size) : Below N w w' := ⟨h.os, h.tape, h.output, h.size, fun k hk => h.block k (by omega) (fun hh => by have := hS k hh; omega)⟩
theorem Fr.drew {S : Nat → Prop} {a w : World} (h : Fr S a w) : Fr S a w.drew := ⟨h.1, h.2, h.3, h.4, h.5⟩
/-- the script's world: seven lists in block W -/
def WbAt (w : World) (W : Nat) (vs : List Value) : Prop := ∃ t, w.heap[W]? = some (.cells vs.toArray t (0, 0))
theorem WbAt.cell {w : World} {W : Nat} {vs : List Value} (h : WbAt w W vs) (j : Nat) : w.cell? ⟨W, j, none⟩ = vs[j]? := by
  obtain ⟨t, h⟩ := h
  rw [cell_of_row w W j _ t _ h]; simp
theorem WbAt.frozen {w : World} {W : Nat} {vs : List Value} (h : WbAt w W vs) (j : Nat) : w.frozen? ⟨W, j, none⟩ = false := by
  obtain ⟨t, h⟩ := h
  simp [World.frozen?, h]
theorem WbAt.set {w : World} {W : Nat} {vs : List Value} (h : WbAt w W vs) (j : Nat) (v : Value) : WbAt (w.setCell ⟨W, j, none⟩ v) W (vs.set j v) := by
  obtain ⟨t, h⟩ := h
  refine ⟨t, ?_⟩
  simp only [World.setCell, Array.getElem?_modify, if_pos, h, Option.map_some]
  simp
theorem WbAt.other {w w' : World} {W : Nat} {vs : List Value} (h : WbAt w W vs) (he : w'.heap[W]? = w.heap[W]?) : WbAt w' W vs := by
  obtain ⟨t, h⟩ := h
  exact ⟨t, he.trans h⟩
theorem WbAt.lt {w : World} {W : Nat} {vs : List Value} (h : WbAt w W vs) : W < w.heap.size := by
  obtain ⟨t, h⟩ := h
  exact (Array.getElem?_eq_some_iff.1 h).1
theorem Tryz.infoSl : (Tryz.prog.info? 41).map (fun i => (i.zero, i.size, i.bytes)) = some (some (.slice none 0 0), 1, 24) := by kernel_rfl
theorem owns_other {w w' : World} {N n size : Nat} {e : TypeId} {v : Value} {xs : List Value} (h : w.ownsRow N e size v n xs) (he : ∀ b, v.ownBlock = some b → w'.heap[b]? = w.heap[b]?) : w'.ownsRow N e size v n xs := by
  refine ⟨h.1, ?_⟩
  rcases h.2 with hn | ⟨g, cap, cur, hv, hb, hg, rest⟩
  · exact .inl hn
  · exact .inr ⟨g, cap, cur, hv, hb, by rw [he g (by rw [hv]; rfl)]; exact hg, rest⟩
/-- bytes of which the first k are written over -/
def overI (xs : List Int) (k : Nat) : List Int := List.replicate k 251 ++ xs.drop k
theorem overI_len (xs : List Int) (k : Nat) (h : k ≤ xs.length) : (overI xs k).length = xs.length := by simp [overI]; omega
theorem overI_step (xs : List Int) (k : Nat) (h : k < xs.length) : overI xs (k + 1) = (overI xs k).set k 251 := by
  unfold overI
  rw [List.set_append_right _ _ (by simp), List.length_replicate, Nat.sub_self, List.drop_eq_getElem_cons h, List.set_cons_zero, List.replicate_succ', List.append_assoc]; rfl
theorem overI_get (xs : List Int) (k : Nat) (h : k < xs.length) : (overI xs k)[k]?.getD 0 = xs[k]?.getD 0 := by
  unfold overI
  rw [List.getElem?_append_right (by simp)]; simp
theorem lent_get (s : ByteArray) (k : Nat) (h : k < s.size) : (bts s ++ marks8 8)[k]?.getD 0 = ((s[k]).toNat : Int) := by
  rw [List.getElem?_append_left (by rw [bts_len]; exact h), bts_get s k h]
theorem lent_get2 (s : ByteArray) (k : Nat) (h : ¬ k < s.size) (h2 : k < s.size + 8) : (bts s ++ marks8 8)[k]?.getD 0 = 252 := by
  rw [List.getElem?_append_right (by rw [bts_len]; omega), bts_len]
  unfold marks8
  rw [List.getElem?_replicate, if_pos (by omega)]; rfl
set_option maxRecDepth 20000 in
set_option maxHeartbeats 1000000 in
theorem whole_any (s : ByteArray) (g cap W N : Nat) (vs : List Value) (vt : Value) (T : List Value) (w : World) (hs : s.size ≤ 140737488351232) (hW : WbAt w W vs) (hvs : vs.length = 7) (hvt : vs[6]? = some vt) (hT : w.ownsRow N 41 1 vt T.length T)
    (hwr : Wr w g (bts s ++ marks8 8) cap) (hcap : cap ≤ 9223372036854775807) (hgW : g ≠ W) (hgT : vt.ownBlock ≠ some g) (hWT : vt.ownBlock ≠ some W) (hN : N ≤ w.heap.size) (hTl : (T.length + 1) * 24 ≤ 140737488355328) :
    Calls Tryz.prog 28 #[.pointer (some ⟨W, 0, none⟩), .slice (some ⟨g, 0, none⟩) (s.size + 8) cap, .string s] w fun e w' => e = .returned (.bool true) ∧ ∃ vt', WbAt w' W (vs.set 6 vt') ∧ w'.ownsRow N 41 1 vt' (T.length + 1) (T ++ [.slice (some ⟨g, 0, none⟩) (s.size + 8) cap]) ∧
      Wr w' g (List.replicate (s.size + 8) 251) cap ∧ (vt'.ownBlock = vt.ownBlock ∨ ∃ b, w.heap.size ≤ b ∧ vt'.ownBlock = some b) ∧ Fr (fun k => k = g ∨ k = W ∨ some k = vt.ownBlock) w w' := by
  obtain ⟨i0, hi, hz0, hz1, hz2⟩ := info_parts Tryz.infoSl
  have hxl : (bts s ++ marks8 8).length = s.size + 8 := by simp [marks8, bts_len]
  have HW := hid hW
  have HT := hid hT
  have hWl := hW.lt
  clear hW hT
  go_enter Tryz.func28, Tryz.ntmps28
  go_wp2
  go_loopw [7, 8] (fun ok i wr => ∃ k : Nat, k ≤ s.size + 8 ∧ i = .int .i64 k ∧ ok = .bool true ∧ Wr wr g (overI (bts s ++ marks8 8) k) cap ∧ Ex g w wr) (fun _ i _ => s.size + 8 - (intOf i).toNat)
  case atStart => exact ⟨0, by omega, rfl, rfl, hwr, Ex.refl _ _⟩
  case round =>
    clear hwr
    obtain ⟨k, hk, rfl, rfl, hwr, hE⟩ := hrel
    by_cases hlt : k < s.size + 8
    · have c1 := hwr.cells k (by rw [overI_len _ _ (by omega)]; omega)
      rw [overI_get _ _ (by omega)] at c1
      have f1 := (hwr.room k (by have := hwr.le; rw [overI_len _ _ (by omega)] at this; omega)).2
      have hst := hid (overI_step (bts s ++ marks8 8) k (by omega))
      have hset := hid (hwr.set k (by rw [overI_len _ _ (by omega)]; omega) 251)
      have HE := hid (hE.setCell k (.int .u8 251))
      have hlt' : (k : Int) < s.size + 8 := by omega
      by_cases hks : k < s.size
      · rw [lent_get s k hks] at c1
        have hks' : (k : Int) < s.size := by omega
        clear hwr hE
        go_wp2
        exact ⟨⟨k + 1, by omega, by go_num, rfl, by rw [hst.out]; exact hset.out, HE.out⟩, by simp [intOf]; omega⟩
      · rw [lent_get2 s k hks hlt] at c1
        have hks' : ¬ (k : Int) < s.size := by omega
        clear hwr hE
        go_wp2
        exact ⟨⟨k + 1, by omega, by go_num, rfl, by rw [hst.out]; exact hset.out, HE.out⟩, by simp [intOf]; omega⟩
    · obtain rfl : k = s.size + 8 := by omega
      have hov : overI (bts s ++ marks8 8) (s.size + 8) = List.replicate (s.size + 8) 251 := by unfold overI; rw [List.drop_of_length_le (by omega), List.append_nil]
      rw [hov] at hwr
      have hgl : g < wr.heap.size := by
        obtain ⟨u, hu⟩ := Option.isSome_iff_exists.1 (hwr.room 0 (by have := hwr.le; simp at this; omega)).1
        exact World.block_lt_of_cell? wr _ hu
      have hWr := HW.out.other (hE.block W hWl (Ne.symm hgW))
      have hTr := owns_other HT.out (fun b hb => hE.block b ((World.ownsRow.lt HT.out b hb).2) (fun hh => hgT (by rw [hb, hh])))
      have c6 := hWr.cell 6
      rw [hvt] at c6
      have hzE := hE.size
      have hB2 : Below wr.heap.size wr (wr.alloc (.cells #[Value.slice (some ⟨g, 0, none⟩) (s.size + 8) cap] 41)) := (Below.refl _ _).alloc (Nat.le_refl _) _
      have hW2 := hid (hWr.other (hB2.block W hWr.lt))
      have hT2 := hid (World.ownsRow.alloc hTr (.cells #[Value.slice (some ⟨g, 0, none⟩) (s.size + 8) cap] 41))
      have hg2 := hid (hwr.other (hB2.block g hgl))
      have hcn := hid (cell_one_new wr (.slice (some ⟨g, 0, none⟩) (s.size + 8) cap) 41)
      have hz2' := al_size wr (.cells #[Value.slice (some ⟨g, 0, none⟩) (s.size + 8) cap] 41)
      have HF2 : Hd (Fr (fun k => k = g ∨ k = W ∨ some k = vt.ownBlock) w (wr.alloc (.cells #[Value.slice (some ⟨g, 0, none⟩) (s.size + 8) cap] 41))) := hid (((Fr.of_ex hE).mono (fun k _ h => Or.inl h)).trans (Fr.of_below hB2))
      clear hwr hWr hTr hB2 hov
      go_wp2_with (at_builtin; refine wpList_append_own_at _ rfl _ _ 31 rfl N 41 i0 (.slice none 0 0) 1 24 Tryz.underlying31 hi hz0 hz1 hz2 rfl (by decide) _ _ _ rfl hT2.out ⟨wr.heap.size, 0, none⟩ 1 1 [.slice (some ⟨g, 0, none⟩) (s.size + 8) cap] rfl rfl hcn.out (fun u hu => by simp at hu; subst hu; rfl) (by unfold maxLen; omega) (by omega) (by omega) ?_)
      intro vt' w5 hown hgr hiff hat
      have hlW := hW2.out.lt
      have hW5 := hW2.out.other (hgr.block W hlW (fun h => hWT h.symm))
      have hg5 := hid (hg2.out.other (hgr.block g (by omega) (fun h => hgT h.symm)))
      have HF5 := hid (HF2.out.trans ((Fr.of_grown hgr).mono (fun k _ h => Or.inr (Or.inr h))))
      have f6 := hW5.frozen 6
      have c65 := hW5.cell 6
      rw [hvt] at c65
      have HW6 := hid (hW5.set 6 vt')
      have hatz : vt'.ownBlock = vt.ownBlock ∨ ∃ b, w.heap.size ≤ b ∧ vt'.ownBlock = some b := by
        rcases hat with h | h
        · exact Or.inl h
        · exact Or.inr ⟨_, by omega, h⟩
      have hWt' : vt'.ownBlock ≠ some W := by
        rcases hat with h | h
        · rw [h]; exact hWT
        · rw [h]; intro hh; simp only [Option.some.injEq] at hh; omega
      have HO6 := hid (owns_other hown (w' := w5.setCell ⟨W, 6, none⟩ vt') (fun b hb => Below.heap_setCell _ _ _ _ (by simp; intro hh; exact hWt' (by rw [hb, hh]))))
      have HG6 := hid (hg5.out.other (w' := w5.setCell ⟨W, 6, none⟩ vt') (Below.heap_setCell _ _ _ _ (by simp; exact hgW)))
      have HF6 := hid (HF5.out.trans ((Fr.of_ex ((Ex.refl W w5).setCell 6 vt')).mono (fun k _ h => Or.inr (Or.inl h))))
      have hform : ∃ a n c, vt' = .slice a n c := by
        rcases hown.2 with ⟨h, _⟩ | ⟨g', cap', cur, h, _⟩
        · exact ⟨_, _, _, h⟩
        · exact ⟨_, _, _, h⟩
      obtain ⟨a', n', c', hform⟩ := hform
      have Hat := hid hatz
      clear hown hgr hiff hat hW5 hg5 HF5 HF2 hW2 hT2 hg2 hcn hWt' hatz
      subst hform
      go_wp2
      go_ret
      exact ⟨rfl, _, HW6.out, HO6.out, HG6.out, Hat.out, HF6.out⟩
end Go.Proofs.YtbifmhbkmnofiaaGreat
